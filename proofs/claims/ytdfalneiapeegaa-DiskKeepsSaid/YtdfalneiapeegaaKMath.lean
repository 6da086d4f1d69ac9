/- What a disk is, as lists: what is kept, what waits; what a crash leaves. No program is named. -/
import Derived.Test.YtdfalneiapeegaaBase
namespace Go.Proofs.Ytdfalneiapeegaa
open Go Go.RowKit

/-- What is kept, what waits, the fuse (-1: none), whether the power is off, lives that have ended. -/
structure DK where
  K : List (List Int)
  W : List (Nat × List Int)
  fu : Int
  off : Bool
  li : Int
def Sz (K : List (List Int)) : Prop := ∀ s ∈ K, s.length = 64
/-- What is read: the writes on what is kept. -/
def pres (K : List (List Int)) (W : List (Nat × List Int)) : List (List Int) := W.foldl (fun q x => q.set x.1 x.2) K
theorem pres_app (K : List (List Int)) (W : List (Nat × List Int)) (x : Nat × List Int) : pres K (W ++ [x]) = (pres K W).set x.1 x.2 := by simp [pres]
theorem pres_nil (K : List (List Int)) : pres K [] = K := rfl
theorem take_at {α : Type} {l : List α} {k : Nat} {x : α} (h : l[k]? = some x) : l.take (k + 1) = l.take k ++ [x] := by
  obtain ⟨hl, e⟩ := List.getElem?_eq_some_iff.1 h
  rw [List.take_succ_eq_append_getElem hl, e]
theorem pres_take {K : List (List Int)} {W : List (Nat × List Int)} {k : Nat} {x : Nat × List Int} (h : W[k]? = some x) : pres K (W.take (k + 1)) = (pres K (W.take k)).set x.1 x.2 := by rw [take_at h, pres_app]
theorem pres_length (W : List (Nat × List Int)) : ∀ K : List (List Int), (pres K W).length = K.length := by
  induction W with
  | nil => intro K; rfl
  | cons x W ih =>
    intro K
    show (pres (K.set x.1 x.2) W).length = _
    rw [ih]; simp
theorem Sz.set {K : List (List Int)} (h : Sz K) {s : List Int} (hs : s.length = 64) (j : Nat) : Sz (K.set j s) := fun t ht => by
  rcases List.mem_or_eq_of_mem_set ht with h1 | h1
  · exact h t h1
  · rw [h1]; exact hs
theorem Sz.get {K : List (List Int)} (h : Sz K) {j : Nat} {s : List Int} (hj : K[j]? = some s) : s.length = 64 := h s (List.mem_of_getElem? hj)
/-- Writes that fit a disk of n sectors. -/
def Wok (n : Nat) (W : List (Nat × List Int)) : Prop := ∀ x ∈ W, x.1 < n ∧ x.2.length = 64
theorem Wok.get {n : Nat} {W : List (Nat × List Int)} (h : Wok n W) {k : Nat} {x : Nat × List Int} (hk : W[k]? = some x) : x.1 < n ∧ x.2.length = 64 := h x (List.mem_of_getElem? hk)
theorem Wok.nil (n : Nat) : Wok n [] := fun x hx => by simp at hx
theorem Wok.app {n : Nat} {W : List (Nat × List Int)} (h : Wok n W) {x : Nat × List Int} (hx : x.1 < n ∧ x.2.length = 64) : Wok n (W ++ [x]) := fun y hy => by
  rcases List.mem_append.1 hy with h1 | h1
  · exact h y h1
  · simp at h1; rw [h1]; exact hx
theorem Wok.take {n : Nat} {W : List (Nat × List Int)} (h : Wok n W) (k : Nat) : Wok n (W.take k) := fun x hx => h x (List.mem_of_mem_take hx)
theorem pres_sz {W : List (Nat × List Int)} {n : Nat} (hW : Wok n W) : ∀ {K : List (List Int)}, Sz K → Sz (pres K W) := by
  induction W with
  | nil => intro K h; exact h
  | cons x W ih =>
    intro K h
    exact ih (fun y hy => hW y (by simp [hy])) (h.set (hW x (by simp)).2 x.1)
/-- How many bytes of the write i a crash keeps. -/
def ch (c : List Int) (i : Nat) : Nat := if i < c.length then min (c.getD i 0).toNat 64 else 0
theorem ch_le (c : List Int) (i : Nat) : ch c i ≤ 64 := by unfold ch; split <;> omega
def tearS (d was : List Int) (m : Nat) : List Int := d.take m ++ was.drop m
theorem tearS_zero (d was : List Int) : tearS d was 0 = was := by simp [tearS]
theorem tearS_length {d was : List Int} (hd : d.length = 64) (hw : was.length = 64) {m : Nat} (hm : m ≤ 64) : (tearS d was m).length = 64 := by simp [tearS]; omega
theorem tearS_get (d was : List Int) (m i : Nat) (hd : d.length = 64) (hm : m ≤ 64) : (tearS d was m)[i]? = if i < m then d[i]? else was[i]? := by
  unfold tearS
  by_cases h : i < m
  · rw [if_pos h, List.getElem?_append_left (by simp; omega), List.getElem?_take, if_pos h]
  · rw [if_neg h, List.getElem?_append_right (by simp; omega), List.getElem?_drop]
    congr 1
    simp; omega
/-- What is kept when the first k writes are torn. -/
def tornN (K : List (List Int)) (W : List (Nat × List Int)) (c : List Int) : Nat → List (List Int)
  | 0 => K
  | k + 1 => match W[k]? with
    | some x => (tornN K W c k).set x.1 (tearS x.2 ((tornN K W c k).getD x.1 []) (ch c k))
    | none => tornN K W c k
theorem tornN_succ {K : List (List Int)} {W : List (Nat × List Int)} {c : List Int} {k : Nat} {x : Nat × List Int} (h : W[k]? = some x) : tornN K W c (k + 1) = (tornN K W c k).set x.1 (tearS x.2 ((tornN K W c k).getD x.1 []) (ch c k)) := by
  show (match W[k]? with | some x => _ | none => _) = _
  rw [h]
theorem tornN_length (K : List (List Int)) (W : List (Nat × List Int)) (c : List Int) : ∀ k, (tornN K W c k).length = K.length
  | 0 => rfl
  | k + 1 => by
    show (match W[k]? with | some x => _ | none => _ : List (List Int)).length = _
    cases W[k]? with
    | none => exact tornN_length K W c k
    | some x => simpa using tornN_length K W c k
theorem getD_of {α : Type} {l : List α} {j : Nat} {x d : α} (h : l[j]? = some x) : l.getD j d = x := by simp [List.getD, h]
theorem tornN_sz {K : List (List Int)} {W : List (Nat × List Int)} (c : List Int) (hK : Sz K) (hW : Wok K.length W) : ∀ k, Sz (tornN K W c k)
  | 0 => hK
  | k + 1 => by
    have ih := tornN_sz c hK hW k
    show Sz (match W[k]? with | some x => _ | none => _)
    cases h : W[k]? with
    | none => exact ih
    | some x =>
      have hx := hW.get h
      have hl : x.1 < (tornN K W c k).length := by rw [tornN_length]; exact hx.1
      refine ih.set (tearS_length hx.2 ?_ (ch_le _ _)) _
      rw [getD_of (List.getElem?_eq_getElem hl)]
      exact ih _ (List.getElem_mem hl)
/-- What is read when the first k writes are taken back. -/
def backN (Q K : List (List Int)) (W : List (Nat × List Int)) : Nat → List (List Int)
  | 0 => Q
  | k + 1 => match W[k]? with
    | some x => (backN Q K W k).set x.1 (K.getD x.1 [])
    | none => backN Q K W k
theorem backN_succ {Q K : List (List Int)} {W : List (Nat × List Int)} {k : Nat} {x : Nat × List Int} (h : W[k]? = some x) : backN Q K W (k + 1) = (backN Q K W k).set x.1 (K.getD x.1 []) := by
  show (match W[k]? with | some x => _ | none => _) = _
  rw [h]
theorem backN_length (Q K : List (List Int)) (W : List (Nat × List Int)) : ∀ k, (backN Q K W k).length = Q.length
  | 0 => rfl
  | k + 1 => by
    show (match W[k]? with | some x => _ | none => _ : List (List Int)).length = _
    cases W[k]? with
    | none => exact backN_length Q K W k
    | some x => simpa using backN_length Q K W k
theorem backN_sz {Q K : List (List Int)} {W : List (Nat × List Int)} (hQ : Sz Q) (hK : Sz K) (hW : Wok K.length W) : ∀ k, Sz (backN Q K W k)
  | 0 => hQ
  | k + 1 => by
    have ih := backN_sz hQ hK hW k
    show Sz (match W[k]? with | some x => _ | none => _)
    cases h : W[k]? with
    | none => exact ih
    | some x =>
      have hl := (hW.get h).1
      refine ih.set ?_ _
      rw [getD_of (List.getElem?_eq_getElem hl)]
      exact hK _ (List.getElem_mem hl)
theorem set_get {α : Type} (l : List α) (i j : Nat) (x : α) : (l.set i x)[j]? = if i = j ∧ j < l.length then some x else l[j]? := by
  by_cases h : i = j
  · subst h
    by_cases hl : i < l.length
    · rw [if_pos ⟨rfl, hl⟩, List.getElem?_set_self hl]
    · rw [if_neg (fun e => hl e.2), List.getElem?_eq_none (by simp; omega), List.getElem?_eq_none (by omega)]
  · rw [if_neg (fun e => h e.1), List.getElem?_set_ne h]
theorem pres_other {W : List (Nat × List Int)} {j : Nat} (h : ∀ x ∈ W, x.1 ≠ j) : ∀ K : List (List Int), (pres K W)[j]? = K[j]? := by
  induction W with
  | nil => intro K; rfl
  | cons x W ih =>
    intro K
    show (pres (K.set x.1 x.2) W)[j]? = _
    rw [ih (fun y hy => h y (by simp [hy])), List.getElem?_set_ne (h x (by simp))]
theorem tornN_other {K : List (List Int)} {W : List (Nat × List Int)} {c : List Int} {j : Nat} (h : ∀ x ∈ W, x.1 ≠ j) : ∀ k, (tornN K W c k)[j]? = K[j]?
  | 0 => rfl
  | k + 1 => by
    show (match W[k]? with | some x => _ | none => _ : List (List Int))[j]? = _
    cases hk : W[k]? with
    | none => exact tornN_other h k
    | some x =>
      show ((tornN K W c k).set x.1 _)[j]? = _
      rw [List.getElem?_set_ne (h x (List.mem_of_getElem? hk))]
      exact tornN_other h k
theorem backN_at {Q K : List (List Int)} {W : List (Nat × List Int)} (hl : Q.length = K.length) (j : Nat) : ∀ k, (backN Q K W k)[j]? = if ∃ i, i < k ∧ ∃ x, W[i]? = some x ∧ x.1 = j then K[j]? else Q[j]?
  | 0 => by
    rw [if_neg (by rintro ⟨i, hi, _⟩; omega)]; rfl
  | k + 1 => by
    have ih := backN_at (W := W) hl j k
    cases hk : W[k]? with
    | none =>
      have e : backN Q K W (k + 1) = backN Q K W k := by
        show (match W[k]? with | some x => _ | none => _) = _
        rw [hk]
      rw [e, ih]
      have : (∃ i, i < k ∧ ∃ x, W[i]? = some x ∧ x.1 = j) ↔ (∃ i, i < k + 1 ∧ ∃ x, W[i]? = some x ∧ x.1 = j) := by
        constructor
        · rintro ⟨i, hi, r⟩; exact ⟨i, by omega, r⟩
        · rintro ⟨i, hi, x, hx, r⟩
          by_cases e : i = k
          · subst e; rw [hk] at hx; cases hx
          · exact ⟨i, by omega, x, hx, r⟩
      by_cases h : ∃ i, i < k ∧ ∃ x, W[i]? = some x ∧ x.1 = j
      · rw [if_pos h, if_pos (this.1 h)]
      · rw [if_neg h, if_neg (fun e => h (this.2 e))]
    | some x =>
      rw [backN_succ hk, set_get, ih, backN_length]
      by_cases h : x.1 = j
      · rw [if_pos (show ∃ i, i < k + 1 ∧ ∃ x, W[i]? = some x ∧ x.1 = j from ⟨k, by omega, x, hk, h⟩)]
        by_cases hj : j < Q.length
        · rw [if_pos ⟨h, hj⟩, h, List.getElem?_eq_getElem (show j < K.length by omega)]
          simp [List.getD, show j < K.length by omega]
        · rw [if_neg (fun e => hj e.2)]
          have e1 : K[j]? = none := List.getElem?_eq_none (by omega)
          have e2 : Q[j]? = none := List.getElem?_eq_none (by omega)
          rw [e1, e2]; simp
      · rw [if_neg (fun e => h e.1)]
        have : (∃ i, i < k ∧ ∃ x, W[i]? = some x ∧ x.1 = j) ↔ (∃ i, i < k + 1 ∧ ∃ x, W[i]? = some x ∧ x.1 = j) := by
          constructor
          · rintro ⟨i, hi, r⟩; exact ⟨i, by omega, r⟩
          · rintro ⟨i, hi, y, hy, r⟩
            by_cases e : i = k
            · subst e; rw [hk] at hy; injection hy with hy; subst hy; exact absurd r h
            · exact ⟨i, by omega, y, hy, r⟩
        by_cases h2 : ∃ i, i < k ∧ ∃ x, W[i]? = some x ∧ x.1 = j
        · rw [if_pos h2, if_pos (this.1 h2)]
        · rw [if_neg h2, if_neg (fun e => h2 (this.2 e))]
/-- Behind a crash what is read is what is kept. -/
theorem back_torn (K : List (List Int)) (W : List (Nat × List Int)) (c : List Int) : backN (pres K W) (tornN K W c W.length) W W.length = tornN K W c W.length := by
  apply List.ext_getElem?
  intro j
  rw [backN_at (by rw [pres_length, tornN_length])]
  by_cases h : ∃ i, i < W.length ∧ ∃ x, W[i]? = some x ∧ x.1 = j
  · rw [if_pos h]
  · rw [if_neg h]
    have hn : ∀ x ∈ W, x.1 ≠ j := fun x hx e => by
      obtain ⟨i, hi, e2⟩ := List.mem_iff_getElem.1 hx
      exact h ⟨i, hi, x, by rw [List.getElem?_eq_getElem hi, e2], e⟩
    rw [pres_other hn, tornN_other hn]

/-! ### what is done to a disk -/
def burnD (D : DK) : DK := if D.fu = 0 then { D with off := true, fu := -1 } else if 0 < D.fu then { D with fu := D.fu - 1 } else D
def errB (D : DK) : Int := if D.fu = 0 then 30 else 0
def writeR (D : DK) (n : Int) (x : List Int) : Int × DK :=
  if D.off = true then (30, D) else if n < 0 ∨ (D.K.length : Int) ≤ n then (31, D) else if x.length ≠ 64 then (2, D) else (errB D, burnD { D with W := D.W ++ [(n.toNat, x)] })
def readR (D : DK) (n : Int) : Int × List Int :=
  if D.off = true then (30, []) else if n < 0 ∨ (D.K.length : Int) ≤ n then (31, []) else (0, (pres D.K D.W).getD n.toNat [])
def flushR (D : DK) : Int × DK :=
  if D.off = true then (30, D) else if D.fu = 0 then (30, burnD D) else (0, { burnD D with K := pres D.K D.W, W := [] })
def fuseD (D : DK) (n : Int) : DK := { D with fu := if n < 0 then -1 else n }
def crashD (D : DK) (c : List Int) : DK := ⟨tornN D.K D.W c D.W.length, [], -1, false, D.li + 1⟩
/-- A disk of at most m writes and lives, of sectors that fit. -/
structure Dok (m : Nat) (D : DK) : Prop where
  sK : Sz D.K
  wW : Wok D.K.length D.W
  f0 : -1 ≤ D.fu
  f1 : D.fu ≤ 9223372036854775807
  l0 : 0 ≤ D.li
  l1 : D.li ≤ m
  w1 : D.W.length ≤ m
  k1 : D.K.length ≤ 16384
theorem burnD_K (D : DK) : (burnD D).K = D.K := by unfold burnD; split; rfl; split <;> rfl
theorem burnD_W (D : DK) : (burnD D).W = D.W := by unfold burnD; split; rfl; split <;> rfl
theorem burnD_li (D : DK) : (burnD D).li = D.li := by unfold burnD; split; rfl; split <;> rfl
theorem burnD_fu (D : DK) (h0 : -1 ≤ D.fu) (h1 : D.fu ≤ 9223372036854775807) : -1 ≤ (burnD D).fu ∧ (burnD D).fu ≤ 9223372036854775807 := by
  unfold burnD
  split
  · exact ⟨by show (-1 : Int) ≤ -1; decide, by show (-1 : Int) ≤ 9223372036854775807; decide⟩
  · split
    · exact ⟨by show -1 ≤ D.fu - 1; omega, by show D.fu - 1 ≤ _; omega⟩
    · exact ⟨h0, h1⟩
theorem Dok.burn {m : Nat} {D : DK} (h : Dok m D) : Dok m (burnD D) := by
  obtain ⟨a, b⟩ := burnD_fu D h.f0 h.f1
  exact ⟨by rw [burnD_K]; exact h.sK, by rw [burnD_K, burnD_W]; exact h.wW, a, b, by rw [burnD_li]; exact h.l0, by rw [burnD_li]; exact h.l1, by rw [burnD_W]; exact h.w1, by rw [burnD_K]; exact h.k1⟩
theorem Dok.more {m m' : Nat} {D : DK} (h : Dok m D) (hm : m ≤ m') : Dok m' D := ⟨h.sK, h.wW, h.f0, h.f1, h.l0, by have := h.l1; omega, Nat.le_trans h.w1 hm, h.k1⟩
theorem Dok.write {m : Nat} {D : DK} (h : Dok m D) (n : Int) (x : List Int) : Dok (m + 1) (writeR D n x).2 := by
  unfold writeR
  split
  · exact h.more (Nat.le_succ m)
  · split
    · exact h.more (Nat.le_succ m)
    · split
      · exact h.more (Nat.le_succ m)
      · rename_i h1 h2 h3
        exact Dok.burn (D := { D with W := D.W ++ [(n.toNat, x)] }) ⟨h.sK, h.wW.app ⟨by show n.toNat < D.K.length; omega, by show x.length = 64; omega⟩, h.f0, h.f1, h.l0, by show D.li ≤ _; have := h.l1; omega, by show (D.W ++ [(n.toNat, x)]).length ≤ _; have := h.w1; simp; omega, h.k1⟩
theorem Dok.flush {m : Nat} {D : DK} (h : Dok m D) : Dok m (flushR D).2 := by
  unfold flushR
  split
  · exact h
  · split
    · exact h.burn
    · have hb := h.burn
      exact ⟨pres_sz h.wW h.sK, Wok.nil _, hb.f0, hb.f1, hb.l0, hb.l1, Nat.zero_le _, by show (pres D.K D.W).length ≤ _; rw [pres_length]; exact h.k1⟩
theorem Dok.fuse {m : Nat} {D : DK} (h : Dok m D) {n : Int} (hn : n ≤ 9223372036854775807) : Dok m (fuseD D n) := ⟨h.sK, h.wW, by show -1 ≤ (if n < 0 then -1 else n); split <;> omega, by show (if n < 0 then -1 else n) ≤ _; split <;> omega, h.l0, h.l1, h.w1, h.k1⟩
theorem Dok.crash {m : Nat} {D : DK} (h : Dok m D) (c : List Int) : Dok (m + 1) (crashD D c) := ⟨tornN_sz c h.sK h.wW _, Wok.nil _, by show (-1 : Int) ≤ -1; decide, by show (-1 : Int) ≤ _; decide, by show 0 ≤ D.li + 1; have := h.l0; omega, by show D.li + 1 ≤ _; have := h.l1; omega, Nat.zero_le _, by show (tornN _ _ _ _).length ≤ _; rw [tornN_length]; exact h.k1⟩
theorem write_len (D : DK) (n : Int) (x : List Int) : (writeR D n x).2.K.length = D.K.length := by
  unfold writeR
  split
  · rfl
  · split
    · rfl
    · split
      · rfl
      · show (burnD _).K.length = _
        rw [burnD_K]
theorem flush_len (D : DK) : (flushR D).2.K.length = D.K.length := by
  unfold flushR
  split
  · rfl
  · split
    · show (burnD D).K.length = _
      rw [burnD_K]
    · exact pres_length _ _
theorem crash_len (D : DK) (c : List Int) : (crashD D c).K.length = D.K.length := tornN_length _ _ _ _
end Go.Proofs.Ytdfalneiapeegaa
