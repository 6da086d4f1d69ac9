/- What is true of a store's terms, sizes, indexes and next atoms, as lists. -/
import Derived.Test.YtpncohoonfahpaaGreatDoorTAddM
namespace Go.Proofs.YtpncohoonfahpaaGreatDoor
open Go Go.RowKit Go.Maps

/-- The sizes of terms in order. -/
def szsOf (L : List T3) : List Int := L.foldl (fun zs t => zs ++ [szOf zs t]) []
set_option maxRecDepth 50000 in
theorem szsOf_app (L : List T3) (t : T3) : szsOf (L ++ [t]) = szsOf L ++ [szOf (szsOf L) t] := by simp [szsOf, List.foldl_append]
set_option maxRecDepth 50000 in
theorem cap20_bd {n : Int} (h : 1 ≤ n) : 1 ≤ cap20 n ∧ cap20 n ≤ 1048576 := by unfold cap20; split <;> omega
set_option maxRecDepth 50000 in
theorem rev_ind {α : Type} {P : List α → Prop} (h0 : P []) (h1 : ∀ l a, P l → P (l ++ [a])) (l : List α) : P l := by
  have h : ∀ n (l : List α), l.length = n → P l := by
    intro n
    induction n with
    | zero => intro l hl; rw [List.eq_nil_of_length_eq_zero hl]; exact h0
    | succ n ih =>
      intro l hl
      have hne : l ≠ [] := by rintro rfl; simp at hl
      rw [← List.dropLast_concat_getLast hne]
      exact h1 _ _ (ih _ (by simp [hl]))
  exact h _ l rfl
set_option maxRecDepth 50000 in
theorem szsOf_length (L : List T3) : (szsOf L).length = L.length := by
  induction L using rev_ind with
  | h0 => rfl
  | h1 l a ih => rw [szsOf_app]; simp [ih]
set_option maxRecDepth 50000 in
theorem szsOf_bd (L : List T3) : ∀ z ∈ szsOf L, 1 ≤ z ∧ z ≤ 1048576 := by
  induction L using rev_ind with
  | h0 => intro z hz; cases hz
  | h1 l a ih =>
    intro z hz
    rw [szsOf_app] at hz
    rcases List.mem_append.1 hz with h | h
    · exact ih z h
    · have e : z = szOf (szsOf l) a := by simpa using h
      subst e
      have hd : ∀ n : Nat, 0 ≤ (szsOf l).getD n 0 := fun n => by
        rw [List.getD_eq_getElem?_getD]
        cases hc : (szsOf l)[n]? with
        | none => simp
        | some y => have := ih y (List.mem_of_getElem? hc); simp; omega
      have h1 := hd a.2.1.toNat
      have h2 := hd a.2.2.toNat
      unfold szOf
      split
      · exact cap20_bd (by omega)
      · split
        · exact cap20_bd (by omega)
        · exact cap20_bd (by omega)
set_option maxRecDepth 50000 in
/-- The size of a term hangs on what it names alone. -/
theorem szOf_app {zs ys : List Int} {x : Nat} {t : T3} (h : WFt zs.length x t) : szOf (zs ++ ys) t = szOf zs t := by
  have hd : ∀ n : Int, 0 ≤ n → n < zs.length → (zs ++ ys).getD n.toNat 0 = zs.getD n.toNat 0 := fun n h0 h1 => by
    rw [List.getD_eq_getElem?_getD, List.getD_eq_getElem?_getD, List.getElem?_append_left (by omega)]
  unfold szOf
  rcases h with ⟨h, _⟩ | ⟨h, h1, h2, _⟩ | ⟨h, h1, h2, h3, h4⟩ | ⟨h, _⟩
  · rw [if_neg (by omega), if_neg (by omega), if_neg (by omega), if_neg (by omega)]
  · rw [if_neg (by omega), if_pos (by omega), if_neg (by omega), if_pos (by omega), hd _ h1 h2]
  · rw [if_pos h, if_pos h, hd _ h1 h2, hd _ h3 h4]
  · rw [if_neg (by omega), if_neg (by omega), if_neg (by omega), if_neg (by omega)]
set_option maxRecDepth 50000 in
theorem may_wf {L : List T3} {x : Nat} {t : T3} (h : mayB L x t = true) : WFt L.length x t ∧ (t.1 = 9 → 0 ≤ t.2.1 ∧ t.2.1 < x) := by
  unfold mayB at h
  split at h
  · rename_i h1
    simp only [Bool.and_eq_true, decide_eq_true_eq] at h
    exact ⟨.inl ⟨h1, h.1.1, h.1.2, h.2⟩, by omega⟩
  · split at h
    · rename_i h1
      simp only [hasB, Bool.and_eq_true, decide_eq_true_eq] at h
      exact ⟨.inr (.inl ⟨by omega, h.1.1, h.1.2, h.2⟩), by omega⟩
    · split at h
      · rename_i h1
        simp only [hasB, isB, Bool.and_eq_true, decide_eq_true_eq] at h
        exact ⟨.inr (.inr (.inl ⟨by omega, h.1.1, h.1.2.1, h.2.1, h.2.2⟩)), by omega⟩
      · split at h
        · rename_i h1
          simp only [hasB, Bool.and_eq_true, decide_eq_true_eq] at h
          exact ⟨.inr (.inr (.inl ⟨by omega, h.1.1, h.1.2, h.2.1, h.2.2⟩)), by omega⟩
        · split at h
          · rename_i h1
            simp only [hasB, isB, Bool.and_eq_true, decide_eq_true_eq] at h
            exact ⟨.inr (.inr (.inl ⟨by omega, h.1.1, h.1.2, h.2.1, h.2.2.1⟩)), by omega⟩
          · split at h
            · rename_i h1
              simp only [Bool.and_eq_true, decide_eq_true_eq] at h
              exact ⟨.inr (.inr (.inr ⟨by omega, h.1.1, h.1.2, h.2⟩)), fun _ => h.1⟩
            · split at h
              · rename_i h1
                simp only [isB, Bool.and_eq_true, decide_eq_true_eq] at h
                exact ⟨.inr (.inl ⟨by omega, h.1.1, h.1.2.1, h.2⟩), by omega⟩
              · cases h
/-- So many of a sort have been drawn or put. -/
def Nxt (L : List T3) (s v : Int) : Prop := (∀ (i : Nat) b, L[i]? = some (1, s, b) → (if (4611686018427387904 : Int) < b then 4611686018427387904 else b) + 1 ≤ v) ∧ (v = 0 ∨ ∃ (i : Nat) (b : Int), L[i]? = some (1, s, b) ∧ (if (4611686018427387904 : Int) < b then 4611686018427387904 else b) + 1 = v)
/-- Bytes. -/
def TByt (x : List Int) : Prop := ∀ b ∈ x, 0 ≤ b ∧ b < 256
/-- What a text reads as, as a key. -/
def tkx (x : List Int) : Lit := .string (bstr x).data.toList
set_option maxRecDepth 50000 in
theorem tkx_key (x : List Int) : WideAt.IsKeyLit (tkx x) := trivial
set_option maxRecDepth 50000 in
theorem bstr_inj {x y : List Int} (hx : TByt x) (hy : TByt y) (h : bstr x = bstr y) : x = y := by
  have h1 : (x.map fun n => UInt8.ofNat n.toNat) = (y.map fun n => UInt8.ofNat n.toNat) := by
    have := congrArg (fun b : ByteArray => b.data.toList) h
    simpa [bstr] using this
  induction x generalizing y with
  | nil => cases y with
    | nil => rfl
    | cons b y => simp at h1
  | cons a x ih => cases y with
    | nil => simp at h1
    | cons b y =>
      simp only [List.map_cons, List.cons.injEq] at h1
      obtain ⟨h2, h3⟩ := h1
      have ha := hx a (by simp)
      have hb := hy b (by simp)
      have e : a = b := by
        have := congrArg UInt8.toNat h2
        simp only [UInt8.toNat_ofNat'] at this
        omega
      rw [e, ih (fun z hz => hx z (by simp [hz])) (fun z hz => hy z (by simp [hz])) (by unfold bstr; rw [h3]) h3]
set_option maxRecDepth 50000 in
theorem tkx_inj {x y : List Int} (hx : TByt x) (hy : TByt y) (h : tkx x = tkx y) : x = y := by
  refine bstr_inj hx hy ?_
  injection h with h
  have e : (bstr x).data = (bstr y).data := Array.toList_inj.1 h
  cases hb : bstr x; cases hc : bstr y
  rw [hb, hc] at e; exact congrArg _ e
set_option maxRecDepth 50000 in
theorem bstr_size (x : List Int) : (bstr x).size = x.length := by simp [bstr, ByteArray.size]

structure PF (nx : List Int) (DN DI : D0) (L : List T3) (X : List (List Int)) : Prop where
  zv : ∀ (i : Nat) t, L[i]? = some t → (szsOf L)[i]? = some (szOf (szsOf L) t)
  wf : ∀ (i : Nat) t, L[i]? = some t → Twf t ∧ WFt i X.length t
  nd : ∀ (i j : Nat) t, L[i]? = some t → L[j]? = some t → i = j
  nl : nx.length = 5
  nb : ∀ v ∈ nx, 0 ≤ v ∧ v ≤ 4611686018427387905
  nv : ∀ s : Nat, 1 ≤ s → s ≤ 4 → Nxt L s (nx.getD s 0)
  dM : IsMap DN
  dh : ∀ (i : Nat) t, L[i]? = some t → has DN (tk t) = true ∧ DN.atKey (tk t) (i64 0) = i64 i
  dn : ∀ t, Twf t → has DN (tk t) = true → ∃ (i : Nat), L[i]? = some t
  iM : IsMap DI
  ih : ∀ (j : Nat) x, X[j]? = some x → has DI (tkx x) = true ∧ DI.atKey (tkx x) (i64 0) = i64 j
  id : ∀ x, TByt x → has DI (tkx x) = true → ∃ (j : Nat), X[j]? = some x
  xb : ∀ x ∈ X, TByt x ∧ x.length ≤ 100
  xn : ∀ (i j : Nat) x, X[i]? = some x → X[j]? = some x → i = j
  tx : ∀ j : Nat, j < X.length → ∃ (i : Nat), L[i]? = some (9, (j : Int), 0)

set_option maxRecDepth 50000 in
theorem get_app {α : Type} {l : List α} {a b : α} {i : Nat} (h : (l ++ [a])[i]? = some b) : l[i]? = some b ∨ (i = l.length ∧ b = a) := by
  rcases Nat.lt_trichotomy i l.length with hl | hl | hl
  · rw [List.getElem?_append_left hl] at h; exact .inl h
  · subst hl
    rw [List.getElem?_append_right (Nat.le_refl _), Nat.sub_self] at h
    exact .inr ⟨rfl, by simpa using h.symm⟩
  · rw [List.getElem?_append_right (by omega), List.getElem?_eq_none (by simp; omega)] at h; cases h
set_option maxRecDepth 50000 in
theorem get_old {α : Type} {l m : List α} {b : α} {i : Nat} (h : l[i]? = some b) : (l ++ m)[i]? = some b := by
  rw [List.getElem?_append_left (List.getElem?_eq_some_iff.1 h).1]; exact h
set_option maxRecDepth 50000 in
theorem get_new {α : Type} (l : List α) (a : α) : (l ++ [a])[l.length]? = some a := by simp
set_option maxRecDepth 50000 in
theorem get_lt {α : Type} {l : List α} {b : α} {i : Nat} (h : l[i]? = some b) : i < l.length := (List.getElem?_eq_some_iff.1 h).1
set_option maxRecDepth 50000 in
theorem WFt.more {n n' x x' : Nat} {t : T3} (h : WFt n x t) (hn : n ≤ n') (hx : x ≤ x') : WFt n' x' t := by
  unfold WFt at *
  omega

set_option maxRecDepth 50000 in
theorem PF.zero : PF [0, 0, 0, 0, 0] (.map []) (.map []) [] [] := by
  refine ⟨fun i t h => (by simp at h), fun i t h => (by simp at h), fun i j t h => (by simp at h), rfl, (by simp), fun s h1 h2 => ⟨fun i b h => (by simp at h), .inl ?_⟩, ⟨_, rfl⟩, fun i t h => (by simp at h), fun t _ h => (by cases h), ⟨_, rfl⟩, fun j x h => (by simp at h), fun x _ h => (by cases h), (by simp), fun i j x h => (by simp at h), fun j h => (by simp at h)⟩
  have : s = 1 ∨ s = 2 ∨ s = 3 ∨ s = 4 := by omega
  rcases this with rfl | rfl | rfl | rfl <;> rfl

section
variable {nx : List Int} {DN DI : D0} {L : List T3} {X : List (List Int)}
set_option maxRecDepth 50000 in
/-- A new term. -/
theorem PF.add (h : PF nx DN DI L X) {t : T3} {x : Nat} (ht : Twf t) (hw : WFt L.length x t) (hnew : ∀ (i : Nat), L[i]? ≠ some t) :
    (∀ (i : Nat) u, (L ++ [t])[i]? = some u → (szsOf (L ++ [t]))[i]? = some (szOf (szsOf (L ++ [t])) u)) ∧ (∀ (i j : Nat) u, (L ++ [t])[i]? = some u → (L ++ [t])[j]? = some u → i = j) ∧ (updN nx t).length = 5 ∧ (∀ v ∈ updN nx t, 0 ≤ v ∧ v ≤ 4611686018427387905) ∧ (∀ s : Nat, 1 ≤ s → s ≤ 4 → Nxt (L ++ [t]) s ((updN nx t).getD s 0)) ∧
    IsMap (DN.put (tk t) (i64 L.length)) ∧ (∀ (i : Nat) u, (L ++ [t])[i]? = some u → has (DN.put (tk t) (i64 L.length)) (tk u) = true ∧ (DN.put (tk t) (i64 L.length)).atKey (tk u) (i64 0) = i64 i) ∧ (∀ u, Twf u → has (DN.put (tk t) (i64 L.length)) (tk u) = true → ∃ (i : Nat), (L ++ [t])[i]? = some u) := by
  have hnew2 : ∀ (i : Nat) u, L[i]? = some u → u ≠ t := fun i u hi e => hnew i (by rw [hi, e])
  have hlen := szsOf_length L
  refine ⟨fun i u hi => ?_, fun i j u hi hj => ?_, ?_, fun v hv => ?_, fun s h1 h2 => ?_, h.dM.put _ _, fun i u hi => ?_, fun u hu hh => ?_⟩
  · rw [szsOf_app]
    rcases get_app hi with h1 | ⟨rfl, rfl⟩
    · have hwf := (h.wf i u h1).2
      have hil := get_lt h1
      rw [szOf_app (x := X.length) (hwf.more (by rw [hlen]; omega) (Nat.le_refl _))]
      exact get_old (h.zv i u h1)
    · rw [szOf_app (x := x) (by rw [hlen]; exact hw), ← hlen]; exact get_new _ _
  · rcases get_app hi with h1 | ⟨rfl, rfl⟩
    · rcases get_app hj with h2 | ⟨rfl, rfl⟩
      · exact h.nd i j u h1 h2
      · exact absurd h1 (hnew i)
    · rcases get_app hj with h2 | ⟨rfl, _⟩
      · exact absurd h2 (hnew j)
      · rfl
  · unfold updN; split
    · rw [List.length_set]; exact h.nl
    · exact h.nl
  · unfold updN at hv
    split at hv
    · rename_i hk
      rcases List.mem_or_eq_of_mem_set hv with h1 | rfl
      · exact h.nb v h1
      · have hb : 0 ≤ nx.getD t.2.1.toNat 0 ∧ nx.getD t.2.1.toNat 0 ≤ 4611686018427387905 := by
          rw [List.getD_eq_getElem?_getD]
          cases hc : nx[t.2.1.toNat]? with
          | none => simp
          | some y => exact h.nb y (List.mem_of_getElem? hc)
        have hb2 : 0 ≤ t.2.2 := by unfold WFt at hw; omega
        unfold bump
        constructor
        · split <;> (try split) <;> omega
        · split <;> (try split) <;> omega
    · exact h.nb v hv
  · obtain ⟨g1, g2⟩ := h.nv s h1 h2
    by_cases hk : t.1 = 1 ∧ t.2.1 = s
    · obtain ⟨hk1, hk2⟩ := hk
      have ets : t.2.1.toNat = s := by omega
      have hu : (updN nx t).getD s 0 = bump t.2.2 (nx.getD s 0) := by
        unfold updN
        rw [if_pos hk1, ets, List.getD_eq_getElem?_getD, List.getElem?_set_self (by rw [h.nl]; omega)]
        rfl
      rw [hu]
      have htt : t = (1, (s : Int), t.2.2) := by rw [← hk1, ← hk2]
      constructor
      · intro i b hi
        rcases get_app hi with h3 | ⟨_, h3⟩
        · have := g1 i b h3
          generalize nx.getD s 0 = q at *
          unfold bump
          split at this <;> split <;> (try split) <;> (try split at *) <;> omega
        · rw [htt] at h3
          obtain rfl : b = t.2.2 := by injection h3 with _ h3; injection h3
          unfold bump
          split <;> split <;> omega
      · right
        have hbq : 0 ≤ t.2.2 := by unfold WFt at hw; omega
        by_cases hc : (if (4611686018427387904 : Int) < t.2.2 then 4611686018427387904 else t.2.2) + 1 > nx.getD s 0
        · refine ⟨L.length, t.2.2, by rw [← htt]; exact get_new _ _, ?_⟩
          unfold bump; rw [if_pos hc]
        · rcases g2 with g2 | ⟨i, b, g3, g4⟩
          · exfalso; apply hc; rw [g2]; split <;> omega
          · refine ⟨i, b, get_old g3, ?_⟩
            unfold bump; rw [if_neg hc]; exact g4
    · have hu : (updN nx t).getD s 0 = nx.getD s 0 := by
        unfold updN
        split
        · rename_i hk1
          rw [List.getD_eq_getElem?_getD, List.getElem?_set_ne (by unfold WFt at hw; omega), List.getD_eq_getElem?_getD]
        · rfl
      rw [hu]
      constructor
      · intro i b hi
        rcases get_app hi with h3 | ⟨_, h3⟩
        · exact g1 i b h3
        · exact absurd ⟨by rw [← h3], by rw [← h3]⟩ hk
      · rcases g2 with g2 | ⟨i, b, g3, g4⟩
        · exact .inl g2
        · exact .inr ⟨i, b, get_old g3, g4⟩
  · rcases get_app hi with h1 | ⟨rfl, rfl⟩
    · have hne : tk u ≠ tk t := fun e => hnew2 i u h1 (tk_inj (h.wf i u h1).1 ht e)
      have := h.dh i u h1
      exact ⟨by rw [has_put_other hne]; exact this.1, by rw [atKey_put_other hne]; exact this.2⟩
    · exact ⟨has_put_same h.dM (tk_key _) _, atKey_put_same h.dM (tk_key _) _ _⟩
  · by_cases e : u = t
    · subst e; exact ⟨L.length, get_new _ _⟩
    · have hne : tk u ≠ tk t := fun e2 => e (tk_inj hu ht e2)
      rw [has_put_other hne] at hh
      obtain ⟨i, hi⟩ := h.dn u hu hh
      exact ⟨i, get_old hi⟩
set_option maxRecDepth 50000 in
theorem PF.put (h : PF nx DN DI L X) {t : T3} (ht : Twf t) (hm : mayB L X.length t = true) (hnew : ∀ (i : Nat), L[i]? ≠ some t) : PF (updN nx t) (DN.put (tk t) (i64 L.length)) DI (L ++ [t]) X := by
  have hw := (may_wf hm).1
  obtain ⟨a1, a2, a3, a4, a5, a6, a7, a8⟩ := h.add ht hw hnew
  refine ⟨a1, fun i u hi => ?_, a2, a3, a4, a5, a6, a7, a8, h.iM, h.ih, h.id, h.xb, h.xn, fun j hj => ?_⟩
  · rcases get_app hi with h1 | ⟨rfl, rfl⟩
    · exact h.wf i u h1
    · exact ⟨ht, hw⟩
  · obtain ⟨i, hi⟩ := h.tx j hj
    exact ⟨i, get_old hi⟩
set_option maxRecDepth 50000 in
theorem PF.text (h : PF nx DN DI L X) {x : List Int} (hx : TByt x) (hx2 : x.length ≤ 100) (hnew : ∀ (j : Nat), X[j]? ≠ some x) (hX : X.length ≤ 40) : (∀ (i : Nat), L[i]? ≠ some (9, (X.length : Int), 0)) ∧ Twf (9, (X.length : Int), 0) ∧ WFt L.length (X.length + 1) (9, (X.length : Int), 0) ∧ PF (updN nx (9, (X.length : Int), 0)) (DN.put (tk (9, (X.length : Int), 0)) (i64 L.length)) (DI.put (tkx x) (i64 X.length)) (L ++ [(9, (X.length : Int), 0)]) (X ++ [x]) := by
  have hn : ∀ (i : Nat), L[i]? ≠ some (9, (X.length : Int), 0) := fun i hi => by
    have := (h.wf i _ hi).2
    unfold WFt at this
    dsimp only at this
    omega
  have ht : Twf (9, (X.length : Int), 0) := ⟨by show (Lit.int .i64 9).wf = true; decide, by show (Lit.int .i64 (X.length : Int)).wf = true; exact WalkArith.wf_i64 (by omega), by show (Lit.int .i64 0).wf = true; decide⟩
  have hw : WFt L.length (X.length + 1) (9, (X.length : Int), 0) := .inr (.inr (.inr ⟨rfl, by dsimp only; omega, by dsimp only; omega, rfl⟩))
  refine ⟨hn, ht, hw, ?_⟩
  obtain ⟨a1, a2, a3, a4, a5, a6, a7, a8⟩ := h.add ht hw hn
  have hlen : (X ++ [x]).length = X.length + 1 := by simp
  refine ⟨a1, fun i u hi => ?_, a2, a3, a4, a5, a6, a7, a8, h.iM.put _ _, fun j y hj => ?_, fun y hy hh => ?_, fun y hy => ?_, fun i j y hi hj => ?_, fun j hj => ?_⟩
  · rw [hlen]
    rcases get_app hi with h1 | ⟨rfl, rfl⟩
    · exact ⟨(h.wf i u h1).1, (h.wf i u h1).2.more (Nat.le_refl _) (by omega)⟩
    · exact ⟨ht, hw⟩
  · rcases get_app hj with h1 | ⟨rfl, rfl⟩
    · have hyb := (h.xb y (List.mem_of_getElem? h1)).1
      have hne : tkx y ≠ tkx x := fun e => hnew j (by rw [h1, tkx_inj hyb hx e])
      have := h.ih j y h1
      exact ⟨by rw [has_put_other hne]; exact this.1, by rw [atKey_put_other hne]; exact this.2⟩
    · exact ⟨has_put_same h.iM (tkx_key _) _, atKey_put_same h.iM (tkx_key _) _ _⟩
  · by_cases e : y = x
    · subst e; exact ⟨X.length, get_new _ _⟩
    · have hne : tkx y ≠ tkx x := fun e2 => e (tkx_inj hy hx e2)
      rw [has_put_other hne] at hh
      obtain ⟨i, hi⟩ := h.id y hy hh
      exact ⟨i, get_old hi⟩
  · rcases List.mem_append.1 hy with h1 | h1
    · exact h.xb y h1
    · obtain rfl : y = x := by simpa using h1
      exact ⟨hx, hx2⟩
  · rcases get_app hi with h1 | ⟨rfl, rfl⟩
    · rcases get_app hj with h2 | ⟨rfl, rfl⟩
      · exact h.xn i j y h1 h2
      · exact absurd h1 (hnew i)
    · rcases get_app hj with h2 | ⟨rfl, _⟩
      · exact absurd h2 (hnew j)
      · rfl
  · rw [hlen] at hj
    by_cases e : j = X.length
    · subst e; exact ⟨L.length, get_new _ _⟩
    · obtain ⟨i, hi⟩ := h.tx j (by omega)
      exact ⟨i, get_old hi⟩
end
end Go.Proofs.YtpncohoonfahpaaGreatDoor
