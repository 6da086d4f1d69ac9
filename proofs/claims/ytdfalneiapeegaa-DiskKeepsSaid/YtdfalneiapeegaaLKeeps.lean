/- What each sector may hold, as lists and in memory. -/
import Derived.Test.YtdfalneiapeegaaLFuse
import Derived.Test.YtdfalneiapeegaaLDo
namespace Go.Proofs.Ytdfalneiapeegaa
open Go Go.RowKit Go.Maps

/-! ### lists -/
/-- No fuse, and the power is on. -/
def Calm (D : DK) : Prop := D.fu = -1 ∧ D.off = false
theorem calm_ok {D : DK} (h : Calm D) {n : Int} {x : List Int} (hn : ¬ (n < 0 ∨ (D.K.length : Int) ≤ n)) (hx : x.length = 64) : writeR D n x = (0, { D with W := D.W ++ [(n.toNat, x)] }) := by
  obtain ⟨h1, h2⟩ := h
  unfold writeR
  rw [if_neg (by rw [h2]; simp), if_neg hn, if_neg (by omega)]
  have e1 : errB D = 0 := if_neg (by rw [h1]; decide)
  have e2 : burnD { D with W := D.W ++ [(n.toNat, x)] } = { D with W := D.W ++ [(n.toNat, x)] } := by
    unfold burnD
    rw [if_neg (by show ¬ D.fu = 0; rw [h1]; decide), if_neg (by show ¬ 0 < D.fu; rw [h1]; decide)]
  rw [e1, e2]
theorem calm_no {D : DK} (h : Calm D) {n : Int} {x : List Int} (hn : (n < 0 ∨ (D.K.length : Int) ≤ n) ∨ x.length ≠ 64) : ∃ er, er ≠ 0 ∧ writeR D n x = (er, D) := by
  unfold writeR
  rw [if_neg (by rw [h.2]; simp)]
  by_cases h1 : n < 0 ∨ (D.K.length : Int) ≤ n
  · rw [if_pos h1]; exact ⟨31, by decide, rfl⟩
  · rw [if_neg h1]
    rcases hn with h2 | h2
    · exact absurd h2 h1
    · rw [if_pos h2]; exact ⟨2, by decide, rfl⟩
theorem calm_any {D : DK} (h : Calm D) (n : Int) (x : List Int) : Calm (writeR D n x).2 ∧ (writeR D n x).2.K = D.K ∧ (writeR D n x).2.li = D.li := by
  by_cases h1 : (n < 0 ∨ (D.K.length : Int) ≤ n) ∨ x.length ≠ 64
  · obtain ⟨er, _, e⟩ := calm_no h h1
    rw [e]; exact ⟨h, rfl, rfl⟩
  · rw [calm_ok h (fun e => h1 (.inl e)) (Decidable.byContradiction fun e => h1 (.inr e))]
    exact ⟨h, rfl, rfl⟩
theorem calm_flush {D : DK} (h : Calm D) : flushR D = (0, ⟨pres D.K D.W, [], -1, false, D.li⟩) := by
  obtain ⟨h1, h2⟩ := h
  unfold flushR
  rw [if_neg (by rw [h2]; simp), if_neg (by rw [h1]; decide)]
  have e2 : burnD D = D := by
    unfold burnD
    rw [if_neg (by rw [h1]; decide), if_neg (by rw [h1]; decide)]
  rw [e2]
  show (0, DK.mk (pres D.K D.W) [] D.fu D.off D.li) = _
  rw [h1, h2]
theorem calm_read {D : DK} (h : Calm D) {k : Nat} {s : List Int} (hs : (pres D.K D.W)[k]? = some s) : readR D k = (0, s) := by
  have hl := (List.getElem?_eq_some_iff.1 hs).1
  rw [pres_length] at hl
  unfold readR
  rw [if_neg (by rw [h.2]; simp), if_neg (by omega)]
  show (0, (pres D.K D.W).getD k []) = _
  rw [getD_of hs]
/-- What was kept of sector k, and what was written to it. -/
def mayL (K : List (List Int)) (W : List (Nat × List Int)) (k : Nat) : List (List Int) := K.getD k [] :: (W.filter fun x => x.1 == k).map (·.2)
def mays (K : List (List Int)) (W : List (Nat × List Int)) : List (List (List Int)) := (List.range 8).map (mayL K W)
theorem mays_at (K : List (List Int)) (W : List (Nat × List Int)) {k : Nat} (h : k < 8) : (mays K W)[k]? = some (mayL K W k) := by simp [mays, h]
theorem mays_len (K : List (List Int)) (W : List (Nat × List Int)) : (mays K W).length = 8 := by simp [mays]
theorem mays_app (K : List (List Int)) (W : List (Nat × List Int)) (n : Nat) (x : List Int) : (mays K W).set n (mayL K W n ++ [x]) = mays K (W ++ [(n, x)]) := by
  apply List.ext_getElem?
  intro j
  rw [set_get]
  by_cases hj : j < 8
  · rw [mays_at K W hj, mays_at K _ hj]
    by_cases e : n = j
    · subst e
      rw [if_pos ⟨rfl, by rw [mays_len]; exact hj⟩]
      simp [mayL, List.filter_append]
    · rw [if_neg (fun h => e h.1)]
      have : ((n, x) : Nat × List Int).1 ≠ j := e
      simp [mayL, List.filter_append, e]
  · rw [if_neg (fun h => hj (by have := h.2; rw [mays_len] at this; exact this)), List.getElem?_eq_none (by rw [mays_len]; omega), List.getElem?_eq_none (by rw [mays_len]; omega)]
/-- Each byte behind a crash is one that was kept, or written since. -/
theorem torn_in {K : List (List Int)} {W : List (Nat × List Int)} {c : List Int} (hK : Sz K) (hW : Wok K.length W) {k : Nat} (hk : k < K.length) (i : Nat) : ∀ j, ∃ m, (m = K.getD k [] ∨ ∃ q, q < j ∧ ∃ x, W[q]? = some x ∧ x.1 = k ∧ m = x.2) ∧ ((tornN K W c j).getD k [])[i]? = m[i]?
  | 0 => ⟨_, .inl rfl, rfl⟩
  | j + 1 => by
    obtain ⟨m, h1, h2⟩ := torn_in hK hW hk (c := c) i j
    cases hj : W[j]? with
    | none =>
      have e : tornN K W c (j + 1) = tornN K W c j := by
        show (match W[j]? with | some x => _ | none => _) = _
        rw [hj]
      rw [e]
      refine ⟨m, ?_, h2⟩
      rcases h1 with h | ⟨q, hq, r⟩
      · exact .inl h
      · exact .inr ⟨q, by omega, r⟩
    | some x =>
      rw [tornN_succ hj]
      have hx := hW.get hj
      have hl : k < (tornN K W c j).length := by rw [tornN_length]; exact hk
      by_cases e : x.1 = k
      · have hs : (tornN K W c j)[k]? = some ((tornN K W c j)[k]) := List.getElem?_eq_getElem hl
        have h64 := (tornN_sz c hK hW j).get hs
        have hset : ((tornN K W c j).set k (tearS x.2 ((tornN K W c j)[k]) (ch c j)))[k]? = some (tearS x.2 ((tornN K W c j)[k]) (ch c j)) := by rw [set_get, if_pos ⟨rfl, hl⟩]
        have hold : (tornN K W c j).getD k [] = (tornN K W c j)[k] := getD_of hs
        rw [hold] at h2
        rw [e, hold, getD_of hset, tearS_get _ _ _ _ hx.2 (ch_le _ _)]
        by_cases hi : i < ch c j
        · rw [if_pos hi]
          exact ⟨x.2, .inr ⟨j, by omega, x, hj, e, rfl⟩, rfl⟩
        · rw [if_neg hi]
          refine ⟨m, ?_, h2⟩
          rcases h1 with h | ⟨q, hq, r⟩
          · exact .inl h
          · exact .inr ⟨q, by omega, r⟩
      · have e2 : ((tornN K W c j).set x.1 (tearS x.2 ((tornN K W c j).getD x.1 []) (ch c j))).getD k [] = (tornN K W c j).getD k [] := by
          simp [List.getD, List.getElem?_set_ne e]
        rw [e2]
        refine ⟨m, ?_, h2⟩
        rcases h1 with h | ⟨q, hq, r⟩
        · exact .inl h
        · exact .inr ⟨q, by omega, r⟩
theorem keeps_in {K : List (List Int)} {W : List (Nat × List Int)} (c : List Int) (hK : Sz K) (hW : Wok K.length W) {k : Nat} (hk : k < K.length) (i : Nat) : ∃ (j : Nat) (m : List Int), (mayL K W k)[j]? = some m ∧ ((tornN K W c W.length).getD k [])[i]? = m[i]? := by
  obtain ⟨m, h1, h2⟩ := torn_in hK hW hk (c := c) i W.length
  have : m ∈ mayL K W k := by
    rcases h1 with h | ⟨q, _, x, hx, e, h⟩
    · rw [h]; simp [mayL]
    · rw [h]
      refine List.mem_cons_of_mem _ (List.mem_map.2 ⟨x, List.mem_filter.2 ⟨List.mem_of_getElem? hx, by simp [e]⟩, rfl⟩)
  obtain ⟨j, hj⟩ := List.mem_iff_getElem?.1 this
  exact ⟨j, m, hj, h2⟩
theorem keeps_one {K : List (List Int)} {W : List (Nat × List Int)} (c : List Int) {k : Nat} (h : (mayL K W k).length = 1) : (tornN K W c W.length)[k]? = K[k]? := by
  refine tornN_other (fun x hx e => ?_) _
  have h1 : (W.filter fun x => x.1 == k) = [] := by
    refine List.eq_nil_of_length_eq_zero ?_
    simp [mayL] at h ⊢
    exact h
  have : x ∈ W.filter fun x => x.1 == k := List.mem_filter.2 ⟨hx, by simp [e]⟩
  rw [h1] at this
  simp at this
theorem mayL_len {K : List (List Int)} {W : List (Nat × List Int)} (hK : Sz K) (hW : Wok K.length W) {k : Nat} (hk : k < K.length) : ∀ s ∈ mayL K W k, s.length = 64 := fun s hs => by
  rcases List.mem_cons.1 hs with h | h
  · rw [h, getD_of (List.getElem?_eq_getElem hk)]
    exact hK _ (List.getElem_mem hk)
  · obtain ⟨x, hx, e⟩ := List.mem_map.1 h
    rw [← e]
    exact (hW x (List.mem_filter.1 hx).1).2
theorem mayL_bound (K : List (List Int)) (W : List (Nat × List Int)) (k : Nat) : (mayL K W k).length ≤ W.length + 1 := by
  simp only [mayL, List.length_cons, List.length_map]
  have := List.length_filter_le (fun x : Nat × List Int => x.1 == k) W
  omega

/-! ### memory -/
/-- What each sector may hold: an array of rows of slices; the disk's blocks are F, its own R. -/
structure MY (F R : Nat → Prop) (lo : Nat) (w : World) (ma : Nat) (mv : List Value) (M : List (List (List Int))) : Prop where
  blk : Blk w ma 41 mv
  len : mv.length = 8
  lenM : M.length = 8
  row : ∀ (j : Nat) (l : List (List Int)), M[j]? = some l → ∃ (A : Option Addr) (c : Nat) (vs : List Value), mv[j]? = some (.slice A l.length c) ∧ w.ownsRow 0 32 1 (.slice A l.length c) l.length vs ∧ (∀ (i : Nat) (s : List Int), l[i]? = some s → ∃ (B : Option Addr) (d : Nat), vs[i]? = some (.slice B s.length d) ∧ NumsS (fun b => b < w.heap.size ∧ ¬ F b ∧ ¬ R b) w .u8 B s)
  own : ∀ (j : Nat) (v : Value) (g : Nat), mv[j]? = some v → v.ownBlock = some g → R g
  ap : ∀ (i j : Nat) (v v' : Value) (g : Nat), i ≠ j → mv[i]? = some v → mv[j]? = some v' → v.ownBlock = some g → v'.ownBlock ≠ some g
  rma : R ma
  inR : ∀ b, R b → lo ≤ b ∧ b < w.heap.size ∧ ¬ F b
section
variable {F R G : Nat → Prop} {lo : Nat} {w w1 w' : World} {ma : Nat} {mv : List Value} {M : List (List (List Int))}
theorem MY.chg {F' : Nat → Prop} (h : MY F R lo w ma mv M) (hc : Chg G w w') (hG : ∀ b, G b → F b) (hF : ∀ b, F' b → F b ∨ w.heap.size ≤ b) : MY F' R lo w' ma mv M := by
  have hR : ∀ b, R b → ¬ G b := fun b hb e => (h.inR b hb).2.2 (hG b e)
  refine ⟨h.blk.chg hc (hR _ h.rma), h.len, h.lenM, fun j l hj => ?_, h.own, h.ap, h.rma, fun b hb => ?_⟩
  · obtain ⟨A, c, vs, h1, h2, h3⟩ := h.row j l hj
    refine ⟨A, c, vs, h1, row_chg h2 hc (fun g hg => hR g (h.own j _ g h1 hg)), fun i s hi => ?_⟩
    obtain ⟨B, d, h4, h5⟩ := h3 i s hi
    refine ⟨B, d, h4, (h5.keep (w' := w') fun b hb => hc.block b hb.1 (fun e => hb.2.1 (hG b e))).sub fun b hb => ⟨Nat.lt_of_lt_of_le hb.1 hc.size, fun e => ?_, hb.2.2⟩⟩
    rcases hF b e with h6 | h6
    · exact hb.2.1 h6
    · have := hb.1; omega
  · obtain ⟨h1, h2, h3⟩ := h.inR b hb
    refine ⟨h1, Nat.lt_of_lt_of_le h2 hc.size, fun e => ?_⟩
    rcases hF b e with h6 | h6
    · exact h3 h6
    · omega
theorem MY.next (h : MY F R lo w ma mv M) (hb : Below w.heap.size w w') : MY F R lo w' ma mv M := h.chg (Chg.of hb (fun _ => False)) (fun _ e => e.elim) (fun _ e => .inl e)
/-- One of the rows is another. -/
theorem MY.put (h : MY F R lo w ma mv M) (hl : lo ≤ w.heap.size) (hFz : ∀ b, F b → b < w.heap.size) {n : Nat} (hn : n < 8) {old : Value} (ho : mv[n]? = some old) {l' : List (List Int)} {A' : Option Addr} {c' : Nat} {vs' : List Value} (hg : w.grownBy w1 old.ownBlock) (hr : w1.ownsRow 0 32 1 (.slice A' l'.length c') l'.length vs') (hown : ∀ g, (Value.slice A' l'.length c').ownBlock = some g → old.ownBlock = some g ∨ w.heap.size ≤ g)
    (hvs : ∀ (i : Nat) (s : List Int), l'[i]? = some s → ∃ (B : Option Addr) (d : Nat), vs'[i]? = some (.slice B s.length d) ∧ NumsS (fun b => b < w.heap.size ∧ ¬ F b ∧ ¬ R b) w .u8 B s) :
    Blk w1 ma 41 mv ∧ ∀ w2, w1.setCell ⟨ma, n, none⟩ (.slice A' l'.length c') = w2 → MY F (fun b => R b ∨ (w.heap.size ≤ b ∧ b < w2.heap.size)) lo w2 ma (mv.set n (.slice A' l'.length c')) (M.set n l') ∧ Chg R w w2 := by
  obtain ⟨l, hlm⟩ : ∃ l, M[n]? = some l := ⟨_, List.getElem?_eq_getElem (by rw [h.lenM]; exact hn)⟩
  obtain ⟨A, c, vs, e1, r1, _⟩ := h.row n l hlm
  rw [ho] at e1
  injection e1 with e1
  have hold : w.ownsRow 0 32 1 old l.length vs := by rw [e1]; exact r1
  have hb1 := h.blk.grown hg (blk_ne h.blk hold (by decide))
  refine ⟨hb1, fun w2 hw2 => ?_⟩
  have hC : Chg R w w2 := by
    rw [← hw2]
    exact ((Chg.refl R w).grown hg (fun g e => .inl (h.own n old g ho e))).setCell (p := ⟨ma, n, none⟩) (.inl h.rma) _
  have hz2 : w2.heap.size = w1.heap.size := by rw [← hw2]; exact setCell_size _ _ _
  have hr2 : w2.ownsRow 0 32 1 (.slice A' l'.length c') l'.length vs' := by rw [← hw2]; exact row_setC hr hb1 (by decide) n _
  have hset : ∀ (j : Nat) (v : Value), (mv.set n (.slice A' l'.length c'))[j]? = some v → (n = j ∧ v = .slice A' l'.length c') ∨ (n ≠ j ∧ mv[j]? = some v) := fun j v hj => by
    rw [set_get] at hj
    by_cases e : n = j ∧ j < mv.length
    · rw [if_pos e] at hj; injection hj with hj; exact .inl ⟨e.1, hj.symm⟩
    · rw [if_neg e] at hj
      refine .inr ⟨fun e2 => e ⟨e2, ?_⟩, hj⟩
      exact (List.getElem?_eq_some_iff.1 hj).1
  refine ⟨⟨by rw [← hw2]; exact hb1.set n _, by simp [h.len], by simp [h.lenM], fun j lj hj => ?_, fun j v g hj hgv => ?_, fun i j v v' g hij hi hj hgv hgv' => ?_, .inl h.rma, fun b hb => ?_⟩, hC⟩
  · have sb : ∀ b, (b < w.heap.size ∧ ¬ F b ∧ ¬ R b) → (b < w2.heap.size ∧ ¬ F b ∧ ¬ (R b ∨ (w.heap.size ≤ b ∧ b < w2.heap.size))) := fun b hb => ⟨Nat.lt_of_lt_of_le hb.1 hC.size, hb.2.1, fun e => by
      rcases e with e | e
      · exact hb.2.2 e
      · have := hb.1; omega⟩
    have kb : ∀ b, (b < w.heap.size ∧ ¬ F b ∧ ¬ R b) → w2.heap[b]? = w.heap[b]? := fun b hb => hC.block b hb.1 hb.2.2
    rw [set_get] at hj
    by_cases e : n = j ∧ j < M.length
    · rw [if_pos e] at hj
      injection hj with hj
      subst hj
      refine ⟨A', c', vs', by rw [set_get, if_pos ⟨e.1, by rw [h.len, ← e.1]; exact hn⟩], hr2, fun i s hi => ?_⟩
      obtain ⟨B, d, h4, h5⟩ := hvs i s hi
      exact ⟨B, d, h4, (h5.keep kb).sub sb⟩
    · rw [if_neg e] at hj
      have hjM := (List.getElem?_eq_some_iff.1 hj).1
      have hnj : n ≠ j := fun e2 => e ⟨e2, hjM⟩
      obtain ⟨A2, c2, vs2, h1, h2, h3⟩ := h.row j lj hj
      refine ⟨A2, c2, vs2, by rw [List.getElem?_set_ne hnj]; exact h1, ?_, fun i s hi => ?_⟩
      · rw [← hw2]
        refine row_setC (h2.kept hg ?_) hb1 (by decide) n _
        cases hv : (Value.slice A2 lj.length c2).ownBlock with
        | none => exact .inl rfl
        | some g => exact .inr (fun e3 => h.ap j n _ old g (Ne.symm hnj) h1 ho hv e3.symm)
      · obtain ⟨B, d, h4, h5⟩ := h3 i s hi
        exact ⟨B, d, h4, (h5.keep kb).sub sb⟩
  · rcases hset j v hj with ⟨_, rfl⟩ | ⟨_, h1⟩
    · rcases hown g hgv with h2 | h2
      · exact .inl (h.own n old g ho h2)
      · exact .inr ⟨h2, rowlt hr2 g hgv⟩
    · exact .inl (h.own j v g h1 hgv)
  · rcases hset i v hi with ⟨e1, rfl⟩ | ⟨e1, h1⟩
    · rcases hset j v' hj with ⟨e2, _⟩ | ⟨e2, h2⟩
      · exact hij (e1.symm.trans e2)
      · rcases hown g hgv with h3 | h3
        · exact h.ap n j old v' g e2 ho h2 h3 hgv'
        · have := (h.inR g (h.own j v' g h2 hgv')).2.1; omega
    · rcases hset j v' hj with ⟨e2, rfl⟩ | ⟨e2, h2⟩
      · rcases hown g hgv' with h3 | h3
        · exact h.ap i n v old g (Ne.symm e1) h1 ho hgv h3
        · have := (h.inR g (h.own i v g h1 hgv)).2.1; omega
      · exact h.ap i j v v' g hij h1 h2 hgv hgv'
  · rcases hb with h1 | h1
    · obtain ⟨h2, h3, h4⟩ := h.inR b h1
      exact ⟨h2, Nat.lt_of_lt_of_le h3 hC.size, h4⟩
    · exact ⟨by omega, h1.2, fun e => by have := hFz b e; omega⟩
end
end Go.Proofs.Ytdfalneiapeegaa
