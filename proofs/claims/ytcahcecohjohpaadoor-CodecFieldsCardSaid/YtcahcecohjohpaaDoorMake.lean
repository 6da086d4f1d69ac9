/- What Of and Raw make, cell by cell, and a list of two structs. -/
import Derived.Test.YtcahcecohjohpaaDoorCells
namespace Go.Proofs.YtcahcecohjohpaaDoor
open Go Go.RowKit

theorem of_cp (k n : Int) (b : List Int) (l : List V) (D : Nat) (A B : Option Addr) (d : Nat) (w : World) (hl : l.length ≤ 1000000) (hH : Has D w (.mk k n b l) A B) : Calls Tryd.prog 19 #[.slice B l.length d] w fun e w' =>
    ∃ B' d', e = .returned (.agg #[.int .i64 3, .int .i64 0, .slice none 0 0, .slice B' l.length d']) ∧ CopyAt l (w.alloc (.cells #[.int .i64 0, .int .i64 0, .slice none 0 0, .slice none 0 0] 25)) w' B B' (w.heap.size + 1) ∧ Below w.heap.size w w' := by
  have hnew := below_new w (.cells #[.int .i64 0, .int .i64 0, .slice none 0 0, .slice none 0 0] 25)
  go_enter Tryd.func19, Tryd.ntmps19
  go_wp2_with (go_at_call 33; refine (vclone_any k n b l D A B d _ hl (hH.stay hnew)).mono ?_; rintro e w1 ⟨B1, d1, rfl, hC1, hb1⟩; have hx := (Box4.start w (.int .i64 0) (.int .i64 0) (.slice none 0 0) (.slice none 0 0) 25).next hb1; obtain ⟨c0, c1, c2, c3⟩ := hx.cells; have f0 := hx.soft 0; have f1 := hx.soft 1; have f2 := hx.soft 2; have f3 := hx.soft 3)
  have hlw := hx.lt
  have hbs : Below w.heap.size w ((((w1.setCell ⟨w.heap.size, 0, none⟩ (.int .i64 3)).setCell ⟨w.heap.size, 1, none⟩ (.int .i64 0)).setCell ⟨w.heap.size, 2, none⟩ (.slice none 0 0)).setCell ⟨w.heap.size, 3, none⟩ (.slice B1 l.length d1)) :=
    (((hx.below.setCell (p := ⟨w.heap.size, 0, none⟩) (Nat.le_refl _) _).setCell (p := ⟨w.heap.size, 1, none⟩) (Nat.le_refl _) _).setCell (p := ⟨w.heap.size, 2, none⟩) (Nat.le_refl _) _).setCell (p := ⟨w.heap.size, 3, none⟩) (Nat.le_refl _) _
  have hC2 := (((hC1.set ⟨w.heap.size, 0, none⟩ (.int .i64 3) (by simp)).set ⟨w.heap.size, 1, none⟩ (.int .i64 0) (by simp)).set ⟨w.heap.size, 2, none⟩ (.slice none 0 0) (by simp)).set ⟨w.heap.size, 3, none⟩ (.slice B1 l.length d1) (by simp)
  have e1 : (w.alloc (.cells #[.int .i64 0, .int .i64 0, .slice none 0 0, .slice none 0 0] 25)).heap.size = w.heap.size + 1 := by simp
  rw [e1] at hC2
  exact bodyPost_ret (v := .agg #[.int .i64 3, .int .i64 0, .slice none 0 0, .slice B1 l.length d1]) (by simp [results, Tryd.results19, go_sem, c0, c1, c2, c3]) rfl ⟨B1, d1, rfl, hC2, hbs⟩
theorem cells_frame (g : Nat) : ∀ (vs : List Value) (o : Nat) (w : World), (w.setCells g o vs).os = w.os ∧ (w.setCells g o vs).tape = w.tape ∧ (w.setCells g o vs).output = w.output ∧ (w.setCells g o vs).heap.size = w.heap.size ∧ ∀ k, k ≠ g → (w.setCells g o vs).heap[k]? = w.heap[k]?
  | [], _, _ => ⟨rfl, rfl, rfl, rfl, fun _ _ => rfl⟩
  | v :: r, o, w => by
    obtain ⟨h1, h2, h3, h4, h5⟩ := cells_frame g r (o + 1) (w.setCell ⟨g, o, none⟩ v)
    rw [World.setCells]
    exact ⟨h1, h2, h3, h4.trans (by simp [World.setCell]), fun k hk => (h5 k hk).trans (Below.heap_setCell _ _ _ _ hk)⟩
theorem cells_size (w : World) (g o : Nat) (vs : List Value) : (w.setCells g o vs).heap.size = w.heap.size := (cells_frame g vs o w).2.2.2.1
/-- Two structs in a row hold two values. -/
theorem two_has {k n k' n' : Int} {b b' : List Int} {l l' : List V} {A B A' B' : Option Addr} {c d c' d' D D' g off : Nat} {w : World} (h : Has D w (.mk k n b l) A B) (h' : Has D' w (.mk k' n' b' l') A' B') (hg : g < w.heap.size)
    (hr : w.rangeAt g off (cellsOf4 k n b l A B c d ++ cellsOf4 k' n' b' l' A' B' c' d')) : Has w.heap.size w (.mk 3 0 [] [.mk k n b l, .mk k' n' b' l']) none (some ⟨g, off, none⟩) := by
  refine ⟨Nat.le_refl _, .items (fun i => if i = 0 then A else A') (fun i => if i = 0 then B else B') (fun i => if i = 0 then c else c') (fun i => if i = 0 then d else d') (fun h => absurd h (by simp)) (fun x hx => by cases hx) (by simp) hg (by simp [maxLen]) (fun i x hx => ?_) (fun i x hx => ?_)⟩
  · have h2 : i = 0 ∨ i = 1 := by
      have := (List.getElem?_eq_some_iff.1 hx).1
      simp at this; omega
    rcases h2 with e | e <;> subst e
    · simp at hx; subst hx
      exact ⟨hr 0 _ rfl, hr 1 _ rfl, hr 2 _ rfl, hr 3 _ rfl⟩
    · simp at hx; subst hx
      exact ⟨hr 4 _ rfl, hr 5 _ rfl, hr 6 _ rfl, hr 7 _ rfl⟩
  · have h2 : i = 0 ∨ i = 1 := by
      have := (List.getElem?_eq_some_iff.1 hx).1
      simp at this; omega
    rcases h2 with e | e <;> subst e
    · simp at hx; subst hx
      exact (h.more h.1 (Nat.le_refl _)).2
    · simp at hx; subst hx
      exact (h'.more h'.1 (Nat.le_refl _)).2
theorem of_two {k n k' n' : Int} {b b' : List Int} {l l' : List V} {A B A' B' : Option Addr} {c d c' d' D D' g : Nat} {w : World} (h : Has D w (.mk k n b l) A B) (h' : Has D' w (.mk k' n' b' l') A' B')
    (hr : Row w g (cellsOf4 k n b l A B c d ++ cellsOf4 k' n' b' l' A' B' c' d')) : Calls Tryd.prog 19 #[.slice (some ⟨g, 0, none⟩) 2 2] w fun e w' => ∃ x, e = .returned x ∧ LB2 w.heap.size (cellsOf4 k n b l A B c d ++ cellsOf4 k' n' b' l' A' B' c' d') x w' ∧ Below w.heap.size w w' := by
  have hlt := hr.lt (by simp [cellsOf4])
  refine (of_cp 3 0 [] [.mk k n b l, .mk k' n' b' l'] _ none (some ⟨g, 0, none⟩) 2 w (by simp) (two_has h h' hlt hr.range)).mono ?_
  rintro e w' ⟨B1, d1, rfl, hC, hb⟩
  obtain ⟨g0, off, g', e1, rfl, h1, h2, h3⟩ := hC (by simp)
  injection e1 with e1
  injection e1 with e1 e2
  subst e1
  subst e2
  refine ⟨_, rfl, ⟨g', d1, rfl, by omega, h2, fun i v hi => ?_⟩, hb⟩
  have hi8 : i < 8 := by
    have := (List.getElem?_eq_some_iff.1 hi).1
    simpa [cellsOf4] using this
  have h4 := h3 i (by simpa using hi8)
  rw [Nat.zero_add] at h4 ⊢
  rw [h4, (below_new w _).cell (p := ⟨g, i, none⟩) hlt]
  exact hr.at_ hi
theorem raw_two {xs : List Int} {A : Option Addr} {c : Nat} {w : World} (hl : xs.length ≤ 2000000) (hA : Nums w .u8 A xs) : Calls Tryd.prog 21 #[.slice A xs.length c] w fun e w' => ∃ x, e = .returned x ∧ RB2 w.heap.size xs x w' ∧ Below w.heap.size w w' := by
  refine (raw_any A c xs w hl hA).mono fun _ _ ⟨B, d, ys, he, hy, hN, hb⟩ => ⟨_, he, ?_, hb⟩
  have hy := hy.out
  subst hy
  exact ⟨B, d, rfl, hN⟩
theorem info25z : ∃ ie, Tryd.prog.info? 25 = some ie ∧ ie.zero = some (.agg zer.toArray) ∧ ie.size = 4 := by
  have hi := info25
  cases hc : Tryd.prog.info? 25 with
  | none => rw [hc] at hi; simp at hi
  | some it =>
    rw [hc] at hi
    simp only [Option.map_some, Option.some.injEq, Prod.mk.injEq] at hi
    exact ⟨it, rfl, hi.1, hi.2.1⟩
section
variable {ops : Array Oper} {md : Region.Mode} {W : World} {a0 : Act} {n : Nat} {al : Nat → Bool} {S : Nat → Value → World → Prop} {Q : Exit → Act → World → Prop} {i : Nat} {o : Oper}
theorem run_two (w : World) (v0 v1 v2 v3 u0 u1 u2 u3 : Value) : (Instr.buildSlice 23 2 #[(0, .agg #[v0, v1, v2, v3]), (1, .agg #[u0, u1, u2, u3])]).run Tryd.prog w = .ok (.slice (some ⟨w.heap.size, 0, none⟩) 2 2) (w.alloc (.cells #[v0, v1, v2, v3, u0, u1, u2, u3] 25)) := by
  obtain ⟨ie, h1, h2, h3⟩ := info25z
  refine run_buildSlice w 23 25 2 _ _ ie _ Tryd.underlying23 h1 h2 (by rw [h3]; decide) (by rw [h3]; decide) ?_
  rw [h3]
  kernel_rfl
theorem step_two (hal : al i = false) (hg : GuardOn ops md n S i o) {x y : Operand} {v0 v1 v2 v3 u0 u1 u2 u3 : Value} (ho : o.op = .buildSlice 23 2 #[(0, x), (1, y)]) (hS : S i = SL2 W.heap.size [v0, v1, v2, v3, u0, u1, u2, u3]) (hx : Knows ops md W a0 n S i x (.agg #[v0, v1, v2, v3])) (hy : Knows ops md W a0 n S i y (.agg #[u0, u1, u2, u3])) : StepOk Tryd.prog ops md W a0 n al S Q i o := fun a w hw hf hd => by
  rw [if_pos (hg.wanted hd)]
  have h1 := hx a w hw hf hd
  have h2 := hy a w hw hf hd
  have hrun : (execOp a.eval o).run Tryd.prog w = .ok (.value (.slice (some ⟨w.heap.size, 0, none⟩) 2 2)) (w.alloc (.cells #[v0, v1, v2, v3, u0, u1, u2, u3] 25)) := by
    revert h1 h2
    generalize a.eval = ev
    intro h1 h2
    have h := run_two w v0 v1 v2 v3 u0 u1 u2 u3
    rw [← h1, ← h2] at h
    unfold execOp
    simp only [ho, Sem.run_bind]
    simp only [List.map_toArray, List.map_cons, List.map_nil, h, Result.andThen_ok, Sem.run_pure]
  unfold Oper.wp
  rw [hrun, Oper.upon_value]
  exact ⟨_, rfl, by rw [hS]; exact ⟨w.heap.size, rfl, Below.size hw, Row.made w [v0, v1, v2, v3, u0, u1, u2, u3] 25⟩, below_new _ _, fun e => by rw [hal] at e; cases e⟩
/-- The call of Of over it. -/
theorem step_of2 (hg : GuardOn ops md n S i o) {x : Operand} {ts : Array TypeId} {k m k' m' : Int} {b b' : List Int} {l l' : List V} {A B A' B' : Option Addr} {c d c' d' : Nat} (ho : o.op = .call { callee := .value (.func 19), args := #[x], argTypes := ts }) (h : Has W.heap.size W (.mk k m b l) A B) (h' : Has W.heap.size W (.mk k' m' b' l') A' B')
    (hS : S i = LB2 W.heap.size (cellsOf4 k m b l A B c d ++ cellsOf4 k' m' b' l' A' B' c' d')) (hx : KnowsS ops md W a0 n S i x (SL2 W.heap.size (cellsOf4 k m b l A B c d ++ cellsOf4 k' m' b' l' A' B' c' d'))) : StepOk Tryd.prog ops md W a0 n al S Q i o :=
  step_callH hg fun a w hw hf hd => by
    obtain ⟨g, e, h0, hr⟩ := hx a w hw hf hd
    refine ⟨19, #[.slice (some ⟨g, 0, none⟩) 2 2], ex_fn rfl cd19 ho _ (by rw [map1, e]) w, (of_two (h.stay hw) (h'.stay hw) hr).mono fun _ w' ⟨v, he, ht, hb⟩ => ⟨v, he, ?_, hb, fun _ q hq => ?_⟩⟩
    · obtain ⟨g', d1, e1, h1, h2, h3⟩ := ht
      rw [hS]; exact ⟨g', d1, e1, Nat.le_trans (Below.size hw) h1, h2, h3⟩
    · obtain ⟨g', d1, rfl, h1, h2, _⟩ := ht
      have hq' : some g' = some q := hq
      injection hq' with hq'
      subst hq'
      exact ⟨h1, h2⟩
theorem step_raw2 (hg : GuardOn ops md n S i o) {x : Operand} {ts : Array TypeId} {xs : List Int} {A : Option Addr} {c : Nat} (hal : al i = true → 0 < xs.length) (ho : o.op = .call { callee := .value (.func 21), args := #[x], argTypes := ts }) (hl : xs.length ≤ 2000000) (hA : Nums W .u8 A xs)
    (hS : S i = RB2 W.heap.size xs) (hx : Knows ops md W a0 n S i x (.slice A xs.length c)) : StepOk Tryd.prog ops md W a0 n al S Q i o :=
  step_callH hg fun a w hw hf hd => by
    refine ⟨21, #[.slice A xs.length c], ex_fn rfl cd21 ho _ (by rw [map1, hx a w hw hf hd]) w, (raw_two hl (hA.below hw)).mono fun _ w' ⟨v, he, ht, hb⟩ => ⟨v, he, ?_, hb, fun hi q hq => ?_⟩⟩
    · obtain ⟨B, d, e1, h1⟩ := ht
      rw [hS]; exact ⟨B, d, e1, h1.less (Below.size hw)⟩
    · obtain ⟨B, d, rfl, h1⟩ := ht
      obtain ⟨g, off, rfl, h2, h3, _⟩ := h1 (hal hi)
      have hq' : some g = some q := hq
      injection hq' with hq'
      subst hq'
      exact ⟨h2, h3⟩
theorem step_num (hal : al i = false) (hg : GuardOn ops md n S i o) {x : Operand} {ts : Array TypeId} {m : Int} (ho : o.op = .call { callee := .value (.func 20), args := #[x], argTypes := ts }) (hS : S i = Is (.agg #[.int .i64 1, .int .i64 m, .slice none 0 0, .slice none 0 0])) (hx : Knows ops md W a0 n S i x (.int .i64 m)) : StepOk Tryd.prog ops md W a0 n al S Q i o :=
  step_call hal hg fun a w hw hf hd => ⟨20, #[.int .i64 m], ex_fn rfl cd20 ho _ (by rw [map1, hx a w hw hf hd]) w, k_num.mono fun _ _ ⟨v, he, ht, hb⟩ => ⟨v, he, by rw [hS]; exact ht, hb⟩⟩
/-- An item of a list of two, and the struct there. -/
theorem step_ix0 (hal : al i = false) (hg : GuardOn ops md n S i o) {x : Operand} {g m : Nat} (ho : o.op = .indexAddr 23 x (.const (.int .i64 0))) (hS : S i = Is (.pointer (some ⟨g, 0, none⟩))) (hx : Knows ops md W a0 n S i x (.slice (some ⟨g, 0, none⟩) 2 m)) : StepOk Tryd.prog ops md W a0 n al S Q i o :=
  step_run hal hg fun a w hw hf hd => ⟨.pointer (some ⟨g, 0, none⟩), by
    have h := hx a w hw hf hd
    have hc : a.eval (.const (.int .i64 0)) = .int .i64 0 := rfl
    revert h hc
    generalize a.eval = ev
    intro h hc
    unfold execOp
    simp only [ho, h, hc]
    go_simp, by rw [hS]; exact rfl⟩
theorem step_ix1 (hal : al i = false) (hg : GuardOn ops md n S i o) {x : Operand} {g m : Nat} (ho : o.op = .indexAddr 23 x (.const (.int .i64 1))) (hS : S i = Is (.pointer (some ⟨g, 4, none⟩))) (hx : Knows ops md W a0 n S i x (.slice (some ⟨g, 0, none⟩) 2 m)) : StepOk Tryd.prog ops md W a0 n al S Q i o :=
  step_run hal hg fun a w hw hf hd => ⟨.pointer (some ⟨g, 4, none⟩), by
    have h := hx a w hw hf hd
    have hc : a.eval (.const (.int .i64 1)) = .int .i64 1 := rfl
    revert h hc
    generalize a.eval = ev
    intro h hc
    unfold execOp
    simp only [ho, h, hc]
    go_simp, by rw [hS]; exact rfl⟩
theorem step_loadAt (hal : al i = false) (hg : GuardOn ops md n S i o) {x : Operand} {g off : Nat} {cs : List Value} (h : W.rangeAt g off cs) (hlt : g < W.heap.size) (hl : cs.length = 4) (ho : o.op = .load 25 x) (hS : S i = Is (.agg cs.toArray)) (hx : Knows ops md W a0 n S i x (.pointer (some ⟨g, off, none⟩))) : StepOk Tryd.prog ops md W a0 n al S Q i o :=
  step_run hal hg fun a w hw hf hd => ⟨_, ex_load 25 x ho g off (hx a w hw hf hd) cs _ (fun j v hj => by rw [Below.cell hw (p := ⟨g, off + j, none⟩) hlt]; exact h j v hj) Tryd.underlying25 rfl (by rw [info25s, hl]), by rw [hS]; exact rfl⟩
theorem range_fst {w : World} {g : Nat} {v0 v1 v2 v3 u0 u1 u2 u3 : Value} (h : w.rangeAt g 0 [v0, v1, v2, v3, u0, u1, u2, u3]) : w.rangeAt g 0 [v0, v1, v2, v3] ∧ w.rangeAt g 4 [u0, u1, u2, u3] := by
  constructor
  · intro j v hj
    refine h j v ?_
    have hl := (List.getElem?_eq_some_iff.1 hj).1
    simp only [List.length_cons, List.length_nil] at hl
    have hc : j = 0 ∨ j = 1 ∨ j = 2 ∨ j = 3 := by omega
    rcases hc with e | e | e | e <;> subst e <;> exact hj
  · intro j v hj
    have hl := (List.getElem?_eq_some_iff.1 hj).1
    simp only [List.length_cons, List.length_nil] at hl
    have h2 := h (4 + j) v (by
      have hc : j = 0 ∨ j = 1 ∨ j = 2 ∨ j = 3 := by omega
      rcases hc with e | e | e | e <;> subst e <;> exact hj)
    rwa [Nat.zero_add] at h2
end
theorem nums_past {w : World} {k : IntKind} {A : Option Addr} {xs : List Int} (h : Nums w k A xs) {b : Nat} (vs : List Value) (hb : 0 < xs.length → ∀ g o s, A = some ⟨g, o, s⟩ → b ≠ g) : Nums (w.setCells b 0 vs) k A xs := fun hp => by
  obtain ⟨g, off, e, hlt, hc⟩ := h hp
  have hne := hb hp g off none e
  refine ⟨g, off, e, by rw [cells_size]; exact hlt, fun i hi => ?_⟩
  rw [World.cell?_setCells_out b vs 0 w ⟨g, off + i, none⟩ (fun e2 _ => absurd e2.symm hne)]
  exact hc i hi
theorem below_cells {B : Nat} {a w : World} (h : Below B a w) {g : Nat} (hg : B ≤ g) (o : Nat) (vs : List Value) : Below B a (w.setCells g o vs) := by
  have hf := cells_frame g vs o w
  exact ⟨hf.1.trans h.os, hf.2.1.trans h.tape, hf.2.2.1.trans h.output, by rw [hf.2.2.2.1]; exact h.size, fun k hk => (hf.2.2.2.2 k (by omega)).trans (h.block k hk)⟩
end Go.Proofs.YtcahcecohjohpaaDoor
