/- Texts of this proof, laid together: Rat, Early, SwapR, Clamp, Step, LadMath. -/
import Derived.Test.YtoncinbohfmciaaSwap
import Derived.Test.YtoncinbohfmciaaSpec2
/- Points as ratios of elements: a row of 32 cells, the first half above the second. -/
namespace Go.Proofs.Ytoncinbohfmciaa
open Go Go.RowKit

theorem len16 {l : List Int} (h : l.length = 16) : ∃ a0 a1 a2 a3 a4 a5 a6 a7 a8 a9 a10 a11 a12 a13 a14 a15 : Int, l = [a0, a1, a2, a3, a4, a5, a6, a7, a8, a9, a10, a11, a12, a13, a14, a15] := by
  refine ⟨l.getD 0 0, l.getD 1 0, l.getD 2 0, l.getD 3 0, l.getD 4 0, l.getD 5 0, l.getD 6 0, l.getD 7 0, l.getD 8 0, l.getD 9 0, l.getD 10 0, l.getD 11 0, l.getD 12 0, l.getD 13 0, l.getD 14 0, l.getD 15 0, List.ext_getElem? fun i => ?_⟩
  by_cases hi : i < 16
  · have : i = 0 ∨ i = 1 ∨ i = 2 ∨ i = 3 ∨ i = 4 ∨ i = 5 ∨ i = 6 ∨ i = 7 ∨ i = 8 ∨ i = 9 ∨ i = 10 ∨ i = 11 ∨ i = 12 ∨ i = 13 ∨ i = 14 ∨ i = 15 := by omega
    rcases this with e | e | e | e | e | e | e | e | e | e | e | e | e | e | e | e <;> subst e <;> exact getD_some (by omega)
  · rw [List.getElem?_eq_none (by omega), List.getElem?_eq_none (by simp; omega)]
theorem built45 {x z : List Int} (hx : x.length = 16) (hz : z.length = 16) : Try.prog.built 45 [(0, .agg (ints .i64 x).toArray), (1, .agg (ints .i64 z).toArray)] = some (ints .i64 (x ++ z)).toArray := by
  obtain ⟨a0, a1, a2, a3, a4, a5, a6, a7, a8, a9, a10, a11, a12, a13, a14, a15, rfl⟩ := len16 hx
  obtain ⟨b0, b1, b2, b3, b4, b5, b6, b7, b8, b9, b10, b11, b12, b13, b14, b15, rfl⟩ := len16 hz
  kernel_rfl
theorem built45o {x : List Int} (hx : x.length = 16) : Try.prog.built 45 [(0, .agg (ints .i64 x).toArray)] = some (ints .i64 (x ++ zeros 16)).toArray := by
  obtain ⟨a0, a1, a2, a3, a4, a5, a6, a7, a8, a9, a10, a11, a12, a13, a14, a15, rfl⟩ := len16 hx
  kernel_rfl
theorem inf45 : (Try.prog.info? 45).map (fun i => (i.zero, i.size)) = some (some (.agg (ints .i64 (zeros 32)).toArray), 32) := by kernel_rfl
theorem l45 {q : List Int} (h : q.length = 32) : (Try.prog.info? 45).map (·.size) = some (ints .i64 q).length := (siz inf45 h).1
theorem a45 {q : List Int} (h : q.length = 32) : (Try.prog.info? 45).map (·.size) = some (ints .i64 q).toArray.size := (siz inf45 h).2

/-- A box of a ratio. -/
def B2 (w : World) (b : Nat) (l : List Int) : Prop := Arr w b 0 .i64 l ∧ l.length = 32
section
variable {w w' : World} {b : Nat} {l : List Int}
theorem B2.lt (h : B2 w b l) : b < w.heap.size := h.1.lt (by rw [h.2]; omega)
theorem B2.next (h : B2 w b l) (hb : Below w.heap.size w w') : B2 w' b l := ⟨h.1.below hb h.lt, h.2⟩
theorem B2.range (h : B2 w b l) : w.rangeAt b 0 (ints .i64 l) := h.1.range
theorem B2.room (h : B2 w b l) {l' : List Int} (e : l'.length = 32) : w.there b 0 (ints .i64 l').toArray.size := h.1.room (by rw [e, h.2])
theorem B2.stored (h : B2 w b l) {l' : List Int} (e : l'.length = 32) : B2 (w.setCells b 0 (ints .i64 l').toArray.toList) b l' := ⟨h.1.stored (by rw [e, h.2]), e⟩
theorem B2.past (h : B2 w b l) {b' : Nat} (vs : List Value) (hb : b' ≠ b) : B2 (w.setCells b' 0 vs) b l := ⟨h.1.past vs (.inl hb), h.2⟩
theorem B2.new (w : World) (l : List Int) (h : l.length = 32) : B2 (w.alloc (.cells (ints .i64 l).toArray 45)) w.heap.size l := ⟨Arr.made w .i64 l 45, h⟩
/-- Its two parts. -/
theorem B2.fst {x z : List Int} (h : B2 w b (x ++ z)) (_ : x.length = 16) : Arr w b 0 .i64 x := fun i v hi => by
  have hl := (List.getElem?_eq_some_iff.1 hi).1
  exact h.1 i v (by rw [List.getElem?_append_left hl]; exact hi)
theorem B2.snd {x z : List Int} (h : B2 w b (x ++ z)) (hx : x.length = 16) : Arr w b 16 .i64 z := fun i v hi => by
  have h1 := h.1 (16 + i) v (by rw [List.getElem?_append_right (by omega), hx, Nat.add_sub_cancel_left]; exact hi)
  rwa [Nat.zero_add] at h1
end
theorem len32 {x z : List Int} (hx : x.length = 16) (hz : z.length = 16) : (x ++ z).length = 32 := by simp [hx, hz]
theorem over_fst {x z y : List Int} (hx : x.length = 16) (hy : y.length = 16) : over (x ++ z) 0 y = y ++ z := by simp [over, hx, hy]
theorem over_snd {x z y : List Int} (hx : x.length = 16) (hz : z.length = 16) (hy : y.length = 16) : over (x ++ z) 16 y = x ++ y := by simp [over, hx, hz, hy]
theorem B2.put1 {w : World} {b : Nat} {x z y : List Int} (h : B2 w b (x ++ z)) (hx : x.length = 16) (hy : y.length = 16) : B2 (w.setCells b 0 (ints .i64 y).toArray.toList) b (y ++ z) := by
  have hl := h.2
  rw [List.length_append, hx] at hl
  have h1 := h.1.over (j := 0) (ys := y) (by rw [h.2]; omega)
  rw [over_fst hx hy] at h1
  exact ⟨h1, by rw [List.length_append]; omega⟩
theorem B2.put2 {w : World} {b : Nat} {x z y : List Int} (h : B2 w b (x ++ z)) (hx : x.length = 16) (hy : y.length = 16) : B2 (w.setCells b 16 (ints .i64 y).toArray.toList) b (x ++ y) := by
  have hl := h.2
  rw [List.length_append, hx] at hl
  have h1 := h.1.over (j := 16) (ys := y) (by rw [h.2]; omega)
  rw [over_snd hx (by omega) hy, Nat.zero_add] at h1
  exact ⟨h1, by rw [List.length_append]; omega⟩
theorem B2.pastAt {w : World} {b : Nat} {l : List Int} (h : B2 w b l) {b' : Nat} (o : Nat) (vs : List Value) (hb : b' ≠ b) : B2 (w.setCells b' o vs) b l := ⟨h.1.past vs (.inl hb), h.2⟩
def IsZ2 (base : Nat) : Value → World → Prop := fun v w => ∃ b, v = .pointer (some ⟨b, 0, none⟩) ∧ base ≤ b ∧ B2 w b (zeros 32)
theorem IsZ2.grows (base : Nat) : Grows (IsZ2 base) := fun _ _ _ ⟨b, h1, h0, h2⟩ hb => ⟨b, h1, h0, h2.next hb⟩
def IsZ22 (base : Nat) : Value → World → Prop := fun v w => ∃ b, v = .pointer (some ⟨b, 0, none⟩) ∧ base ≤ b ∧ By w b (zeros 32)
theorem IsZ22.grows (base : Nat) : Grows (IsZ22 base) := fun _ _ _ ⟨b, h1, h0, h2⟩ hb => ⟨b, h1, h0, h2.next hb⟩
section
variable {ops : Array Oper} {md : Region.Mode} {W : World} {a0 : Act} {n : Nat} {al : Nat → Bool} {S : Nat → Value → World → Prop} {Q : Exit → Act → World → Prop} {i : Nat} {o : Oper} {b : Nat} {l : List Int}
theorem alloc45 (ev : Operand → Value) (o : Oper) (ho : o.op = .alloc 45) (w : World) : (execOp ev o).run Try.prog w = .ok (.value (.pointer (some ⟨w.heap.size, 0, none⟩))) (w.alloc (.cells (ints .i64 (zeros 32)).toArray 45)) := by
  obtain ⟨z, s⟩ := zero_of_info inf45
  unfold execOp
  simp only [ho]
  go_simp
theorem alloc22 (ev : Operand → Value) (o : Oper) (ho : o.op = .alloc 22) (w : World) : (execOp ev o).run Try.prog w = .ok (.value (.pointer (some ⟨w.heap.size, 0, none⟩))) (w.alloc (.cells (ints .u8 (zeros 32)).toArray 22)) := by
  obtain ⟨z, s⟩ := zero_of_info inf22
  unfold execOp
  simp only [ho]
  go_simp
theorem step_alloc45 (hg : GuardOn ops md n S i o) (ho : o.op = .alloc 45) (hS : S i = IsZ2 W.heap.size) : StepOk Try.prog ops md W a0 n al S Q i o :=
  step_alloc hg (fun ev w => alloc45 ev o ho w) fun w hw => by rw [hS]; exact ⟨w.heap.size, rfl, Below.size hw, B2.new w _ (zeros_len 32)⟩
theorem step_alloc22 (hg : GuardOn ops md n S i o) (ho : o.op = .alloc 22) (hS : S i = IsZ22 W.heap.size) : StepOk Try.prog ops md W a0 n al S Q i o :=
  step_alloc hg (fun ev w => alloc22 ev o ho w) fun w hw => by rw [hS]; exact ⟨w.heap.size, rfl, Below.size hw, By.new w _ (zeros_len 32)⟩
theorem step_rat (hal : al i = false) (hg : GuardOn ops md n S i o) (h : B2 W b l) (t : Tmp) (ho : o.op = .load 45 (.tmp t)) (hB : notDst ops n t = true) (hx : a0.eval (.tmp t) = .pointer (some ⟨b, 0, none⟩)) (hS : S i = Is (.agg (ints .i64 l).toArray)) : StepOk Try.prog ops md W a0 n al S Q i o :=
  step_run hal hg fun a w hw hf _ => ⟨_, ex_load 45 (.tmp t) ho b 0 ((eval_out hf t hB).trans hx) (ints .i64 l) _ (h.next hw).range Try.underlying45 rfl (l45 h.2), by rw [hS]; exact rfl⟩
theorem step_fa0 (hal : al i = false) (hg : GuardOn ops md n S i o) {x : Operand} (ho : o.op = .fieldAddr 45 x 0) (hS : S i = Is (.pointer (some ⟨b, 0, none⟩))) (hk : Knows ops md W a0 n S i x (.pointer (some ⟨b, 0, none⟩))) : StepOk Try.prog ops md W a0 n al S Q i o :=
  step_run hal hg fun a w hw hf hd => ⟨.pointer (some ⟨b, 0, none⟩), by
    have h := hk a w hw hf hd
    revert h
    generalize a.eval = ev
    intro h
    unfold execOp
    simp only [ho, h]
    go_simp, by rw [hS]; exact rfl⟩
theorem step_fa1 (hal : al i = false) (hg : GuardOn ops md n S i o) {x : Operand} (ho : o.op = .fieldAddr 45 x 1) (hS : S i = Is (.pointer (some ⟨b, 16, none⟩))) (hk : Knows ops md W a0 n S i x (.pointer (some ⟨b, 0, none⟩))) : StepOk Try.prog ops md W a0 n al S Q i o :=
  step_run hal hg fun a w hw hf hd => ⟨.pointer (some ⟨b, 16, none⟩), by
    have h := hk a w hw hf hd
    revert h
    generalize a.eval = ev
    intro h
    unfold execOp
    simp only [ho, h]
    go_simp, by rw [hS]; exact rfl⟩
/-- A part of a box that is known. -/
theorem step_part (hal : al i = false) (hg : GuardOn ops md n S i o) {x : Operand} {f : Nat} (h : Arr W b f .i64 l) (hl : l.length = 16) (ho : o.op = .load 41 x) (hS : S i = Is (.agg (ints .i64 l).toArray)) (hk : Knows ops md W a0 n S i x (.pointer (some ⟨b, f, none⟩))) : StepOk Try.prog ops md W a0 n al S Q i o :=
  step_run hal hg fun a w hw hf hd => ⟨_, ex_load 41 x ho b f (hk a w hw hf hd) (ints .i64 l) _ (h.below hw (h.lt (by omega))).range Try.underlying41 rfl (l26 hl), by rw [hS]; exact rfl⟩
theorem step_make (hal : al i = false) (hg : GuardOn ops md n S i o) {x y : Operand} {u v : List Int} (ho : o.op = .build 45 #[(0, x), (1, y)]) (hu : u.length = 16) (hv : v.length = 16) (hS : S i = Is (.agg (ints .i64 (u ++ v)).toArray)) (hx : Knows ops md W a0 n S i x (.agg (ints .i64 u).toArray)) (hy : Knows ops md W a0 n S i y (.agg (ints .i64 v).toArray)) : StepOk Try.prog ops md W a0 n al S Q i o :=
  step_run hal hg fun a w hw hf hd => ⟨.agg (ints .i64 (u ++ v)).toArray, by
    have h1 := hx a w hw hf hd
    have h2 := hy a w hw hf hd
    revert h1 h2
    generalize a.eval = ev
    intro h1 h2
    have h := run_build (P := Try.prog) w 45 #[(0, ev x), (1, ev y)] _ (by rw [h1, h2]; exact built45 hu hv)
    unfold execOp
    simp only [ho, Sem.run_bind]
    simp only [List.map_toArray, List.map_cons, List.map_nil, h, Result.andThen_ok, Sem.run_pure], by rw [hS]; exact rfl⟩
theorem step_make1 (hal : al i = false) (hg : GuardOn ops md n S i o) {x : Operand} {u : List Int} (ho : o.op = .build 45 #[(0, x)]) (hu : u.length = 16) (hS : S i = Is (.agg (ints .i64 (u ++ zeros 16)).toArray)) (hx : Knows ops md W a0 n S i x (.agg (ints .i64 u).toArray)) : StepOk Try.prog ops md W a0 n al S Q i o :=
  step_run hal hg fun a w hw hf hd => ⟨.agg (ints .i64 (u ++ zeros 16)).toArray, by
    have h1 := hx a w hw hf hd
    revert h1
    generalize a.eval = ev
    intro h1
    have h := run_build (P := Try.prog) w 45 #[(0, ev x)] _ (by rw [h1]; exact built45o hu)
    unfold execOp
    simp only [ho, Sem.run_bind]
    simp only [List.map_toArray, List.map_cons, List.map_nil, h, Result.andThen_ok, Sem.run_pure], by rw [hS]; exact rfl⟩
/-- A call without operands. -/
theorem step_to0 (hal : al i = false) (hg : GuardOn ops md n S i o) {f : FuncId} {ts : Array TypeId} {v : Value} (ho : o.op = .call { callee := .value (.func f), args := #[], argTypes := ts }) (hcf : ∀ vs w, (callFunc f vs).run Try.prog w = .ok (.enter f vs) w)
    (hc : CallsTo f #[] v) (hS : S i = Is v) : StepOk Try.prog ops md W a0 n al S Q i o :=
  step_to hal hg ho hcf hc hS fun _ _ _ _ _ => by simp
theorem three_args {x y z : Operand} {u v t : Value} (hx : Knows ops md W a0 n S i x u) (hy : Knows ops md W a0 n S i y v) (hz : Knows ops md W a0 n S i z t) : ∀ (a : Act) (w : World), Cl W w → Fr ops n a0 a → Dp ops md n S i a w → #[x, y, z].map a.eval = #[u, v, t] := fun a w hw hf hd => by
  have e : #[x, y, z].map a.eval = #[a.eval x, a.eval y, a.eval z] := by simp
  rw [e, hx a w hw hf hd, hy a w hw hf hd, hz a w hw hf hd]
end
theorem By.room {w : World} {b : Nat} {l : List Int} (h : By w b l) {l' : List Int} (e : l'.length = 32) : w.there b 0 (ints .u8 l').toArray.size := h.1.room (by rw [e, h.2])
theorem By.stored {w : World} {b : Nat} {l : List Int} (h : By w b l) {l' : List Int} (e : l'.length = 32) : By (w.setCells b 0 (ints .u8 l').toArray.toList) b l' := ⟨h.1.stored (by rw [e, h.2]), e⟩
/-- Two loads and two stores: return a, b. -/
theorem two_out {ops : Array Oper} {md : Region.Mode} {Q : Exit → Act → World → Prop} {a : Act} {w : World} (o0 o1 o2 o3 : Oper) (h0 : ops[0]? = some o0) (h1 : ops[1]? = some o1) (h2 : ops[2]? = some o2) (h3 : ops[3]? = some o3)
    (g0 : o0.guard = none) (g1 : o1.guard = none) (g2 : o2.guard = none) (g3 : o3.guard = none)
    (r0 : Region.ready md ops #[false, false, false, false] = [0, 1]) (r1 : Region.ready md ops #[true, false, false, false] = [1, 2]) (r2 : Region.ready md ops #[true, true, false, false] = [2]) (r3 : Region.ready md ops #[true, false, true, false] = [1])
    (r4 : Region.ready md ops #[true, true, true, false] = [3]) (r5 : Region.ready md ops #[false, true, false, false] = [0]) (r6 : Region.ready md ops #[true, true, true, true] = [])
    (p q x y dx dy : Tmp) (ty : TypeId) (e0 : o0.op = .load ty (.tmp x)) (e1 : o1.op = .load ty (.tmp y)) (e2 : o2.op = .store ty (.tmp p) (.tmp dx)) (e3 : o3.op = .store ty (.tmp q) (.tmp dy)) (d0 : o0.dst = some dx) (d1 : o1.dst = some dy) (d2 : o2.dst = none) (d3 : o3.dst = none)
    (bp bq bx by_ : Nat) (k : IntKind) (l m l0 m0 : List Int) (hx : Arr w bx 0 k l) (hy : Arr w by_ 0 k m) (hp : Arr w bp 0 k l0) (hq : Arr w bq 0 k m0) (ll : l.length = l0.length) (lm : m.length = m0.length) (npy : bp ≠ by_) (npq : bp ≠ bq)
    (d : TypeDesc) (hu : Try.prog.underlying ty = some d) (hr : d.isRow = true) (hil : (Try.prog.info? ty).map (·.size) = some (ints k l).length) (him : (Try.prog.info? ty).map (·.size) = some (ints k m).length)
    (ap : a.eval (.tmp p) = .pointer (some ⟨bp, 0, none⟩)) (aq : a.eval (.tmp q) = .pointer (some ⟨bq, 0, none⟩)) (ax : a.eval (.tmp x) = .pointer (some ⟨bx, 0, none⟩)) (ay : a.eval (.tmp y) = .pointer (some ⟨by_, 0, none⟩))
    (nx : dx < a.tmps.size) (ny : dy < a.tmps.size) (n1 : dx ≠ dy) (n2 : dx ≠ p) (n3 : dx ≠ q) (n4 : dx ≠ y) (n5 : dy ≠ p) (n6 : dy ≠ q) (n7 : dy ≠ x)
    (h : ∀ w', Arr w' bp 0 k l → Arr w' bq 0 k m → w' = (w.setCells bp 0 (ints k l)).setCells bq 0 (ints k m) → Q .normal ((a.put (some dx) (.agg (ints k l).toArray)).put (some dy) (.agg (ints k m).toArray)) w') :
    wpAny Try.prog md ops Q 4 #[false, false, false, false] a w := by
  have il : (Try.prog.info? ty).map (·.size) = some (ints k l).toArray.size := by simpa using hil
  have im : (Try.prog.info? ty).map (·.size) = some (ints k m).toArray.size := by simpa using him
  have put_same : ∀ (a : Act) (d : Tmp) (v : Value), d < a.tmps.size → (a.put (some d) v).eval (.tmp d) = v := fun a d v h1 => by simp [Act.put, Act.eval, Array.getD, h1]
  have put_other : ∀ (a : Act) (d t : Tmp) (v : Value), d ≠ t → (a.put (some d) v).eval (.tmp t) = a.eval (.tmp t) := fun a d t v hne => by
    simp only [Act.put, Act.eval, Array.getD_eq_getD_getElem?]
    rw [Array.getElem?_setIfInBounds_ne hne]
  have put_size : ∀ (a : Act) (d : Tmp) (v : Value), (a.put (some d) v).tmps.size = a.tmps.size := fun a d v => by simp [Act.put]
  have put_comm : ((a.put (some dy) (.agg (ints k m).toArray)).put (some dx) (.agg (ints k l).toArray)) = ((a.put (some dx) (.agg (ints k l).toArray)).put (some dy) (.agg (ints k m).toArray)) := by
    simp only [Act.put]
    rw [Array.setIfInBounds_comm _ _ (Ne.symm n1)]
  have hpr : w.there bp 0 (ints k l).toArray.size := hp.room ll
  have hp1 := hp.stored ll
  have hq1 := hq.past (b' := bp) (o' := 0) (ints k l).toArray.toList (.inl npq)
  have hy1 := hy.past (b' := bp) (o' := 0) (ints k l).toArray.toList (.inl npy)
  have hqr : (w.setCells bp 0 (ints k l).toArray.toList).there bq 0 (ints k m).toArray.size := hq1.room lm
  have hp2 := hp1.past (b' := bq) (o' := 0) (ints k m).toArray.toList (.inl (Ne.symm npq))
  have hq2 := hq1.stored lm
  have fin := h _ hp2 hq2 rfl
  have L0 : ∀ ev : Operand → Value, ev (.tmp x) = .pointer (some ⟨bx, 0, none⟩) → (execOp ev o0).run Try.prog w = .ok (.value (.agg (ints k l).toArray)) w := fun ev hev => ex_load ty (.tmp x) e0 bx 0 hev (ints k l) _ hx.range hu hr hil
  have L1 : ∀ ev : Operand → Value, ev (.tmp y) = .pointer (some ⟨by_, 0, none⟩) → (execOp ev o1).run Try.prog w = .ok (.value (.agg (ints k m).toArray)) w := fun ev hev => ex_load ty (.tmp y) e1 by_ 0 hev (ints k m) _ hy.range hu hr him
  have L1' : ∀ ev : Operand → Value, ev (.tmp y) = .pointer (some ⟨by_, 0, none⟩) → (execOp ev o1).run Try.prog (w.setCells bp 0 (ints k l).toArray.toList) = .ok (.value (.agg (ints k m).toArray)) (w.setCells bp 0 (ints k l).toArray.toList) := fun ev hev => ex_load ty (.tmp y) e1 by_ 0 hev (ints k m) _ hy1.range hu hr him
  have A1 : ∀ v, (a.put (some dx) v).eval (.tmp y) = .pointer (some ⟨by_, 0, none⟩) := fun v => (put_other a dx y v n4).trans ay
  have A2 : ∀ v, (a.put (some dx) v).eval (.tmp p) = .pointer (some ⟨bp, 0, none⟩) := fun v => (put_other a dx p v n2).trans ap
  have A3 : ∀ v u, ((a.put (some dx) v).put (some dy) u).eval (.tmp p) = .pointer (some ⟨bp, 0, none⟩) := fun v u => (put_other _ dy p u n5).trans (A2 v)
  have A4 : ∀ v u, ((a.put (some dx) v).put (some dy) u).eval (.tmp dx) = v := fun v u => (put_other _ dy dx u (Ne.symm n1)).trans (put_same a dx v nx)
  have A5 : ∀ v u, ((a.put (some dx) v).put (some dy) u).eval (.tmp q) = .pointer (some ⟨bq, 0, none⟩) := fun v u => ((put_other _ dy q u n6).trans (put_other a dx q v n3)).trans aq
  have A6 : ∀ v u, ((a.put (some dx) v).put (some dy) u).eval (.tmp dy) = u := fun v u => put_same _ dy u (by rw [put_size]; exact ny)
  have A7 : ∀ v, (a.put (some dy) v).eval (.tmp x) = .pointer (some ⟨bx, 0, none⟩) := fun v => (put_other a dy x v n7).trans ax
  refine any2 (i := 0) (k := 1) r0 ?_ ?_
  · refine op_val h0 g0 (L0 _ ax) ?_
    rw [d0]
    refine any2 (i := 1) (k := 2) r1 ?_ ?_
    · refine op_val h1 g1 (L1 _ (A1 _)) ?_
      rw [d1]
      refine any1 (i := 2) r2 (op_store h2 g2 ty _ _ e2 bp _ (A3 _ _) (A4 _ _) hpr il (ints_all _ _) ?_)
      rw [d2]
      refine any1 (i := 3) r4 (op_store h3 g3 ty _ _ e3 bq _ (A5 _ _) (A6 _ _) hqr im (ints_all _ _) ?_)
      rw [d3]
      exact any0 r6 fin
    · refine op_store h2 g2 ty _ _ e2 bp _ (A2 _) (put_same a dx _ nx) hpr il (ints_all _ _) ?_
      rw [d2]
      refine any1 (i := 1) r3 (op_val h1 g1 (L1' _ (A1 _)) ?_)
      rw [d1]
      refine any1 (i := 3) r4 (op_store h3 g3 ty _ _ e3 bq _ (A5 _ _) (A6 _ _) hqr im (ints_all _ _) ?_)
      rw [d3]
      exact any0 r6 fin
  · refine op_val h1 g1 (L1 _ ay) ?_
    rw [d1]
    refine any1 (i := 0) r5 (op_val h0 g0 (L0 _ (A7 _)) ?_)
    rw [d0, put_comm]
    refine any1 (i := 2) r2 (op_store h2 g2 ty _ _ e2 bp _ (A3 _ _) (A4 _ _) hpr il (ints_all _ _) ?_)
    rw [d2]
    refine any1 (i := 3) r4 (op_store h3 g3 ty _ _ e3 bq _ (A5 _ _) (A6 _ _) hqr im (ints_all _ _) ?_)
    rw [d3]
    exact any0 r6 fin
theorem cf24 (vs : Array Value) (w : World) : (callFunc 24 vs).run Try.prog w = .ok (.enter 24 vs) w := by go_simp
theorem cf25s (vs : Array Value) (w : World) : (callFunc 25 vs).run Try.prog w = .ok (.enter 25 vs) w := by go_simp
theorem cf35 (vs : Array Value) (w : World) : (callFunc 35 vs).run Try.prog w = .ok (.enter 35 vs) w := by go_simp
end Go.Proofs.Ytoncinbohfmciaa

/- A region that draws its order, in which the first of the stores may come up before some operations of the head that only read. No program is named. -/
namespace Go.Proofs.Ytoncinbohfmciaa
open Go Go.RowKit

section
variable {P : Program} {ops : Array Oper} {md : Region.Mode} {W : World} {a0 : Act} {n : Nat} {al : Nat → Bool} {S : Nat → Value → World → Prop}
theorem St.next {M : Nat} {listed : Array Bool} {a : Act} {w : World} {i : Nat} {o : Oper} (hdst : dstB ops n M = true) (hM : M ≤ a0.tmps.size)
    (mono : ∀ i v w w', S i v w → Below w.heap.size w w' → S i v w') (st : St ops W a0 n al S listed a w) (hin : i < n) (ho : ops[i]? = some o) (hil : i < listed.size)
    (v : Value) (hv : S i v w) (hna : al i = false) : St ops W a0 n al S (listed.setIfInBounds i true) (a.put o.dst v) w := by
  obtain ⟨d, hd, hdl, hdu⟩ := dst_spec hdst hM i hin
  have hod : o.dst = some d := by unfold dstOf at hd; rw [ho] at hd; exact hd
  have hset : ∀ j, (listed.setIfInBounds i true).getD j false = true → j = i ∨ listed.getD j false = true := fun j hj => by
    by_cases e : i = j
    · exact .inl e.symm
    · rw [getD_set_ne false e] at hj; exact .inr hj
  rw [hod]
  have same : (a.put (some d) v).eval (.tmp d) = v := by
    have h1 : d < a.tmps.size := by rw [st.size]; exact hdl
    simp [Act.put, Act.eval, Array.getD, h1]
  have other : ∀ dj, d ≠ dj → (a.put (some d) v).eval (.tmp dj) = a.eval (.tmp dj) := fun dj hne => by
    simp only [Act.put, Act.eval, Array.getD_eq_getD_getElem?]
    rw [Array.getElem?_setIfInBounds_ne hne]
  have dne : ∀ j dj, j < n → j ≠ i → dstOf ops j = some dj → d ≠ dj := fun j dj hj e hdj e2 => e (hdu j hj (by rw [hdj, e2])).symm
  have hni : ∀ j, al j = true → j ≠ i := fun j hj e => by rw [e, hna] at hj; cases hj
  refine ⟨st.cl, st.df, by simp [Act.put, st.size], fun t ht => ?_, fun j hj hlj dj hdj => ?_, fun j hj hlj hja dj hdj => ?_, fun j k hj hk hlj hlk hja hka hjk dj dk hdj hdk => ?_⟩
  · have hne : d ≠ t := fun e => ht i hin (by simp [hil]) (by rw [hd, e])
    show (a.tmps.setIfInBounds d v)[t]? = _
    rw [Array.getElem?_setIfInBounds_ne hne]
    exact st.frame t fun k hk hlk => ht k hk (getD_set_true hlk)
  · by_cases e : j = i
    · subst e
      obtain rfl : dj = d := Option.some.inj (hdj.symm.trans hd)
      rw [same]; exact hv
    · rw [other dj (dne j dj hj e hdj)]
      exact mono _ _ _ _ (st.vals j hj ((hset j hlj).resolve_left e) dj hdj) (Below.refl _ _)
  · have e := hni j hja
    rw [other dj (dne j dj hj e hdj)]
    exact st.laid j hj ((hset j hlj).resolve_left e) hja dj hdj
  · have e := hni j hja
    have e2 := hni k hka
    rw [other dj (dne j dj hj e hdj), other dk (dne k dk hk e2 hdk)]
    exact st.apart j k hj hk ((hset j hlj).resolve_left e) ((hset k hlk).resolve_left e2) hja hka hjk dj dk hdj hdk

/-- All that the kernel has to look at. -/
def earlyB (md : Region.Mode) (ops : Array Oper) (n M : Nat) : Bool :=
  decide (n + 1 < ops.size) && Region.chainB md ops n && backB md ops && dstB ops n M && Region.seqB md ops (ops.size - n) n (headArr n ops.size) && (List.range n).all (fun i => Region.waitsFor md ops (n + 1) i)
/-- An operation that may come up behind the store: it only reads. -/
def Free (P : Program) (ops : Array Oper) (md : Region.Mode) (W : World) (a0 : Act) (n : Nat) (S : Nat → Value → World → Prop) (i : Nat) (o : Oper) : Prop :=
  o.guard = none ∧ ∀ a w, Cl W w → Fr ops n a0 a → Dp ops md n S i a w → ∃ v, (execOp a.eval o).run P w = .ok (.value v) w ∧ ∀ w', S i v w'

theorem chain_waits {t : Nat} (hc : Region.chainB md ops n = true) (ht : n < t) (hts : t < ops.size) : Region.waitsFor md ops t (t - 1) = true := by
  have h := List.all_eq_true.1 hc t (List.mem_range.2 hts)
  simp only [Bool.or_eq_true, decide_eq_true_eq] at h
  rcases h with h | h
  · omega
  · exact h
theorem ready_waits {listed : Array Bool} {i j : Nat} (hi : i ∈ Region.ready md ops listed) (hw : Region.waitsFor md ops i j = true) : listed.getD j false = true := by
  obtain ⟨_, o, ho, hall⟩ := mem_ready.1 hi
  obtain ⟨o', ho', e, he, hb, hon⟩ := Region.waitsFor_spec hw
  obtain rfl : o' = o := Option.some.inj (ho'.symm.trans ho)
  rw [← hon]; exact hall e he hb

theorem spec_early {Q : Exit → Act → World → Prop} {M : Nat} {l : List Oper} (hl : ops = l.toArray) (hB : earlyB md ops n M = true) (hM : M ≤ a0.tmps.size)
    (mono : ∀ i v w w', S i v w → Below w.heap.size w w' → S i v w') (hst : ∀ i o, i < n → ops[i]? = some o → StepOk P ops md W a0 n al S Q i o)
    (ty : TypeId) (tp tv : Tmp) (cells : Array Value) (on : Oper) (hon : ops[n]? = some on) (hop : on.op = .store ty (.tmp tp) (.tmp tv)) (hg : on.guard = none) (hd : on.dst = none)
    (ip iv : Nat) (hip : ip < n) (hiv : iv < n) (hdp : dstOf ops ip = some tp) (hdv : dstOf ops iv = some tv) (hwp : Region.waitsFor md ops n ip = true) (hwv : Region.waitsFor md ops n iv = true)
    (hSp : ∀ v w, S ip v w → ∃ b, v = .pointer (some ⟨b, 0, none⟩) ∧ W.heap.size ≤ b ∧ w.there b 0 cells.size) (hSv : ∀ v w, S iv v w → v = .agg cells)
    (hi : (P.info? ty).map (·.size) = some cells.size) (h1 : cells.all (·.oneCell') = true)
    (hfree : ∀ i o, i < n → ops[i]? = some o → Region.waitsFor md ops n i = false → al i = false ∧ Free P ops md W a0 n S i o)
    (hstill : ∀ i j, i < n → j < n → Region.waitsFor md ops n i = false → Region.waitsFor md ops i j = true → ∀ v w w', S j v w → S j v w')
    (hend : ∀ a w b, St ops W a0 n al S (headArr n ops.size) a w → a.eval (.tmp tp) = .pointer (some ⟨b, 0, none⟩) → W.heap.size ≤ b → wpList P ops Q (l.drop (n + 1)) a (w.setCells b 0 cells.toList)) :
    ∀ (F : Nat) (listed : Array Bool) (a : Act) (w : World), lacking listed.toList = F →
      ((HInv md ops 0 n listed ∧ St ops W a0 n al S listed a w) ∨
       (∃ listed0 w0 b, listed = listed0.setIfInBounds n true ∧ HInv md ops 0 n listed0 ∧ St ops W a0 n al S listed0 a w0 ∧ (∀ j, Region.waitsFor md ops n j = true → listed0.getD j false = true) ∧ a.eval (.tmp tp) = .pointer (some ⟨b, 0, none⟩) ∧ W.heap.size ≤ b ∧ w = w0.setCells b 0 cells.toList)) →
      wpAny P md ops Q F listed a w := by
  simp only [earlyB, Bool.and_eq_true, decide_eq_true_eq] at hB
  obtain ⟨⟨⟨⟨⟨hn, hc⟩, hback⟩, hdst⟩, hseq⟩, hsink⟩ := hB
  have hseq2 : Region.seqB md ops (ops.size - (n + 1)) (n + 1) (headArr (n + 1) ops.size) = true := by
    have e : ops.size - n = (ops.size - (n + 1)) + 1 := by omega
    rw [e, Region.seqB, Bool.and_eq_true, headArr_set (by omega)] at hseq
    exact hseq.2
  have isHead : ∀ (k : Nat) (listed : Array Bool), listed.size = ops.size → (∀ i, i < k → listed.getD i false = true) → (∀ t, k ≤ t → t < ops.size → listed.getD t true = false) → listed = headArr k ops.size := fun k listed hsz h1 h2 => by
    apply Array.ext
    · simp [headArr, hsz]
      by_cases h : k ≤ ops.size
      · omega
      · exfalso
        have := h1 ops.size (by omega)
        rw [Array.getD_eq_getD_getElem?, Array.getElem?_eq_none (by omega)] at this
        cases this
    intro i h3 h4
    by_cases hik : i < k
    · have := h1 i hik
      have h5 : (headArr k ops.size)[i] = true := by
        simp [headArr, List.getElem_append_left, hik]
      rw [h5]
      simpa [h3] using this
    · have := h2 i (by omega) (by omega)
      have h5 : (headArr k ops.size)[i] = false := by
        simp only [headArr, List.getElem_toArray]
        rw [List.getElem_append_right (by simp; omega)]
        simp
      rw [h5]
      simpa [h3] using this
  have lackAt : ∀ (listed : Array Bool) (i : Nat), listed.getD i true = false → listed.toList[i]? = some false := fun listed i h => by
    rw [Array.getD_eq_getD_getElem?] at h
    rw [Array.getElem?_toList]
    cases h3 : listed[i]? with
    | none => rw [h3] at h; simp at h
    | some b => rw [h3] at h; simp at h; rw [h]
  have lackSet : ∀ (listed : Array Bool) (i F : Nat), listed.getD i true = false → lacking listed.toList = F + 1 → lacking (listed.setIfInBounds i true).toList = F := fun listed i F h hF => by
    have := lacking_set _ i (lackAt listed i h)
    have e : (listed.setIfInBounds i true).toList = listed.toList.set i true := by simp
    rw [e]; omega
  have runTail : ∀ (k : Nat) (a : Act) (w : World), k ≤ ops.size → Region.seqB md ops (ops.size - k) k (headArr k ops.size) = true → wpList P ops Q (l.drop k) a w → wpAny P md ops Q (lacking (headArr k ops.size).toList) (headArr k ops.size) a w := fun k a w hk hs h => by
    have hlen : (l.drop k).length = ops.size - k := by rw [hl]; simp
    have h3 := wpAny_of_seq (P := P) (ops := ops) (md := md) (Q' := Q) (l.drop k) k (headArr k ops.size) a w (fun j => by rw [hl]; simp [List.getElem?_drop]) (by rw [hlen]; exact hs) h
    rw [hlen] at h3
    have hg : lacking (headArr k ops.size).toList = ops.size - k := lacking_head k _
    rw [hg]; exact h3
  intro F
  induction F with
  | zero =>
    intro listed a w hF hI
    exfalso
    have hun : listed.getD (n + 1) true = false := by
      rcases hI with ⟨inv, _⟩ | ⟨l0, _, _, rfl, inv, _⟩
      · exact inv.inv.tail (n + 1) (by omega) hn
      · rw [getD_set_ne true (by omega)]
        exact inv.inv.tail (n + 1) (by omega) hn
    have := lacking_set _ (n + 1) (lackAt listed _ hun)
    omega
  | succ F ih =>
    intro listed a w hF hI
    rcases hI with ⟨inv, st⟩ | ⟨listed0, w0, b, rfl, inv, st, hdeps, hab, hWb, rfl⟩
    · have hsz := inv.inv.size
      by_cases hall : ∀ i, i < n → listed.getD i false = true
      · have e := isHead n listed hsz hall (fun t h1 h2 => inv.inv.tail t h1 h2)
        subst e
        rw [← hF]
        refine runTail n a w (by omega) hseq ?_
        have hln : l.drop n = on :: l.drop (n + 1) := by
          have h2 : l[n]? = some on := by rw [hl] at hon; simpa using hon
          obtain ⟨h3, h4⟩ := List.getElem?_eq_some_iff.1 h2
          rw [List.drop_eq_getElem_cons h3, h4]
        rw [hln]
        obtain ⟨b, e1, e2, e3⟩ := hSp _ _ (st.vals ip hip (head_true hip) tp hdp)
        refine wpList_store_mid hg ty (.tmp tp) (.tmp tv) hop b 0 cells e1 (hSv _ _ (st.vals iv hiv (head_true hiv) tv hdv)) e3 hi h1 ?_
        rw [hd]
        exact hend a w b st e1 e2
      · have hex : ∃ i, i < n ∧ listed.getD i false = false := by
          refine Classical.byContradiction fun hno => hall fun j hj => ?_
          cases h : listed.getD j false with
          | true => rfl
          | false => exact absurd ⟨j, hj, h⟩ hno
        obtain ⟨i0, hi0, hl0⟩ := hex
        obtain ⟨j0, _, hr0⟩ := first_ready (md := md) hback hsz i0 (by omega) hl0
        refine ⟨fun h => absurd hr0 (by rw [h]; simp), fun i hir => ?_⟩
        obtain ⟨hun, o, ho, hafter⟩ := mem_ready.1 hir
        have hil : i < listed.size := by
          have := (Array.getElem?_eq_some_iff.1 ho).1
          omega
        by_cases hin : i < n
        · exact St.step hdst hM mono (hst i o hin ho) st hin ho hil (fun j hw => ready_waits hir hw) _ (fun a' w' st' => ih _ _ _ (lackSet _ _ _ hun hF) (.inl ⟨inv.set hir hin, st'⟩))
        · by_cases e : i = n
          · subst e
            have l1 := ready_waits hir hwp
            have l2 := ready_waits hir hwv
            obtain ⟨b, e1, e2, e3⟩ := hSp _ _ (st.vals ip hip l1 tp hdp)
            refine op_store hon hg ty _ _ hop b cells e1 (hSv _ _ (st.vals iv hiv l2 tv hdv)) e3 hi h1 ?_
            rw [hd]
            exact ih _ _ _ (lackSet _ _ _ hun hF) (.inr ⟨listed, w, b, rfl, inv, st, fun j hw => ready_waits hir hw, e1, e2, rfl⟩)
          · exfalso
            have h2 := ready_waits hir (chain_waits hc (by omega) (by omega))
            have h3 := inv.inv.tail (i - 1) (by omega) (by omega)
            rw [getD_both h3] at h2; cases h2
    · have hsz := inv.inv.size
      have hnot : ∀ j, j ≠ n → ∀ d, (listed0.setIfInBounds n true).getD j d = listed0.getD j d := fun j hj d => getD_set_ne d (Ne.symm hj)
      by_cases hall : ∀ i, i < n → listed0.getD i false = true
      · have e := isHead n listed0 hsz hall (fun t h1 h2 => inv.inv.tail t h1 h2)
        subst e
        rw [headArr_set (by omega)] at hF ⊢
        rw [← hF]
        exact runTail (n + 1) a _ (by omega) hseq2 (hend a w0 b st hab hWb)
      · have hex : ∃ i, i < n ∧ listed0.getD i false = false := by
          refine Classical.byContradiction fun hno => hall fun j hj => ?_
          cases h : listed0.getD j false with
          | true => rfl
          | false => exact absurd ⟨j, hj, h⟩ hno
        obtain ⟨i0, hi0, hl0⟩ := hex
        obtain ⟨j0, _, hr0⟩ := first_ready (md := md) (listed := listed0.setIfInBounds n true) hback (by simp [hsz]) i0 (by omega) (by rw [hnot i0 (by omega)]; exact hl0)
        refine ⟨fun h => absurd hr0 (by rw [h]; simp), fun i hir => ?_⟩
        obtain ⟨hun, o, ho, hafter⟩ := mem_ready.1 hir
        have his : i < ops.size := (Array.getElem?_eq_some_iff.1 ho).1
        have hine : i ≠ n := fun e => by
          subst e
          rw [Array.getD_eq_getD_getElem?, Array.getElem?_setIfInBounds_self_of_lt (by omega)] at hun
          cases hun
        have hun0 : listed0.getD i true = false := by rw [← hnot i hine true]; exact hun
        by_cases hin : i < n
        · have hfr : Region.waitsFor md ops n i = false := by
            cases h : Region.waitsFor md ops n i with
            | false => rfl
            | true => have := hdeps i h; rw [getD_both hun0] at this; cases this
          obtain ⟨hna, hgd, hrun⟩ := hfree i o hin ho hfr
          have hwait : ∀ j, Region.waitsFor md ops i j = true → listed0.getD j false = true := fun j hw => by
            have h2 := ready_waits hir hw
            have h3 : j ≠ n := fun e => by
              obtain ⟨o', ho', e', he', hb', hon'⟩ := Region.waitsFor_spec hw
              have h4 := List.all_eq_true.1 hback i (List.mem_range.2 his)
              rw [ho'] at h4
              have h5 := Array.all_eq_true_iff_forall_mem.1 h4 e' he'
              rw [hb'] at h5
              simp at h5
              omega
            rw [hnot j h3] at h2; exact h2
          obtain ⟨v, hv1, hv2⟩ := hrun a (w0.setCells b 0 cells.toList) (Below.setCells st.cl hWb 0 _) (fun t ht => st.frame t (fun j hj _ => ht j hj)) (fun j dj hj hw hdj => hstill i j hin hj hfr hw _ w0 _ (st.vals j hj (hwait j hw) dj hdj))
          have st2 := St.next hdst hM mono st hin ho (by omega) v (hv2 w0) hna
          refine op_val ho hgd hv1 ?_
          have ecomm : (listed0.setIfInBounds n true).setIfInBounds i true = (listed0.setIfInBounds i true).setIfInBounds n true := Array.setIfInBounds_comm _ _ (Ne.symm hine)
          have hir0 : i ∈ Region.ready md ops listed0 := mem_ready.2 ⟨hun0, o, ho, fun e he hb => hwait e.on (waits_of ho he hb)⟩
          obtain ⟨d, hdi, hdl, hdu⟩ := dst_spec hdst hM i hin
          have hod : o.dst = some d := by unfold dstOf at hdi; rw [ho] at hdi; exact hdi
          refine ih _ _ _ (lackSet _ _ _ hun hF) (.inr ⟨listed0.setIfInBounds i true, w0, b, ecomm, inv.set hir0 hin, st2, fun j hw => getD_set_true (hdeps j hw), ?_, hWb, rfl⟩)
          have hne : d ≠ tp := fun e => by
            have := hdu ip hip (by rw [hdp, e])
            rw [this, hwp] at hfr; cases hfr
          rw [hod, ← hab]
          simp only [Act.put, Act.eval, Array.getD_eq_getD_getElem?]
          rw [Array.getElem?_setIfInBounds_ne hne]
        · exfalso
          by_cases e2 : i = n + 1
          · subst e2
            have h4 := List.all_eq_true.1 hsink i0 (List.mem_range.2 hi0)
            have h2 := ready_waits hir h4
            rw [hnot i0 (by omega), hl0] at h2; cases h2
          · have h2 := ready_waits hir (chain_waits hc (by omega) his)
            have h3 := inv.inv.tail (i - 1) (by omega) (by omega)
            rw [hnot (i - 1) (by omega), getD_both h3] at h2; cases h2

/-- The region, with the act at the end written out; the first store is done. -/
theorem region_early {id : Nat} {Q : Exit → Act → World → Prop} {l : List Oper} (n M : Nat) (al : Nat → Bool) (Ss : List (Value → World → Prop)) (ds : List Tmp) (hds : dstsOf l.toArray n = ds) (hm : P.follows .mixedOrders = true) (hB : earlyB .any l.toArray n M = true) (hM : M ≤ a0.tmps.size)
    (mono : ∀ S ∈ Ss, Grows S) (hst : Steps P l.toArray .any W a0 n al (sAt Ss) Q n 0 l)
    (ty : TypeId) (tp tv : Tmp) (cells : Array Value) (on : Oper) (hon : l.toArray[n]? = some on) (hop : on.op = .store ty (.tmp tp) (.tmp tv)) (hg : on.guard = none) (hd : on.dst = none)
    (ip iv : Nat) (hip : ip < n) (hiv : iv < n) (hdp : dstOf l.toArray ip = some tp) (hdv : dstOf l.toArray iv = some tv) (hwp : Region.waitsFor .any l.toArray n ip = true) (hwv : Region.waitsFor .any l.toArray n iv = true)
    (hSp : ∀ v w, sAt Ss ip v w → ∃ b, v = .pointer (some ⟨b, 0, none⟩) ∧ W.heap.size ≤ b ∧ w.there b 0 cells.size) (hSv : ∀ v w, sAt Ss iv v w → v = .agg cells)
    (hi : (P.info? ty).map (·.size) = some cells.size) (h1 : cells.all (·.oneCell') = true)
    (hfree : ∀ i o, i < n → l.toArray[i]? = some o → Region.waitsFor .any l.toArray n i = false → al i = false ∧ Free P l.toArray .any W a0 n (sAt Ss) i o)
    (hstill : ∀ i j, i < n → j < n → Region.waitsFor .any l.toArray n i = false → Region.waitsFor .any l.toArray i j = true → ∀ v w w', sAt Ss j v w → sAt Ss j v w')
    (hend : ∀ (val : Tmp → Value) w b, Cl W w → (∀ i d, i < n → dstOf l.toArray i = some d → sAt Ss i (val d) w) →
      (∀ i j d d', i < n → j < n → al i = true → al j = true → i ≠ j → dstOf l.toArray i = some d → dstOf l.toArray j = some d' → home (val d) ≠ home (val d')) →
      (∀ i d, i < n → al i = true → dstOf l.toArray i = some d → ∃ b, home (val d) = some b ∧ W.heap.size ≤ b ∧ b < w.heap.size) →
      val tp = .pointer (some ⟨b, 0, none⟩) → wpList P l.toArray Q (l.drop (n + 1)) (putVals ds val a0) (w.setCells b 0 cells.toList)) : (Code.region id l.toArray true).wp P Q a0 W := by
  refine wp_region_any hm ?_
  have hrep : ∀ i, (Array.replicate l.toArray.size false).getD i false = false := fun i => getD_replicate_false _ _
  refine spec_early (a0 := a0) (al := al) (S := sAt Ss) (l := l) rfl hB hM (fun i v w w' h1 h2 => grows_at mono i v w w' h1 h2) (fun i o hi ho => ?_) ty tp tv cells on hon hop hg hd ip iv hip hiv hdp hdv hwp hwv hSp hSv hi h1 hfree hstill (fun a w b st e1 _ => ?_) _ _ _ _ ?_ (.inl ⟨?_, ?_⟩)
  · have := Steps.at_ n 0 l hst i o hi (by simpa using ho)
    rwa [Nat.zero_add] at this
  · rw [st.act, hds]
    have hl : ∀ i, i < n → (headArr n l.toArray.size).getD i false = true := fun i hi => head_true hi
    exact hend (fun d => a.eval (.tmp d)) w b st.cl (fun i d hi hd => st.at_ i d hi hd) (fun i j d d' hi hj hai haj hij hd hd' => st.apart i j hi hj (hl i hi) (hl j hj) hai haj hij d d' hd hd') (fun i d hi hai hd => st.laid i hi (hl i hi) hai d hd) e1
  · have := lacking_new l.toArray.size
    simpa using this
  · refine ⟨⟨by simp, fun j oj _ hl _ _ _ => ?_, fun t _ hts => ?_⟩, fun i hi => by omega⟩
    · rw [hrep] at hl; cases hl
    · exact getD_in (by simpa using hts) (hrep t)
  · refine ⟨Cl.drew W, rfl, rfl, fun _ _ => rfl, fun i _ h => ?_, fun i _ h => ?_, fun i j _ _ h => ?_⟩ <;> (rw [hrep] at h; cases h)
end
end Go.Proofs.Ytoncinbohfmciaa

/- The exchange of two ratios. -/
namespace Go.Proofs.Ytoncinbohfmciaa
open Go Go.RowKit

set_option maxRecDepth 4000 in
set_option maxHeartbeats 4000000 in
theorem swapR_core {px pz qx qz S T U V : List Int} {sw : Bool} (hpx : px.length = 16) (hpz : pz.length = 16) (hqx : qx.length = 16) (hqz : qz.length = 16) (hS : S.length = 16) (hT : T.length = 16) (hU : U.length = 16) (hV : V.length = 16)
    (kx : CallsTo 32 #[.agg (ints .i64 px).toArray, .agg (ints .i64 qx).toArray, .bool sw] (.tuple #[.agg (ints .i64 S).toArray, .agg (ints .i64 T).toArray]))
    (kz : CallsTo 32 #[.agg (ints .i64 pz).toArray, .agg (ints .i64 qz).toArray, .bool sw] (.tuple #[.agg (ints .i64 U).toArray, .agg (ints .i64 V).toArray])) :
    CallsTo 24 #[.agg (ints .i64 (px ++ pz)).toArray, .agg (ints .i64 (qx ++ qz)).toArray, .bool sw] (.tuple #[.agg (ints .i64 (S ++ U)).toArray, .agg (ints .i64 (T ++ V)).toArray]) := fun W => by
  obtain ⟨z45, s45⟩ := zero_of_info inf45
  have HL := hid (And.intro hpx (And.intro hpz (And.intro hqx (And.intro hqz (And.intro hS (And.intro hT (And.intro hU hV)))))))
  have hP := (((B2.new W (px ++ pz) (len32 hpx hpz)).next (below_new _ (.cells (ints .i64 (qx ++ qz)).toArray 45))).next (below_new _ (.cells (ints .i64 (zeros 32)).toArray 45))).next (below_new _ (.cells (ints .i64 (zeros 32)).toArray 45))
  have hQ := ((B2.new (W.alloc (.cells (ints .i64 (px ++ pz)).toArray 45)) (qx ++ qz) (len32 hqx hqz)).next (below_new _ (.cells (ints .i64 (zeros 32)).toArray 45))).next (below_new _ (.cells (ints .i64 (zeros 32)).toArray 45))
  have h6 := (B2.new ((W.alloc (.cells (ints .i64 (px ++ pz)).toArray 45)).alloc (.cells (ints .i64 (qx ++ qz)).toArray 45)) (zeros 32) (zeros_len 32)).next (below_new _ (.cells (ints .i64 (zeros 32)).toArray 45))
  have h7 := B2.new (((W.alloc (.cells (ints .i64 (px ++ pz)).toArray 45)).alloc (.cells (ints .i64 (qx ++ qz)).toArray 45)).alloc (.cells (ints .i64 (zeros 32)).toArray 45)) (zeros 32) (zeros_len 32)
  have hW := (((below_new W (.cells (ints .i64 (px ++ pz)).toArray 45)).alloc (by simp) (.cells (ints .i64 (qx ++ qz)).toArray 45)).alloc (by simp; omega) (.cells (ints .i64 (zeros 32)).toArray 45)).alloc (by simp; omega) (.cells (ints .i64 (zeros 32)).toArray 45)
  simp only [World.size_alloc] at hQ h6 h7
  clear hpx hpz hqx hqz hS hT hU hV
  go_enter Try.func24, Try.ntmps24
  go_upto_region 1 with (fail)
  generalize (((W.alloc (.cells (ints .i64 (px ++ pz)).toArray 45)).alloc (.cells (ints .i64 (qx ++ qz)).toArray 45)).alloc (.cells (ints .i64 (zeros 32)).toArray 45)).alloc (.cells (ints .i64 (zeros 32)).toArray 45) = w0 at *
  obtain ⟨hpx, hpz, hqx, hqz, hS, hT, hU, hV⟩ := HL.out
  have s0 := hW.size
  refine region_seq2 9 32 (fun _ => false) [Is (.pointer (some ⟨W.heap.size, 0, none⟩)), Is (.agg (ints .i64 px).toArray), Is (.pointer (some ⟨(W.heap.size + 1), 0, none⟩)), Is (.agg (ints .i64 qx).toArray), Is (.bool sw), Is (.tuple #[(.agg (ints .i64 S).toArray), (.agg (ints .i64 T).toArray)]), Is (.tuple #[(.agg (ints .i64 S).toArray), (.agg (ints .i64 T).toArray)]), Is (.agg (ints .i64 S).toArray), Is (.agg (ints .i64 T).toArray)] [9, 10, 11, 12, 13, 14, 8, 15, 16] (by kernel_rfl) (by kernel_rfl) (Nat.le_of_eq rfl) (grows_cons (Is.grows _) (grows_cons (Is.grows _) (grows_cons (Is.grows _) (grows_cons (Is.grows _) (grows_cons (Is.grows _) (grows_cons (Is.grows _) (grows_cons (Is.grows _) (grows_cons (Is.grows _) (grows_cons (Is.grows _) grows_nil)))))))))
    ⟨step_fa0 rfl (.inl rfl) rfl rfl (knows_out 3 (by kernel_rfl) rfl),
     step_part rfl (.inl rfl) (hP.fst hpx) hpx rfl rfl (knows_in 0 9 (by decide) (by kernel_rfl) rfl rfl),
     step_fa0 rfl (.inl rfl) rfl rfl (knows_out 4 (by kernel_rfl) rfl),
     step_part rfl (.inl rfl) (hQ.fst hqx) hqx rfl rfl (knows_in 2 11 (by decide) (by kernel_rfl) rfl rfl),
     step_mv rfl (.inl rfl) rfl rfl (knows_out 2 (by kernel_rfl) rfl),
     step_to rfl (.inl rfl) rfl cf29 kx rfl (three_args (knows_in 1 10 (by decide) (by kernel_rfl) rfl rfl) (knows_in 3 12 (by decide) (by kernel_rfl) rfl rfl) (knows_in 4 13 (by decide) (by kernel_rfl) rfl rfl)),
     step_mv rfl (.inl rfl) rfl rfl (knows_in 5 14 (by decide) (by kernel_rfl) rfl rfl),
     step_fst rfl (.inl rfl) rfl rfl (knows_in 6 8 (by decide) (by kernel_rfl) rfl rfl),
     step_snd rfl (.inl rfl) rfl rfl (knows_in 6 8 (by decide) (by kernel_rfl) rfl rfl), trivial⟩ ?_
  intro val w1 hw hS hap hla
  have e9 : val 9 = (.pointer (some ⟨W.heap.size, 0, none⟩)) := hS 0 9 (by decide) rfl
  have e10 : val 10 = (.agg (ints .i64 px).toArray) := hS 1 10 (by decide) rfl
  have e11 : val 11 = (.pointer (some ⟨(W.heap.size + 1), 0, none⟩)) := hS 2 11 (by decide) rfl
  have e12 : val 12 = (.agg (ints .i64 qx).toArray) := hS 3 12 (by decide) rfl
  have e13 : val 13 = (.bool sw) := hS 4 13 (by decide) rfl
  have e14 : val 14 = (.tuple #[(.agg (ints .i64 S).toArray), (.agg (ints .i64 T).toArray)]) := hS 5 14 (by decide) rfl
  have e8 : val 8 = (.tuple #[(.agg (ints .i64 S).toArray), (.agg (ints .i64 T).toArray)]) := hS 6 8 (by decide) rfl
  have e15 : val 15 = (.agg (ints .i64 S).toArray) := hS 7 15 (by decide) rfl
  have e16 : val 16 = (.agg (ints .i64 T).toArray) := hS 8 16 (by decide) rfl
  simp only [putVals, List.foldl_cons, List.foldl_nil, List.drop_succ_cons, List.drop_zero, Act.put, List.setIfInBounds_toArray, List.set_cons_succ, List.set_cons_zero, e9, e10, e11, e12, e13, e14, e8, e15, e16]
  clear hS hap hla e9 e10 e11 e12 e13 e14 e8 e15 e16
  replace hP := hP.next hw
  replace hQ := hQ.next hw
  replace h6 := h6.next hw
  replace h7 := h7.next hw
  replace hW := hW.trans (Below.mono hw hW.size)
  clear hw
  have r1 := (hP.fst hpx).room (k' := .i64) (l' := S) (by rw [hS, hpx])
  have hQ1 := hQ.pastAt (b' := W.heap.size) 0 (ints .i64 S).toArray.toList (by omega)
  have r2 := (hQ1.fst hqx).room (k' := .i64) (l' := T) (by rw [hT, hqx])
  replace hP := (hP.put1 hpx hS).pastAt (b' := W.heap.size + 1) 0 (ints .i64 T).toArray.toList (by omega)
  replace hQ := hQ1.put1 hqx hT
  clear hQ1
  replace h6 := (h6.pastAt (b' := W.heap.size) 0 (ints .i64 S).toArray.toList (by omega)).pastAt (b' := W.heap.size + 1) 0 (ints .i64 T).toArray.toList (by omega)
  replace h7 := (h7.pastAt (b' := W.heap.size) 0 (ints .i64 S).toArray.toList (by omega)).pastAt (b' := W.heap.size + 1) 0 (ints .i64 T).toArray.toList (by omega)
  replace hW := Below.setCells (Below.setCells hW (g := W.heap.size) (by omega) 0 (ints .i64 S).toArray.toList) (g := W.heap.size + 1) (by omega) 0 (ints .i64 T).toArray.toList
  have l1 := hid hS
  have l2 := hid hT
  clear hpx hpz hqx hqz hS hT hU hV
  go_upto_region 2 with (first
    | (with_reducible refine wpList_store_mid (op := ⟨none, .store 41 (.tmp 17) (.tmp 15), _, _, _, _⟩) rfl 41 (.tmp 17) (.tmp 15) rfl W.heap.size 0 (ints .i64 S).toArray rfl rfl r1 (a26 l1.out) (ints_all _ _) ?_)
    | (with_reducible refine wpList_store_mid (op := ⟨none, .store 41 (.tmp 18) (.tmp 16), _, _, _, _⟩) rfl 41 (.tmp 18) (.tmp 16) rfl (W.heap.size + 1) 0 (ints .i64 T).toArray rfl rfl r2 (a26 l2.out) (ints_all _ _) ?_))
  obtain ⟨hpx, hpz, hqx, hqz, hS, hT, hU, hV⟩ := HL.out
  clear r1 r2 l1 l2
  generalize (w1.setCells W.heap.size 0 (ints .i64 S).toArray.toList).setCells (W.heap.size + 1) 0 (ints .i64 T).toArray.toList = w2 at *
  have s2 := hW.size
  refine region_seq2 9 32 (fun _ => false) [Is (.pointer (some ⟨W.heap.size, 16, none⟩)), Is (.agg (ints .i64 pz).toArray), Is (.pointer (some ⟨(W.heap.size + 1), 16, none⟩)), Is (.agg (ints .i64 qz).toArray), Is (.bool sw), Is (.tuple #[(.agg (ints .i64 U).toArray), (.agg (ints .i64 V).toArray)]), Is (.tuple #[(.agg (ints .i64 U).toArray), (.agg (ints .i64 V).toArray)]), Is (.agg (ints .i64 U).toArray), Is (.agg (ints .i64 V).toArray)] [20, 21, 22, 23, 24, 25, 19, 26, 27] (by kernel_rfl) (by kernel_rfl) (Nat.le_of_eq rfl) (grows_cons (Is.grows _) (grows_cons (Is.grows _) (grows_cons (Is.grows _) (grows_cons (Is.grows _) (grows_cons (Is.grows _) (grows_cons (Is.grows _) (grows_cons (Is.grows _) (grows_cons (Is.grows _) (grows_cons (Is.grows _) grows_nil)))))))))
    ⟨step_fa1 rfl (.inl rfl) rfl rfl (knows_out 3 (by kernel_rfl) rfl),
     step_part rfl (.inl rfl) (hP.snd hS) hpz rfl rfl (knows_in 0 20 (by decide) (by kernel_rfl) rfl rfl),
     step_fa1 rfl (.inl rfl) rfl rfl (knows_out 4 (by kernel_rfl) rfl),
     step_part rfl (.inl rfl) (hQ.snd hT) hqz rfl rfl (knows_in 2 22 (by decide) (by kernel_rfl) rfl rfl),
     step_mv rfl (.inl rfl) rfl rfl (knows_out 2 (by kernel_rfl) rfl),
     step_to rfl (.inl rfl) rfl cf29 kz rfl (three_args (knows_in 1 21 (by decide) (by kernel_rfl) rfl rfl) (knows_in 3 23 (by decide) (by kernel_rfl) rfl rfl) (knows_in 4 24 (by decide) (by kernel_rfl) rfl rfl)),
     step_mv rfl (.inl rfl) rfl rfl (knows_in 5 25 (by decide) (by kernel_rfl) rfl rfl),
     step_fst rfl (.inl rfl) rfl rfl (knows_in 6 19 (by decide) (by kernel_rfl) rfl rfl),
     step_snd rfl (.inl rfl) rfl rfl (knows_in 6 19 (by decide) (by kernel_rfl) rfl rfl), trivial⟩ ?_
  intro val w3 hw hS hap hla
  have e20 : val 20 = (.pointer (some ⟨W.heap.size, 16, none⟩)) := hS 0 20 (by decide) rfl
  have e21 : val 21 = (.agg (ints .i64 pz).toArray) := hS 1 21 (by decide) rfl
  have e22 : val 22 = (.pointer (some ⟨(W.heap.size + 1), 16, none⟩)) := hS 2 22 (by decide) rfl
  have e23 : val 23 = (.agg (ints .i64 qz).toArray) := hS 3 23 (by decide) rfl
  have e24 : val 24 = (.bool sw) := hS 4 24 (by decide) rfl
  have e25 : val 25 = (.tuple #[(.agg (ints .i64 U).toArray), (.agg (ints .i64 V).toArray)]) := hS 5 25 (by decide) rfl
  have e19 : val 19 = (.tuple #[(.agg (ints .i64 U).toArray), (.agg (ints .i64 V).toArray)]) := hS 6 19 (by decide) rfl
  have e26 : val 26 = (.agg (ints .i64 U).toArray) := hS 7 26 (by decide) rfl
  have e27 : val 27 = (.agg (ints .i64 V).toArray) := hS 8 27 (by decide) rfl
  simp only [putVals, List.foldl_cons, List.foldl_nil, List.drop_succ_cons, List.drop_zero, Act.put, List.setIfInBounds_toArray, List.set_cons_succ, List.set_cons_zero, e20, e21, e22, e23, e24, e25, e19, e26, e27]
  clear hS hap hla e20 e21 e22 e23 e24 e25 e19 e26 e27
  replace hP := hP.next hw
  replace hQ := hQ.next hw
  replace h6 := h6.next hw
  replace h7 := h7.next hw
  replace hW := hW.trans (Below.mono hw hW.size)
  clear hw
  have r1 := (hP.snd hS).room (k' := .i64) (l' := U) (by rw [hU, hpz])
  have hQ1 := hQ.pastAt (b' := W.heap.size) 16 (ints .i64 U).toArray.toList (by omega)
  have r2 := (hQ1.snd hT).room (k' := .i64) (l' := V) (by rw [hV, hqz])
  replace hP := (hP.put2 hS hU).pastAt (b' := W.heap.size + 1) 16 (ints .i64 V).toArray.toList (by omega)
  replace hQ := hQ1.put2 hT hV
  clear hQ1
  replace h6 := (h6.pastAt (b' := W.heap.size) 16 (ints .i64 U).toArray.toList (by omega)).pastAt (b' := W.heap.size + 1) 16 (ints .i64 V).toArray.toList (by omega)
  replace h7 := (h7.pastAt (b' := W.heap.size) 16 (ints .i64 U).toArray.toList (by omega)).pastAt (b' := W.heap.size + 1) 16 (ints .i64 V).toArray.toList (by omega)
  replace hW := Below.setCells (Below.setCells hW (g := W.heap.size) (by omega) 16 (ints .i64 U).toArray.toList) (g := W.heap.size + 1) (by omega) 16 (ints .i64 V).toArray.toList
  have l1 := hid hU
  have l2 := hid hV
  clear hpx hpz hqx hqz hS hT hU hV
  go_wp2_with (first
    | (with_reducible refine wpList_store_mid (op := ⟨none, .store 41 (.tmp 28) (.tmp 26), _, _, _, _⟩) rfl 41 (.tmp 28) (.tmp 26) rfl W.heap.size 16 (ints .i64 U).toArray rfl rfl r1 (a26 l1.out) (ints_all _ _) ?_)
    | (with_reducible refine wpList_store_mid (op := ⟨none, .store 41 (.tmp 29) (.tmp 27), _, _, _, _⟩) rfl 41 (.tmp 29) (.tmp 27) rfl (W.heap.size + 1) 16 (ints .i64 V).toArray rfl rfl r2 (a26 l2.out) (ints_all _ _) ?_))
  obtain ⟨hpx, hpz, hqx, hqz, hS, hT, hU, hV⟩ := HL.out
  clear r1 r2 l1 l2
  generalize (w3.setCells W.heap.size 16 (ints .i64 U).toArray.toList).setCells (W.heap.size + 1) 16 (ints .i64 V).toArray.toList = w4 at *
  clear hpx hpz hqx hqz hS hT hU hV
  go_wp2_with (fail)
  refine wp_region_any (by kernel_rfl) ?_
  change wpAny _ _ _ _ 4 _ _ w4.drew
  have XP : B2 w4.drew W.heap.size _ := hP
  have XQ : B2 w4.drew (W.heap.size + 1) _ := hQ
  have X6 : B2 w4.drew _ _ := h6
  have X7 : B2 w4.drew _ _ := h7
  have XW : Below W.heap.size W w4.drew := hW.drew
  generalize w4.drew = wz at *
  refine two_out _ _ _ _ rfl rfl rfl rfl rfl rfl rfl rfl (by kernel_rfl) (by kernel_rfl) (by kernel_rfl) (by kernel_rfl) (by kernel_rfl) (by kernel_rfl) (by kernel_rfl) 6 7 3 4 30 31 45 rfl rfl rfl rfl rfl rfl rfl rfl (W.heap.size + 1 + 1) (W.heap.size + 1 + 1 + 1) W.heap.size (W.heap.size + 1) .i64 (S ++ U) (T ++ V) (zeros 32) (zeros 32) XP.1 XQ.1 X6.1 X7.1 (XP.2.trans (zeros_len 32).symm) (XQ.2.trans (zeros_len 32).symm) (by omega) (by omega) _ Try.underlying45 rfl (l45 XP.2) (l45 XQ.2) rfl rfl rfl rfl (by show (30 : Nat) < 32; decide) (by show (31 : Nat) < 32; decide) (by decide) (by decide) (by decide) (by decide) (by decide) (by decide) (by decide) ?_
  intro w9 y6 y7 ew
  have hW9 : Below W.heap.size W w9 := by
    rw [ew]
    exact Below.setCells (Below.setCells XW (g := W.heap.size + 1 + 1) (by omega) 0 _) (g := W.heap.size + 1 + 1 + 1) (by omega) 0 _
  have q1 := XP.2
  have q2 := XQ.2
  clear ew X6 X7 XP XQ XW hW h6 h7 hP hQ
  simp only [Act.put, List.setIfInBounds_toArray, List.set_cons_succ, List.set_cons_zero]
  go_wp2_with (fail)
  exact bodyPost_ret (results_rows rfl _ _ (W.heap.size + 1 + 1) (W.heap.size + 1 + 1 + 1) rfl rfl (ints .i64 (S ++ U)) (ints .i64 (T ++ V)) _ y6.range y7.range Try.underlying45 rfl (l45 q1) (l45 q2)) rfl ⟨rfl, hW9⟩
theorem c_swapR {px pz qx qz : List Int} (h1 : El px) (h2 : El pz) (h3 : El qx) (h4 : El qz) (sw : Bool) : CallsTo 24 #[.agg (ints .i64 (px ++ pz)).toArray, .agg (ints .i64 (qx ++ qz)).toArray, .bool sw] (.tuple #[.agg (ints .i64 ((if sw then qx else px) ++ (if sw then qz else pz))).toArray, .agg (ints .i64 ((if sw then px else qx) ++ (if sw then pz else qz))).toArray]) :=
  swapR_core h1.len h2.len h3.len h4.len (by cases sw; exact h1.len; exact h3.len) (by cases sw; exact h3.len; exact h1.len) (by cases sw; exact h2.len; exact h4.len) (by cases sw; exact h4.len; exact h2.len) (c_swap h1 h3 sw) (c_swap h2 h4 sw)
end Go.Proofs.Ytoncinbohfmciaa

/- The bits of a secret: the code's and the document's. -/
namespace Go.Proofs.Ytoncinbohfmciaa
open Go Go.RowKit

def clampL (b : List Int) : List Int := (b.set 0 (b.getD 0 0 / 8 * 8)).set 31 (b.getD 31 0 % 64 + 64)
theorem clampL_length (b : List Int) : (clampL b).length = b.length := by simp [clampL]
theorem u8_cases {Q : Int → Prop} (h : ∀ v : Fin 256, Q (v.val : Int)) (v : Int) (hv : 0 ≤ v ∧ v ≤ 255) : Q v := by
  have := h ⟨v.toNat, by omega⟩
  rwa [show ((v.toNat : Nat) : Int) = v by omega] at this
theorem and248 (v : Int) (hv : 0 ≤ v ∧ v ≤ 255) : bits .and .u8 v 248 = v / 8 * 8 := u8_cases (Q := fun v => bits .and .u8 v 248 = v / 8 * 8) (by decide +kernel) v hv
theorem or64 (v : Int) (hv : 0 ≤ v ∧ v ≤ 255) : bits .or .u8 (bits .and .u8 v 127) 64 = v % 64 + 64 := u8_cases (Q := fun v => bits .or .u8 (bits .and .u8 v 127) 64 = v % 64 + 64) (by decide +kernel) v hv
theorem byt_at {b : List Int} (hb : Byt b) (hl : b.length = 32) {i : Nat} (hi : i < 32) : 0 ≤ b.getD i 0 ∧ b.getD i 0 ≤ 255 := by
  have := hb (b.getD i 0) (List.mem_of_getElem? (getD_some (l := b) (i := i) (by omega)))
  omega
theorem clampL_byt {b : List Int} (hb : Byt b) (hl : b.length = 32) : Byt (clampL b) := by
  have h0 := byt_at hb hl (i := 0) (by omega)
  have h31 := byt_at hb hl (i := 31) (by omega)
  intro x hx
  rcases List.mem_or_eq_of_mem_set hx with h | h
  · rcases List.mem_or_eq_of_mem_set h with h | h
    · exact hb x h
    · omega
  · omega
set_option maxRecDepth 4000 in
set_option maxHeartbeats 1000000 in
theorem c_clamp {b : List Int} (hl : b.length = 32) (hb : Byt b) : CallsTo 9 #[.agg (ints .u8 b).toArray] (.agg (ints .u8 (clampL b)).toArray) := fun W => by
  obtain ⟨z22, s22⟩ := zero_of_info inf22
  have hL := hid hl
  have hC := hid ((clampL_length b).trans hl)
  have h0 := byt_at hb hl (i := 0) (by omega)
  have h31 := byt_at hb hl (i := 31) (by omega)
  have e1 := and248 _ h0
  have e2 := or64 _ h31
  have g0 : b[0]? = some (b.getD 0 0) := getD_some (by omega)
  have g31 : b[31]? = some (b.getD 31 0) := getD_some (by omega)
  have hE : Hid (clampL b = (b.set 0 (b.getD 0 0 / 8 * 8)).set 31 (b.getD 31 0 % 64 + 64)) := hid rfl
  generalize b.getD 0 0 = v0 at *
  generalize b.getD 31 0 = v31 at *
  obtain ⟨u0, k0⟩ : ∃ u, v0 / 8 * 8 = u := ⟨_, rfl⟩
  obtain ⟨u31, k31⟩ : ∃ u, v31 % 64 + 64 = u := ⟨_, rfl⟩
  rw [k0] at e1 hE
  rw [k31] at e2 hE
  have hB := (Arr.made W .u8 b 22).alloc (.cells (ints .u8 (zeros 32)).toArray 22)
  have hR := Arr.made (W.alloc (.cells (ints .u8 b).toArray 22)) .u8 (zeros 32) 22
  have hW := (below_new W (.cells (ints .u8 b).toArray 22)).alloc (by simp) (.cells (ints .u8 (zeros 32)).toArray 22)
  rw [World.size_alloc] at hR
  clear hb h0 h31 k0 k31
  generalize clampL b = cb at *
  go_enter Try.func9, Try.ntmps9
  go_upto_region 1 with (fail)
  generalize (W.alloc (.cells (ints .u8 b).toArray 22)).alloc (.cells (ints .u8 (zeros 32)).toArray 22) = w0 at *
  have c0 := hB.at_ g0
  have f0 := hB.free (i := 0) (by omega)
  have hB1 := hB.set 0 u0
  have c31 := hB1.at_ (i := 31) (x := v31) (by rw [List.getElem?_set_ne (by omega)]; exact g31)
  have f31 := hB1.free (i := 31) (by simp; omega)
  have hB2 := hB1.set 31 u31
  rw [← hE.out] at hB2
  have hR1 := (hR.apart (p := ⟨W.heap.size, 0, none⟩) (.int .u8 u0) (.inl (by show W.heap.size ≠ W.heap.size + 1; omega))).apart (p := ⟨W.heap.size, 31, none⟩) (.int .u8 u31) (.inl (by show W.heap.size ≠ W.heap.size + 1; omega))
  have r1 := hR1.room (k' := .u8) (l' := cb) (by rw [zeros_len]; exact hC.out)
  have hR2 := hR1.stored (l' := cb) (by rw [zeros_len]; exact hC.out)
  have hW1 := Below.setCells ((hW.setCell (p := ⟨W.heap.size, 0, none⟩) (by show W.heap.size ≤ W.heap.size; omega) (.int .u8 u0)).setCell (p := ⟨W.heap.size, 31, none⟩) (by show W.heap.size ≤ W.heap.size; omega) (.int .u8 u31)) (g := W.heap.size + 1) (by omega) 0 (ints .u8 cb).toArray.toList
  simp only [Nat.zero_add] at c0 f0 c31 f31 hB2 hR1 r1 hR2 hW1
  clear hl g0 g31
  go_wp2_with (first
    | (with_reducible refine wpList_load_mid (op := ⟨some 12, .load 22 (.tmp 1), _, _, _, _⟩) rfl 22 (.tmp 1) rfl W.heap.size 0 rfl (ints .u8 cb) _ hB2.range Try.underlying22 rfl (l22 hC.out) ?_)
    | (with_reducible refine wpList_store_mid (op := ⟨none, .store 22 (.tmp 2) (.tmp 12), _, _, _, _⟩) rfl 22 (.tmp 2) (.tmp 12) rfl (W.heap.size + 1) 0 (ints .u8 cb).toArray rfl rfl r1 (a22 hC.out) (ints_all _ _) ?_))
  exact ret_rows rfl (W.heap.size + 1) 0 rfl (ints .u8 cb) _ hR2.range Try.underlying22 rfl (l22 hC.out) rfl ⟨rfl, hW1⟩
set_option maxRecDepth 4000 in
set_option maxHeartbeats 1000000 in
theorem c_rclamp {b : List Int} (hl : b.length = 32) (hb : Byt b) : CallsTo 10 #[.agg (ints .u8 b).toArray] (.agg (ints .u8 (clampL b)).toArray) := fun W => by
  obtain ⟨z22, s22⟩ := zero_of_info inf22
  have hL := hid hl
  have hC := hid ((clampL_length b).trans hl)
  have h0 := byt_at hb hl (i := 0) (by omega)
  have h31 := byt_at hb hl (i := 31) (by omega)
  have q1 : (b.getD 0 0).tdiv 8 = b.getD 0 0 / 8 := Int.tdiv_eq_ediv_of_nonneg h0.1
  have q2 : (b.getD 31 0).tmod 64 = b.getD 31 0 % 64 := Int.tmod_eq_emod_of_nonneg h31.1
  have m1 : IntKind.u8.wrap (b.getD 0 0 / 8) = b.getD 0 0 / 8 := IntWalk.u8_in _ (by omega)
  have m2 : IntKind.u8.wrap (b.getD 0 0 / 8 * 8) = b.getD 0 0 / 8 * 8 := IntWalk.u8_in _ (by omega)
  have m3 : IntKind.u8.wrap (b.getD 31 0 % 64) = b.getD 31 0 % 64 := IntWalk.u8_in _ (by omega)
  have m4 : IntKind.u8.wrap (b.getD 31 0 % 64 + 64) = b.getD 31 0 % 64 + 64 := IntWalk.u8_in _ (by omega)
  have g0 : b[0]? = some (b.getD 0 0) := getD_some (by omega)
  have g31 : b[31]? = some (b.getD 31 0) := getD_some (by omega)
  have hE : Hid (clampL b = (b.set 0 (b.getD 0 0 / 8 * 8)).set 31 (b.getD 31 0 % 64 + 64)) := hid rfl
  generalize b.getD 0 0 = v0 at *
  generalize b.getD 31 0 = v31 at *
  obtain ⟨u0, k0⟩ : ∃ u, v0 / 8 * 8 = u := ⟨_, rfl⟩
  obtain ⟨u31, k31⟩ : ∃ u, v31 % 64 + 64 = u := ⟨_, rfl⟩
  rw [k0] at m2 hE
  rw [k31] at m4 hE
  have hB := (Arr.made W .u8 b 22).alloc (.cells (ints .u8 (zeros 32)).toArray 22)
  have hR := Arr.made (W.alloc (.cells (ints .u8 b).toArray 22)) .u8 (zeros 32) 22
  have hW := (below_new W (.cells (ints .u8 b).toArray 22)).alloc (by simp) (.cells (ints .u8 (zeros 32)).toArray 22)
  rw [World.size_alloc] at hR
  clear hb
  generalize clampL b = cb at *
  go_enter Try.func10, Try.ntmps10
  go_upto_region 1 with (fail)
  generalize (W.alloc (.cells (ints .u8 b).toArray 22)).alloc (.cells (ints .u8 (zeros 32)).toArray 22) = w0 at *
  have c0 := hB.at_ g0
  have f0 := hB.free (i := 0) (by omega)
  have hB1 := hB.set 0 u0
  have c31 := hB1.at_ (i := 31) (x := v31) (by rw [List.getElem?_set_ne (by omega)]; exact g31)
  have f31 := hB1.free (i := 31) (by simp; omega)
  have hB2 := hB1.set 31 u31
  rw [← hE.out] at hB2
  have hR1 := (hR.apart (p := ⟨W.heap.size, 0, none⟩) (.int .u8 u0) (.inl (by show W.heap.size ≠ W.heap.size + 1; omega))).apart (p := ⟨W.heap.size, 31, none⟩) (.int .u8 u31) (.inl (by show W.heap.size ≠ W.heap.size + 1; omega))
  have r1 := hR1.room (k' := .u8) (l' := cb) (by rw [zeros_len]; exact hC.out)
  have hR2 := hR1.stored (l' := cb) (by rw [zeros_len]; exact hC.out)
  have hW1 := Below.setCells ((hW.setCell (p := ⟨W.heap.size, 0, none⟩) (by show W.heap.size ≤ W.heap.size; omega) (.int .u8 u0)).setCell (p := ⟨W.heap.size, 31, none⟩) (by show W.heap.size ≤ W.heap.size; omega) (.int .u8 u31)) (g := W.heap.size + 1) (by omega) 0 (ints .u8 cb).toArray.toList
  simp only [Nat.zero_add] at c0 f0 c31 f31 hB2 hR1 r1 hR2 hW1
  clear hl g0 g31
  go_wp2_with (first
    | (with_reducible refine wpList_load_mid (op := ⟨some 13, .load 22 (.tmp 1), _, _, _, _⟩) rfl 22 (.tmp 1) rfl W.heap.size 0 rfl (ints .u8 cb) _ hB2.range Try.underlying22 rfl (l22 hC.out) ?_)
    | (with_reducible refine wpList_store_mid (op := ⟨none, .store 22 (.tmp 2) (.tmp 13), _, _, _, _⟩) rfl 22 (.tmp 2) (.tmp 13) rfl (W.heap.size + 1) 0 (ints .u8 cb).toArray rfl rfl r1 (a22 hC.out) (ints_all _ _) ?_))
  exact ret_rows rfl (W.heap.size + 1) 0 rfl (ints .u8 cb) _ hR2.range Try.underlying22 rfl (l22 hC.out) rfl ⟨rfl, hW1⟩
end Go.Proofs.Ytoncinbohfmciaa

/- A step of the ladder. -/
namespace Go.Proofs.Ytoncinbohfmciaa
open Go Go.RowKit

def nA (a b : Nat) : Nat := (a + b) % NT.PN
def nS (a b : Nat) : Nat := (a + NT.PN - b) % NT.PN
def nM (a b : Nat) : Nat := a * b % NT.PN
/-- Doubling, and the sum of two that differ by u. -/
def dE (x z : Nat) : Nat := nS (nM (nA x z) (nA x z)) (nM (nS x z) (nS x z))
def dX (x z : Nat) : Nat := nM (nM (nA x z) (nA x z)) (nM (nS x z) (nS x z))
def dZ (x z : Nat) : Nat := nM (dE x z) (nA (nM (nA x z) (nA x z)) (nM 121665 (dE x z)))
def sU (a b c d : Nat) : Nat := nM (nS c d) (nA a b)
def sV (a b c d : Nat) : Nat := nM (nA c d) (nS a b)
def sX (a b c d : Nat) : Nat := nM (nA (sU a b c d) (sV a b c d)) (nA (sU a b c d) (sV a b c d))
def sZ (u a b c d : Nat) : Nat := nM u (nM (nS (sU a b c d) (sV a b c d)) (nS (sU a b c d) (sV a b c d)))

theorem fac_byt : Byt ([65, 219, 1] ++ zeros 29) := by
  have h : ([65, 219, 1] ++ zeros 29).all (fun x => decide (0 ≤ x ∧ x ≤ 255)) = true := by decide +kernel
  intro x hx
  have := List.all_eq_true.1 h x hx
  simp only [decide_eq_true_eq] at this
  omega
theorem factor_walk (f : List Int) (hB : Hid (CallsTo 22 #[.agg #[.int .u8 65, .int .u8 219, .int .u8 1, .int .u8 0, .int .u8 0, .int .u8 0, .int .u8 0, .int .u8 0, .int .u8 0, .int .u8 0, .int .u8 0, .int .u8 0, .int .u8 0, .int .u8 0, .int .u8 0, .int .u8 0, .int .u8 0, .int .u8 0, .int .u8 0, .int .u8 0, .int .u8 0, .int .u8 0, .int .u8 0, .int .u8 0, .int .u8 0, .int .u8 0, .int .u8 0, .int .u8 0, .int .u8 0, .int .u8 0, .int .u8 0, .int .u8 0]] (.agg (ints .i64 f).toArray))) (HL : Hid (f.length = 16)) : CallsTo 35 #[] (.agg (ints .i64 f).toArray) := fun W => by
  obtain ⟨z26, s26⟩ := zero_of_info inf26
  have hR := Arr.made W .i64 (zeros 16) 41
  have hW := below_new W (.cells (ints .i64 (zeros 16)).toArray 41)
  go_enter Try.func35, Try.ntmps35
  go_wp2_with (fail)
  refine (hB.out _).mono ?_
  rintro e w1 ⟨rfl, hb⟩
  replace hW := hW.trans (hb.mono hW.size)
  replace hR := hR.below hb (by simp)
  have hs := hR.room (k' := .i64) (l' := f) (by rw [zeros_len]; exact HL.out)
  have hR2 := hR.stored (l' := f) (by rw [zeros_len]; exact HL.out)
  replace hW := Below.setCells hW (g := W.heap.size) (by omega) 0 (ints .i64 f).toArray.toList
  go_wp2_with (first
    | (with_reducible refine wpList_store_mid (op := ⟨none, .store 41 (.tmp 0) (.tmp 2), _, _, _, _⟩) rfl 41 (.tmp 0) (.tmp 2) rfl W.heap.size 0 (ints .i64 f).toArray rfl rfl hs (a26 HL.out) (ints_all _ _) ?_))
  exact ret_rows rfl W.heap.size 0 rfl (ints .i64 f) _ hR2.range Try.underlying41 rfl (l26 HL.out) rfl ⟨rfl, hW⟩
set_option maxHeartbeats 1000000 in
theorem c_factor : ∃ f, CallsTo 35 #[] (.agg (ints .i64 f).toArray) ∧ Nm f 121665 := by
  have hf : El (ofL ([65, 219, 1] ++ zeros 29)) := ofL_el fac_byt
  have hn : Nm (ofL ([65, 219, 1] ++ zeros 29)) 121665 := ⟨hf, by decide +kernel⟩
  have hc := c_of (bs := [65, 219, 1] ++ zeros 29) (by rw [List.length_append, zeros_len]; rfl) fac_byt
  refine ⟨ofL ([65, 219, 1] ++ zeros 29), ?_, hn⟩
  have hl := hf.len
  clear hn hf
  generalize ofL ([65, 219, 1] ++ zeros 29) = f at *
  exact factor_walk f (hid hc) (hid hl)

set_option maxRecDepth 4000 in
set_option maxHeartbeats 4000000 in
theorem c_step {px pz qx qz uu : List Int} {a b c d m : Nat} (hpx : Nm px a) (hpz : Nm pz b) (hqx : Nm qx c) (hqz : Nm qz d) (huu : Nm uu m) : ∃ dx dz sx sz, CallsTo 25 #[.agg (ints .i64 (px ++ pz)).toArray, .agg (ints .i64 (qx ++ qz)).toArray, .agg (ints .i64 uu).toArray] (.tuple #[.agg (ints .i64 (dx ++ dz)).toArray, .agg (ints .i64 (sx ++ sz)).toArray]) ∧ Nm dx (dX a b) ∧ Nm dz (dZ a b) ∧ Nm sx (sX a b c d) ∧ Nm sz (sZ m a b c d) := by
  obtain ⟨fac, kfac, hfac⟩ := c_factor
  obtain ⟨v0, kv0, hv0⟩ : ∃ v, CallsTo 33 #[.agg (ints .i64 px).toArray, .agg (ints .i64 pz).toArray] (.agg (ints .i64 v).toArray) ∧ Nm v ((a + b) % NT.PN) := ⟨_, c_add hpx.1 hpz.1, hpx.add hpz⟩
  obtain ⟨v1, kv1, hv1⟩ : ∃ v, CallsTo 34 #[.agg (ints .i64 px).toArray, .agg (ints .i64 pz).toArray] (.agg (ints .i64 v).toArray) ∧ Nm v ((a + NT.PN - b) % NT.PN) := ⟨_, c_sub hpx.1 hpz.1, hpx.sub hpz⟩
  obtain ⟨v2, kv2, hv2⟩ : ∃ v, CallsTo 33 #[.agg (ints .i64 qx).toArray, .agg (ints .i64 qz).toArray] (.agg (ints .i64 v).toArray) ∧ Nm v ((c + d) % NT.PN) := ⟨_, c_add hqx.1 hqz.1, hqx.add hqz⟩
  obtain ⟨v3, kv3, hv3⟩ : ∃ v, CallsTo 34 #[.agg (ints .i64 qx).toArray, .agg (ints .i64 qz).toArray] (.agg (ints .i64 v).toArray) ∧ Nm v ((c + NT.PN - d) % NT.PN) := ⟨_, c_sub hqx.1 hqz.1, hqx.sub hqz⟩
  obtain ⟨v4, kv4, hv4⟩ : ∃ v, CallsTo 26 #[.agg (ints .i64 v0).toArray, .agg (ints .i64 v0).toArray] (.agg (ints .i64 v).toArray) ∧ Nm v (((a + b) % NT.PN) * ((a + b) % NT.PN) % NT.PN) := ⟨_, c_mul hv0.1 hv0.1, hv0.mul hv0⟩
  obtain ⟨v5, kv5, hv5⟩ : ∃ v, CallsTo 26 #[.agg (ints .i64 v1).toArray, .agg (ints .i64 v1).toArray] (.agg (ints .i64 v).toArray) ∧ Nm v (((a + NT.PN - b) % NT.PN) * ((a + NT.PN - b) % NT.PN) % NT.PN) := ⟨_, c_mul hv1.1 hv1.1, hv1.mul hv1⟩
  obtain ⟨v6, kv6, hv6⟩ : ∃ v, CallsTo 26 #[.agg (ints .i64 v3).toArray, .agg (ints .i64 v0).toArray] (.agg (ints .i64 v).toArray) ∧ Nm v (((c + NT.PN - d) % NT.PN) * ((a + b) % NT.PN) % NT.PN) := ⟨_, c_mul hv3.1 hv0.1, hv3.mul hv0⟩
  obtain ⟨v7, kv7, hv7⟩ : ∃ v, CallsTo 26 #[.agg (ints .i64 v2).toArray, .agg (ints .i64 v1).toArray] (.agg (ints .i64 v).toArray) ∧ Nm v (((c + d) % NT.PN) * ((a + NT.PN - b) % NT.PN) % NT.PN) := ⟨_, c_mul hv2.1 hv1.1, hv2.mul hv1⟩
  obtain ⟨v8, kv8, hv8⟩ : ∃ v, CallsTo 34 #[.agg (ints .i64 v4).toArray, .agg (ints .i64 v5).toArray] (.agg (ints .i64 v).toArray) ∧ Nm v (((((a + b) % NT.PN) * ((a + b) % NT.PN) % NT.PN) + NT.PN - (((a + NT.PN - b) % NT.PN) * ((a + NT.PN - b) % NT.PN) % NT.PN)) % NT.PN) := ⟨_, c_sub hv4.1 hv5.1, hv4.sub hv5⟩
  obtain ⟨v9, kv9, hv9⟩ : ∃ v, CallsTo 33 #[.agg (ints .i64 v6).toArray, .agg (ints .i64 v7).toArray] (.agg (ints .i64 v).toArray) ∧ Nm v (((((c + NT.PN - d) % NT.PN) * ((a + b) % NT.PN) % NT.PN) + (((c + d) % NT.PN) * ((a + NT.PN - b) % NT.PN) % NT.PN)) % NT.PN) := ⟨_, c_add hv6.1 hv7.1, hv6.add hv7⟩
  obtain ⟨v10, kv10, hv10⟩ : ∃ v, CallsTo 34 #[.agg (ints .i64 v6).toArray, .agg (ints .i64 v7).toArray] (.agg (ints .i64 v).toArray) ∧ Nm v (((((c + NT.PN - d) % NT.PN) * ((a + b) % NT.PN) % NT.PN) + NT.PN - (((c + d) % NT.PN) * ((a + NT.PN - b) % NT.PN) % NT.PN)) % NT.PN) := ⟨_, c_sub hv6.1 hv7.1, hv6.sub hv7⟩
  obtain ⟨v11, kv11, hv11⟩ : ∃ v, CallsTo 26 #[.agg (ints .i64 v4).toArray, .agg (ints .i64 v5).toArray] (.agg (ints .i64 v).toArray) ∧ Nm v ((((a + b) % NT.PN) * ((a + b) % NT.PN) % NT.PN) * (((a + NT.PN - b) % NT.PN) * ((a + NT.PN - b) % NT.PN) % NT.PN) % NT.PN) := ⟨_, c_mul hv4.1 hv5.1, hv4.mul hv5⟩
  obtain ⟨v12, kv12, hv12⟩ : ∃ v, CallsTo 26 #[.agg (ints .i64 fac).toArray, .agg (ints .i64 v8).toArray] (.agg (ints .i64 v).toArray) ∧ Nm v (121665 * (((((a + b) % NT.PN) * ((a + b) % NT.PN) % NT.PN) + NT.PN - (((a + NT.PN - b) % NT.PN) * ((a + NT.PN - b) % NT.PN) % NT.PN)) % NT.PN) % NT.PN) := ⟨_, c_mul hfac.1 hv8.1, hfac.mul hv8⟩
  obtain ⟨v13, kv13, hv13⟩ : ∃ v, CallsTo 33 #[.agg (ints .i64 v4).toArray, .agg (ints .i64 v12).toArray] (.agg (ints .i64 v).toArray) ∧ Nm v (((((a + b) % NT.PN) * ((a + b) % NT.PN) % NT.PN) + (121665 * (((((a + b) % NT.PN) * ((a + b) % NT.PN) % NT.PN) + NT.PN - (((a + NT.PN - b) % NT.PN) * ((a + NT.PN - b) % NT.PN) % NT.PN)) % NT.PN) % NT.PN)) % NT.PN) := ⟨_, c_add hv4.1 hv12.1, hv4.add hv12⟩
  obtain ⟨v14, kv14, hv14⟩ : ∃ v, CallsTo 26 #[.agg (ints .i64 v8).toArray, .agg (ints .i64 v13).toArray] (.agg (ints .i64 v).toArray) ∧ Nm v ((((((a + b) % NT.PN) * ((a + b) % NT.PN) % NT.PN) + NT.PN - (((a + NT.PN - b) % NT.PN) * ((a + NT.PN - b) % NT.PN) % NT.PN)) % NT.PN) * (((((a + b) % NT.PN) * ((a + b) % NT.PN) % NT.PN) + (121665 * (((((a + b) % NT.PN) * ((a + b) % NT.PN) % NT.PN) + NT.PN - (((a + NT.PN - b) % NT.PN) * ((a + NT.PN - b) % NT.PN) % NT.PN)) % NT.PN) % NT.PN)) % NT.PN) % NT.PN) := ⟨_, c_mul hv8.1 hv13.1, hv8.mul hv13⟩
  obtain ⟨v15, kv15, hv15⟩ : ∃ v, CallsTo 26 #[.agg (ints .i64 v9).toArray, .agg (ints .i64 v9).toArray] (.agg (ints .i64 v).toArray) ∧ Nm v ((((((c + NT.PN - d) % NT.PN) * ((a + b) % NT.PN) % NT.PN) + (((c + d) % NT.PN) * ((a + NT.PN - b) % NT.PN) % NT.PN)) % NT.PN) * (((((c + NT.PN - d) % NT.PN) * ((a + b) % NT.PN) % NT.PN) + (((c + d) % NT.PN) * ((a + NT.PN - b) % NT.PN) % NT.PN)) % NT.PN) % NT.PN) := ⟨_, c_mul hv9.1 hv9.1, hv9.mul hv9⟩
  obtain ⟨v16, kv16, hv16⟩ : ∃ v, CallsTo 26 #[.agg (ints .i64 v10).toArray, .agg (ints .i64 v10).toArray] (.agg (ints .i64 v).toArray) ∧ Nm v ((((((c + NT.PN - d) % NT.PN) * ((a + b) % NT.PN) % NT.PN) + NT.PN - (((c + d) % NT.PN) * ((a + NT.PN - b) % NT.PN) % NT.PN)) % NT.PN) * (((((c + NT.PN - d) % NT.PN) * ((a + b) % NT.PN) % NT.PN) + NT.PN - (((c + d) % NT.PN) * ((a + NT.PN - b) % NT.PN) % NT.PN)) % NT.PN) % NT.PN) := ⟨_, c_mul hv10.1 hv10.1, hv10.mul hv10⟩
  obtain ⟨v17, kv17, hv17⟩ : ∃ v, CallsTo 26 #[.agg (ints .i64 uu).toArray, .agg (ints .i64 v16).toArray] (.agg (ints .i64 v).toArray) ∧ Nm v (m * ((((((c + NT.PN - d) % NT.PN) * ((a + b) % NT.PN) % NT.PN) + NT.PN - (((c + d) % NT.PN) * ((a + NT.PN - b) % NT.PN) % NT.PN)) % NT.PN) * (((((c + NT.PN - d) % NT.PN) * ((a + b) % NT.PN) % NT.PN) + NT.PN - (((c + d) % NT.PN) * ((a + NT.PN - b) % NT.PN) % NT.PN)) % NT.PN) % NT.PN) % NT.PN) := ⟨_, c_mul huu.1 hv16.1, huu.mul hv16⟩
  refine ⟨v11, v14, v15, v17, fun W => ?_, hv11, hv14, hv15, hv17⟩
  obtain ⟨z45, s45⟩ := zero_of_info inf45
  have hP := ((((B2.new W (px ++ pz) (len32 hpx.1.len hpz.1.len)).next (below_new _ (.cells (ints .i64 (qx ++ qz)).toArray 45))).next (below_new _ (.cells (ints .i64 uu).toArray 41))).next (below_new _ (.cells (ints .i64 (zeros 32)).toArray 45))).next (below_new _ (.cells (ints .i64 (zeros 32)).toArray 45))
  have hQ := (((B2.new (W.alloc (.cells (ints .i64 (px ++ pz)).toArray 45)) (qx ++ qz) (len32 hqx.1.len hqz.1.len)).next (below_new _ (.cells (ints .i64 uu).toArray 41))).next (below_new _ (.cells (ints .i64 (zeros 32)).toArray 45))).next (below_new _ (.cells (ints .i64 (zeros 32)).toArray 45))
  have hU := ((Bx.next ⟨Arr.made ((W.alloc (.cells (ints .i64 (px ++ pz)).toArray 45)).alloc (.cells (ints .i64 (qx ++ qz)).toArray 45)) .i64 uu 41, huu.1.len⟩ (below_new _ (.cells (ints .i64 (zeros 32)).toArray 45))).next (below_new _ (.cells (ints .i64 (zeros 32)).toArray 45)))
  have h6 := (B2.new (((W.alloc (.cells (ints .i64 (px ++ pz)).toArray 45)).alloc (.cells (ints .i64 (qx ++ qz)).toArray 45)).alloc (.cells (ints .i64 uu).toArray 41)) (zeros 32) (zeros_len 32)).next (below_new _ (.cells (ints .i64 (zeros 32)).toArray 45))
  have h7 := B2.new ((((W.alloc (.cells (ints .i64 (px ++ pz)).toArray 45)).alloc (.cells (ints .i64 (qx ++ qz)).toArray 45)).alloc (.cells (ints .i64 uu).toArray 41)).alloc (.cells (ints .i64 (zeros 32)).toArray 45)) (zeros 32) (zeros_len 32)
  have hW := ((((below_new W (.cells (ints .i64 (px ++ pz)).toArray 45)).alloc (by simp) (.cells (ints .i64 (qx ++ qz)).toArray 45)).alloc (by simp; omega) (.cells (ints .i64 uu).toArray 41)).alloc (by simp; omega) (.cells (ints .i64 (zeros 32)).toArray 45)).alloc (by simp; omega) (.cells (ints .i64 (zeros 32)).toArray 45)
  simp only [World.size_alloc] at hQ hU h6 h7
  go_enter Try.func25, Try.ntmps25
  go_wp2_with (fail)
  generalize ((((W.alloc (.cells (ints .i64 (px ++ pz)).toArray 45)).alloc (.cells (ints .i64 (qx ++ qz)).toArray 45)).alloc (.cells (ints .i64 uu).toArray 41)).alloc (.cells (ints .i64 (zeros 32)).toArray 45)).alloc (.cells (ints .i64 (zeros 32)).toArray 45) = w0 at *
  have s0 := hW.size
  refine region_spec2 12 84 (fun i => i == 10 || i == 11) [Is (.pointer (some ⟨W.heap.size, 0, none⟩)), Is (.agg (ints .i64 px).toArray), Is (.pointer (some ⟨W.heap.size, 16, none⟩)), Is (.agg (ints .i64 pz).toArray), Is (.agg (ints .i64 v0).toArray), Is (.pointer (some ⟨W.heap.size, 0, none⟩)), Is (.agg (ints .i64 px).toArray), Is (.pointer (some ⟨W.heap.size, 16, none⟩)), Is (.agg (ints .i64 pz).toArray), Is (.agg (ints .i64 v1).toArray), IsZ w0.heap.size, IsZ w0.heap.size] [21, 22, 23, 24, 25, 26, 27, 28, 29, 30, 8, 9] (by kernel_rfl) (by kernel_rfl) (by kernel_rfl) (Nat.le_of_eq rfl) (grows_cons (Is.grows _) (grows_cons (Is.grows _) (grows_cons (Is.grows _) (grows_cons (Is.grows _) (grows_cons (Is.grows _) (grows_cons (Is.grows _) (grows_cons (Is.grows _) (grows_cons (Is.grows _) (grows_cons (Is.grows _) (grows_cons (Is.grows _) (grows_cons (IsZ.grows _) (grows_cons (IsZ.grows _) grows_nil))))))))))))
    ⟨step_fa0 rfl (.inl rfl) rfl rfl (knows_out 3 (by kernel_rfl) rfl),
     step_part rfl (.inl rfl) (hP.fst hpx.1.len) hpx.1.len rfl rfl (knows_in 0 21 (by decide) (by kernel_rfl) rfl rfl),
     step_fa1 rfl (.inl rfl) rfl rfl (knows_out 3 (by kernel_rfl) rfl),
     step_part rfl (.inl rfl) (hP.snd hpx.1.len) hpz.1.len rfl rfl (knows_in 2 23 (by decide) (by kernel_rfl) rfl rfl),
     step_to rfl (.inl rfl) rfl cf18 kv0 rfl (two_args (knows_in 1 22 (by decide) (by kernel_rfl) rfl rfl) (knows_in 3 24 (by decide) (by kernel_rfl) rfl rfl)),
     step_fa0 rfl (.inl rfl) rfl rfl (knows_out 3 (by kernel_rfl) rfl),
     step_part rfl (.inl rfl) (hP.fst hpx.1.len) hpx.1.len rfl rfl (knows_in 5 26 (by decide) (by kernel_rfl) rfl rfl),
     step_fa1 rfl (.inl rfl) rfl rfl (knows_out 3 (by kernel_rfl) rfl),
     step_part rfl (.inl rfl) (hP.snd hpx.1.len) hpz.1.len rfl rfl (knows_in 7 28 (by decide) (by kernel_rfl) rfl rfl),
     step_to rfl (.inl rfl) rfl cf20 kv1 rfl (two_args (knows_in 6 27 (by decide) (by kernel_rfl) rfl rfl) (knows_in 8 29 (by decide) (by kernel_rfl) rfl rfl)),
     step_alloc26 (.inl rfl) rfl rfl,
     step_alloc26 (.inl rfl) rfl rfl, trivial⟩ ?_
  intro val w1 hw hS hap hla
  have e21 : val 21 = (.pointer (some ⟨W.heap.size, 0, none⟩)) := hS 0 21 (by decide) rfl
  have e22 : val 22 = (.agg (ints .i64 px).toArray) := hS 1 22 (by decide) rfl
  have e23 : val 23 = (.pointer (some ⟨W.heap.size, 16, none⟩)) := hS 2 23 (by decide) rfl
  have e24 : val 24 = (.agg (ints .i64 pz).toArray) := hS 3 24 (by decide) rfl
  have e25 : val 25 = (.agg (ints .i64 v0).toArray) := hS 4 25 (by decide) rfl
  have e26 : val 26 = (.pointer (some ⟨W.heap.size, 0, none⟩)) := hS 5 26 (by decide) rfl
  have e27 : val 27 = (.agg (ints .i64 px).toArray) := hS 6 27 (by decide) rfl
  have e28 : val 28 = (.pointer (some ⟨W.heap.size, 16, none⟩)) := hS 7 28 (by decide) rfl
  have e29 : val 29 = (.agg (ints .i64 pz).toArray) := hS 8 29 (by decide) rfl
  have e30 : val 30 = (.agg (ints .i64 v1).toArray) := hS 9 30 (by decide) rfl
  obtain ⟨b8, e8, L8, Z8⟩ := hS 10 8 (by decide) rfl
  obtain ⟨b9, e9, L9, Z9⟩ := hS 11 9 (by decide) rfl
  have ne8_9 : b8 ≠ b9 := fun e => hap 10 11 8 9 (by decide) (by decide) rfl rfl (by decide) rfl rfl (by rw [e8, e9, e])
  simp only [putVals, List.foldl_cons, List.foldl_nil, List.drop_succ_cons, List.drop_zero, Act.put, List.setIfInBounds_toArray, List.set_cons_succ, List.set_cons_zero, e21, e22, e23, e24, e25, e26, e27, e28, e29, e30, e8, e9]
  clear hS hap hla e21 e22 e23 e24 e25 e26 e27 e28 e29 e30 e8 e9
  have LL8 := hid hv0.1.len
  have LL9 := hid hv1.1.len
  have R8 := Z8.room (l' := v0) hv0.1.len
  have hB8 := Z8.stored (l' := v0) hv0.1.len
  replace Z9 := Z9.past (b' := b8) (ints .i64 v0).toArray.toList ne8_9
  have R9 := Z9.room (l' := v1) hv1.1.len
  have hB9 := Z9.stored (l' := v1) hv1.1.len
  replace hB8 := hB8.past (b' := b9) (ints .i64 v1).toArray.toList (Ne.symm ne8_9)
  replace hP := hP.next (Below.setCells (Below.setCells hw L8 0 (ints .i64 v0).toArray.toList) L9 0 (ints .i64 v1).toArray.toList)
  replace hQ := hQ.next (Below.setCells (Below.setCells hw L8 0 (ints .i64 v0).toArray.toList) L9 0 (ints .i64 v1).toArray.toList)
  replace hU := hU.next (Below.setCells (Below.setCells hw L8 0 (ints .i64 v0).toArray.toList) L9 0 (ints .i64 v1).toArray.toList)
  replace h6 := h6.next (Below.setCells (Below.setCells hw L8 0 (ints .i64 v0).toArray.toList) L9 0 (ints .i64 v1).toArray.toList)
  replace h7 := h7.next (Below.setCells (Below.setCells hw L8 0 (ints .i64 v0).toArray.toList) L9 0 (ints .i64 v1).toArray.toList)
  replace hW := hW.trans (Below.mono (Below.setCells (Below.setCells hw L8 0 (ints .i64 v0).toArray.toList) L9 0 (ints .i64 v1).toArray.toList) hW.size)
  with_reducible refine wpList_store_mid (op := ⟨none, .store 41 (.tmp 8) (.tmp 25), _, _, _, _⟩) rfl 41 (.tmp 8) (.tmp 25) rfl b8 0 (ints .i64 v0).toArray rfl rfl R8 (a26 LL8.out) (ints_all _ _) ?_
  with_reducible refine wpList_store_mid (op := ⟨none, .store 41 (.tmp 9) (.tmp 30), _, _, _, _⟩) rfl 41 (.tmp 9) (.tmp 30) rfl b9 0 (ints .i64 v1).toArray rfl rfl R9 (a26 LL9.out) (ints_all _ _) ?_
  generalize ((w1.setCells b8 0 (ints .i64 v0).toArray.toList).setCells b9 0 (ints .i64 v1).toArray.toList) = w2 at *
  clear hw  R8 LL8 Z8 L8 R9 LL9 Z9 L9 ne8_9
  go_wp2_with (fail)
  have s2 := hW.size
  refine region_spec2 12 84 (fun i => i == 10 || i == 11) [Is (.pointer (some ⟨(W.heap.size + 1), 0, none⟩)), Is (.agg (ints .i64 qx).toArray), Is (.pointer (some ⟨(W.heap.size + 1), 16, none⟩)), Is (.agg (ints .i64 qz).toArray), Is (.agg (ints .i64 v2).toArray), Is (.pointer (some ⟨(W.heap.size + 1), 0, none⟩)), Is (.agg (ints .i64 qx).toArray), Is (.pointer (some ⟨(W.heap.size + 1), 16, none⟩)), Is (.agg (ints .i64 qz).toArray), Is (.agg (ints .i64 v3).toArray), IsZ w2.heap.size, IsZ w2.heap.size] [31, 32, 33, 34, 35, 36, 37, 38, 39, 40, 10, 11] (by kernel_rfl) (by kernel_rfl) (by kernel_rfl) (Nat.le_of_eq rfl) (grows_cons (Is.grows _) (grows_cons (Is.grows _) (grows_cons (Is.grows _) (grows_cons (Is.grows _) (grows_cons (Is.grows _) (grows_cons (Is.grows _) (grows_cons (Is.grows _) (grows_cons (Is.grows _) (grows_cons (Is.grows _) (grows_cons (Is.grows _) (grows_cons (IsZ.grows _) (grows_cons (IsZ.grows _) grows_nil))))))))))))
    ⟨step_fa0 rfl (.inl rfl) rfl rfl (knows_out 4 (by kernel_rfl) rfl),
     step_part rfl (.inl rfl) (hQ.fst hqx.1.len) hqx.1.len rfl rfl (knows_in 0 31 (by decide) (by kernel_rfl) rfl rfl),
     step_fa1 rfl (.inl rfl) rfl rfl (knows_out 4 (by kernel_rfl) rfl),
     step_part rfl (.inl rfl) (hQ.snd hqx.1.len) hqz.1.len rfl rfl (knows_in 2 33 (by decide) (by kernel_rfl) rfl rfl),
     step_to rfl (.inl rfl) rfl cf18 kv2 rfl (two_args (knows_in 1 32 (by decide) (by kernel_rfl) rfl rfl) (knows_in 3 34 (by decide) (by kernel_rfl) rfl rfl)),
     step_fa0 rfl (.inl rfl) rfl rfl (knows_out 4 (by kernel_rfl) rfl),
     step_part rfl (.inl rfl) (hQ.fst hqx.1.len) hqx.1.len rfl rfl (knows_in 5 36 (by decide) (by kernel_rfl) rfl rfl),
     step_fa1 rfl (.inl rfl) rfl rfl (knows_out 4 (by kernel_rfl) rfl),
     step_part rfl (.inl rfl) (hQ.snd hqx.1.len) hqz.1.len rfl rfl (knows_in 7 38 (by decide) (by kernel_rfl) rfl rfl),
     step_to rfl (.inl rfl) rfl cf20 kv3 rfl (two_args (knows_in 6 37 (by decide) (by kernel_rfl) rfl rfl) (knows_in 8 39 (by decide) (by kernel_rfl) rfl rfl)),
     step_alloc26 (.inl rfl) rfl rfl,
     step_alloc26 (.inl rfl) rfl rfl, trivial⟩ ?_
  intro val w3 hw hS hap hla
  have e31 : val 31 = (.pointer (some ⟨(W.heap.size + 1), 0, none⟩)) := hS 0 31 (by decide) rfl
  have e32 : val 32 = (.agg (ints .i64 qx).toArray) := hS 1 32 (by decide) rfl
  have e33 : val 33 = (.pointer (some ⟨(W.heap.size + 1), 16, none⟩)) := hS 2 33 (by decide) rfl
  have e34 : val 34 = (.agg (ints .i64 qz).toArray) := hS 3 34 (by decide) rfl
  have e35 : val 35 = (.agg (ints .i64 v2).toArray) := hS 4 35 (by decide) rfl
  have e36 : val 36 = (.pointer (some ⟨(W.heap.size + 1), 0, none⟩)) := hS 5 36 (by decide) rfl
  have e37 : val 37 = (.agg (ints .i64 qx).toArray) := hS 6 37 (by decide) rfl
  have e38 : val 38 = (.pointer (some ⟨(W.heap.size + 1), 16, none⟩)) := hS 7 38 (by decide) rfl
  have e39 : val 39 = (.agg (ints .i64 qz).toArray) := hS 8 39 (by decide) rfl
  have e40 : val 40 = (.agg (ints .i64 v3).toArray) := hS 9 40 (by decide) rfl
  obtain ⟨b10, e10, L10, Z10⟩ := hS 10 10 (by decide) rfl
  obtain ⟨b11, e11, L11, Z11⟩ := hS 11 11 (by decide) rfl
  have ne10_11 : b10 ≠ b11 := fun e => hap 10 11 10 11 (by decide) (by decide) rfl rfl (by decide) rfl rfl (by rw [e10, e11, e])
  simp only [putVals, List.foldl_cons, List.foldl_nil, List.drop_succ_cons, List.drop_zero, Act.put, List.setIfInBounds_toArray, List.set_cons_succ, List.set_cons_zero, e31, e32, e33, e34, e35, e36, e37, e38, e39, e40, e10, e11]
  clear hS hap hla e31 e32 e33 e34 e35 e36 e37 e38 e39 e40 e10 e11
  have LL10 := hid hv2.1.len
  have LL11 := hid hv3.1.len
  have R10 := Z10.room (l' := v2) hv2.1.len
  have hB10 := Z10.stored (l' := v2) hv2.1.len
  replace Z11 := Z11.past (b' := b10) (ints .i64 v2).toArray.toList ne10_11
  have R11 := Z11.room (l' := v3) hv3.1.len
  have hB11 := Z11.stored (l' := v3) hv3.1.len
  replace hB10 := hB10.past (b' := b11) (ints .i64 v3).toArray.toList (Ne.symm ne10_11)
  replace hP := hP.next (Below.setCells (Below.setCells hw L10 0 (ints .i64 v2).toArray.toList) L11 0 (ints .i64 v3).toArray.toList)
  replace hQ := hQ.next (Below.setCells (Below.setCells hw L10 0 (ints .i64 v2).toArray.toList) L11 0 (ints .i64 v3).toArray.toList)
  replace hU := hU.next (Below.setCells (Below.setCells hw L10 0 (ints .i64 v2).toArray.toList) L11 0 (ints .i64 v3).toArray.toList)
  replace h6 := h6.next (Below.setCells (Below.setCells hw L10 0 (ints .i64 v2).toArray.toList) L11 0 (ints .i64 v3).toArray.toList)
  replace h7 := h7.next (Below.setCells (Below.setCells hw L10 0 (ints .i64 v2).toArray.toList) L11 0 (ints .i64 v3).toArray.toList)
  replace hB8 := hB8.next (Below.setCells (Below.setCells hw L10 0 (ints .i64 v2).toArray.toList) L11 0 (ints .i64 v3).toArray.toList)
  replace hB9 := hB9.next (Below.setCells (Below.setCells hw L10 0 (ints .i64 v2).toArray.toList) L11 0 (ints .i64 v3).toArray.toList)
  replace hW := hW.trans (Below.mono (Below.setCells (Below.setCells hw L10 0 (ints .i64 v2).toArray.toList) L11 0 (ints .i64 v3).toArray.toList) hW.size)
  with_reducible refine wpList_store_mid (op := ⟨none, .store 41 (.tmp 10) (.tmp 35), _, _, _, _⟩) rfl 41 (.tmp 10) (.tmp 35) rfl b10 0 (ints .i64 v2).toArray rfl rfl R10 (a26 LL10.out) (ints_all _ _) ?_
  with_reducible refine wpList_store_mid (op := ⟨none, .store 41 (.tmp 11) (.tmp 40), _, _, _, _⟩) rfl 41 (.tmp 11) (.tmp 40) rfl b11 0 (ints .i64 v3).toArray rfl rfl R11 (a26 LL11.out) (ints_all _ _) ?_
  generalize ((w3.setCells b10 0 (ints .i64 v2).toArray.toList).setCells b11 0 (ints .i64 v3).toArray.toList) = w4 at *
  clear hw  R10 LL10 Z10 L10 R11 LL11 Z11 L11 ne10_11
  go_wp2_with (fail)
  have s4 := hW.size
  refine region_spec2 16 84 (fun i => i == 12 || i == 13 || i == 14 || i == 15) [Is (.agg (ints .i64 v0).toArray), Is (.agg (ints .i64 v0).toArray), Is (.agg (ints .i64 v4).toArray), Is (.agg (ints .i64 v1).toArray), Is (.agg (ints .i64 v1).toArray), Is (.agg (ints .i64 v5).toArray), Is (.agg (ints .i64 v3).toArray), Is (.agg (ints .i64 v0).toArray), Is (.agg (ints .i64 v6).toArray), Is (.agg (ints .i64 v2).toArray), Is (.agg (ints .i64 v1).toArray), Is (.agg (ints .i64 v7).toArray), IsZ w4.heap.size, IsZ w4.heap.size, IsZ w4.heap.size, IsZ w4.heap.size] [41, 42, 43, 44, 45, 46, 47, 48, 49, 50, 51, 52, 12, 13, 14, 15] (by kernel_rfl) (by kernel_rfl) (by kernel_rfl) (Nat.le_of_eq rfl) (grows_cons (Is.grows _) (grows_cons (Is.grows _) (grows_cons (Is.grows _) (grows_cons (Is.grows _) (grows_cons (Is.grows _) (grows_cons (Is.grows _) (grows_cons (Is.grows _) (grows_cons (Is.grows _) (grows_cons (Is.grows _) (grows_cons (Is.grows _) (grows_cons (Is.grows _) (grows_cons (Is.grows _) (grows_cons (IsZ.grows _) (grows_cons (IsZ.grows _) (grows_cons (IsZ.grows _) (grows_cons (IsZ.grows _) grows_nil))))))))))))))))
    ⟨step_el rfl (.inl rfl) hB8 8 rfl (by kernel_rfl) rfl rfl,
     step_el rfl (.inl rfl) hB8 8 rfl (by kernel_rfl) rfl rfl,
     step_to rfl (.inl rfl) rfl cf22 kv4 rfl (two_args (knows_in 0 41 (by decide) (by kernel_rfl) rfl rfl) (knows_in 1 42 (by decide) (by kernel_rfl) rfl rfl)),
     step_el rfl (.inl rfl) hB9 9 rfl (by kernel_rfl) rfl rfl,
     step_el rfl (.inl rfl) hB9 9 rfl (by kernel_rfl) rfl rfl,
     step_to rfl (.inl rfl) rfl cf22 kv5 rfl (two_args (knows_in 3 44 (by decide) (by kernel_rfl) rfl rfl) (knows_in 4 45 (by decide) (by kernel_rfl) rfl rfl)),
     step_el rfl (.inl rfl) hB11 11 rfl (by kernel_rfl) rfl rfl,
     step_el rfl (.inl rfl) hB8 8 rfl (by kernel_rfl) rfl rfl,
     step_to rfl (.inl rfl) rfl cf22 kv6 rfl (two_args (knows_in 6 47 (by decide) (by kernel_rfl) rfl rfl) (knows_in 7 48 (by decide) (by kernel_rfl) rfl rfl)),
     step_el rfl (.inl rfl) hB10 10 rfl (by kernel_rfl) rfl rfl,
     step_el rfl (.inl rfl) hB9 9 rfl (by kernel_rfl) rfl rfl,
     step_to rfl (.inl rfl) rfl cf22 kv7 rfl (two_args (knows_in 9 50 (by decide) (by kernel_rfl) rfl rfl) (knows_in 10 51 (by decide) (by kernel_rfl) rfl rfl)),
     step_alloc26 (.inl rfl) rfl rfl,
     step_alloc26 (.inl rfl) rfl rfl,
     step_alloc26 (.inl rfl) rfl rfl,
     step_alloc26 (.inl rfl) rfl rfl, trivial⟩ ?_
  intro val w5 hw hS hap hla
  have e41 : val 41 = (.agg (ints .i64 v0).toArray) := hS 0 41 (by decide) rfl
  have e42 : val 42 = (.agg (ints .i64 v0).toArray) := hS 1 42 (by decide) rfl
  have e43 : val 43 = (.agg (ints .i64 v4).toArray) := hS 2 43 (by decide) rfl
  have e44 : val 44 = (.agg (ints .i64 v1).toArray) := hS 3 44 (by decide) rfl
  have e45 : val 45 = (.agg (ints .i64 v1).toArray) := hS 4 45 (by decide) rfl
  have e46 : val 46 = (.agg (ints .i64 v5).toArray) := hS 5 46 (by decide) rfl
  have e47 : val 47 = (.agg (ints .i64 v3).toArray) := hS 6 47 (by decide) rfl
  have e48 : val 48 = (.agg (ints .i64 v0).toArray) := hS 7 48 (by decide) rfl
  have e49 : val 49 = (.agg (ints .i64 v6).toArray) := hS 8 49 (by decide) rfl
  have e50 : val 50 = (.agg (ints .i64 v2).toArray) := hS 9 50 (by decide) rfl
  have e51 : val 51 = (.agg (ints .i64 v1).toArray) := hS 10 51 (by decide) rfl
  have e52 : val 52 = (.agg (ints .i64 v7).toArray) := hS 11 52 (by decide) rfl
  obtain ⟨b12, e12, L12, Z12⟩ := hS 12 12 (by decide) rfl
  obtain ⟨b13, e13, L13, Z13⟩ := hS 13 13 (by decide) rfl
  obtain ⟨b14, e14, L14, Z14⟩ := hS 14 14 (by decide) rfl
  obtain ⟨b15, e15, L15, Z15⟩ := hS 15 15 (by decide) rfl
  have ne12_13 : b12 ≠ b13 := fun e => hap 12 13 12 13 (by decide) (by decide) rfl rfl (by decide) rfl rfl (by rw [e12, e13, e])
  have ne12_14 : b12 ≠ b14 := fun e => hap 12 14 12 14 (by decide) (by decide) rfl rfl (by decide) rfl rfl (by rw [e12, e14, e])
  have ne12_15 : b12 ≠ b15 := fun e => hap 12 15 12 15 (by decide) (by decide) rfl rfl (by decide) rfl rfl (by rw [e12, e15, e])
  have ne13_14 : b13 ≠ b14 := fun e => hap 13 14 13 14 (by decide) (by decide) rfl rfl (by decide) rfl rfl (by rw [e13, e14, e])
  have ne13_15 : b13 ≠ b15 := fun e => hap 13 15 13 15 (by decide) (by decide) rfl rfl (by decide) rfl rfl (by rw [e13, e15, e])
  have ne14_15 : b14 ≠ b15 := fun e => hap 14 15 14 15 (by decide) (by decide) rfl rfl (by decide) rfl rfl (by rw [e14, e15, e])
  simp only [putVals, List.foldl_cons, List.foldl_nil, List.drop_succ_cons, List.drop_zero, Act.put, List.setIfInBounds_toArray, List.set_cons_succ, List.set_cons_zero, e41, e42, e43, e44, e45, e46, e47, e48, e49, e50, e51, e52, e12, e13, e14, e15]
  clear hS hap hla e41 e42 e43 e44 e45 e46 e47 e48 e49 e50 e51 e52 e12 e13 e14 e15
  have LL12 := hid hv4.1.len
  have LL13 := hid hv5.1.len
  have LL14 := hid hv6.1.len
  have LL15 := hid hv7.1.len
  have R12 := Z12.room (l' := v4) hv4.1.len
  have hB12 := Z12.stored (l' := v4) hv4.1.len
  replace Z13 := Z13.past (b' := b12) (ints .i64 v4).toArray.toList ne12_13
  replace Z14 := Z14.past (b' := b12) (ints .i64 v4).toArray.toList ne12_14
  replace Z15 := Z15.past (b' := b12) (ints .i64 v4).toArray.toList ne12_15
  have R13 := Z13.room (l' := v5) hv5.1.len
  have hB13 := Z13.stored (l' := v5) hv5.1.len
  replace Z14 := Z14.past (b' := b13) (ints .i64 v5).toArray.toList ne13_14
  replace Z15 := Z15.past (b' := b13) (ints .i64 v5).toArray.toList ne13_15
  replace hB12 := hB12.past (b' := b13) (ints .i64 v5).toArray.toList (Ne.symm ne12_13)
  have R14 := Z14.room (l' := v6) hv6.1.len
  have hB14 := Z14.stored (l' := v6) hv6.1.len
  replace Z15 := Z15.past (b' := b14) (ints .i64 v6).toArray.toList ne14_15
  replace hB12 := hB12.past (b' := b14) (ints .i64 v6).toArray.toList (Ne.symm ne12_14)
  replace hB13 := hB13.past (b' := b14) (ints .i64 v6).toArray.toList (Ne.symm ne13_14)
  have R15 := Z15.room (l' := v7) hv7.1.len
  have hB15 := Z15.stored (l' := v7) hv7.1.len
  replace hB12 := hB12.past (b' := b15) (ints .i64 v7).toArray.toList (Ne.symm ne12_15)
  replace hB13 := hB13.past (b' := b15) (ints .i64 v7).toArray.toList (Ne.symm ne13_15)
  replace hB14 := hB14.past (b' := b15) (ints .i64 v7).toArray.toList (Ne.symm ne14_15)
  replace hP := hP.next (Below.setCells (Below.setCells (Below.setCells (Below.setCells hw L12 0 (ints .i64 v4).toArray.toList) L13 0 (ints .i64 v5).toArray.toList) L14 0 (ints .i64 v6).toArray.toList) L15 0 (ints .i64 v7).toArray.toList)
  replace hQ := hQ.next (Below.setCells (Below.setCells (Below.setCells (Below.setCells hw L12 0 (ints .i64 v4).toArray.toList) L13 0 (ints .i64 v5).toArray.toList) L14 0 (ints .i64 v6).toArray.toList) L15 0 (ints .i64 v7).toArray.toList)
  replace hU := hU.next (Below.setCells (Below.setCells (Below.setCells (Below.setCells hw L12 0 (ints .i64 v4).toArray.toList) L13 0 (ints .i64 v5).toArray.toList) L14 0 (ints .i64 v6).toArray.toList) L15 0 (ints .i64 v7).toArray.toList)
  replace h6 := h6.next (Below.setCells (Below.setCells (Below.setCells (Below.setCells hw L12 0 (ints .i64 v4).toArray.toList) L13 0 (ints .i64 v5).toArray.toList) L14 0 (ints .i64 v6).toArray.toList) L15 0 (ints .i64 v7).toArray.toList)
  replace h7 := h7.next (Below.setCells (Below.setCells (Below.setCells (Below.setCells hw L12 0 (ints .i64 v4).toArray.toList) L13 0 (ints .i64 v5).toArray.toList) L14 0 (ints .i64 v6).toArray.toList) L15 0 (ints .i64 v7).toArray.toList)
  replace hB8 := hB8.next (Below.setCells (Below.setCells (Below.setCells (Below.setCells hw L12 0 (ints .i64 v4).toArray.toList) L13 0 (ints .i64 v5).toArray.toList) L14 0 (ints .i64 v6).toArray.toList) L15 0 (ints .i64 v7).toArray.toList)
  replace hB9 := hB9.next (Below.setCells (Below.setCells (Below.setCells (Below.setCells hw L12 0 (ints .i64 v4).toArray.toList) L13 0 (ints .i64 v5).toArray.toList) L14 0 (ints .i64 v6).toArray.toList) L15 0 (ints .i64 v7).toArray.toList)
  replace hB10 := hB10.next (Below.setCells (Below.setCells (Below.setCells (Below.setCells hw L12 0 (ints .i64 v4).toArray.toList) L13 0 (ints .i64 v5).toArray.toList) L14 0 (ints .i64 v6).toArray.toList) L15 0 (ints .i64 v7).toArray.toList)
  replace hB11 := hB11.next (Below.setCells (Below.setCells (Below.setCells (Below.setCells hw L12 0 (ints .i64 v4).toArray.toList) L13 0 (ints .i64 v5).toArray.toList) L14 0 (ints .i64 v6).toArray.toList) L15 0 (ints .i64 v7).toArray.toList)
  replace hW := hW.trans (Below.mono (Below.setCells (Below.setCells (Below.setCells (Below.setCells hw L12 0 (ints .i64 v4).toArray.toList) L13 0 (ints .i64 v5).toArray.toList) L14 0 (ints .i64 v6).toArray.toList) L15 0 (ints .i64 v7).toArray.toList) hW.size)
  with_reducible refine wpList_store_mid (op := ⟨none, .store 41 (.tmp 12) (.tmp 43), _, _, _, _⟩) rfl 41 (.tmp 12) (.tmp 43) rfl b12 0 (ints .i64 v4).toArray rfl rfl R12 (a26 LL12.out) (ints_all _ _) ?_
  with_reducible refine wpList_store_mid (op := ⟨none, .store 41 (.tmp 13) (.tmp 46), _, _, _, _⟩) rfl 41 (.tmp 13) (.tmp 46) rfl b13 0 (ints .i64 v5).toArray rfl rfl R13 (a26 LL13.out) (ints_all _ _) ?_
  with_reducible refine wpList_store_mid (op := ⟨none, .store 41 (.tmp 14) (.tmp 49), _, _, _, _⟩) rfl 41 (.tmp 14) (.tmp 49) rfl b14 0 (ints .i64 v6).toArray rfl rfl R14 (a26 LL14.out) (ints_all _ _) ?_
  with_reducible refine wpList_store_mid (op := ⟨none, .store 41 (.tmp 15) (.tmp 52), _, _, _, _⟩) rfl 41 (.tmp 15) (.tmp 52) rfl b15 0 (ints .i64 v7).toArray rfl rfl R15 (a26 LL15.out) (ints_all _ _) ?_
  generalize ((((w5.setCells b12 0 (ints .i64 v4).toArray.toList).setCells b13 0 (ints .i64 v5).toArray.toList).setCells b14 0 (ints .i64 v6).toArray.toList).setCells b15 0 (ints .i64 v7).toArray.toList) = w6 at *
  clear hw  R12 LL12 Z12 L12 R13 LL13 Z13 L13 R14 LL14 Z14 L14 R15 LL15 Z15 L15 ne12_13 ne12_14 ne12_15 ne13_14 ne13_15 ne14_15
  go_upto_region 4 with (fail)
  have s6 := hW.size
  refine region_seq2 4 84 (fun i => i == 3) [Is (.agg (ints .i64 v4).toArray), Is (.agg (ints .i64 v5).toArray), Is (.agg (ints .i64 v8).toArray), IsZ w6.heap.size] [53, 54, 55, 16] (by kernel_rfl) (by kernel_rfl) (Nat.le_of_eq rfl) (grows_cons (Is.grows _) (grows_cons (Is.grows _) (grows_cons (Is.grows _) (grows_cons (IsZ.grows _) grows_nil))))
    ⟨step_el rfl (.inl rfl) hB12 12 rfl (by kernel_rfl) rfl rfl,
     step_el rfl (.inl rfl) hB13 13 rfl (by kernel_rfl) rfl rfl,
     step_to rfl (.inl rfl) rfl cf20 kv8 rfl (two_args (knows_in 0 53 (by decide) (by kernel_rfl) rfl rfl) (knows_in 1 54 (by decide) (by kernel_rfl) rfl rfl)),
     step_alloc26 (.inl rfl) rfl rfl, trivial⟩ ?_
  intro val w7 hw hS hap hla
  have e53 : val 53 = (.agg (ints .i64 v4).toArray) := hS 0 53 (by decide) rfl
  have e54 : val 54 = (.agg (ints .i64 v5).toArray) := hS 1 54 (by decide) rfl
  have e55 : val 55 = (.agg (ints .i64 v8).toArray) := hS 2 55 (by decide) rfl
  obtain ⟨b16, e16, L16, Z16⟩ := hS 3 16 (by decide) rfl
  simp only [putVals, List.foldl_cons, List.foldl_nil, List.drop_succ_cons, List.drop_zero, Act.put, List.setIfInBounds_toArray, List.set_cons_succ, List.set_cons_zero, e53, e54, e55, e16]
  clear hS hap hla e53 e54 e55 e16
  have LL16 := hid hv8.1.len
  have R16 := Z16.room (l' := v8) hv8.1.len
  have hB16 := Z16.stored (l' := v8) hv8.1.len
  replace hP := hP.next (Below.setCells hw L16 0 (ints .i64 v8).toArray.toList)
  replace hQ := hQ.next (Below.setCells hw L16 0 (ints .i64 v8).toArray.toList)
  replace hU := hU.next (Below.setCells hw L16 0 (ints .i64 v8).toArray.toList)
  replace h6 := h6.next (Below.setCells hw L16 0 (ints .i64 v8).toArray.toList)
  replace h7 := h7.next (Below.setCells hw L16 0 (ints .i64 v8).toArray.toList)
  replace hB8 := hB8.next (Below.setCells hw L16 0 (ints .i64 v8).toArray.toList)
  replace hB9 := hB9.next (Below.setCells hw L16 0 (ints .i64 v8).toArray.toList)
  replace hB10 := hB10.next (Below.setCells hw L16 0 (ints .i64 v8).toArray.toList)
  replace hB11 := hB11.next (Below.setCells hw L16 0 (ints .i64 v8).toArray.toList)
  replace hB12 := hB12.next (Below.setCells hw L16 0 (ints .i64 v8).toArray.toList)
  replace hB13 := hB13.next (Below.setCells hw L16 0 (ints .i64 v8).toArray.toList)
  replace hB14 := hB14.next (Below.setCells hw L16 0 (ints .i64 v8).toArray.toList)
  replace hB15 := hB15.next (Below.setCells hw L16 0 (ints .i64 v8).toArray.toList)
  replace hW := hW.trans (Below.mono (Below.setCells hw L16 0 (ints .i64 v8).toArray.toList) hW.size)
  with_reducible refine wpList_store_mid (op := ⟨none, .store 41 (.tmp 16) (.tmp 55), _, _, _, _⟩) rfl 41 (.tmp 16) (.tmp 55) rfl b16 0 (ints .i64 v8).toArray rfl rfl R16 (a26 LL16.out) (ints_all _ _) ?_
  generalize (w7.setCells b16 0 (ints .i64 v8).toArray.toList) = w8 at *
  clear hw  R16 LL16 Z16 L16 
  go_wp2_with (fail)
  have s8 := hW.size
  refine region_spec2 8 84 (fun i => i == 6 || i == 7) [Is (.agg (ints .i64 v6).toArray), Is (.agg (ints .i64 v7).toArray), Is (.agg (ints .i64 v9).toArray), Is (.agg (ints .i64 v6).toArray), Is (.agg (ints .i64 v7).toArray), Is (.agg (ints .i64 v10).toArray), IsZ w8.heap.size, IsZ w8.heap.size] [56, 57, 58, 59, 60, 61, 17, 18] (by kernel_rfl) (by kernel_rfl) (by kernel_rfl) (Nat.le_of_eq rfl) (grows_cons (Is.grows _) (grows_cons (Is.grows _) (grows_cons (Is.grows _) (grows_cons (Is.grows _) (grows_cons (Is.grows _) (grows_cons (Is.grows _) (grows_cons (IsZ.grows _) (grows_cons (IsZ.grows _) grows_nil))))))))
    ⟨step_el rfl (.inl rfl) hB14 14 rfl (by kernel_rfl) rfl rfl,
     step_el rfl (.inl rfl) hB15 15 rfl (by kernel_rfl) rfl rfl,
     step_to rfl (.inl rfl) rfl cf18 kv9 rfl (two_args (knows_in 0 56 (by decide) (by kernel_rfl) rfl rfl) (knows_in 1 57 (by decide) (by kernel_rfl) rfl rfl)),
     step_el rfl (.inl rfl) hB14 14 rfl (by kernel_rfl) rfl rfl,
     step_el rfl (.inl rfl) hB15 15 rfl (by kernel_rfl) rfl rfl,
     step_to rfl (.inl rfl) rfl cf20 kv10 rfl (two_args (knows_in 3 59 (by decide) (by kernel_rfl) rfl rfl) (knows_in 4 60 (by decide) (by kernel_rfl) rfl rfl)),
     step_alloc26 (.inl rfl) rfl rfl,
     step_alloc26 (.inl rfl) rfl rfl, trivial⟩ ?_
  intro val w9 hw hS hap hla
  have e56 : val 56 = (.agg (ints .i64 v6).toArray) := hS 0 56 (by decide) rfl
  have e57 : val 57 = (.agg (ints .i64 v7).toArray) := hS 1 57 (by decide) rfl
  have e58 : val 58 = (.agg (ints .i64 v9).toArray) := hS 2 58 (by decide) rfl
  have e59 : val 59 = (.agg (ints .i64 v6).toArray) := hS 3 59 (by decide) rfl
  have e60 : val 60 = (.agg (ints .i64 v7).toArray) := hS 4 60 (by decide) rfl
  have e61 : val 61 = (.agg (ints .i64 v10).toArray) := hS 5 61 (by decide) rfl
  obtain ⟨b17, e17, L17, Z17⟩ := hS 6 17 (by decide) rfl
  obtain ⟨b18, e18, L18, Z18⟩ := hS 7 18 (by decide) rfl
  have ne17_18 : b17 ≠ b18 := fun e => hap 6 7 17 18 (by decide) (by decide) rfl rfl (by decide) rfl rfl (by rw [e17, e18, e])
  simp only [putVals, List.foldl_cons, List.foldl_nil, List.drop_succ_cons, List.drop_zero, Act.put, List.setIfInBounds_toArray, List.set_cons_succ, List.set_cons_zero, e56, e57, e58, e59, e60, e61, e17, e18]
  clear hS hap hla e56 e57 e58 e59 e60 e61 e17 e18
  have LL17 := hid hv9.1.len
  have LL18 := hid hv10.1.len
  have R17 := Z17.room (l' := v9) hv9.1.len
  have hB17 := Z17.stored (l' := v9) hv9.1.len
  replace Z18 := Z18.past (b' := b17) (ints .i64 v9).toArray.toList ne17_18
  have R18 := Z18.room (l' := v10) hv10.1.len
  have hB18 := Z18.stored (l' := v10) hv10.1.len
  replace hB17 := hB17.past (b' := b18) (ints .i64 v10).toArray.toList (Ne.symm ne17_18)
  replace hP := hP.next (Below.setCells (Below.setCells hw L17 0 (ints .i64 v9).toArray.toList) L18 0 (ints .i64 v10).toArray.toList)
  replace hQ := hQ.next (Below.setCells (Below.setCells hw L17 0 (ints .i64 v9).toArray.toList) L18 0 (ints .i64 v10).toArray.toList)
  replace hU := hU.next (Below.setCells (Below.setCells hw L17 0 (ints .i64 v9).toArray.toList) L18 0 (ints .i64 v10).toArray.toList)
  replace h6 := h6.next (Below.setCells (Below.setCells hw L17 0 (ints .i64 v9).toArray.toList) L18 0 (ints .i64 v10).toArray.toList)
  replace h7 := h7.next (Below.setCells (Below.setCells hw L17 0 (ints .i64 v9).toArray.toList) L18 0 (ints .i64 v10).toArray.toList)
  replace hB8 := hB8.next (Below.setCells (Below.setCells hw L17 0 (ints .i64 v9).toArray.toList) L18 0 (ints .i64 v10).toArray.toList)
  replace hB9 := hB9.next (Below.setCells (Below.setCells hw L17 0 (ints .i64 v9).toArray.toList) L18 0 (ints .i64 v10).toArray.toList)
  replace hB10 := hB10.next (Below.setCells (Below.setCells hw L17 0 (ints .i64 v9).toArray.toList) L18 0 (ints .i64 v10).toArray.toList)
  replace hB11 := hB11.next (Below.setCells (Below.setCells hw L17 0 (ints .i64 v9).toArray.toList) L18 0 (ints .i64 v10).toArray.toList)
  replace hB12 := hB12.next (Below.setCells (Below.setCells hw L17 0 (ints .i64 v9).toArray.toList) L18 0 (ints .i64 v10).toArray.toList)
  replace hB13 := hB13.next (Below.setCells (Below.setCells hw L17 0 (ints .i64 v9).toArray.toList) L18 0 (ints .i64 v10).toArray.toList)
  replace hB14 := hB14.next (Below.setCells (Below.setCells hw L17 0 (ints .i64 v9).toArray.toList) L18 0 (ints .i64 v10).toArray.toList)
  replace hB15 := hB15.next (Below.setCells (Below.setCells hw L17 0 (ints .i64 v9).toArray.toList) L18 0 (ints .i64 v10).toArray.toList)
  replace hB16 := hB16.next (Below.setCells (Below.setCells hw L17 0 (ints .i64 v9).toArray.toList) L18 0 (ints .i64 v10).toArray.toList)
  replace hW := hW.trans (Below.mono (Below.setCells (Below.setCells hw L17 0 (ints .i64 v9).toArray.toList) L18 0 (ints .i64 v10).toArray.toList) hW.size)
  with_reducible refine wpList_store_mid (op := ⟨none, .store 41 (.tmp 17) (.tmp 58), _, _, _, _⟩) rfl 41 (.tmp 17) (.tmp 58) rfl b17 0 (ints .i64 v9).toArray rfl rfl R17 (a26 LL17.out) (ints_all _ _) ?_
  with_reducible refine wpList_store_mid (op := ⟨none, .store 41 (.tmp 18) (.tmp 61), _, _, _, _⟩) rfl 41 (.tmp 18) (.tmp 61) rfl b18 0 (ints .i64 v10).toArray rfl rfl R18 (a26 LL18.out) (ints_all _ _) ?_
  generalize ((w9.setCells b17 0 (ints .i64 v9).toArray.toList).setCells b18 0 (ints .i64 v10).toArray.toList) = w10 at *
  clear hw  R17 LL17 Z17 L17 R18 LL18 Z18 L18 ne17_18
  go_wp2_with (fail)
  have s10 := hW.size
  refine region_spec2 12 84 (fun i => i == 11) [Is (.agg (ints .i64 v4).toArray), Is (.agg (ints .i64 v5).toArray), Is (.agg (ints .i64 v11).toArray), Is (.agg (ints .i64 v8).toArray), Is (.agg (ints .i64 v4).toArray), Is (.agg (ints .i64 fac).toArray), Is (.agg (ints .i64 v8).toArray), Is (.agg (ints .i64 v12).toArray), Is (.agg (ints .i64 v13).toArray), Is (.agg (ints .i64 v14).toArray), Is (.agg (ints .i64 (v11 ++ v14)).toArray), IsZ2 w10.heap.size] [62, 63, 64, 65, 66, 67, 68, 69, 70, 71, 72, 19] (by kernel_rfl) (by kernel_rfl) (by kernel_rfl) (Nat.le_of_eq rfl) (grows_cons (Is.grows _) (grows_cons (Is.grows _) (grows_cons (Is.grows _) (grows_cons (Is.grows _) (grows_cons (Is.grows _) (grows_cons (Is.grows _) (grows_cons (Is.grows _) (grows_cons (Is.grows _) (grows_cons (Is.grows _) (grows_cons (Is.grows _) (grows_cons (Is.grows _) (grows_cons (IsZ2.grows _) grows_nil))))))))))))
    ⟨step_el rfl (.inl rfl) hB12 12 rfl (by kernel_rfl) rfl rfl,
     step_el rfl (.inl rfl) hB13 13 rfl (by kernel_rfl) rfl rfl,
     step_to rfl (.inl rfl) rfl cf22 kv11 rfl (two_args (knows_in 0 62 (by decide) (by kernel_rfl) rfl rfl) (knows_in 1 63 (by decide) (by kernel_rfl) rfl rfl)),
     step_el rfl (.inl rfl) hB16 16 rfl (by kernel_rfl) rfl rfl,
     step_el rfl (.inl rfl) hB12 12 rfl (by kernel_rfl) rfl rfl,
     step_to0 rfl (.inl rfl) rfl cf35 kfac rfl,
     step_el rfl (.inl rfl) hB16 16 rfl (by kernel_rfl) rfl rfl,
     step_to rfl (.inl rfl) rfl cf22 kv12 rfl (two_args (knows_in 5 67 (by decide) (by kernel_rfl) rfl rfl) (knows_in 6 68 (by decide) (by kernel_rfl) rfl rfl)),
     step_to rfl (.inl rfl) rfl cf18 kv13 rfl (two_args (knows_in 4 66 (by decide) (by kernel_rfl) rfl rfl) (knows_in 7 69 (by decide) (by kernel_rfl) rfl rfl)),
     step_to rfl (.inl rfl) rfl cf22 kv14 rfl (two_args (knows_in 3 65 (by decide) (by kernel_rfl) rfl rfl) (knows_in 8 70 (by decide) (by kernel_rfl) rfl rfl)),
     step_make rfl (.inl rfl) rfl hv11.1.len hv14.1.len rfl (knows_in 2 64 (by decide) (by kernel_rfl) rfl rfl) (knows_in 9 71 (by decide) (by kernel_rfl) rfl rfl),
     step_alloc45 (.inl rfl) rfl rfl, trivial⟩ ?_
  intro val w11 hw hS hap hla
  have e62 : val 62 = (.agg (ints .i64 v4).toArray) := hS 0 62 (by decide) rfl
  have e63 : val 63 = (.agg (ints .i64 v5).toArray) := hS 1 63 (by decide) rfl
  have e64 : val 64 = (.agg (ints .i64 v11).toArray) := hS 2 64 (by decide) rfl
  have e65 : val 65 = (.agg (ints .i64 v8).toArray) := hS 3 65 (by decide) rfl
  have e66 : val 66 = (.agg (ints .i64 v4).toArray) := hS 4 66 (by decide) rfl
  have e67 : val 67 = (.agg (ints .i64 fac).toArray) := hS 5 67 (by decide) rfl
  have e68 : val 68 = (.agg (ints .i64 v8).toArray) := hS 6 68 (by decide) rfl
  have e69 : val 69 = (.agg (ints .i64 v12).toArray) := hS 7 69 (by decide) rfl
  have e70 : val 70 = (.agg (ints .i64 v13).toArray) := hS 8 70 (by decide) rfl
  have e71 : val 71 = (.agg (ints .i64 v14).toArray) := hS 9 71 (by decide) rfl
  have e72 : val 72 = (.agg (ints .i64 (v11 ++ v14)).toArray) := hS 10 72 (by decide) rfl
  obtain ⟨b19, e19, L19, Z19⟩ := hS 11 19 (by decide) rfl
  simp only [putVals, List.foldl_cons, List.foldl_nil, List.drop_succ_cons, List.drop_zero, Act.put, List.setIfInBounds_toArray, List.set_cons_succ, List.set_cons_zero, e62, e63, e64, e65, e66, e67, e68, e69, e70, e71, e72, e19]
  clear hS hap hla e62 e63 e64 e65 e66 e67 e68 e69 e70 e71 e72 e19
  have LL19 := hid (len32 hv11.1.len hv14.1.len)
  have R19 := Z19.room (l' := (v11 ++ v14)) (len32 hv11.1.len hv14.1.len)
  have hB19 := Z19.stored (l' := (v11 ++ v14)) (len32 hv11.1.len hv14.1.len)
  replace hP := hP.next (Below.setCells hw L19 0 (ints .i64 (v11 ++ v14)).toArray.toList)
  replace hQ := hQ.next (Below.setCells hw L19 0 (ints .i64 (v11 ++ v14)).toArray.toList)
  replace hU := hU.next (Below.setCells hw L19 0 (ints .i64 (v11 ++ v14)).toArray.toList)
  replace h6 := h6.next (Below.setCells hw L19 0 (ints .i64 (v11 ++ v14)).toArray.toList)
  replace h7 := h7.next (Below.setCells hw L19 0 (ints .i64 (v11 ++ v14)).toArray.toList)
  replace hB8 := hB8.next (Below.setCells hw L19 0 (ints .i64 (v11 ++ v14)).toArray.toList)
  replace hB9 := hB9.next (Below.setCells hw L19 0 (ints .i64 (v11 ++ v14)).toArray.toList)
  replace hB10 := hB10.next (Below.setCells hw L19 0 (ints .i64 (v11 ++ v14)).toArray.toList)
  replace hB11 := hB11.next (Below.setCells hw L19 0 (ints .i64 (v11 ++ v14)).toArray.toList)
  replace hB12 := hB12.next (Below.setCells hw L19 0 (ints .i64 (v11 ++ v14)).toArray.toList)
  replace hB13 := hB13.next (Below.setCells hw L19 0 (ints .i64 (v11 ++ v14)).toArray.toList)
  replace hB14 := hB14.next (Below.setCells hw L19 0 (ints .i64 (v11 ++ v14)).toArray.toList)
  replace hB15 := hB15.next (Below.setCells hw L19 0 (ints .i64 (v11 ++ v14)).toArray.toList)
  replace hB16 := hB16.next (Below.setCells hw L19 0 (ints .i64 (v11 ++ v14)).toArray.toList)
  replace hB17 := hB17.next (Below.setCells hw L19 0 (ints .i64 (v11 ++ v14)).toArray.toList)
  replace hB18 := hB18.next (Below.setCells hw L19 0 (ints .i64 (v11 ++ v14)).toArray.toList)
  replace hW := hW.trans (Below.mono (Below.setCells hw L19 0 (ints .i64 (v11 ++ v14)).toArray.toList) hW.size)
  with_reducible refine wpList_store_mid (op := ⟨none, .store 45 (.tmp 19) (.tmp 72), _, _, _, _⟩) rfl 45 (.tmp 19) (.tmp 72) rfl b19 0 (ints .i64 (v11 ++ v14)).toArray rfl rfl R19 (a45 LL19.out) (ints_all _ _) ?_
  generalize (w11.setCells b19 0 (ints .i64 (v11 ++ v14)).toArray.toList) = w12 at *
  clear hw  R19 LL19 Z19 L19 
  go_wp2_with (fail)
  have lt6 := h6.lt
  have lt7 := h7.lt
  have s12 := hW.size
  refine region_spec2 10 84 (fun i => i == 9) [Is (.agg (ints .i64 v9).toArray), Is (.agg (ints .i64 v9).toArray), Is (.agg (ints .i64 v15).toArray), Is (.agg (ints .i64 uu).toArray), Is (.agg (ints .i64 v10).toArray), Is (.agg (ints .i64 v10).toArray), Is (.agg (ints .i64 v16).toArray), Is (.agg (ints .i64 v17).toArray), Is (.agg (ints .i64 (v15 ++ v17)).toArray), IsZ2 w12.heap.size] [73, 74, 75, 76, 77, 78, 79, 80, 81, 20] (by kernel_rfl) (by kernel_rfl) (by kernel_rfl) (Nat.le_of_eq rfl) (grows_cons (Is.grows _) (grows_cons (Is.grows _) (grows_cons (Is.grows _) (grows_cons (Is.grows _) (grows_cons (Is.grows _) (grows_cons (Is.grows _) (grows_cons (Is.grows _) (grows_cons (Is.grows _) (grows_cons (Is.grows _) (grows_cons (IsZ2.grows _) grows_nil))))))))))
    ⟨step_el rfl (.inl rfl) hB17 17 rfl (by kernel_rfl) rfl rfl,
     step_el rfl (.inl rfl) hB17 17 rfl (by kernel_rfl) rfl rfl,
     step_to rfl (.inl rfl) rfl cf22 kv15 rfl (two_args (knows_in 0 73 (by decide) (by kernel_rfl) rfl rfl) (knows_in 1 74 (by decide) (by kernel_rfl) rfl rfl)),
     step_el rfl (.inl rfl) hU 5 rfl (by kernel_rfl) rfl rfl,
     step_el rfl (.inl rfl) hB18 18 rfl (by kernel_rfl) rfl rfl,
     step_el rfl (.inl rfl) hB18 18 rfl (by kernel_rfl) rfl rfl,
     step_to rfl (.inl rfl) rfl cf22 kv16 rfl (two_args (knows_in 4 77 (by decide) (by kernel_rfl) rfl rfl) (knows_in 5 78 (by decide) (by kernel_rfl) rfl rfl)),
     step_to rfl (.inl rfl) rfl cf22 kv17 rfl (two_args (knows_in 3 76 (by decide) (by kernel_rfl) rfl rfl) (knows_in 6 79 (by decide) (by kernel_rfl) rfl rfl)),
     step_make rfl (.inl rfl) rfl hv15.1.len hv17.1.len rfl (knows_in 2 75 (by decide) (by kernel_rfl) rfl rfl) (knows_in 7 80 (by decide) (by kernel_rfl) rfl rfl),
     step_alloc45 (.inl rfl) rfl rfl, trivial⟩ ?_
  intro val w13 hw hS hap hla
  have e73 : val 73 = (.agg (ints .i64 v9).toArray) := hS 0 73 (by decide) rfl
  have e74 : val 74 = (.agg (ints .i64 v9).toArray) := hS 1 74 (by decide) rfl
  have e75 : val 75 = (.agg (ints .i64 v15).toArray) := hS 2 75 (by decide) rfl
  have e76 : val 76 = (.agg (ints .i64 uu).toArray) := hS 3 76 (by decide) rfl
  have e77 : val 77 = (.agg (ints .i64 v10).toArray) := hS 4 77 (by decide) rfl
  have e78 : val 78 = (.agg (ints .i64 v10).toArray) := hS 5 78 (by decide) rfl
  have e79 : val 79 = (.agg (ints .i64 v16).toArray) := hS 6 79 (by decide) rfl
  have e80 : val 80 = (.agg (ints .i64 v17).toArray) := hS 7 80 (by decide) rfl
  have e81 : val 81 = (.agg (ints .i64 (v15 ++ v17)).toArray) := hS 8 81 (by decide) rfl
  obtain ⟨b20, e20, L20, Z20⟩ := hS 9 20 (by decide) rfl
  simp only [putVals, List.foldl_cons, List.foldl_nil, List.drop_succ_cons, List.drop_zero, Act.put, List.setIfInBounds_toArray, List.set_cons_succ, List.set_cons_zero, e73, e74, e75, e76, e77, e78, e79, e80, e81, e20]
  clear hS hap hla e73 e74 e75 e76 e77 e78 e79 e80 e81 e20
  have LL20 := hid (len32 hv15.1.len hv17.1.len)
  have R20 := Z20.room (l' := (v15 ++ v17)) (len32 hv15.1.len hv17.1.len)
  have hB20 := Z20.stored (l' := (v15 ++ v17)) (len32 hv15.1.len hv17.1.len)
  replace hP := hP.next (Below.setCells hw L20 0 (ints .i64 (v15 ++ v17)).toArray.toList)
  replace hQ := hQ.next (Below.setCells hw L20 0 (ints .i64 (v15 ++ v17)).toArray.toList)
  replace hU := hU.next (Below.setCells hw L20 0 (ints .i64 (v15 ++ v17)).toArray.toList)
  replace h6 := h6.next (Below.setCells hw L20 0 (ints .i64 (v15 ++ v17)).toArray.toList)
  replace h7 := h7.next (Below.setCells hw L20 0 (ints .i64 (v15 ++ v17)).toArray.toList)
  replace hB8 := hB8.next (Below.setCells hw L20 0 (ints .i64 (v15 ++ v17)).toArray.toList)
  replace hB9 := hB9.next (Below.setCells hw L20 0 (ints .i64 (v15 ++ v17)).toArray.toList)
  replace hB10 := hB10.next (Below.setCells hw L20 0 (ints .i64 (v15 ++ v17)).toArray.toList)
  replace hB11 := hB11.next (Below.setCells hw L20 0 (ints .i64 (v15 ++ v17)).toArray.toList)
  replace hB12 := hB12.next (Below.setCells hw L20 0 (ints .i64 (v15 ++ v17)).toArray.toList)
  replace hB13 := hB13.next (Below.setCells hw L20 0 (ints .i64 (v15 ++ v17)).toArray.toList)
  replace hB14 := hB14.next (Below.setCells hw L20 0 (ints .i64 (v15 ++ v17)).toArray.toList)
  replace hB15 := hB15.next (Below.setCells hw L20 0 (ints .i64 (v15 ++ v17)).toArray.toList)
  replace hB16 := hB16.next (Below.setCells hw L20 0 (ints .i64 (v15 ++ v17)).toArray.toList)
  replace hB17 := hB17.next (Below.setCells hw L20 0 (ints .i64 (v15 ++ v17)).toArray.toList)
  replace hB18 := hB18.next (Below.setCells hw L20 0 (ints .i64 (v15 ++ v17)).toArray.toList)
  replace hB19 := hB19.next (Below.setCells hw L20 0 (ints .i64 (v15 ++ v17)).toArray.toList)
  replace hW := hW.trans (Below.mono (Below.setCells hw L20 0 (ints .i64 (v15 ++ v17)).toArray.toList) hW.size)
  with_reducible refine wpList_store_mid (op := ⟨none, .store 45 (.tmp 20) (.tmp 81), _, _, _, _⟩) rfl 45 (.tmp 20) (.tmp 81) rfl b20 0 (ints .i64 (v15 ++ v17)).toArray rfl rfl R20 (a45 LL20.out) (ints_all _ _) ?_
  generalize (w13.setCells b20 0 (ints .i64 (v15 ++ v17)).toArray.toList) = w14 at *
  clear hw  R20 LL20 Z20 
  go_wp2_with (fail)
  refine wp_region_any (by kernel_rfl) ?_
  change wpAny _ _ _ _ 4 _ _ w14.drew
  have X19 : B2 w14.drew b19 _ := hB19
  have X20 : B2 w14.drew b20 _ := hB20
  have X6 : B2 w14.drew _ _ := h6
  have X7 : B2 w14.drew _ _ := h7
  have XW : Below W.heap.size W w14.drew := hW.drew
  generalize w14.drew = wz at *
  have n1 : W.heap.size + 1 + 1 + 1 ≠ b20 := by omega
  refine two_out _ _ _ _ rfl rfl rfl rfl rfl rfl rfl rfl (by kernel_rfl) (by kernel_rfl) (by kernel_rfl) (by kernel_rfl) (by kernel_rfl) (by kernel_rfl) (by kernel_rfl) 6 7 19 20 82 83 45 rfl rfl rfl rfl rfl rfl rfl rfl (W.heap.size + 1 + 1 + 1) (W.heap.size + 1 + 1 + 1 + 1) b19 b20 .i64 (v11 ++ v14) (v15 ++ v17) (zeros 32) (zeros 32) X19.1 X20.1 X6.1 X7.1 (X19.2.trans (zeros_len 32).symm) (X20.2.trans (zeros_len 32).symm) n1 (by omega) _ Try.underlying45 rfl (l45 X19.2) (l45 X20.2) rfl rfl rfl rfl (by show (82 : Nat) < 84; decide) (by show (83 : Nat) < 84; decide) (by decide) (by decide) (by decide) (by decide) (by decide) (by decide) (by decide) ?_
  intro w9 y6 y7 ew
  have hW9 : Below W.heap.size W w9 := by
    rw [ew]
    exact Below.setCells (Below.setCells XW (g := W.heap.size + 1 + 1 + 1) (by omega) 0 _) (g := W.heap.size + 1 + 1 + 1 + 1) (by omega) 0 _
  have q1 := X19.2
  have q2 := X20.2
  clear ew X6 X7 X19 X20 XW hW h6 h7 hB19 hB20 hP hQ hU
  simp only [Act.put, List.setIfInBounds_toArray, List.set_cons_succ, List.set_cons_zero]
  go_wp2_with (fail)
  exact bodyPost_ret (results_rows rfl _ _ (W.heap.size + 1 + 1 + 1) (W.heap.size + 1 + 1 + 1 + 1) rfl rfl (ints .i64 (v11 ++ v14)) (ints .i64 (v15 ++ v17)) _ y6.range y7.range Try.underlying45 rfl (l45 q1) (l45 q2)) rfl ⟨rfl, hW9⟩
end Go.Proofs.Ytoncinbohfmciaa

/- The ladder by numbers; what one round of the code calls. -/
namespace Go.Proofs.Ytoncinbohfmciaa
open Go Go.RowKit

section
variable {ops : Array Oper} {md : Region.Mode} {W : World} {a0 : Act} {n : Nat} {S : Nat → Value → World → Prop} {i : Nat} {o : Oper} {b : Nat} {l : List Int}
theorem free_el (hg : o.guard = none) (h : Bx W b l) (t : Tmp) (ho : o.op = .load 41 (.tmp t)) (hB : notDst ops n t = true) (hx : a0.eval (.tmp t) = .pointer (some ⟨b, 0, none⟩)) (hS : S i = Is (.agg (ints .i64 l).toArray)) : Free Try.prog ops md W a0 n S i o :=
  ⟨hg, fun _ _ hw hf _ => ⟨_, ex_load 41 (.tmp t) ho b 0 ((eval_out hf t hB).trans hx) (ints .i64 l) _ (h.next hw).range Try.underlying41 rfl (l26 h.2), fun _ => by rw [hS]; exact rfl⟩⟩
theorem free_make (hg : o.guard = none) {x y : Operand} {u v : List Int} (ho : o.op = .build 45 #[(0, x), (1, y)]) (hu : u.length = 16) (hv : v.length = 16) (hS : S i = Is (.agg (ints .i64 (u ++ v)).toArray)) (hx : Knows ops md W a0 n S i x (.agg (ints .i64 u).toArray)) (hy : Knows ops md W a0 n S i y (.agg (ints .i64 v).toArray)) : Free Try.prog ops md W a0 n S i o :=
  ⟨hg, fun a w hw hf hd => ⟨.agg (ints .i64 (u ++ v)).toArray, by
    have h1 := hx a w hw hf hd
    have h2 := hy a w hw hf hd
    revert h1 h2
    generalize a.eval = ev
    intro h1 h2
    have h := run_build (P := Try.prog) w 45 #[(0, ev x), (1, ev y)] _ (by rw [h1, h2]; exact built45 hu hv)
    unfold execOp
    simp only [ho, Sem.run_bind]
    simp only [List.map_toArray, List.map_cons, List.map_nil, h, Result.andThen_ok, Sem.run_pure], fun _ => by rw [hS]; exact rfl⟩⟩
end

/-- Two points as ratios. -/
structure L4 where
  a : Nat
  b : Nat
  c : Nat
  d : Nat
def lstep (u : Nat) (st : Bool) (S : L4) : L4 := match st with
  | true => ⟨sX S.a S.b S.c S.d, sZ u S.a S.b S.c S.d, dX S.c S.d, dZ S.c S.d⟩
  | false => ⟨dX S.a S.b, dZ S.a S.b, sX S.a S.b S.c S.d, sZ u S.a S.b S.c S.d⟩
def bitB (b : List Int) (i : Nat) : Bool := bitAt b i == 1
/-- After so many bits. -/
def ladN (u : Nat) (b : List Int) : Nat → L4
  | 0 => ⟨1, 0, u, 1⟩
  | k + 1 => lstep u (bitB b (254 - k)) (ladN u b k)
/-- The result's number, and its bytes. -/
def outN (S : L4) : Nat := S.a * (S.b ^ (NT.PN - 2) % NT.PN) % NT.PN
def mulN (b : List Int) (u : Nat) : Nat := outN (ladN u (clampL b) 255)
def uOf (p : List Int) : Nat := (ev (ofL p) % P).toNat
theorem uOf_nm {p : List Int} (hp : Byt p) : Nm (ofL p) (uOf p) := Nm.of (ofL_el hp)

theorem nA_comm (a b : Nat) : nA a b = nA b a := by unfold nA; rw [Nat.add_comm]
theorem nM_comm (a b : Nat) : nM a b = nM b a := by unfold nM; rw [Nat.mul_comm]
theorem sU_swap (a b c d : Nat) : sU c d a b = sV a b c d := by unfold sU sV; rw [nM_comm]
theorem sV_swap (a b c d : Nat) : sV c d a b = sU a b c d := by unfold sU sV; rw [nM_comm]
theorem sX_swap (a b c d : Nat) : sX c d a b = sX a b c d := by
  have h1 := sU_swap a b c d
  have h2 := sV_swap a b c d
  unfold sX; rw [h1, h2, nA_comm]
theorem nM_lt (a b : Nat) : nM a b < NT.PN := Nat.mod_lt _ (by decide)
theorem sU_lt (a b c d : Nat) : sU a b c d < NT.PN := nM_lt _ _
theorem sV_lt (a b c d : Nat) : sV a b c d < NT.PN := nM_lt _ _
theorem nS_int {a b : Nat} (hb : b < NT.PN) : ((nS a b : Nat) : Int) = ((a : Int) - b) % P := sub_int a b hb
theorem sq_swap {a b : Nat} (ha : a < NT.PN) (hb : b < NT.PN) : nM (nS a b) (nS a b) = nM (nS b a) (nS b a) := by
  have h : ((nM (nS a b) (nS a b) : Nat) : Int) = ((nM (nS b a) (nS b a) : Nat) : Int) := by
    unfold nM
    rw [Int.natCast_emod, Int.natCast_emod, pn_int, Int.natCast_mul, Int.natCast_mul, nS_int hb, nS_int ha, ← Int.mul_emod, ← Int.mul_emod]
    congr 1
    have : (b : Int) - a = -((a : Int) - b) := by omega
    rw [this, Int.neg_mul_neg]
  exact Int.ofNat_inj.1 h
theorem sZ_swap (u a b c d : Nat) : sZ u c d a b = sZ u a b c d := by
  have h1 := sU_swap a b c d
  have h2 := sV_swap a b c d
  unfold sZ
  rw [h1, h2, sq_swap (sV_lt _ _ _ _) (sU_lt _ _ _ _)]

/-- The code's two points, the other way round if the last bit was 1. -/
def At (S : L4) (sw : Bool) (lx lz hx hz : List Int) : Prop := match sw with
  | true => Nm lx S.c ∧ Nm lz S.d ∧ Nm hx S.a ∧ Nm hz S.b
  | false => Nm lx S.a ∧ Nm lz S.b ∧ Nm hx S.c ∧ Nm hz S.d
theorem At.nm {S : L4} {sw : Bool} {lx lz hx hz : List Int} (h : At S sw lx lz hx hz) : ∃ a b c d, Nm lx a ∧ Nm lz b ∧ Nm hx c ∧ Nm hz d := by
  cases sw with
  | true => exact ⟨_, _, _, _, h.1, h.2.1, h.2.2.1, h.2.2.2⟩
  | false => exact ⟨_, _, _, _, h.1, h.2.1, h.2.2.1, h.2.2.2⟩
theorem At.turn {S : L4} {sw : Bool} {lx lz hx hz : List Int} (h : At S sw lx lz hx hz) (st : Bool) : At S st (if (st != sw) then hx else lx) (if (st != sw) then hz else lz) (if (st != sw) then lx else hx) (if (st != sw) then lz else hz) := by
  cases sw <;> cases st <;> first | exact h | exact ⟨h.2.2.1, h.2.2.2, h.1, h.2.1⟩
theorem step_at {S : L4} {st : Bool} {px pz qx qz uu : List Int} {u : Nat} (h : At S st px pz qx qz) (hu : Nm uu u) : ∃ dx dz sx sz, CallsTo 25 #[.agg (ints .i64 (px ++ pz)).toArray, .agg (ints .i64 (qx ++ qz)).toArray, .agg (ints .i64 uu).toArray] (.tuple #[.agg (ints .i64 (dx ++ dz)).toArray, .agg (ints .i64 (sx ++ sz)).toArray]) ∧ At (lstep u st S) st dx dz sx sz := by
  cases st with
  | true =>
    obtain ⟨dx, dz, sx, sz, h1, h2, h3, h4, h5⟩ := c_step h.1 h.2.1 h.2.2.1 h.2.2.2 hu
    rw [sX_swap] at h4
    rw [sZ_swap] at h5
    exact ⟨dx, dz, sx, sz, h1, h2, h3, h4, h5⟩
  | false =>
    obtain ⟨dx, dz, sx, sz, h1, h2, h3, h4, h5⟩ := c_step h.1 h.2.1 h.2.2.1 h.2.2.2 hu
    exact ⟨dx, dz, sx, sz, h1, h2, h3, h4, h5⟩
theorem round_calls {S : L4} {sw : Bool} {lx lz hx hz uu : List Int} {u : Nat} (h : At S sw lx lz hx hz) (hu : Nm uu u) (st : Bool) : ∃ P Q D E : List Int, CallsTo 24 #[.agg (ints .i64 (lx ++ lz)).toArray, .agg (ints .i64 (hx ++ hz)).toArray, .bool (st != sw)] (.tuple #[.agg (ints .i64 P).toArray, .agg (ints .i64 Q).toArray]) ∧ CallsTo 25 #[.agg (ints .i64 P).toArray, .agg (ints .i64 Q).toArray, .agg (ints .i64 uu).toArray] (.tuple #[.agg (ints .i64 D).toArray, .agg (ints .i64 E).toArray]) ∧ P.length = 32 ∧ Q.length = 32 ∧ D.length = 32 ∧ E.length = 32 ∧ ∃ dx dz sx sz, D = dx ++ dz ∧ E = sx ++ sz ∧ At (lstep u st S) st dx dz sx sz := by
  obtain ⟨_, _, _, _, n1, n2, n3, n4⟩ := h.nm
  have h2 := h.turn st
  obtain ⟨_, _, _, _, m1, m2, m3, m4⟩ := h2.nm
  obtain ⟨dx, dz, sx, sz, k, h3⟩ := step_at h2 hu
  obtain ⟨_, _, _, _, o1, o2, o3, o4⟩ := h3.nm
  exact ⟨_, _, dx ++ dz, sx ++ sz, c_swapR n1.1 n2.1 n3.1 n4.1 _, k, len32 m1.1.len m2.1.len, len32 m3.1.len m4.1.len, len32 o1.1.len o2.1.len, len32 o3.1.len o4.1.len, dx, dz, sx, sz, rfl, rfl, h3⟩
/-- The last exchange. -/
theorem last_calls {S : L4} {sw : Bool} {lx lz hx hz : List Int} (h : At S sw lx lz hx hz) : ∃ x z Q : List Int, CallsTo 24 #[.agg (ints .i64 (lx ++ lz)).toArray, .agg (ints .i64 (hx ++ hz)).toArray, .bool sw] (.tuple #[.agg (ints .i64 (x ++ z)).toArray, .agg (ints .i64 Q).toArray]) ∧ Nm x S.a ∧ Nm z S.b := by
  obtain ⟨_, _, _, _, n1, n2, n3, n4⟩ := h.nm
  have k := c_swapR n1.1 n2.1 n3.1 n4.1 sw
  cases sw with
  | true => exact ⟨_, _, _, k, h.2.2.1, h.2.2.2⟩
  | false => exact ⟨_, _, _, k, h.1, h.2.1⟩
/-- The two points as rows of 32 cells. -/
def Pts (S : L4) (sw : Bool) (L H : List Int) : Prop := ∃ lx lz hx hz : List Int, L = lx ++ lz ∧ H = hx ++ hz ∧ At S sw lx lz hx hz
theorem round2 {S : L4} {sw : Bool} {L H uu : List Int} {u : Nat} (h : Hid (Pts S sw L H)) (hu : Hid (Nm uu u)) (st : Bool) : ∃ P Q D E : List Int, CallsTo 24 #[.agg (ints .i64 L).toArray, .agg (ints .i64 H).toArray, .bool (st != sw)] (.tuple #[.agg (ints .i64 P).toArray, .agg (ints .i64 Q).toArray]) ∧ CallsTo 25 #[.agg (ints .i64 P).toArray, .agg (ints .i64 Q).toArray, .agg (ints .i64 uu).toArray] (.tuple #[.agg (ints .i64 D).toArray, .agg (ints .i64 E).toArray]) ∧ Hid (P.length = 32) ∧ Hid (Q.length = 32) ∧ Hid (D.length = 32) ∧ Hid (E.length = 32) ∧ Hid (Pts (lstep u st S) st D E) := by
  obtain ⟨lx, lz, hx, hz, rfl, rfl, hA⟩ := h.out
  obtain ⟨P, Q, D, E, k1, k2, l1, l2, l3, l4, dx, dz, sx, sz, e1, e2, h3⟩ := round_calls hA hu.out st
  exact ⟨P, Q, D, E, k1, k2, hid l1, hid l2, hid l3, hid l4, hid ⟨dx, dz, sx, sz, e1, e2, h3⟩⟩
theorem last2 {S : L4} {sw : Bool} {L H : List Int} (h : Hid (Pts S sw L H)) : ∃ x z Q : List Int, CallsTo 24 #[.agg (ints .i64 L).toArray, .agg (ints .i64 H).toArray, .bool sw] (.tuple #[.agg (ints .i64 (x ++ z)).toArray, .agg (ints .i64 Q).toArray]) ∧ Hid (Nm x S.a) ∧ Hid (Nm z S.b) := by
  obtain ⟨lx, lz, hx, hz, rfl, rfl, hA⟩ := h.out
  obtain ⟨x, z, Q, k, h1, h2⟩ := last_calls hA
  exact ⟨x, z, Q, k, hid h1, hid h2⟩
end Go.Proofs.Ytoncinbohfmciaa
