/- The steps of a region, operation by operation. -/
import Derived.Test.YtdfalneiapeegaaSpec
import Derived.Great.Frames
import Derived.Test.YtdfalneiapeegaaRows
namespace Go.Proofs.Ytdfalneiapeegaa
open Go Go.RowKit

theorem ex_fn {ev : Operand → Value} {o : Oper} {f : FuncId} {xs : Array Operand} {ts : Array TypeId} (hf : ev (.func f) = .func (.func f) #[] #[]) (hc : ∀ vs w, (callFunc f vs).run Try.prog w = .ok (.enter f vs) w) (ho : o.op = .call { callee := .value (.func f), args := xs, argTypes := ts }) (vs : Array Value) (hv : xs.map ev = vs) (w : World) : (execOp ev o).run Try.prog w = .ok (.enter f vs) w := by
  subst hv
  unfold execOp
  simp only [ho]
  go_simp
def Is (v0 : Value) : Value → World → Prop := fun v _ => v = v0
theorem Is.grows (v0 : Value) : Grows (Is v0) := fun _ _ _ h _ => h
theorem grows_nil : ∀ S ∈ ([] : List (Value → World → Prop)), Grows S := fun S h => by cases h
theorem grows_cons {S : Value → World → Prop} {Ss : List (Value → World → Prop)} (h : Grows S) (k : ∀ S ∈ Ss, Grows S) : ∀ T ∈ S :: Ss, Grows T := fun T hT => by
  rcases List.mem_cons.1 hT with e | e
  · rw [e]; exact h
  · exact k T e

/-- The slots that the region's operations do not fill are as they were. -/
def Fr (ops : Array Oper) (n : Nat) (a0 a : Act) : Prop := ∀ t, (∀ j, j < n → dstOf ops j ≠ some t) → a.tmps[t]? = a0.tmps[t]?
/-- What an operation waits for is as it was told. -/
def Dp (ops : Array Oper) (md : Region.Mode) (n : Nat) (S : Nat → Value → World → Prop) (i : Nat) (a : Act) (w : World) : Prop := ∀ j d, j < n → Region.waitsFor md ops i j = true → dstOf ops j = some d → S j (a.eval (.tmp d)) w
def GuardOn (ops : Array Oper) (md : Region.Mode) (n : Nat) (S : Nat → Value → World → Prop) (i : Nat) (o : Oper) : Prop :=
  o.guard = none ∨ ∃ j b d, o.guard = some (j, b) ∧ j < n ∧ Region.waitsFor md ops i j = true ∧ dstOf ops j = some d ∧ ∀ v w, S j v w → v = .bool b
def GuardOff (ops : Array Oper) (md : Region.Mode) (n : Nat) (S : Nat → Value → World → Prop) (i : Nat) (o : Oper) : Prop :=
  ∃ j b d, o.guard = some (j, b) ∧ j < n ∧ Region.waitsFor md ops i j = true ∧ dstOf ops j = some d ∧ ∀ v w, S j v w → v = .bool (!b) ∨ v = undef
section
variable {P : Program} {ops : Array Oper} {md : Region.Mode} {W : World} {a0 : Act} {n : Nat} {al : Nat → Bool} {S : Nat → Value → World → Prop} {Q : Exit → Act → World → Prop} {i : Nat} {o : Oper}
theorem yielded_eval {a : Act} {j d : Nat} {b : Bool} (hd : dstOf ops j = some d) (he : a.eval (.tmp d) = .bool b) : yielded ops a.tmps j = some b := by
  unfold dstOf at hd
  have ht : a.tmps[d]? = some (.bool b) := by
    simp only [Act.eval, Array.getD_eq_getD_getElem?] at he
    cases h : a.tmps[d]? with
    | none => rw [h] at he; cases he
    | some v => rw [h] at he; rw [← he]; rfl
  unfold yielded
  rw [hd]
  simp [ht]
theorem yielded_undef {a : Act} {j d : Nat} (hd : dstOf ops j = some d) (he : a.eval (.tmp d) = undef) : yielded ops a.tmps j = none := by
  unfold dstOf at hd
  unfold yielded
  rw [hd]
  simp only [Act.eval, Array.getD_eq_getD_getElem?] at he
  cases h : a.tmps[d]? with
  | none => simp [h]
  | some v =>
    rw [h] at he
    simp only [Option.getD_some] at he
    subst he
    simp [h, undef]
theorem GuardOn.wanted {a : Act} {w : World} (hg : GuardOn ops md n S i o) (hd : Dp ops md n S i a w) : Region.wanted o (yielded ops a.tmps) = true := by
  rcases hg with h | ⟨j, b, d, h1, h2, h3, h4, h5⟩
  · simp [Region.wanted, h]
  · have := h5 _ _ (hd j d h2 h3 h4)
    have hy := yielded_eval h4 this
    unfold Region.wanted
    rw [h1]
    simp [hy]
theorem GuardOff.wanted {a : Act} {w : World} (hg : GuardOff ops md n S i o) (hd : Dp ops md n S i a w) : Region.wanted o (yielded ops a.tmps) = false := by
  obtain ⟨j, b, d, h1, h2, h3, h4, h5⟩ := hg
  unfold Region.wanted
  rw [h1]
  rcases h5 _ _ (hd j d h2 h3 h4) with h | h
  · have hy := yielded_eval h4 h
    simp [hy]
  · have hy := yielded_undef h4 h
    simp [hy]
theorem step_run (hal : al i = false) (hg : GuardOn ops md n S i o) (h : ∀ (a : Act) (w : World), Cl W w → Fr ops n a0 a → Dp ops md n S i a w →
    ∃ v, (execOp a.eval o).run P w = .ok (.value v) w ∧ S i v w) : StepOk P ops md W a0 n al S Q i o := fun a w hw hf hd => by
  rw [if_pos (hg.wanted hd)]
  obtain ⟨v, h1, h2⟩ := h a w hw hf hd
  unfold Oper.wp
  rw [h1, Oper.upon_value]
  exact ⟨v, rfl, h2, Below.refl _ _, fun e => by rw [hal] at e; cases e⟩
theorem step_off (hal : al i = false) (hg : GuardOff ops md n S i o) (hS : ∀ w, S i undef w) : StepOk P ops md W a0 n al S Q i o := fun a w _ _ hd => by
  rw [if_neg (by rw [hg.wanted hd]; exact Bool.false_ne_true)]
  exact ⟨hS w, hal⟩
theorem step_callH (hg : GuardOn ops md n S i o) (h : ∀ (a : Act) (w : World), Cl W w → Fr ops n a0 a → Dp ops md n S i a w →
    ∃ f args, (execOp a.eval o).run P w = .ok (.enter f args) w ∧ Calls P f args w fun e w' => ∃ v, e = .returned v ∧ S i v w' ∧ Below w.heap.size w w' ∧ (al i = true → ∃ b, home v = some b ∧ w.heap.size ≤ b ∧ b < w'.heap.size)) : StepOk P ops md W a0 n al S Q i o := fun a w hw hf hd => by
  rw [if_pos (hg.wanted hd)]
  obtain ⟨f, args, h1, h2⟩ := h a w hw hf hd
  unfold Oper.wp
  rw [h1, Oper.upon_enter]
  refine h2.mono fun e w' ⟨v, he, hs, hb, hh⟩ => ?_
  subst he
  exact ⟨v, rfl, hs, hb, hh⟩
theorem step_call (hal : al i = false) (hg : GuardOn ops md n S i o) (h : ∀ (a : Act) (w : World), Cl W w → Fr ops n a0 a → Dp ops md n S i a w →
    ∃ f args, (execOp a.eval o).run P w = .ok (.enter f args) w ∧ Calls P f args w fun e w' => ∃ v, e = .returned v ∧ S i v w' ∧ Below w.heap.size w w') : StepOk P ops md W a0 n al S Q i o :=
  step_callH hg fun a w hw hf hd => by
    obtain ⟨f, args, h1, h2⟩ := h a w hw hf hd
    exact ⟨f, args, h1, h2.mono fun _ _ ⟨v, he, hs, hb⟩ => ⟨v, he, hs, hb, fun e => by rw [hal] at e; cases e⟩⟩
theorem step_alloc {ob : Obj} (hg : GuardOn ops md n S i o) (h : ∀ ev w, (execOp ev o).run P w = .ok (.value (.pointer (some ⟨w.heap.size, 0, none⟩))) (w.alloc ob)) (hS : ∀ w : World, Cl W w → S i (.pointer (some ⟨w.heap.size, 0, none⟩)) (w.alloc ob)) : StepOk P ops md W a0 n al S Q i o := fun a w hw _ hd => by
  rw [if_pos (hg.wanted hd)]
  unfold Oper.wp
  rw [h, Oper.upon_value]
  exact ⟨_, rfl, hS w hw, below_new w ob, fun _ => ⟨_, rfl, Nat.le_refl _, by simp⟩⟩
def notDst (ops : Array Oper) (n : Nat) (t : Tmp) : Bool := (List.range n).all fun j => !(dstOf ops j == some t)
theorem eval_out {a : Act} (hf : Fr ops n a0 a) (t : Tmp) (hB : notDst ops n t = true) : a.eval (.tmp t) = a0.eval (.tmp t) := by
  have h := hf t fun j hj e => by
    have := List.all_eq_true.1 hB j (List.mem_range.2 hj)
    rw [e] at this
    simp at this
  simp only [Act.eval, Array.getD_eq_getD_getElem?, h]
end
section
variable {ops : Array Oper} {md : Region.Mode} {W : World} {a0 : Act} {n : Nat} {al : Nat → Bool} {S : Nat → Value → World → Prop} {Q : Exit → Act → World → Prop} {i : Nat} {o : Oper} {b : Nat} {l : List Int}
theorem map1 (f : Operand → Value) (x : Operand) : #[x].map f = #[f x] := by simp
theorem map2 (f : Operand → Value) (x y : Operand) : #[x, y].map f = #[f x, f y] := by simp
/-- What the operation is told to read. -/
def Knows (ops : Array Oper) (md : Region.Mode) (W : World) (a0 : Act) (n : Nat) (S : Nat → Value → World → Prop) (i : Nat) (x : Operand) (v : Value) : Prop := ∀ (a : Act) (w : World), Cl W w → Fr ops n a0 a → Dp ops md n S i a w → a.eval x = v
theorem knows_out (t : Tmp) {v : Value} (hB : notDst ops n t = true) (hx : a0.eval (.tmp t) = v) : Knows ops md W a0 n S i (.tmp t) v := fun _ _ _ hf _ => (eval_out hf t hB).trans hx
theorem knows_in (j d : Nat) {v : Value} (hj : j < n) (hw : Region.waitsFor md ops i j = true) (hd : dstOf ops j = some d) (hS : S j = Is v) : Knows ops md W a0 n S i (.tmp d) v := fun a w _ _ hdp => by
  have h := hdp j d hj hw hd
  rw [hS] at h
  exact h
theorem knows_const (v : Value) : Knows ops md W a0 n S i (.const v) v := fun _ _ _ _ _ => rfl
theorem step_mv (hal : al i = false) (hg : GuardOn ops md n S i o) {x : Operand} {v : Value} (ho : o.op = .move x) (hS : S i = Is v) (hk : Knows ops md W a0 n S i x v) : StepOk Try.prog ops md W a0 n al S Q i o :=
  step_run hal hg fun a w hw hf hd => ⟨v, by
    have h := hk a w hw hf hd
    revert h
    generalize a.eval = ev
    intro h
    unfold execOp
    simp only [ho]
    simp [h, go_sem], by rw [hS]; exact rfl⟩
theorem step_pick (hal : al i = false) (hg : GuardOn ops md n S i o) {c x y : Operand} {b : Bool} {v : Value} (ho : o.op = .pick c x y) (hS : S i = Is v) (hc : Knows ops md W a0 n S i c (.bool b)) (hk : Knows ops md W a0 n S i (if b then x else y) v) : StepOk Try.prog ops md W a0 n al S Q i o :=
  step_run hal hg fun a w hw hf hd => ⟨v, by
    have h1 := hc a w hw hf hd
    have h2 := hk a w hw hf hd
    revert h1 h2
    generalize a.eval = ev
    intro h1 h2
    unfold execOp
    simp only [ho, h1]
    cases b <;> simp at h2 <;> simp [h2, go_sem], by rw [hS]; exact rfl⟩
theorem step_not (hal : al i = false) (hg : GuardOn ops md n S i o) {x : Operand} {t : TypeId} {b : Bool} (ho : o.op = .unOp .not t x) (hS : S i = Is (.bool (!b))) (hk : Knows ops md W a0 n S i x (.bool b)) : StepOk Try.prog ops md W a0 n al S Q i o :=
  step_run hal hg fun a w hw hf hd => ⟨.bool (!b), by
    have h := hk a w hw hf hd
    revert h
    generalize a.eval = ev
    intro h
    unfold execOp
    simp only [ho, h]
    go_simp, by rw [hS]; exact rfl⟩
theorem one_arg {x : Operand} {v : Value} (hx : Knows ops md W a0 n S i x v) : ∀ (a : Act) (w : World), Cl W w → Fr ops n a0 a → Dp ops md n S i a w → #[x].map a.eval = #[v] := fun a w hw hf hd => by
  rw [map1]
  rw [hx a w hw hf hd]
theorem two_args {x y : Operand} {u v : Value} (hx : Knows ops md W a0 n S i x u) (hy : Knows ops md W a0 n S i y v) : ∀ (a : Act) (w : World), Cl W w → Fr ops n a0 a → Dp ops md n S i a w → #[x, y].map a.eval = #[u, v] := fun a w hw hf hd => by
  rw [map2]
  rw [hx a w hw hf hd, hy a w hw hf hd]
end
section
variable {ops : Array Oper} {md : Region.Mode} {W : World} {a0 : Act} {n : Nat} {al : Nat → Bool} {S : Nat → Value → World → Prop} {Q : Exit → Act → World → Prop} {i : Nat} {o : Oper}
theorem step_asg (hal : al i = false) (hg : GuardOn ops md n S i o) {x : Operand} {v : Value} (ho : o.op = .assign x) (hS : S i = Is v) (hk : Knows ops md W a0 n S i x v) : StepOk Try.prog ops md W a0 n al S Q i o :=
  step_run hal hg fun a w hw hf hd => ⟨v, by
    have h := hk a w hw hf hd
    revert h
    generalize a.eval = ev
    intro h
    unfold execOp
    simp only [ho]
    simp [h, go_sem], by rw [hS]; exact rfl⟩
theorem ex_copy {ev : Operand → Value} {o : Oper} {x : Operand} (ho : o.op = .move x ∨ o.op = .assign x) (w : World) : (execOp ev o).run Try.prog w = .ok (.value (ev x)) w := by
  unfold execOp
  rcases ho with ho | ho <;> simp only [ho] <;> simp [go_sem]
end
end Go.Proofs.Ytdfalneiapeegaa
