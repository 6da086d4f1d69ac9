/- Steps of regions: calls that ask that the order lies where it is laid. -/
import Derived.Test.YtcoegehnipldpaaDoorSBofM
namespace Go.Proofs.YtcoegehnipldpaaDoor
open Go Go.RowKit

/-- The call returns v in every world where the order lies. -/
def CallsT (f : FuncId) (args : Array Value) (v : Value) : Prop := ∀ w, Tabs w → Calls Tryd.prog f args w fun e w' => e = .returned v ∧ Below w.heap.size w w'
theorem CallsTo.t {f : FuncId} {args : Array Value} {v : Value} (h : CallsTo f args v) : CallsT f args v := fun w _ => h w
section
variable {ops : Array Oper} {md : Region.Mode} {W : World} {a0 : Act} {n : Nat} {al : Nat → Bool} {S : Nat → Value → World → Prop} {Q : Exit → Act → World → Prop} {i : Nat} {o : Oper}
theorem step_toT (hal : al i = false) (hg : GuardOn ops md n S i o) {f : FuncId} {xs : Array Operand} {ts : Array TypeId} {vs : Array Value} {v : Value} (ho : o.op = .call { callee := .value (.func f), args := xs, argTypes := ts }) (hcf : ∀ vs w, (callFunc f vs).run Tryd.prog w = .ok (.enter f vs) w)
    (hT : Tabs W) (hc : CallsT f vs v) (hS : S i = Is v) (hv : ∀ (a : Act) (w : World), Cl W w → Fr ops n a0 a → Dp ops md n S i a w → xs.map a.eval = vs) : StepOk Tryd.prog ops md W a0 n al S Q i o :=
  step_call hal hg fun a w hw hf hd => ⟨f, vs, ex_fn rfl hcf ho vs (hv a w hw hf hd) w, (hc w (hT.next hw)).mono fun _ _ ⟨he, hb⟩ => ⟨v, he, by rw [hS]; exact rfl, hb⟩⟩
theorem ex_fnv {ev : Operand → Value} {o : Oper} {x : Operand} {f : FuncId} {xs : Array Operand} {ts : Array TypeId} (hf : ev x = .func (.func f) #[] #[]) (hc : ∀ vs w, (callFunc f vs).run Tryd.prog w = .ok (.enter f vs) w) (ho : o.op = .call { callee := .value x, args := xs, argTypes := ts }) (vs : Array Value) (hv : xs.map ev = vs) (w : World) : (execOp ev o).run Tryd.prog w = .ok (.enter f vs) w := by
  subst hv
  unfold execOp
  simp only [ho, hf]
  go_simp
/-- The same, of a function that a variable holds. -/
theorem step_toV (hal : al i = false) (hg : GuardOn ops md n S i o) {x : Operand} {f : FuncId} {xs : Array Operand} {ts : Array TypeId} {vs : Array Value} {v : Value} (ho : o.op = .call { callee := .value x, args := xs, argTypes := ts }) (hcf : ∀ vs w, (callFunc f vs).run Tryd.prog w = .ok (.enter f vs) w)
    (hx : Knows ops md W a0 n S i x (.func (.func f) #[] #[])) (hT : Tabs W) (hc : CallsT f vs v) (hS : S i = Is v) (hv : ∀ (a : Act) (w : World), Cl W w → Fr ops n a0 a → Dp ops md n S i a w → xs.map a.eval = vs) : StepOk Tryd.prog ops md W a0 n al S Q i o :=
  step_call hal hg fun a w hw hf hd => ⟨f, vs, ex_fnv (hx a w hw hf hd) hcf ho vs (hv a w hw hf hd) w, (hc w (hT.next hw)).mono fun _ _ ⟨he, hb⟩ => ⟨v, he, by rw [hS]; exact rfl, hb⟩⟩
theorem step_44 (hal : al i = false) (hg : GuardOn ops md n S i o) {b : Nat} {l : List Int} (h : Arr W b 0 .u64 l) (hl : l.length = 4) (t : Tmp) (ho : o.op = .load 44 (.tmp t)) (hB : notDst ops n t = true) (hx : a0.eval (.tmp t) = .pointer (some ⟨b, 0, none⟩)) (hS : S i = Is (.agg (ints .u64 l).toArray)) : StepOk Tryd.prog ops md W a0 n al S Q i o :=
  step_run hal hg fun a w hw hf _ => ⟨_, ex_load 44 (.tmp t) ho b 0 ((eval_out hf t hB).trans hx) (ints .u64 l) _ (h.below hw (h.lt (by rw [hl]; omega))).range Tryd.underlying44 rfl (l44 hl), by rw [hS]; exact rfl⟩
end
theorem cfT7 (vs : Array Value) (w : World) : (callFunc 7 vs).run Tryd.prog w = .ok (.enter 7 vs) w := by go_simp
theorem cfT8 (vs : Array Value) (w : World) : (callFunc 8 vs).run Tryd.prog w = .ok (.enter 8 vs) w := by go_simp
theorem cfT11 (vs : Array Value) (w : World) : (callFunc 11 vs).run Tryd.prog w = .ok (.enter 11 vs) w := by go_simp
theorem cfT15 (vs : Array Value) (w : World) : (callFunc 15 vs).run Tryd.prog w = .ok (.enter 15 vs) w := by go_simp
theorem cfT16 (vs : Array Value) (w : World) : (callFunc 16 vs).run Tryd.prog w = .ok (.enter 16 vs) w := by go_simp
theorem cfT18 (vs : Array Value) (w : World) : (callFunc 18 vs).run Tryd.prog w = .ok (.enter 18 vs) w := by go_simp
theorem cfT20 (vs : Array Value) (w : World) : (callFunc 20 vs).run Tryd.prog w = .ok (.enter 20 vs) w := by go_simp
theorem cfT21 (vs : Array Value) (w : World) : (callFunc 21 vs).run Tryd.prog w = .ok (.enter 21 vs) w := by go_simp
theorem cfT22 (vs : Array Value) (w : World) : (callFunc 22 vs).run Tryd.prog w = .ok (.enter 22 vs) w := by go_simp
theorem cfT24 (vs : Array Value) (w : World) : (callFunc 24 vs).run Tryd.prog w = .ok (.enter 24 vs) w := by go_simp
theorem cfT25 (vs : Array Value) (w : World) : (callFunc 25 vs).run Tryd.prog w = .ok (.enter 25 vs) w := by go_simp
end Go.Proofs.YtcoegehnipldpaaDoor
