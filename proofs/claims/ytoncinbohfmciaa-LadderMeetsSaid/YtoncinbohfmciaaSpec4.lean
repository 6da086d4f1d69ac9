/- Steps of regions: pairs, and whether a number is a square. -/
import Derived.Test.YtoncinbohfmciaaSpec3
import Derived.Test.YtoncinbohfmciaaRootMath
namespace Go.Proofs.Ytoncinbohfmciaa
open Go Go.RowKit
section
variable {ops : Array Oper} {md : Region.Mode} {W : World} {a0 : Act} {n : Nat} {al : Nat → Bool} {S : Nat → Value → World → Prop} {Q : Exit → Act → World → Prop} {i : Nat} {o : Oper}
theorem step_fst (hal : al i = false) (hg : GuardOn ops md n S i o) {x : Operand} {u v : Value} (ho : o.op = .extract x 0) (hS : S i = Is u) (hx : Knows ops md W a0 n S i x (.tuple #[u, v])) : StepOk Try.prog ops md W a0 n al S Q i o :=
  step_run hal hg fun a w hw hf hd => ⟨u, by
    have h := hx a w hw hf hd
    revert h
    generalize a.eval = ev
    intro h
    unfold execOp
    simp only [ho, h]
    go_simp, by rw [hS]; exact rfl⟩
theorem step_snd (hal : al i = false) (hg : GuardOn ops md n S i o) {x : Operand} {u v : Value} (ho : o.op = .extract x 1) (hS : S i = Is v) (hx : Knows ops md W a0 n S i x (.tuple #[u, v])) : StepOk Try.prog ops md W a0 n al S Q i o :=
  step_run hal hg fun a w hw hf hd => ⟨v, by
    have h := hx a w hw hf hd
    revert h
    generalize a.eval = ev
    intro h
    unfold execOp
    simp only [ho, h]
    go_simp, by rw [hS]; exact rfl⟩
end
theorem cf29 (vs : Array Value) (w : World) : (callFunc 32 vs).run Try.prog w = .ok (.enter 32 vs) w := by go_simp
end Go.Proofs.Ytoncinbohfmciaa
