/- Steps of regions: pairs, and whether a number is a square. -/
import Derived.Test.YtddjfhmkebhndaaSpec3
import Derived.Test.YtddjfhmkebhndaaRootMath
namespace Go.Proofs.Ytddjfhmkebhndaa
open Go Go.RowKit
section
variable {ops : Array Oper} {md : Region.Mode} {W : World} {a0 : Act} {n : Nat} {al : Nat → Bool} {S : Nat → Value → World → Prop} {Q : Exit → Act → World → Prop} {i : Nat} {o : Oper}
theorem step_fst (hal : al i = false) (hg : GuardOn ops md n S i o) {x : Operand} {u v : Value} (ho : o.op = .extract x 0) (hS : S i = Is u) (hx : Knows ops md W a0 n S i x (.tuple #[u, v])) : StepOk Try.prog ops md W a0 n al S Q i o :=
  step_run hal hg fun a w hw hf hd => ⟨u, by
    have h := hx a w hw hf hd
    revert h
    generalize a.eval = ev
    intro h
    unfold execOp
    simp only [ho, h]
    go_simp, by rw [hS]; exact rfl⟩
theorem step_snd (hal : al i = false) (hg : GuardOn ops md n S i o) {x : Operand} {u v : Value} (ho : o.op = .extract x 1) (hS : S i = Is v) (hx : Knows ops md W a0 n S i x (.tuple #[u, v])) : StepOk Try.prog ops md W a0 n al S Q i o :=
  step_run hal hg fun a w hw hf hd => ⟨v, by
    have h := hx a w hw hf hd
    revert h
    generalize a.eval = ev
    intro h
    unfold execOp
    simp only [ho, h]
    go_simp, by rw [hS]; exact rfl⟩
theorem step_rsquare (hal : al i = false) (hg : GuardOn ops md n S i o) {x : Operand} {ts : Array TypeId} {m : Nat} (hm : m < NT.PN) (ho : o.op = .call { callee := .value (.func 31), args := #[x], argTypes := ts }) (hcf : ∀ vs w, (callFunc 31 vs).run Try.prog w = .ok (.enter 31 vs) w) (hS : S i = Is (.bool (isSq m))) (hx : KnowsR ops md W a0 n S i x m) : StepOk Try.prog ops md W a0 n al S Q i o :=
  step_call hal hg fun a w hw hf hd => by
    obtain ⟨A, c, ys, h1, h2, h3⟩ := hx a w hw hf hd
    refine ⟨31, #[.slice A 16 c], ex_fn rfl hcf ho _ (by rw [map1, h1]) w, (rsquare_walk h2 hm h3).mono fun _ _ ⟨he, hb⟩ => ⟨_, he, by rw [hS]; exact rfl, hb⟩⟩
theorem step_rzero (hal : al i = false) (hg : GuardOn ops md n S i o) {x : Operand} {ts : Array TypeId} {m : Nat} (ho : o.op = .call { callee := .value (.func 28), args := #[x], argTypes := ts }) (hcf : ∀ vs w, (callFunc 28 vs).run Try.prog w = .ok (.enter 28 vs) w) (hS : S i = Is (.bool (decide (m = 0)))) (hx : KnowsR ops md W a0 n S i x m) : StepOk Try.prog ops md W a0 n al S Q i o :=
  step_call hal hg fun a w hw hf hd => by
    obtain ⟨A, c, ys, h1, h2, h3⟩ := hx a w hw hf hd
    refine ⟨28, #[.slice A 16 c], ex_fn rfl hcf ho _ (by rw [map1, h1]) w, (rzero_walk h2 h3).mono fun _ _ ⟨he, hb⟩ => ⟨_, he, by rw [hS]; exact rfl, hb⟩⟩
end
theorem cf29 (vs : Array Value) (w : World) : (callFunc 29 vs).run Try.prog w = .ok (.enter 29 vs) w := by go_simp
theorem cf30 (vs : Array Value) (w : World) : (callFunc 30 vs).run Try.prog w = .ok (.enter 30 vs) w := by go_simp
theorem cf31 (vs : Array Value) (w : World) : (callFunc 31 vs).run Try.prog w = .ok (.enter 31 vs) w := by go_simp
end Go.Proofs.Ytddjfhmkebhndaa
