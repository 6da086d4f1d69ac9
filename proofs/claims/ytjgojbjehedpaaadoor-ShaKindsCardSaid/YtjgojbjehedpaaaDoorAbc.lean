/- The hash of abc begins dd af 35 a1, as the chapter's example says. -/
import Derived.Test.YtjgojbjehedpaaaDoorSum
import Derived.KernelRfl
namespace Go.Proofs.YtjgojbjehedpaaaDoor
open Go.RowKit

theorem abc_a : (dgs ([97, 98, 99] ++ padB 3)).a = 15974045371385084602 := by kernel_rfl
theorem abc_bytes : (hash [97, 98, 99])[0]? = some 221 ∧ (hash [97, 98, 99])[1]? = some 175 ∧ (hash [97, 98, 99])[2]? = some 53 ∧ (hash [97, 98, 99])[3]? = some 161 := by
  have e : hash [97, 98, 99] = splitB true 8 (dgs ([97, 98, 99] ++ padB 3)).list := rfl
  have h0 : (dgs ([97, 98, 99] ++ padB 3)).list.getD 0 0 = 15974045371385084602 := abc_a
  have hl : (dgs ([97, 98, 99] ++ padB 3)).list.length * 8 = 64 := rfl
  rw [e]
  refine ⟨?_, ?_, ?_, ?_⟩ <;> rw [splitB_at _ _ _ (by rw [hl]; omega)] <;> simp only [Nat.reduceDiv, Nat.reduceMod, h0] <;> rfl
end Go.Proofs.YtjgojbjehedpaaaDoor
