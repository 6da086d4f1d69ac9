/- Negatives. -/
import Derived.Test.YtoncinbohfmciaaAdd
namespace Go.Proofs.Ytoncinbohfmciaa
open Go.RowKit

theorem zeros_bd (n : Nat) (b : Int) (h : 0 ≤ b) : Bd b (zeros n) := fun x hx => by
  have := List.eq_of_mem_replicate hx
  omega
end Go.Proofs.Ytoncinbohfmciaa
