/- TermPuts, as the frame asks for it. -/
import Derived.Test.YtechhbljjnffaaaTLaid
import Derived.Test.YtechhbljjnffaaaTPuts
namespace Go.Proofs.Ytechhbljjnffaaa
open Go Go.RowKit
set_option maxRecDepth 50000 in
theorem puts_walk (w : World) (A : Option Addr) (c : Nat) (ds : List DoV) (hl : ds.length ≤ 9223372036854775807) (hA : DoRow w.heap.size w A ds) :
    Calls Try.prog 3 #[.slice A ds.length c] w fun e w' => e = .returned (.bool true) ∧ Below w.heap.size w w' := puts_any ds.length c A ds w rfl hl hA
end Go.Proofs.Ytechhbljjnffaaa
