/- TermOnce, as the frame asks for it. -/
import Derived.Test.YtechhbljjnffaaaTLaid
import Derived.Test.YtechhbljjnffaaaTOnce
namespace Go.Proofs.Ytechhbljjnffaaa
open Go Go.RowKit
set_option maxRecDepth 50000 in
theorem once_walk (w : World) (A : Option Addr) (c : Nat) (ds : List DoV) (hl : ds.length ≤ 9223372036854775807) (hA : DoRow w.heap.size w A ds) :
    Calls Try.prog 4 #[.slice A ds.length c] w fun e w' => e = .returned (.bool true) ∧ Below w.heap.size w w' := once_any ds.length c A ds w rfl hl hA
end Go.Proofs.Ytechhbljjnffaaa
