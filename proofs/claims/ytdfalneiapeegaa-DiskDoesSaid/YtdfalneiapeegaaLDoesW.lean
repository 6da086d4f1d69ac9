/- DiskDoes, as the frame asks for it. -/
import Derived.Test.YtdfalneiapeegaaLLaid
import Derived.Test.YtdfalneiapeegaaLDoes
namespace Go.Proofs.Ytdfalneiapeegaa
open Go Go.RowKit
theorem does_walk (w : World) (size : Int) (_ : (Lit.int .i64 size).wf = true) (A : Option Addr) (c : Nat) (ds : List DoV) (hl : ds.length ≤ 9223372036854775807) (hA : DoRow w.heap.size w A ds) :
    Calls Try.prog 3 #[.int .i64 size, .slice A ds.length c] w fun e w' => e = .returned (.bool true) ∧ Below w.heap.size w w' := does_any size ds.length c A ds w rfl hl hA
end Go.Proofs.Ytdfalneiapeegaa
