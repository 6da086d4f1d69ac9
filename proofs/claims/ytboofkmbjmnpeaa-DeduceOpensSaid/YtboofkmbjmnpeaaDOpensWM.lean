/- DeduceOpens, as the frame asks for it. -/
import Derived.Test.YtboofkmbjmnpeaaG11
import Derived.Test.YtboofkmbjmnpeaaDLOpensM
namespace Go.Proofs.Ytboofkmbjmnpeaa
open Go Go.RowKit
theorem lopens_walk (w : World) (A : Option Addr) (c : Nat) (ds : List DoV) (hl : ds.length ≤ 9223372036854775807) (hA : DoRow w.heap.size w A ds) (m : Int) (_ : (Lit.int .i64 m).wf = true) :
    Calls Try.prog 5 #[.slice A ds.length c, .int .i64 m] w fun e w' => e = .returned (.bool true) ∧ Below w.heap.size w w' := lopens_any ds.length c A ds m w rfl hl hA
end Go.Proofs.Ytboofkmbjmnpeaa
