/- The walk of the law of the document's multiples, as the card asks it. -/
import Derived.Test.YtpaopdjbhmdfjaaDoorQSumsM
namespace Go.Proofs.YtpaopdjbhmdfjaaDoor
open Go Go.RowKit

theorem pointSums_walk (w : World) (ht : Tabs w) (a : List Int) (la : a.length = 32) (wa : ∀ x ∈ a, (Lit.int .u8 x).wf = true) (b : List Int) (lb : b.length = 32) (wb : ∀ x ∈ b, (Lit.int .u8 x).wf = true) :
    Calls Tryd.prog 4 #[.agg (ints .u8 a).toArray, .agg (ints .u8 b).toArray] w fun e w' => e = .returned (.bool true) ∧ Below w.heap.size w w' :=
  pointSums_any la lb (byt_of_wf wa) (byt_of_wf wb) w ht
end Go.Proofs.YtpaopdjbhmdfjaaDoor
