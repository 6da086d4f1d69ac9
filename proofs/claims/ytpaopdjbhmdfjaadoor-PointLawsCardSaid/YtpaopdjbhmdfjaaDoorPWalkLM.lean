/- The walk of the law of sums, as the card asks it. -/
import Derived.Test.YtpaopdjbhmdfjaaDoorPTakeM
namespace Go.Proofs.YtpaopdjbhmdfjaaDoor
open Go.RowKit

theorem pointLaws_walk (w : World) (ht : Tabs w) (a : List Int) (la : a.length = 32) (wa : ∀ x ∈ a, (Lit.int .u8 x).wf = true) (b : List Int) (lb : b.length = 32) (wb : ∀ x ∈ b, (Lit.int .u8 x).wf = true) (c : List Int) (lc : c.length = 32) (wc : ∀ x ∈ c, (Lit.int .u8 x).wf = true) :
    Calls Tryd.prog 5 #[.agg (ints .u8 a).toArray, .agg (ints .u8 b).toArray, .agg (ints .u8 c).toArray] w fun e w' => e = .returned (.bool true) ∧ Below w.heap.size w w' :=
  pointLaws_any la lb lc (byt_of_wf wa) (byt_of_wf wb) (byt_of_wf wc) w ht
end Go.Proofs.YtpaopdjbhmdfjaaDoor
