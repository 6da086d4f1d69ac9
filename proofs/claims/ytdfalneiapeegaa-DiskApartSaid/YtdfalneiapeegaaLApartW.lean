/- DiskApart, as the frame asks for it. -/
import Derived.Test.YtdfalneiapeegaaLLaid
import Derived.Test.YtdfalneiapeegaaLApart
namespace Go.Proofs.Ytdfalneiapeegaa
open Go Go.RowKit
theorem apart_walk (w : World) (A1 : Option Addr) (c1 : Nat) (ds1 : List DoV) (hl1 : ds1.length ≤ 9223372036854775807) (hA1 : DoRow w.heap.size w A1 ds1) (A2 : Option Addr) (c2 : Nat) (ds2 : List DoV) (hl2 : ds2.length ≤ 9223372036854775807) (hA2 : DoRow w.heap.size w A2 ds2) (A3 : Option Addr) (c3 : Nat) (ds3 : List DoV) (hl3 : ds3.length ≤ 9223372036854775807) (hA3 : DoRow w.heap.size w A3 ds3) :
    Calls Try.prog 6 #[.slice A1 ds1.length c1, .slice A2 ds2.length c2, .slice A3 ds3.length c3] w fun e w' => e = .returned (.bool true) ∧ Below w.heap.size w w' := apart_any ds1.length c1 A1 ds1 ds2.length c2 A2 ds2 ds3.length c3 A3 ds3 w rfl hl1 hA1 rfl hl2 hA2 rfl hl3 hA3
end Go.Proofs.Ytdfalneiapeegaa
