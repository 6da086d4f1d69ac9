/- word.Put. -/
import Derived.Test.YtcahcecohjohpaaDoorWPut
namespace Go.Proofs.YtcahcecohjohpaaDoor
open Go.RowKit

theorem wPut_any (n s : Int) (w : World) : Calls Tryd.prog 37 #[.int .i64 n, .int .i64 s] w (PutPost2 true n s w) := by
  go_enter Tryd.func37, Tryd.ntmps37
  go_wp2_with (go_at_call 46; refine (put2_any true n s _).mono ?_; rintro e w' ⟨B, d, ys, E, rfl, HY, HE, hN, hb⟩)
  go_ret2
  exact ⟨B, d, ys, E, rfl, HY, HE, hN, hb⟩
end Go.Proofs.YtcahcecohjohpaaDoor
