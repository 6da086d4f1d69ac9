/- word.Get. -/
import Derived.Test.YtcahcecohjohpaaDoorWGet
namespace Go.Proofs.YtcahcecohjohpaaDoor
open Go.RowKit

theorem wGet_any (A : Option Addr) (c : Nat) (b : List Int) (w : World) (hn : b.length ≤ 4096) (hby : Byt b) (hA : Nums w .u8 A b) : Calls Tryd.prog 48 #[.slice A b.length c] w (GetPost true b w) := by
  go_enter Tryd.func48, Tryd.ntmps48
  go_wp2_with (go_at_call 53; refine (get_any true A c b _ hn hby hA).mono ?_; rintro e w' ⟨rfl, hb⟩)
  go_ret2
  exact ⟨rfl, hb⟩
end Go.Proofs.YtcahcecohjohpaaDoor
