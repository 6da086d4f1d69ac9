/- The shift and the split of layer 1. -/
import Derived.Test.YtpiamcgienkhaaaDoorRows
import Derived.Test.YtpiamcgienkhaaaDoorBase
import Derived.Test.YtpiamcgienkhaaaDoorHMath
import Derived.BigQuiet
import Derived.Deep.QuietTactic
import Derived.StillTailTactics
namespace Go.Proofs.YtpiamcgienkhaaaDoor
open Go.RowKit

def ordN (hi : Bool) : Int := if hi then 0 else 1

set_option maxRecDepth 50000 in
theorem shift_any (hi : Bool) (p s P : Nat) (w : World) (hP : P = 8 * plc hi p s) (hp : p < s) (hs : s ≤ 8) :
    Calls Tryd.prog 56 #[.int .i64 p, .int .i64 s, .int .i64 (ordN hi)] w fun e w' => e = .returned (.int .i64 P) ∧ w' = w := by
  subst hP
  cases hi
  · simp only [ordN, plc]
    go_enter Tryd.func56, Tryd.ntmps56
    go_wp2
    go_ret
    exact ⟨by simp, rfl⟩
  · simp only [ordN, plc]
    have e : ((8 * (s - 1 - p) : Nat) : Int) = 8 * ((s : Int) - 1 - (p : Int)) := by omega
    simp only [if_true, e]
    clear e
    go_enter Tryd.func56, Tryd.ntmps56
    go_wp2
    go_ret
    exact ⟨rfl, rfl⟩

set_option maxRecDepth 50000 in
theorem Tryd.info5 : (Tryd.prog.info? 5).map (fun i => (i.zero, i.size, i.bytes)) = some (some (.int .u8 0), 1, 1) := by kernel_rfl

end Go.Proofs.YtpiamcgienkhaaaDoor
