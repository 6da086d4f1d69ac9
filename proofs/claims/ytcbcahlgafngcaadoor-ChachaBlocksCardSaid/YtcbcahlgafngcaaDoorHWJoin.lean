/- The join of 64-bit numbers. -/
import Derived.Test.YtcbcahlgafngcaaDoorHWSplit
namespace Go.Proofs.YtcbcahlgafngcaaDoor
open Go.RowKit

set_option maxRecDepth 50000 in
theorem Tryd.info64 : (Tryd.prog.info? 64).map (fun i => (i.zero, i.size, i.bytes)) = some (some (.int .u64 0), 1, 8) := by kernel_rfl

end Go.Proofs.YtcbcahlgafngcaaDoor
