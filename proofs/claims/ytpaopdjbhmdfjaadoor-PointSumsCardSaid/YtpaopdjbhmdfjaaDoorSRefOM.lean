/- The reference's number of bytes, modulo the order. -/
import Derived.Test.YtpaopdjbhmdfjaaDoorSRefMM
import Derived.Test.YtpaopdjbhmdfjaaDoorRefFM
import Derived.Test.YtpaopdjbhmdfjaaDoorG5
namespace Go.Proofs.YtpaopdjbhmdfjaaDoor
open Go.RowKit

end Go.Proofs.YtpaopdjbhmdfjaaDoor
