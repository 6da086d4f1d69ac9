/- Whether two elements are equal. -/
import Derived.Test.YtoncinbohfmciaaRed
import Derived.Test.YtoncinbohfmciaaQs
namespace Go.Proofs.Ytoncinbohfmciaa
open Go.RowKit

end Go.Proofs.Ytoncinbohfmciaa
