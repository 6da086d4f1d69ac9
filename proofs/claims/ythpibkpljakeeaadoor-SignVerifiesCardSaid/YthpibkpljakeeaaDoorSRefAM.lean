import Derived.Test.YthpibkpljakeeaaDoorG23
namespace Go.Proofs.YthpibkpljakeeaaDoor
open Go.RowKit
end Go.Proofs.YthpibkpljakeeaaDoor
