import Derived.Test.YtbcfkkicmmhhcaaDoorPush
namespace Go.Proofs.YtbcfkkicmmhhcaaDoor
open Go.RowKit

end Go.Proofs.YtbcfkkicmmhhcaaDoor
