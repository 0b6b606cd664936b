import Derived.Test.YtiolpmhodbefoaaStr
namespace Go.Proofs.Ytiolpmhodbefoaa
open Go.RowKit

end Go.Proofs.Ytiolpmhodbefoaa
