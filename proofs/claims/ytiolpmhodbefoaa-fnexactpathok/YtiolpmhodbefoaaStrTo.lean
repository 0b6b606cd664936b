import Derived.Test.YtiolpmhodbefoaaStr
namespace Go.Proofs.Ytiolpmhodbefoaa
open Go.RowKit

theorem infoStr : (Try.prog.info? 9).map (fun i => (i.zero, i.size, i.bytes)) = some (some (.string ByteArray.empty), 1, 16) := by kernel_rfl

end Go.Proofs.Ytiolpmhodbefoaa
