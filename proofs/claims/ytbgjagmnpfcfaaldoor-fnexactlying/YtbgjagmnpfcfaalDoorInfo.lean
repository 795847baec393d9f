/- What the program says of its int64. -/
import Derived.Test.YtbgjagmnpfcfaalDoorRows
import Derived.Test.YtbgjagmnpfcfaalDoorBase
import Derived.Deep.QuietTactic
import Derived.BigQuiet
namespace Go.Proofs.YtbgjagmnpfcfaalDoor
open Go.RowKit

theorem Tryd.infoI64 : (Tryd.prog.info? 2).map (fun i => (i.zero, i.size, i.bytes)) = some (some (.int .i64 0), 1, 8) := by kernel_rfl
end Go.Proofs.YtbgjagmnpfcfaalDoor
