/- What the program says of its int64. -/
import Derived.Test.YtnemncmaaejajaaRows
import Derived.Test.YtnemncmaaejajaaBase
import Derived.Deep.QuietTactic
import Derived.BigQuiet
namespace Go.Proofs.Ytnemncmaaejajaa
open Go.RowKit

theorem Try.infoI64 : (Try.prog.info? 2).map (fun i => (i.zero, i.size, i.bytes)) = some (some (.int .i64 0), 1, 8) := by kernel_rfl
end Go.Proofs.Ytnemncmaaejajaa
