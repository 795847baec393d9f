/- Marks are still there. -/
import Derived.Test.YtnemncmaaejajaaChipMark
namespace Go.Proofs.Ytnemncmaaejajaa
open Go.RowKit
set_option linter.unusedVariables false
set_option maxRecDepth 20000

end Go.Proofs.Ytnemncmaaejajaa
