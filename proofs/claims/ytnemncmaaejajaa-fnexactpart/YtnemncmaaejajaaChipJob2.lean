/- Jobs that are alike, Jobs that are marked. -/
import Derived.Test.YtnemncmaaejajaaChipJob
namespace Go.Proofs.Ytnemncmaaejajaa
open Go.RowKit
set_option linter.unusedVariables false
set_option maxRecDepth 20000

end Go.Proofs.Ytnemncmaaejajaa
