/- The walks of BitsOk, on both sides. -/
import Derived.Test.YtnemncmaaejajaaWalkIn
namespace Go.Proofs.Ytnemncmaaejajaa
open Go.RowKit
set_option linter.unusedVariables false
set_option maxRecDepth 20000

end Go.Proofs.Ytnemncmaaejajaa
