/- The walks of BitsOk, on both sides. -/
import Derived.Test.YtbgjagmnpfcfaakWalkIn
namespace Go.Proofs.Ytbgjagmnpfcfaak
open Go.RowKit
set_option linter.unusedVariables false
set_option maxRecDepth 20000

end Go.Proofs.Ytbgjagmnpfcfaak
