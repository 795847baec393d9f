/- The walk of l1In: is a number within bounds. -/
import Derived.Test.YtbgjagmnpfcfaalInfo
namespace Go.Proofs.Ytbgjagmnpfcfaal
open Go.RowKit
set_option linter.unusedVariables false
set_option maxRecDepth 20000

end Go.Proofs.Ytbgjagmnpfcfaal
