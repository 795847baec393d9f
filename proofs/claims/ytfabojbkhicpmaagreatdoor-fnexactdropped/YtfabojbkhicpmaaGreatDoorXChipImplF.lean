/- The program's work and alter: a shape of a Job done to a Square of one's own. -/
import Derived.Test.YtfabojbkhicpmaaGreatDoorXChipCutS
import Derived.Test.YtfabojbkhicpmaaGreatDoorXCloneW
namespace Go.Proofs.YtfabojbkhicpmaaGreatDoor
open Go.RowKit
set_option linter.unusedVariables false
set_option maxRecDepth 20000

/-! ### A Job altered -/
end Go.Proofs.YtfabojbkhicpmaaGreatDoor
