/- . -/
import Derived.Test.YtkbhcdkfjniafaaGreatDoorFFtlMath
import Derived.Test.YtkbhcdkfjniafaaGreatDoorFWearImplA
namespace Go.Proofs.YtkbhcdkfjniafaaGreatDoor
open Go.RowKit
set_option linter.unusedVariables false
set_option maxRecDepth 20000
end Go.Proofs.YtkbhcdkfjniafaaGreatDoor
