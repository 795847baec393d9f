/- The model's Plan and Enter. -/
import Derived.Test.YtoocbagnfkgbfaaGreatDoorMFtlSpecE
import Derived.Test.YtoocbagnfkgbfaaGreatDoorMFtlMath
import Derived.Test.YtoocbagnfkgbfaaGreatDoorMChipAns
import Derived.Test.YtoocbagnfkgbfaaGreatDoorMFtlOwnP
namespace Go.Proofs.YtoocbagnfkgbfaaGreatDoor
open Go.RowKit
set_option linter.unusedVariables false
set_option maxRecDepth 20000

end Go.Proofs.YtoocbagnfkgbfaaGreatDoor
