/- The program's Laid. -/
import Derived.Test.YtfabojbkhicpmaaGreatDoorXPageMath
import Derived.Test.YtfabojbkhicpmaaGreatDoorXPageBase
import Derived.Test.YtfabojbkhicpmaaGreatDoorXHamImpl3
import Derived.Test.YtfabojbkhicpmaaGreatDoorXWeaveIter
import Derived.Test.YtfabojbkhicpmaaGreatDoorXCheckSpec
namespace Go.Proofs.YtfabojbkhicpmaaGreatDoor
open Go.RowKit
set_option linter.unusedVariables false
set_option maxRecDepth 20000

end Go.Proofs.YtfabojbkhicpmaaGreatDoor
