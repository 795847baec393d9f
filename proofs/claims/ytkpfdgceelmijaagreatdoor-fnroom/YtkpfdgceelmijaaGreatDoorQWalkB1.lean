/- The walk of l1Bits: the bits of a text, however long. -/
import Derived.Test.YtkpfdgceelmijaaGreatDoorQInfo
import Derived.Test.YtkpfdgceelmijaaGreatDoorQBytesBase
import Derived.Test.YtkpfdgceelmijaaGreatDoorQBase
import Derived.Test.YtkpfdgceelmijaaGreatDoorQCopyBase
import Derived.Laws.ResultCell
import Derived.Lib.OthersKept
namespace Go.Proofs.YtkpfdgceelmijaaGreatDoor
open Go.RowKit
set_option linter.unusedVariables false
set_option maxRecDepth 20000

end Go.Proofs.YtkpfdgceelmijaaGreatDoor
