/- 'append(s, make([]T, k)...)' on a slice of the call's own whose elements are one cell each: k zeros behind what was there. -/
import Derived.Test.YtkpfdgceelmijaaGreatDoorQBase
import Derived.Lib.AppendZeros
import Derived.Lib.AppendZerosOnto
import Derived.Laws.AppendOwn
namespace Go.Proofs.YtkpfdgceelmijaaGreatDoor
open Go.RowKit

end Go.Proofs.YtkpfdgceelmijaaGreatDoor
