/- The walk of l1Bits: the bits of a text, however long. -/
import Derived.Test.YthldcfiemfccpaaNInfo
import Derived.Test.YthldcfiemfccpaaNBytesBase
import Derived.Test.YthldcfiemfccpaaNBase
import Derived.Test.YthldcfiemfccpaaNCopyBase
import Derived.Laws.ResultCell
import Derived.Lib.OthersKept
namespace Go.Proofs.Ythldcfiemfccpaa
open Go.RowKit
set_option linter.unusedVariables false
set_option maxRecDepth 20000

end Go.Proofs.Ythldcfiemfccpaa
