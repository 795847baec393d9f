/- The walks of BitsOk, on both sides. -/
import Derived.Test.YtacjaoeghjkhoakWalkIn
namespace Go.Proofs.Ytacjaoeghjkhoak
open Go.RowKit
set_option linter.unusedVariables false
set_option maxRecDepth 20000

end Go.Proofs.Ytacjaoeghjkhoak
