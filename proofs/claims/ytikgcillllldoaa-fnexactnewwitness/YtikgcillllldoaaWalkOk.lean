/- The walks of BitsOk, on both sides. -/
import Derived.Test.YtikgcillllldoaaWalkIn
namespace Go.Proofs.Ytikgcillllldoaa
open Go.RowKit
set_option linter.unusedVariables false
set_option maxRecDepth 20000

end Go.Proofs.Ytikgcillllldoaa
