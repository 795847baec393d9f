/- The walks of BitsOk, on both sides. -/
import Derived.Test.YtdaemaefkikheaaWalkIn
namespace Go.Proofs.Ytdaemaefkikheaa
open Go.RowKit
set_option linter.unusedVariables false
set_option maxRecDepth 20000

end Go.Proofs.Ytdaemaefkikheaa
