/- The walks of the small functions that the exact laws go through: a copy in new memory, and whether two lists are alike. -/
import Derived.Test.YtdaemaefkikheaaWalkOk
import Derived.Deep.QuietTactic
import Derived.BigQuiet
namespace Go.Proofs.Ytdaemaefkikheaa
open Go.RowKit
set_option linter.unusedVariables false
set_option maxRecDepth 20000

end Go.Proofs.Ytdaemaefkikheaa
