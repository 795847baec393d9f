/- bits.OnesCount64 of a word of thirteen bits. -/
import Derived.Test.YtldcgjilafibkaiHamSpec2
import Derived.Test.YtldcgjilafibkaiOnesMath
namespace Go.Proofs.Ytldcgjilafibkai
open Go.RowKit
set_option linter.unusedVariables false
set_option maxRecDepth 20000

end Go.Proofs.Ytldcgjilafibkai
