/- The program's enter. -/
import Derived.Test.YtfabojbkhicpmaaGreatDoorXFtlImplD
import Derived.Test.YtfabojbkhicpmaaGreatDoorXPageLaidI
import Derived.Deep.RegionHeld3
namespace Go.Proofs.YtfabojbkhicpmaaGreatDoor
open Go.RowKit
set_option linter.unusedVariables false
set_option maxRecDepth 20000

theorem Tab.low {w w' : World} (h : Tab w) {B : Nat} (hb : Below B w w') (hG : 7 < B) : Tab w' := fun k hk => (hb.cell (p := ⟨7, k, none⟩) hG).trans (h k hk)
end Go.Proofs.YtfabojbkhicpmaaGreatDoor
