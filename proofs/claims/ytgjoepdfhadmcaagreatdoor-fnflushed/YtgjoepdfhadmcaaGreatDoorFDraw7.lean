/- . -/
import Derived.Test.YtgjoepdfhadmcaaGreatDoorFDrawBase
import Derived.Test.YtgjoepdfhadmcaaGreatDoorFPageMath
import Derived.Test.YtgjoepdfhadmcaaGreatDoorFPageBase
import Derived.Test.YtgjoepdfhadmcaaGreatDoorFWeaveSpec
import Derived.Test.YtgjoepdfhadmcaaGreatDoorFTextWalk
import Derived.RegionTactic
import Derived.Deep.RegionWith
import Derived.Deep.RegionHeld3
namespace Go.Proofs.YtgjoepdfhadmcaaGreatDoor
open Go.RowKit
set_option linter.unusedVariables false
set_option linter.unusedSimpArgs false
set_option maxRecDepth 20000
theorem aside_block {w w' : World} {l r g : Nat} {o : Obj} (h : Aside l r w w') (hb : w.heap[g]? = some o) (hg : g < l ∨ r <= g) : w'.heap[g]? = some o := by
 have hlt : g < w.heap.size := by
  rcases Nat.lt_or_ge g w.heap.size with h' | h'
  ·exact h'
  ·rw [Array.getElem?_eq_none h'] at hb; simp at hb
 exact (h.block g hlt hg).trans hb
end Go.Proofs.YtgjoepdfhadmcaaGreatDoor
