/- The table of chapter 4's program: what its cells hold, and how that stays. -/
import Derived.Test.YtldcgjilafibkaiHamSpec2
import Derived.Lib.LaidTab
namespace Go.Proofs.Ytldcgjilafibkai
open Go.RowKit
set_option linter.unusedVariables false

theorem block_of_cell {w : World} {a : Addr} {v : Value} (h : w.cell? a = some v) : a.block < w.heap.size := by
  unfold World.cell? at h
  split at h
  · rename_i hb
    exact (Array.getElem?_eq_some_iff.1 hb).1
  · simp at h
end Go.Proofs.Ytldcgjilafibkai
