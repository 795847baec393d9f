/- The table of chapter 4's program: what its cells hold, and how that stays. -/
import Derived.Test.YtbgjagmnpfcfaalDoorHamSpec2
import Derived.Lib.LaidTab
namespace Go.Proofs.YtbgjagmnpfcfaalDoor
open Go.RowKit
set_option linter.unusedVariables false

/-- The table of places lies where it was laid. -/
def Tab (w : World) : Prop := ∀ k, k < 8 → w.cell? ⟨6, k, none⟩ = some (.int .i64 (Ham.place k : Int))
theorem block_of_cell {w : World} {a : Addr} {v : Value} (h : w.cell? a = some v) : a.block < w.heap.size := by
  unfold World.cell? at h
  split at h
  · rename_i hb
    exact (Array.getElem?_eq_some_iff.1 hb).1
  · simp at h
theorem Tab.later {w w' : World} (h : Tab w) {B : Nat} (hb : Below B w w') (hB : w.heap.size ≤ B) : Tab w' := fun k hk => by
  have h1 := h k hk
  have hlt := block_of_cell h1
  exact (World.cell?_of_block (w := w) (a := ⟨6, k, none⟩) (hb.block _ (Nat.lt_of_lt_of_le hlt hB))).trans h1
theorem Tab.here {w w' : World} (h : Tab w) (hb : Below w.heap.size w w') : Tab w' := h.later hb (Nat.le_refl _)
end Go.Proofs.YtbgjagmnpfcfaalDoor
