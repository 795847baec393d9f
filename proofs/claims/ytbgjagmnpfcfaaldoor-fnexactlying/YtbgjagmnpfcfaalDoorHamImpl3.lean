/- The walks of chapter 4's program: SpreadAll. -/
import Derived.Test.YtbgjagmnpfcfaalDoorHamImpl2
import Derived.Test.YtbgjagmnpfcfaalDoorHamSpec3
import Derived.Test.YtbgjagmnpfcfaalDoorCopyBase
namespace Go.Proofs.YtbgjagmnpfcfaalDoor
open Go.RowKit
set_option linter.unusedVariables false
set_option maxRecDepth 20000

theorem make_bytes (l c : Int) (L C : Nat) (hl : l = L) (hc : c = C) (hLC : L ≤ C) (hC : C ≤ 16777216) (w : World) :
    (Instr.makeSlice 41 (.int .i64 l) (.int .i64 c)).run Tryd.prog w = .ok (.slice (some ⟨w.heap.size, 0, none⟩) L C) (w.alloc (.cells (madeCells #[.int .u8 0] C) 5)) := by
  obtain ⟨i0, hi0, hz0, hz1, hz2⟩ := info_parts Tryd.infoU8d
  exact make_row (P := Tryd.prog) 41 5 (.int .u8 0) 1 Tryd.underlying41 (by rw [hi0]; simp [hz0, hz1, hz2]) rfl l c L C hl hc hLC (by omega) (by omega) w

end Go.Proofs.YtbgjagmnpfcfaalDoor
