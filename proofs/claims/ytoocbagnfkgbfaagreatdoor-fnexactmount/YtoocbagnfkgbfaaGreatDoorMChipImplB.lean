/- The program's NewChip and PageAt. -/
import Derived.Test.YtoocbagnfkgbfaaGreatDoorMChipOkS
import Derived.Test.YtoocbagnfkgbfaaGreatDoorMCloneW
namespace Go.Proofs.YtoocbagnfkgbfaaGreatDoor
open Go.RowKit
set_option linter.unusedVariables false
set_option maxRecDepth 20000

set_option maxHeartbeats 1600000 in
theorem implNewChip_any (n : Nat) (z : Int) (w : World) (h1 : 1 ≤ n) (h2 : n ≤ 12) (hz : inB z 1 8 = true) :
    Calls Tryz.prog 147 #[.int .i64 (n : Int), .int .i64 z] w fun e w' => ∃ a, e = .returned (.tuple #[.agg #[.int .i64 z, .slice a n n], .bool true]) ∧ OwnSquares w.heap.size w'.heap.size w' a n (List.replicate n ([], 0, false)) ∧ Below w.heap.size w w' := by
  obtain ⟨wA, hwA⟩ : ∃ wA, wA = w.alloc (.cells #[.int .i64 0, .slice none 0 0] 26) := ⟨_, rfl⟩
  have hzA : wA.heap.size = w.heap.size + 1 := by rw [hwA]; simp
  have HBA : Hid (Below w.heap.size w wA) := by rw [hwA]; exact (Below.refl _ _).alloc (Nat.le_refl _) _
  have H1 : Hid (wA.heap[w.heap.size]? = some (.cells #[.int .i64 0, .slice none 0 0] 26)) := by rw [hwA]; exact heap_new _ _
  have hi : inB (n : Int) 1 12 = true := by unfold inB; simp; omega
  have hmk := make3 (P := Tryz.prog) 24 51 (.slice none 0 0) (.int .i64 0) (.bool false) 40 Tryz.underlying24 Tryz.infoSq n (by omega) (by omega) wA
  go_enter Tryz.func147, Tryz.ntmps147
  go_wp2_with fail
  rw [← hwA]
  clear hwA
  refine (isLayout_any (n : Int) z wA).mono ?_
  rintro e w1 ⟨rfl, rfl⟩
  rw [hi, hz]
  obtain ⟨a0, a1⟩ := two_cells H1.out
  have f0 := four_frozen H1.out 0
  have f1 := four_frozen H1.out 1
  go_wp2_with fail
  have HRS := hide (two_set H1.out (.int .i64 z) (.slice (some ⟨w.heap.size + 1, 0, none⟩) n n))
  have HAS := hide (two_aside (b := w.heap.size) (Aside.refl w.heap.size (w.heap.size + 1) wA) (Nat.le_refl _) (Nat.lt_succ_self _) (.int .i64 z) (.slice (some ⟨w.heap.size + 1, 0, none⟩) n n))
  have hsW : ((wA.setCell ⟨w.heap.size, 0, none⟩ (.int .i64 z)).setCell ⟨w.heap.size, 1, none⟩ (.slice (some ⟨w.heap.size + 1, 0, none⟩) n n)).heap.size = w.heap.size + 1 := by rw [Go.Deep.nblk_setCell, Go.Deep.nblk_setCell, hzA]
  have HBW := hide (HBA.out.trans (HAS.out.below (Nat.le_refl _) (by omega)))
  have HOW := hide (made3 ((wA.setCell ⟨w.heap.size, 0, none⟩ (.int .i64 z)).setCell ⟨w.heap.size, 1, none⟩ (.slice (some ⟨w.heap.size + 1, 0, none⟩) n n)) n 51)
  rw [hsW] at HOW
  refine bodyPost_ret (results_ct rfl rfl (run_loadVar_row _ _ _ _ _ _ _ (heap_old HRS.out) Tryz.underlying26 rfl (by kernel_rfl))) rfl ⟨_, rfl, squares_new HOW.out (by omega), HBW.out.alloc (by omega) _⟩

set_option maxHeartbeats 800000 in
theorem implNewChip_no (q z : Int) (w : World) (h : (inB q 1 12 && inB z 1 8) = false) :
    Calls Tryz.prog 147 #[.int .i64 q, .int .i64 z] w fun e w' => e = .returned (.tuple #[.agg #[.int .i64 0, .slice none 0 0], .bool false]) ∧ Below w.heap.size w w' := by
  obtain ⟨wA, hwA⟩ : ∃ wA, wA = w.alloc (.cells #[.int .i64 0, .slice none 0 0] 26) := ⟨_, rfl⟩
  have hzA : wA.heap.size = w.heap.size + 1 := by rw [hwA]; simp
  have HBA : Hid (Below w.heap.size w wA) := by rw [hwA]; exact (Below.refl _ _).alloc (Nat.le_refl _) _
  have H1 : Hid (wA.heap[w.heap.size]? = some (.cells #[.int .i64 0, .slice none 0 0] 26)) := by rw [hwA]; exact heap_new _ _
  obtain ⟨a0, a1⟩ := two_cells H1.out
  have f0 := four_frozen H1.out 0
  have f1 := four_frozen H1.out 1
  have HRS := hide (two_set H1.out (.int .i64 0) (.slice none 0 0))
  have HAS := hide (two_aside (b := w.heap.size) (Aside.refl w.heap.size (w.heap.size + 1) wA) (Nat.le_refl _) (Nat.lt_succ_self _) (.int .i64 0) (.slice none 0 0))
  have HBW := hide (HBA.out.trans (HAS.out.below (Nat.le_refl _) (by omega)))
  go_enter Tryz.func147, Tryz.ntmps147
  go_wp2_with fail
  rw [← hwA]
  clear hwA
  refine (isLayout_any q z wA).mono ?_
  rintro e w1 ⟨rfl, rfl⟩
  rw [h]
  go_wp2_with fail
  refine bodyPost_ret (results_ct rfl rfl (run_loadVar_row _ _ _ _ _ _ _ HRS.out Tryz.underlying26 rfl (by kernel_rfl))) rfl ⟨rfl, HBW.out⟩

end Go.Proofs.YtoocbagnfkgbfaaGreatDoor
