/- The laws' own walks over a Mark. -/
import Derived.Test.YteooaljhdmmooaaDoorMDBase
import Derived.Test.YteooaljhdmmooaaDoorMDMarkImplA
import Derived.Deep.Cut
namespace Go.Proofs.YteooaljhdmmooaaDoor
open Go.RowKit
set_option linter.unusedVariables false
set_option maxRecDepth 20000

set_option maxHeartbeats 800000 in
theorem toMark_any (e q : Int) (b : Bool) (w : World) :
    Calls Tryd.prog 7 #[.agg #[.int .i64 e, .int .i64 q, .bool b]] w fun r w' => r = .returned (markV e q b) ∧ Below w.heap.size w w' := by
  obtain ⟨w1, hw1⟩ : ∃ w1, w1 = ((w.alloc (.cells #[.int .i64 e, .int .i64 q, .bool b] 23)).alloc (.cells #[.int .i64 0, .int .i64 0, .bool false] 25)).alloc (.cells #[.int .i64 0, .int .i64 0, .bool false] 25) := ⟨_, rfl⟩
  have HB1 : Hid (Below w.heap.size w w1) := by rw [hw1]; exact (((Below.refl _ _).alloc (Nat.le_refl _) _).alloc (by simp) _).alloc (by simp; omega) _
  have HA1 : Hid (w1.heap[w.heap.size]? = some (.cells #[.int .i64 e, .int .i64 q, .bool b] 23)) := by rw [hw1]; exact heap_old (heap_old (heap_new _ _))
  have HR1 : Hid (w1.heap[w.heap.size + 1]? = some (.cells #[.int .i64 0, .int .i64 0, .bool false] 25)) := by rw [hw1]; exact heap_old (heap_at (by simp))
  have HM1 : Hid (w1.heap[w.heap.size + 1 + 1]? = some (.cells #[.int .i64 0, .int .i64 0, .bool false] 25)) := by rw [hw1]; exact heap_at (by simp)
  obtain ⟨a0, a1, a2⟩ := mk_cells HA1.out
  obtain ⟨m0, m1, m2⟩ := mk_cells HM1.out
  have f0 := mk_frozen HM1.out 0
  have f1 := mk_frozen HM1.out 1
  have f2 := mk_frozen HM1.out 2
  go_enter Tryd.func7, Tryd.ntmps7
  go_upto_region 2 with fail
  rw [← hw1]
  clear hw1
  have HM2 := hide (mk_set HM1.out (.int .i64 e) (.int .i64 q) (.bool b))
  have HB2 := hide (mk_below HB1.out (b := w.heap.size + 1 + 1) (by omega) (.int .i64 e) (.int .i64 q) (.bool b))
  obtain ⟨w2, hw2⟩ : ∃ w2, w2 = ((w1.setCell ⟨w.heap.size + 1 + 1, 0, none⟩ (.int .i64 e)).setCell ⟨w.heap.size + 1 + 1, 1, none⟩ (.int .i64 q)).setCell ⟨w.heap.size + 1 + 1, 2, none⟩ (.bool b) := ⟨_, rfl⟩
  have HR2 : Hid (w2.heap[w.heap.size + 1]? = some (.cells #[.int .i64 0, .int .i64 0, .bool false] 25)) := by
    show _ = _
    rw [hw2, mset_other (by omega), mset_other (by omega), mset_other (by omega)]
    exact HR1.out
  rw [← hw2] at HM2 HB2
  go_upto_region 5 with fail
  rw [← hw2]
  clear hw2 a0 a1 a2 m0 m1 m2 f0 f1 f2
  obtain ⟨m0, m1, m2⟩ := mk_cells HM2.out
  obtain ⟨r0, r1, r2⟩ := mk_cells HR2.out
  have f0 := mk_frozen HR2.out 0
  have f1 := mk_frozen HR2.out 1
  have f2 := mk_frozen HR2.out 2
  have HF := hide (mk_set HR2.out (.int .i64 e) (.int .i64 q) (.bool b))
  have HG := hide (mk_below HB2.out (b := w.heap.size + 1) (by omega) (.int .i64 e) (.int .i64 q) (.bool b))
  go_wp2_with fail
  exact bodyPost_ret (results_cell rfl rfl (run_loadVar_row _ _ _ _ _ _ _ HF.out Tryd.underlying25 rfl (by kernel_rfl))) rfl ⟨rfl, HG.out⟩
end Go.Proofs.YteooaljhdmmooaaDoor
