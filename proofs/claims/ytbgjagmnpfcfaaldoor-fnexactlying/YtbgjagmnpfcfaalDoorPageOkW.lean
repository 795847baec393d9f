/- The walks of PageOk, the model's and the program's. -/
import Derived.Test.YtbgjagmnpfcfaalDoorPageBase
namespace Go.Proofs.YtbgjagmnpfcfaalDoor
open Go.RowKit
set_option linter.unusedVariables false
set_option maxRecDepth 20000

set_option maxHeartbeats 1600000 in
theorem specPageOk_any (k a s : Int) (x : ByteArray) (w : World) :
    Calls Tryd.prog 10 #[.agg #[.int .i64 k, .int .i64 a, .int .i64 s, .string x]] w fun e w' => e = .returned (.bool (pageOk k a s x)) ∧ Below w.heap.size w w' := by
  go_enter Tryd.func10, Tryd.ntmps10
  go_wp2_with (go_at_call 18; refine (l1In_any _ _ _ _).mono ?_; rintro e w' ⟨rfl, rfl⟩)
  all_goals go_ret
  all_goals refine ⟨ret_bool ?_, (Below.refl w.heap.size w).alloc (Nat.le_refl _) _⟩
  all_goals first
    | (simp_all [pageOk, text_empty]; done)
    | (simp_all [pageOk, inB]; omega)
set_option maxHeartbeats 1600000 in
theorem implPageOk_any (k a s : Int) (x : ByteArray) (w : World) :
    Calls Tryd.prog 35 #[.agg #[.int .i64 k, .int .i64 a, .int .i64 s, .string x]] w fun e w' => e = .returned (.bool (pageOk k a s x)) ∧ Below w.heap.size w w' := by
  go_enter Tryd.func35, Tryd.ntmps35
  go_wp2_with fail
  all_goals go_ret
  all_goals refine ⟨ret_bool ?_, (Below.refl w.heap.size w).alloc (Nat.le_refl _) _⟩
  all_goals (try simp only [beq_iff_eq, beq_eq_false_iff_ne, ne_eq] at *)
  all_goals simp only [text_empty, pageOk_iff]
  all_goals first
    | exact (decide_eq_false (by omega)).symm
    | exact (decide_eq_true (by omega)).symm
    | exact decide_eq_decide.2 (by omega)
end Go.Proofs.YtbgjagmnpfcfaalDoor
