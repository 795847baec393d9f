/- The walks of the draws of the second chapter: whatever is drawn is some int64. -/
import Derived.Test.YtldcgjilafibkabDoorLawBase
import Derived.Deep.DeepCutAuto
import Derived.Deep.RegionWith
namespace Go.Proofs.YtldcgjilafibkabDoor
open Go.RowKit
set_option linter.unusedVariables false
set_option maxRecDepth 20000

theorem seven_at (k : Nat) (h : k < 7) : ∃ v : Int, (#[.int .i64 (-1), .int .i64 0, .int .i64 1, .int .i64 255, .int .i64 256, .int .i64 (-9223372036854775808), .int .i64 4611686018427387904] : Array Value)[k]? = some (.int .i64 v) ∧ v < 9223372036854775808 := by
  have : k = 0 ∨ k = 1 ∨ k = 2 ∨ k = 3 ∨ k = 4 ∨ k = 5 ∨ k = 6 := by omega
  rcases this with rfl | rfl | rfl | rfl | rfl | rfl | rfl <;> exact ⟨_, rfl, by omega⟩
theorem nine_at (k : Nat) (h : k < 9) : ∃ v : Int, (#[.int .i64 (-1), .int .i64 0, .int .i64 1, .int .i64 2, .int .i64 5, .int .i64 254, .int .i64 255, .int .i64 256, .int .i64 4611686018427387904] : Array Value)[k]? = some (.int .i64 v) ∧ v < 9223372036854775808 := by
  have : k = 0 ∨ k = 1 ∨ k = 2 ∨ k = 3 ∨ k = 4 ∨ k = 5 ∨ k = 6 ∨ k = 7 ∨ k = 8 := by omega
  rcases this with rfl | rfl | rfl | rfl | rfl | rfl | rfl | rfl | rfl <;> exact ⟨_, rfl, by omega⟩

end Go.Proofs.YtldcgjilafibkabDoor
