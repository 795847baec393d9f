/- Several texts in one: Info, WalkIn. -/
import Derived.Test.YthldcfiemfccpaaRows
import Derived.Test.YthldcfiemfccpaaNBase
import Derived.Deep.QuietTactic
import Derived.BigQuiet
section
namespace Go.Proofs.Ythldcfiemfccpaa
open Go.RowKit

theorem Try.infoI64 : (Try.prog.info? 2).map (fun i => (i.zero, i.size, i.bytes)) = some (some (.int .i64 0), 1, 8) := by kernel_rfl
end Go.Proofs.Ythldcfiemfccpaa
end

section
namespace Go.Proofs.Ythldcfiemfccpaa
open Go.RowKit
set_option linter.unusedVariables false
set_option maxRecDepth 20000

set_option maxHeartbeats 400000 in
theorem l1In_any (x lo hi : Int) (w : World) :
    Calls Try.prog 10 #[.int .i64 x, .int .i64 lo, .int .i64 hi] w fun e w' => e = .returned (.bool (inB x lo hi)) ∧ w = w' := by
  by_cases h1 : lo ≤ x
  · go_enter Try.func10, Try.ntmps10
    go_wp2
    go_ret
    exact ⟨by simp [inB, h1], rfl⟩
  · have h1' : decide (lo ≤ x) = false := by simpa using h1
    go_enter Try.func10, Try.ntmps10
    go_wp2
    go_ret
    exact ⟨by simp [inB, h1'], rfl⟩
end Go.Proofs.Ythldcfiemfccpaa
end

