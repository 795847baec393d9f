/- Several texts in one: Info, WalkIn. -/
import Derived.Test.YtceidhlcbbikcanGreatDoorRows
import Derived.Test.YtceidhlcbbikcanGreatDoorJBase
import Derived.Deep.QuietTactic
import Derived.BigQuiet
section
namespace Go.Proofs.YtceidhlcbbikcanGreatDoor
open Go.RowKit

theorem Tryz.infoI64 : (Tryz.prog.info? 2).map (fun i => (i.zero, i.size, i.bytes)) = some (some (.int .i64 0), 1, 8) := by kernel_rfl
end Go.Proofs.YtceidhlcbbikcanGreatDoor
end

section
namespace Go.Proofs.YtceidhlcbbikcanGreatDoor
open Go.RowKit
set_option linter.unusedVariables false
set_option maxRecDepth 20000

set_option maxHeartbeats 400000 in
theorem l1In_any (x lo hi : Int) (w : World) :
    Calls Tryz.prog 24 #[.int .i64 x, .int .i64 lo, .int .i64 hi] w fun e w' => e = .returned (.bool (inB x lo hi)) ∧ w = w' := by
  by_cases h1 : lo ≤ x
  · go_enter Tryz.func24, Tryz.ntmps24
    go_wp2
    go_ret
    exact ⟨by simp [inB, h1], rfl⟩
  · have h1' : decide (lo ≤ x) = false := by simpa using h1
    go_enter Tryz.func24, Tryz.ntmps24
    go_wp2
    go_ret
    exact ⟨by simp [inB, h1'], rfl⟩
end Go.Proofs.YtceidhlcbbikcanGreatDoor
end

