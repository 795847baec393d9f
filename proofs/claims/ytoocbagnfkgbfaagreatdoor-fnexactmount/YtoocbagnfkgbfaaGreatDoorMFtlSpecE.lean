/- Several texts in one: FtlSpecE, FtlSpecF, FtlSpecG. -/
import Derived.Test.YtoocbagnfkgbfaaGreatDoorMFtlMath
import Derived.Test.YtoocbagnfkgbfaaGreatDoorMChipGrow
import Derived.Test.YtoocbagnfkgbfaaGreatDoorMQuietTail
import Derived.BigRegion
import Derived.BigQuiet
import Derived.Test.YtoocbagnfkgbfaaGreatDoorMPageMath
import Derived.Test.YtoocbagnfkgbfaaGreatDoorMPageBase
import Derived.Deep.RegionHeld3
section
namespace Go.Proofs.YtoocbagnfkgbfaaGreatDoor
open Go.RowKit
set_option linter.unusedVariables false
set_option maxRecDepth 20000

theorem FtlAt.apart {B px pj n g c gm cm : Nat} {w : World} {z st : Int} {A : Nat → Option Addr} {C : Nat → Nat} {V : Value} {s : Kp} (h : FtlAt B w px pj z st n g c gm cm A C V s) : gm ≠ px ∧ gm ≠ pj ∧ px ≠ pj := by
  obtain ⟨cs, fz, hk⟩ := h.mem.kind
  refine ⟨fun e => ?_, fun e => ?_, fun e => ?_⟩
  · rw [e, h.ftl] at hk
    simp only [Option.some.injEq, Obj.cells.injEq] at hk
    exact absurd hk.2.1 (by decide)
  · rw [e, h.jobs] at hk
    simp only [Option.some.injEq, Obj.cells.injEq] at hk
    exact absurd hk.2.1 (by decide)
  · have := h.ftl
    rw [e, h.jobs] at this
    simp only [Option.some.injEq, Obj.cells.injEq] at this
    exact absurd this.2.1 (by decide)
end Go.Proofs.YtoocbagnfkgbfaaGreatDoor
end

section
namespace Go.Proofs.YtoocbagnfkgbfaaGreatDoor
open Go.RowKit
set_option linter.unusedVariables false
set_option maxRecDepth 20000

end Go.Proofs.YtoocbagnfkgbfaaGreatDoor
end

section
namespace Go.Proofs.YtoocbagnfkgbfaaGreatDoor
open Go.RowKit
set_option linter.unusedVariables false
set_option maxRecDepth 20000

end Go.Proofs.YtoocbagnfkgbfaaGreatDoor
end

