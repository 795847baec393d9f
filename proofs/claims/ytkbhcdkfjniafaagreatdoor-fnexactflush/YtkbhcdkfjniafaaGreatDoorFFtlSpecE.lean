/- Several texts in one: FtlSpecE, FtlSpecF, FtlSpecG. -/
import Derived.Test.YtkbhcdkfjniafaaGreatDoorFFtlMath
import Derived.Test.YtkbhcdkfjniafaaGreatDoorFChipGrow
import Derived.Test.YtkbhcdkfjniafaaGreatDoorFQuietTail
import Derived.BigRegion
import Derived.BigQuiet
import Derived.Test.YtkbhcdkfjniafaaGreatDoorFPageMath
import Derived.Test.YtkbhcdkfjniafaaGreatDoorFPageBase
import Derived.Deep.RegionHeld3
section
namespace Go.Proofs.YtkbhcdkfjniafaaGreatDoor
open Go.RowKit
set_option linter.unusedVariables false
set_option maxRecDepth 20000
theorem FtlAt.apart {B px pj n g c gm cm : Nat} {w : World} {z st : Int} {A : Nat -> Option Addr} {C : Nat -> Nat} {V : Value} {s : Kp} (h : FtlAt B w px pj z st n g c gm cm A C V s) : gm ≠ px ∧ gm ≠ pj ∧ px ≠ pj := by
 obtain ⟨cs, fz, hk⟩ := h.mem.kind
 refine ⟨fun e => ?_, fun e => ?_, fun e => ?_⟩
 ·rw [e, h.ftl] at hk
  simp only [Option.some.injEq, Obj.cells.injEq] at hk
  exact absurd hk.2.1 (by decide)
 ·rw [e, h.jobs] at hk
  simp only [Option.some.injEq, Obj.cells.injEq] at hk
  exact absurd hk.2.1 (by decide)
 ·have := h.ftl
  rw [e, h.jobs] at this
  simp only [Option.some.injEq, Obj.cells.injEq] at this
  exact absurd this.2.1 (by decide)
theorem FtlAt.led {B px pj n g c gm cm : Nat} {w : World} {z st : Int} {A : Nat -> Option Addr} {C : Nat -> Nat} {V : Value} {s : Kp} (h : FtlAt B w px pj z st n g c gm cm A C V s) {i : Nat} (hi : i < s.ps.length) (x : Pl) :
  FtlAt B ((w.setCell ⟨gm, i * 2, none⟩ (.int .i64 x.1)).setCell ⟨gm, i * 2 + 1, none⟩ (.int .i64 x.2)) px pj z st n g c gm cm A C V ⟨s.qs, s.ps.set i x, s.op, s.js⟩ := by
 obtain ⟨h1, h2, h3⟩ := h.apart
 refine ⟨h.mem.led hi x, ?_, set_other (set_other h.jobs h2 _) h2 _, h.nx, h.nj, h.bx, h.bj⟩
 dsimp only
 rw [List.length_set]
 exact set_other (set_other h.ftl h1 _) h1 _
theorem FtlAt.bound {B px pj n g c gm cm : Nat} {w : World} {z st : Int} {A : Nat -> Option Addr} {C : Nat -> Nat} {V : Value} {s : Kp} (h : FtlAt B w px pj z st n g c gm cm A C V s) : px < w.heap.size ∧ pj < w.heap.size ∧ g < w.heap.size ∧ gm < w.heap.size ∧ B <= gm ∧ B <= g := by
 obtain ⟨cs, fz, hk⟩ := h.mem.kind
 exact ⟨(Array.getElem?_eq_some_iff.1 h.ftl).1, (Array.getElem?_eq_some_iff.1 h.jobs).1, by have := h.mem.sq.row.1; omega, (Array.getElem?_eq_some_iff.1 hk).1, (World.ownsRow.lt h.mem.pl gm rfl).1, h.mem.sq.atG⟩
theorem putK_of {z : Int} {s : Kp} {i : Nat} {tx : ByteArray} : putK z s i tx = (doK z s (1, s.op, tx)).map fun s' => ⟨s'.qs, s'.ps.set i (nextP s), s'.op, s'.js⟩ := rfl
end Go.Proofs.YtkbhcdkfjniafaaGreatDoor
end

section
namespace Go.Proofs.YtkbhcdkfjniafaaGreatDoor
open Go.RowKit
set_option linter.unusedVariables false
set_option maxRecDepth 20000
theorem first_of {w : World} {B : Nat} {v : Value} {l : List Nat} (h : w.ownsRow B 2 1 v l.length (valN l)) : ∃ a c, v = .slice a l.length c ∧ (0 < l.length -> ∃ ge, a = some ⟨ge, 0, none⟩ ∧ ge < w.heap.size ∧ w.cell? ⟨ge, 0, none⟩ = some (.int .i64 ((l.getD 0 0 : Nat) : Int))) := by
 rcases h.2 with ⟨e, h0⟩ | ⟨ge, cap, cur, e, hb, hg, hn, _⟩
 ·exact ⟨none, 0, by rw [e, h0], fun h1 => by omega⟩
 ·subst e
  refine ⟨_, cap, rfl, fun h1 => ⟨ge, rfl, (Array.getElem?_eq_some_iff.1 hg).1, ?_⟩⟩
  rw [h.cellAt 0 (by omega), valN_at h1]
theorem FtlAt.opened {B px pj n g c gm cm : Nat} {w : World} {z st : Int} {A : Nat -> Option Addr} {C : Nat -> Nat} {V : Value} {s : Kp} (h : FtlAt B w px pj z st n g c gm cm A C V s) (o : Int) :
  FtlAt B (w.setCell ⟨px, 3, none⟩ (.int .i64 o)) px pj z st n g c gm cm A C V (withOp s o) := by
 obtain ⟨h1, h2, h3⟩ := h.apart
 have hm := h.mem.set (o := 3) (.int .i64 o) h.nx h.ftl (by decide) (by decide) (by decide)
 exact ⟨⟨hm.sq, hm.pl, hm.jb, hm.ne, hm.nj⟩, set_block h.ftl 3 _ (by simp), set_other h.jobs h3 _, h.nx, h.nj, h.bx, h.bj⟩
end Go.Proofs.YtkbhcdkfjniafaaGreatDoor
end

section
namespace Go.Proofs.YtkbhcdkfjniafaaGreatDoor
open Go.RowKit
set_option linter.unusedVariables false
set_option maxRecDepth 20000
theorem FtlAt.stamped {B px pj n g c gm cm : Nat} {w : World} {z st : Int} {A : Nat -> Option Addr} {C : Nat -> Nat} {V : Value} {s : Kp} (h : FtlAt B w px pj z st n g c gm cm A C V s) (o : Int) :
  FtlAt B (w.setCell ⟨px, 4, none⟩ (.int .i64 o)) px pj z o n g c gm cm A C V s := by
 obtain ⟨h1, h2, h3⟩ := h.apart
 have hm := h.mem.set (o := 4) (.int .i64 o) h.nx h.ftl (by decide) (by decide) (by decide)
 exact ⟨⟨hm.sq, hm.pl, hm.jb, hm.ne, hm.nj⟩, set_block h.ftl 4 _ (by simp), set_other h.jobs h3 _, h.nx, h.nj, h.bx, h.bj⟩
end Go.Proofs.YtkbhcdkfjniafaaGreatDoor
end

