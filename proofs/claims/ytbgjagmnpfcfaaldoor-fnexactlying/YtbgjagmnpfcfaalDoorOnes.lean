/- bits.OnesCount64 of a word of thirteen bits. -/
import Derived.Test.YtbgjagmnpfcfaalDoorHamSpec2
import Derived.Test.YtbgjagmnpfcfaalDoorOnesMath
namespace Go.Proofs.YtbgjagmnpfcfaalDoor
open Go.RowKit
set_option linter.unusedVariables false
set_option maxRecDepth 20000

set_option maxHeartbeats 800000 in
theorem onesCount_any (x : Nat) (w : World) (hx : x < 8192) :
    Calls Tryd.prog 51 #[.int .u64 (x : Int)] w fun e w' => e = .returned (.int .i64 (Ham.wt x : Int)) ∧ w = w' := by
  have HV := hide (Ones.ones_wt x hx)
  obtain ⟨y1, e1⟩ : ∃ y, Ones.o1 (x : Int) = y := ⟨_, rfl⟩
  obtain ⟨y2, e2⟩ : ∃ y, Ones.o2 y1 = y := ⟨_, rfl⟩
  obtain ⟨y3, e3⟩ : ∃ y, Ones.o3 y2 = y := ⟨_, rfl⟩
  obtain ⟨y4, e4⟩ : ∃ y, Ones.o4 y3 = y := ⟨_, rfl⟩
  obtain ⟨y5, e5⟩ : ∃ y, Ones.o5 y4 = y := ⟨_, rfl⟩
  obtain ⟨y6, e6⟩ : ∃ y, Ones.o6 y5 = y := ⟨_, rfl⟩
  have HE : Hid (Ones.o7 y6 = (Ham.wt x : Int)) := by show _ = _; rw [← e6, ← e5, ← e4, ← e3, ← e2, ← e1]; exact HV.out
  unfold Ones.o1 at e1
  unfold Ones.o2 at e2
  unfold Ones.o3 at e3
  unfold Ones.o4 at e4
  unfold Ones.o5 at e5
  unfold Ones.o6 at e6
  obtain ⟨r, hr⟩ : ∃ r, bits .and .i64 (wrap64 y6) 127 = r := ⟨_, rfl⟩
  have HR : Hid (r = (Ham.wt x : Int)) := by show _ = _; rw [← hr]; exact HE.out
  rw [← HR.out]
  clear HE HV
  go_enter Tryd.func51, Tryd.ntmps51
  go_wp2_with fail
  go_ret
  exact ⟨rfl, rfl⟩
end Go.Proofs.YtbgjagmnpfcfaalDoor
