/- The walks of chapter 4's program: Spread, Odd, Healed. -/
import Derived.Test.YtbgjagmnpfcfaakDoorHamImpl1
import Derived.Deep.RegionHeld3
namespace Go.Proofs.YtbgjagmnpfcfaakDoor
open Go.RowKit
set_option linter.unusedVariables false
set_option maxRecDepth 20000

set_option maxHeartbeats 800000 in
theorem implSpread_any (b : Int) (w : World) (hT : Tab w) :
    Calls Tryd.prog 19 #[.int .i64 b] w fun e w' => e = .returned (.int .i64 (spreadI b)) ∧ Below w.heap.size w w' := by
  cases hb : elem b
  · have hout := elem_out hb
    have HE := hide (spreadI_no hb)
    clear hb hT
    by_cases h0 : b < 0
    · clear hout
      go_enter Tryd.func19, Tryd.ntmps19
      go_wp2_with fail
      go_ret
      exact ⟨ret_i64 HE.out.symm, Below.refl _ _⟩
    · have h1 : (256 : Int) ≤ b := by omega
      clear hout
      go_enter Tryd.func19, Tryd.ntmps19
      go_wp2_with fail
      go_ret
      exact ⟨ret_i64 HE.out.symm, Below.refl _ _⟩
  · obtain ⟨n, rfl, hn⟩ := elem_nat hb
    rw [spreadI_nat hn]
    exact implSpread_nat n w hn hT

theorem word_out {x : Int} (h : word x = false) : x < 0 ∨ 8192 ≤ x := by
  simp [word, inB] at h
  omega
end Go.Proofs.YtbgjagmnpfcfaakDoor
