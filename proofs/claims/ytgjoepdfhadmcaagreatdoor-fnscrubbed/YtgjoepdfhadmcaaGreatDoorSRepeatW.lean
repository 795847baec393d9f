/- . -/
import Derived.Test.YtgjoepdfhadmcaaGreatDoorSChipOwn2
import Derived.Test.YtgjoepdfhadmcaaGreatDoorSCopyBase
import Derived.Laws.Bits64b
import Derived.BigRegion
namespace Go.Proofs.YtgjoepdfhadmcaaGreatDoor
open Go.RowKit
set_option linter.unusedVariables false
set_option maxRecDepth 20000
set_option maxHeartbeats 800000 in
theorem mul64_one (n : Nat) (h : n <= 64) (w : World) :
  Calls Tryz.prog 207 #[.int .u64 1,.int .u64 (n : Int)] w fun e w' => e = .returned (.tuple #[.int .u64 0,.int .u64 (n : Int)]) ∧ w' = w := by
 have m1 : bits .and .u64 (n : Int) 4294967295 = (n : Int) := by
  have h := bits_and_u64_nat n 4294967295 (by omega) (by omega)
  have e : n &&& 4294967295 = n % 4294967296 := Nat.and_two_pow_sub_one_eq_mod n 32
  rw [e,Nat.mod_eq_of_lt (by omega)] at h
  exact h
 have m2 : (n : Int) / 4294967296 = 0 := by omega
 have m3 : IntKind.u64.wrap (n : Int) = (n : Int) := by rw [IntKind.wrap_u64]; omega
 have m0 : bits .and .u64 1 4294967295 = 1 := by decide
 have m4 : bits .and .u64 0 4294967295 = 0 := by decide
 have m5 : IntKind.u64.wrap 0 = 0 := by decide
 go_enter Tryz.func207,Tryz.ntmps207
 go_wp2_with fail
 go_ret2
 exact ⟨by simp,rfl⟩
set_option maxHeartbeats 800000 in
theorem mul_one (n : Nat) (h : n <= 64) (w : World) :
  Calls Tryz.prog 173 #[.int .u64 1,.int .u64 (n : Int)] w fun e w' => e = .returned (.tuple #[.int .u64 0,.int .u64 (n : Int)]) ∧ w' = w := by
 go_enter Tryz.func173,Tryz.ntmps173
 go_wp2_with fail
 refine (mul64_one n h w).mono ?_
 rintro e w' ⟨rfl,hw⟩
 rw [hw]
 go_wp2_with fail
 go_ret2
 exact ⟨rfl,rfl⟩
end Go.Proofs.YtgjoepdfhadmcaaGreatDoor
