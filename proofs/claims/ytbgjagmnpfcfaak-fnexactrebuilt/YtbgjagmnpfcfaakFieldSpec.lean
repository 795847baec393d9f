/- The walks of chapter 2's model: products by doubling, powers by squares. -/
import Derived.Test.YtbgjagmnpfcfaakSumSpec
import Derived.Test.YtbgjagmnpfcfaakFieldMath
namespace Go.Proofs.Ytbgjagmnpfcfaak
open Go.RowKit
set_option linter.unusedVariables false
set_option maxRecDepth 20000

theorem i64_xor_301 (a : Nat) (ha : a < 4294967296) : bits .xor .i64 (a : Int) 301 = ((a ^^^ 301 : Nat) : Int) := i64_xor_nat a 301 ha (by omega)

set_option maxRecDepth 20000 in
set_option maxHeartbeats 800000 in
theorem l2Product_any (a b : Nat) (ha : a < 256) (hb : b < 256) (w : World) :
    Calls Try.prog 48 #[.int .i64 (a : Int), .int .i64 (b : Int)] w fun e w' => e = .returned (.int .i64 (Field.mul a b : Nat)) ∧ w = w' := by
  go_enter Try.func48, Try.ntmps48
  go_wp2_with fail
  go_loop [5, 0, 1] (fun r x y => ∃ R A B : Nat, R < 256 ∧ A < 256 ∧ B < 256 ∧ r = .int .i64 (R : Int) ∧ x = .int .i64 (A : Int) ∧ y = .int .i64 (B : Int) ∧ R ^^^ Field.mul A B = Field.mul a b) (fun _ _ y => (intOf y).toNat)
  case atStart => exact ⟨0, a, b, by omega, ha, hb, rfl, rfl, rfl, by simp⟩
  case round =>
    obtain ⟨R, A, B, hR, hA, hB, rfl, rfl, rfl, hm⟩ := hrel
    have HM := hide hm
    clear hm
    have HX1 := hide (i64_xor_nat R A (by omega) (by omega))
    have HX2 : Hid (bits .xor .i64 (2 * (A : Int)) 301 = ((2 * A ^^^ 301 : Nat) : Int)) := by
      have := i64_xor_301 (2 * A) (by omega)
      simpa using hide this
    by_cases h0 : 0 < B
    · have HS := hide (Field.mul_step (a := A) hB)
      have HD := hide (Field.dbl_lt hA)
      by_cases h1 : B % 2 = 1
      · have HM2 : Hid ((R ^^^ A) ^^^ Field.mul (Field.dbl A) (B / 2) = Field.mul a b) := by
          have := HM.out; rw [HS.out, if_pos h1, ← Nat.xor_assoc] at this; exact this
        by_cases h2 : 256 ≤ 2 * A
        · go_wp2_with fail
          go_round
          case rel => exact ⟨R ^^^ A, Field.dbl A, B / 2, Field.xor_lt hR hA, HD.out, by omega, by rw [HX1.out], by rw [HX2.out]; unfold Field.dbl; rw [if_pos h2], by go_num, HM2.out⟩
          case measure => simp [intOf]; omega
        · go_wp2_with fail
          go_round
          case rel => exact ⟨R ^^^ A, Field.dbl A, B / 2, Field.xor_lt hR hA, HD.out, by omega, by rw [HX1.out], by unfold Field.dbl; rw [if_neg h2]; go_num, by go_num, HM2.out⟩
          case measure => simp [intOf]; omega
      · have HM2 : Hid (R ^^^ Field.mul (Field.dbl A) (B / 2) = Field.mul a b) := by
          have := HM.out; rw [HS.out, if_neg h1, Nat.zero_xor] at this; exact this
        by_cases h2 : 256 ≤ 2 * A
        · go_wp2_with fail
          go_round
          case rel => exact ⟨R, Field.dbl A, B / 2, hR, HD.out, by omega, rfl, by rw [HX2.out]; unfold Field.dbl; rw [if_pos h2], by go_num, HM2.out⟩
          case measure => simp [intOf]; omega
        · go_wp2_with fail
          go_round
          case rel => exact ⟨R, Field.dbl A, B / 2, hR, HD.out, by omega, rfl, by unfold Field.dbl; rw [if_neg h2]; go_num, by go_num, HM2.out⟩
          case measure => simp [intOf]; omega
    · go_wp2_with fail
      go_ret
      have hB0 : B = 0 := by omega
      have hm := HM.out
      rw [hB0, Field.mul_zero, Nat.xor_zero] at hm
      exact ⟨ret_i64 (by rw [hm]), rfl⟩

set_option maxRecDepth 20000 in
set_option maxHeartbeats 800000 in
theorem l2Power_any (a n : Nat) (ha : a < 256) (hn : n < 9223372036854775808) (w : World) :
    Calls Try.prog 66 #[.int .i64 (a : Int), .int .i64 (n : Int)] w fun e w' => e = .returned (.int .i64 (Field.pow a n : Nat)) ∧ w = w' := by
  go_enter Try.func66, Try.ntmps66
  go_wp2_with fail
  go_loop [5, 0, 1] (fun r x y => ∃ R A N : Nat, R < 256 ∧ A < 256 ∧ N ≤ n ∧ r = .int .i64 (R : Int) ∧ x = .int .i64 (A : Int) ∧ y = .int .i64 (N : Int) ∧ Field.mul R (Field.pow A N) = Field.pow a n) (fun _ _ y => (intOf y).toNat)
  case atStart => exact ⟨1, a, n, by omega, ha, Nat.le_refl _, rfl, rfl, rfl, Field.one_mul (Field.pow_lt ha n)⟩
  case round =>
    obtain ⟨R, A, N, hR, hA, hN, rfl, rfl, rfl, hm⟩ := hrel
    have HM := hide hm
    clear hm
    by_cases h0 : 0 < N
    · have HSQ := hide (Field.pow_sq hA (N / 2))
      by_cases h1 : N % 2 = 1
      · have HM2 : Hid (Field.mul (Field.mul R A) (Field.pow (Field.mul A A) (N / 2)) = Field.pow a n) := by
          have := HM.out
          rw [show N = 2 * (N / 2) + 1 by omega] at this
          show Field.mul (Field.mul R A) (Field.pow (Field.mul A A) (N / 2)) = Field.pow a n
          rw [HSQ.out, Field.mul_assoc hR hA (Field.pow_lt hA _)]; exact this
        go_wp2_with fail
        refine (l2Product_any R A hR hA _).mono ?_
        rintro e w1 ⟨rfl, rfl⟩
        go_wp2_with fail
        refine (l2Product_any A A hA hA _).mono ?_
        rintro e w1 ⟨rfl, rfl⟩
        go_wp2_with fail
        go_round
        case rel => exact ⟨Field.mul R A, Field.mul A A, N / 2, Field.mul_lt hR, Field.mul_lt hA, by omega, rfl, rfl, by go_num, HM2.out⟩
        case measure => simp [intOf]; omega
      · have HM2 : Hid (Field.mul R (Field.pow (Field.mul A A) (N / 2)) = Field.pow a n) := by
          have := HM.out
          rw [show N = 2 * (N / 2) by omega] at this
          show Field.mul R (Field.pow (Field.mul A A) (N / 2)) = Field.pow a n
          rw [HSQ.out]; exact this
        go_wp2_with fail
        refine (l2Product_any A A hA hA _).mono ?_
        rintro e w1 ⟨rfl, rfl⟩
        go_wp2_with fail
        go_round
        case rel => exact ⟨R, Field.mul A A, N / 2, hR, Field.mul_lt hA, by omega, rfl, rfl, by go_num, HM2.out⟩
        case measure => simp [intOf]; omega
    · go_wp2_with fail
      go_ret
      have hm := HM.out
      rw [show N = 0 by omega] at hm
      have hm' : R = Field.pow a n := (Field.mul_one hR).symm.trans hm
      exact ⟨ret_i64 (by rw [hm']), rfl⟩

/-! ### Chapter 2 as a plain function -/
def mulI (x y : Int) : Int := if elem x = true ∧ elem y = true then (Field.mul x.toNat y.toNat : Int) else -1
def powI (x n : Int) : Int := if elem x = true ∧ 0 ≤ n then (Field.pow x.toNat n.toNat : Int) else -1
def invI (x : Int) : Int := if elem x = true ∧ x ≠ 0 then (Field.inv x.toNat : Int) else -1
def overI (x y : Int) : Int := if elem x = true ∧ elem y = true ∧ y ≠ 0 then (Field.mul x.toNat (Field.inv y.toNat) : Int) else -1
theorem mulI_nat {a b : Nat} (ha : a < 256) (hb : b < 256) : mulI a b = (Field.mul a b : Int) := by simp [mulI, nat_elem ha, nat_elem hb]
theorem powI_nat {a n : Nat} (ha : a < 256) : powI a n = (Field.pow a n : Int) := by simp [powI, nat_elem ha]
theorem invI_nat {a : Nat} (ha : a < 256) (h0 : a ≠ 0) : invI a = (Field.inv a : Int) := by simp [invI, nat_elem ha, h0]
theorem overI_nat {a b : Nat} (ha : a < 256) (hb : b < 256) (h0 : b ≠ 0) : overI a b = (Field.mul a (Field.inv b) : Int) := by simp [overI, nat_elem ha, nat_elem hb, h0]
theorem mulI_no {x y : Int} (h : elem x = false ∨ elem y = false) : mulI x y = -1 := by rcases h with h | h <;> simp [mulI, h]

set_option maxRecDepth 20000 in
theorem specInverse_any (x : Int) (w : World) :
    Calls Try.prog 47 #[.int .i64 x] w fun e w' => e = .returned (.int .i64 (invI x)) ∧ w = w' := by
  cases hx : elem x
  · have hx' : inB x 0 255 = false := hx
    go_enter Try.func47, Try.ntmps47
    go_wp2_with fail
    refine (l2Ok_any _ _).mono ?_
    rintro e w1 ⟨rfl, rfl⟩
    go_wp2_with fail
    go_ret
    exact ⟨ret_i64 (by simp [invI, hx]), rfl⟩
  · have hx' : inB x 0 255 = true := hx
    by_cases h : x = 0
    · subst h
      go_enter Try.func47, Try.ntmps47
      go_wp2_with fail
      refine (l2Ok_any _ _).mono ?_
      rintro e w1 ⟨rfl, rfl⟩
      go_wp2_with fail
      go_ret
      exact ⟨ret_i64 (by simp [invI]), rfl⟩
    · obtain ⟨a, rfl, ha⟩ := elem_nat hx
      go_enter Try.func47, Try.ntmps47
      go_wp2_with fail
      refine (l2Ok_any _ _).mono ?_
      rintro e w1 ⟨rfl, rfl⟩
      go_wp2_with fail
      refine (l2Power_any a 254 ha (by omega) _).mono ?_
      rintro e w1 ⟨rfl, rfl⟩
      go_wp2_with fail
      go_ret
      exact ⟨ret_i64 (invI_nat ha (by omega)).symm, rfl⟩
end Go.Proofs.Ytbgjagmnpfcfaak
