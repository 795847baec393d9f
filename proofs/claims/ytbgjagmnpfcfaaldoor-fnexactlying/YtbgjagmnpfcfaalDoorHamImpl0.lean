/- The walks of chapter 4's program: a word's odd sum, its weight, and what makes it even. -/
import Derived.Test.YtbgjagmnpfcfaalDoorHamSpec2
import Derived.Test.YtbgjagmnpfcfaalDoorOnes
namespace Go.Proofs.YtbgjagmnpfcfaalDoor
open Go.RowKit
set_option linter.unusedVariables false
set_option maxRecDepth 20000

theorem and1_nat (q : Nat) (hq : q < 65536) : bits .and .i64 (q : Int) 1 = ((q % 2 : Nat) : Int) := by
  show IntKind.i64.wrap ((BitVec.ofInt 64 (q : Int) &&& BitVec.ofInt 64 1).toNat : Int) = _
  rw [BitVec.toNat_and, ofInt_u64 q (by omega), show (BitVec.ofInt 64 1).toNat = 1 from rfl, Nat.and_one_is_mod]
  simp [IntKind.wrap, IntKind.bits, IntKind.signed]
  omega
theorem and1_bitN (x i : Nat) (hx : x < 65536) : bits .and .i64 ((x : Int) / 2 ^ i) 1 = (Ham.bitN x i : Int) := by
  have hp : ((x : Int) / 2 ^ i) = ((x / 2 ^ i : Nat) : Int) := by simp
  rw [hp]
  exact and1_nat _ (Nat.lt_of_le_of_lt (Nat.div_le_self _ _) hx)
namespace Ham
/-- A word whose powers' bits are turned where its odd sum has them, through the powers below 2^j. -/
def pwTo (x : Nat) : Nat → Nat
  | 0 => x
  | j + 1 => if bitN (odd x) j = 1 then pwTo x j ^^^ 2 ^ 2 ^ j else pwTo x j
def pw (x : Nat) : Nat := pwTo x 4
theorem pwTo_lt (x : Nat) (hx : x < 8192) : ∀ j, j ≤ 4 → pwTo x j < 8192
  | 0, _ => hx
  | j + 1, h => by
    have ih := pwTo_lt x hx j (by omega)
    show (if bitN (odd x) j = 1 then pwTo x j ^^^ 2 ^ 2 ^ j else pwTo x j) < 8192
    split
    · refine Nat.xor_lt_two_pow (n := 13) ih ?_
      rcases (show j = 0 ∨ j = 1 ∨ j = 2 ∨ j = 3 by omega) with rfl | rfl | rfl | rfl <;> decide
    · exact ih
theorem pw_lt {x : Nat} (hx : x < 8192) : pw x < 8192 := pwTo_lt x hx 4 (by omega)
def evened (x : Nat) : Nat := x ^^^ (wt x % 2)
theorem spread_pw : ∀ b : Fin 256, evened (pw (data b.val)) = spread b.val := by decide +kernel
theorem and_pow : ∀ o : Fin 16, ∀ j : Fin 4, bits .and .i64 (o.val : Int) ((2 ^ j.val : Nat) : Int) = if bitN o.val j.val = 1 then ((2 ^ j.val : Nat) : Int) else 0 := by decide +kernel
end Ham

set_option maxHeartbeats 800000 in
theorem cwOdd_any (x : Nat) (w : World) (hx : x < 65536) :
    Calls Tryd.prog 46 #[.int .i64 (x : Int)] w fun e w' => e = .returned (.int .i64 (Ham.odd x : Int)) ∧ w = w' := by
  go_enter Tryd.func46, Tryd.ntmps46
  go_wp2_with fail
  go_loop [3, 5] (fun n i => ∃ k : Nat, k ≤ 13 ∧ i = .int .i64 (k : Int) ∧ n = .int .i64 (Ham.oddTo x k : Int)) (fun _ i => 13 - (intOf i).toNat)
  case atStart => exact ⟨0, by omega, rfl, by simp [Ham.oddTo]⟩
  case round =>
    obtain ⟨k, hk, rfl, rfl⟩ := hrel
    by_cases hlt : k < 13
    · have hand := and1_bitN x k hx
      have HX := hide (i64_xor_nat (Ham.oddTo x k) k (Nat.lt_trans (Ham.oddTo_lt x k (by omega)) (by omega)) (by omega))
      have HX0 := hide (i64_xor_nat (Ham.oddTo x k) 0 (Nat.lt_trans (Ham.oddTo_lt x k (by omega)) (by omega)) (by omega))
      have hb2 := Ham.bitN_lt x k
      have HS : Hid (Ham.oddTo x (k + 1) = if Ham.bitN x k = 1 then Ham.oddTo x k ^^^ k else Ham.oddTo x k) := rfl
      obtain ⟨n, hn⟩ : ∃ n, n = Ham.oddTo x k := ⟨_, rfl⟩
      obtain ⟨b, hb⟩ : ∃ b, b = Ham.bitN x k := ⟨_, rfl⟩
      rw [← hn, ← hb] at HS
      rw [← hn] at HX HX0
      rw [← hn]
      rw [← hb] at hb2 hand
      clear hn hb
      rcases (show b = 0 ∨ b = 1 by omega) with rfl | rfl
      · simp only [show ((0 : Nat) : Int) = 0 from rfl] at hand
        go_wp2_with fail
        go_round
        case rel => exact ⟨k + 1, by omega, by go_num, by
          have h := HX0.out
          simp only [Nat.xor_zero, show ((0 : Nat) : Int) = 0 from rfl] at h
          rw [HS.out, if_neg (by decide)]
          simp [h]⟩
        case measure => simp [intOf]; omega
      · simp only [show ((1 : Nat) : Int) = 1 from rfl] at hand
        go_wp2_with fail
        go_round
        case rel => exact ⟨k + 1, by omega, by go_num, by rw [HS.out, if_pos rfl, ← HX.out]⟩
        case measure => simp [intOf]; omega
    · go_wp2_with fail
      go_ret
      exact ⟨ret_i64 (by rw [show k = 13 by omega]; rfl), rfl⟩

set_option maxHeartbeats 800000 in
theorem cwWeight_any (x : Nat) (w : World) (hx : x < 8192) :
    Calls Tryd.prog 47 #[.int .i64 (x : Int)] w fun e w' => e = .returned (.int .i64 (Ham.wt x : Int)) ∧ w = w' := by
  have HW := hide (Ham.wt_le x)
  have HXL := hide hx
  go_enter Tryd.func47, Tryd.ntmps47
  go_wp2_with fail
  refine (onesCount_any x w hx).mono ?_
  rintro e w1 ⟨rfl, rfl⟩
  obtain ⟨t, ht⟩ : ∃ t, t = Ham.wt x := ⟨_, rfl⟩
  have h13 : t ≤ 13 := by rw [ht]; exact HW.out
  have HT := hide ht
  rw [← ht]
  clear ht HW
  go_wp2_with fail
  go_ret
  exact ⟨ret_i64 (by rw [HT.out]), rfl⟩

end Go.Proofs.YtbgjagmnpfcfaalDoor
