/- The walks of chapter 4's model: words of a byte, and what became of them. -/
import Derived.Test.YtbgjagmnpfcfaalDoorSumSpec
import Derived.Test.YtbgjagmnpfcfaalDoorHamMath
import Derived.OwnWalk
import Derived.Laws.BitsAllLaws
namespace Go.Proofs.YtbgjagmnpfcfaalDoor
open Go.RowKit
set_option linter.unusedVariables false
set_option maxRecDepth 20000

theorem i64_or_nat (a b : Nat) (ha : a < 4294967296) (hb : b < 4294967296) : bits .or .i64 (a : Int) (b : Int) = ((a ||| b : Nat) : Int) := by
  have hx : a ||| b < 2 ^ 32 := Nat.or_lt_two_pow (by omega) (by omega)
  show IntKind.i64.wrap ((BitVec.ofInt 64 (a : Int) ||| BitVec.ofInt 64 (b : Int)).toNat : Int) = _
  rw [BitVec.toNat_or, ofInt_u64 a (by omega), ofInt_u64 b (by omega)]
  simp [IntKind.wrap, IntKind.bits, IntKind.signed]
  omega
theorem shr_bitN (x i : Nat) : ((x : Int) / 2 ^ i).tmod 2 = (Ham.bitN x i : Int) := by
  have hp : ((x : Int) / 2 ^ i) = ((x / 2 ^ i : Nat) : Int) := by simp
  rw [hp]
  unfold Ham.bitN
  generalize x / 2 ^ i = q
  rw [Int.tmod_eq_emod_of_nonneg (by omega)]
  omega

set_option maxHeartbeats 400000 in
theorem l4Bit_any (x i : Nat) (w : World) (hx : x < 65536) (hi : i < 64) :
    Calls Tryd.prog 38 #[.int .i64 (x : Int), .int .i64 (i : Int)] w fun e w' => e = .returned (.int .i64 (Ham.bitN x i : Int)) ∧ w = w' := by
  have hv := shr_bitN x i
  go_enter Tryd.func38, Tryd.ntmps38
  go_wp2_with fail
  go_ret
  exact ⟨rfl, rfl⟩

set_option maxHeartbeats 800000 in
theorem l4Odd_any (x : Nat) (w : World) (hx : x < 65536) :
    Calls Tryd.prog 28 #[.int .i64 (x : Int)] w fun e w' => e = .returned (.int .i64 (Ham.odd x : Int)) ∧ w = w' := by
  go_enter Tryd.func28, Tryd.ntmps28
  go_wp2_with fail
  go_loop [3, 4] (fun n i => ∃ k : Nat, 1 ≤ k ∧ k ≤ 13 ∧ i = .int .i64 (k : Int) ∧ n = .int .i64 (Ham.oddTo x k : Int)) (fun _ i => 13 - (intOf i).toNat)
  case atStart => exact ⟨1, by omega, by omega, rfl, by simp [Ham.oddTo]⟩
  case round =>
    obtain ⟨k, hk1, hk, rfl, rfl⟩ := hrel
    by_cases hlt : k < 13
    · have HX := hide (i64_xor_nat (Ham.oddTo x k) k (Nat.lt_trans (Ham.oddTo_lt x k (by omega)) (by omega)) (by omega))
      have hb2 := Ham.bitN_lt x k
      have HS : Hid (Ham.oddTo x (k + 1) = if Ham.bitN x k = 1 then Ham.oddTo x k ^^^ k else Ham.oddTo x k) := rfl
      go_wp2_with fail
      refine (l4Bit_any x k w hx (by omega)).mono ?_
      rintro e w1 ⟨rfl, rfl⟩
      obtain ⟨n, hn⟩ : ∃ n, n = Ham.oddTo x k := ⟨_, rfl⟩
      obtain ⟨b, hb⟩ : ∃ b, b = Ham.bitN x k := ⟨_, rfl⟩
      rw [← hn, ← hb] at HS
      rw [← hn] at HX
      rw [← hn, ← hb]
      rw [← hb] at hb2
      clear hn hb
      rcases (show b = 0 ∨ b = 1 by omega) with rfl | rfl
      · simp only [show ((0 : Nat) : Int) = 0 from rfl]
        go_wp2_with fail
        go_round
        case rel => exact ⟨k + 1, by omega, by omega, by go_num, by rw [HS.out]; rfl⟩
        case measure => simp [intOf]; omega
      · simp only [show ((1 : Nat) : Int) = 1 from rfl]
        go_wp2_with fail
        go_round
        case rel => exact ⟨k + 1, by omega, by omega, by go_num, by rw [HS.out, HX.out]; rfl⟩
        case measure => simp [intOf]; omega
    · go_wp2_with fail
      go_ret
      exact ⟨ret_i64 (by rw [show k = 13 by omega]; rfl), rfl⟩

set_option maxHeartbeats 800000 in
theorem l4Weight_any (x : Nat) (w : World) (hx : x < 65536) :
    Calls Tryd.prog 29 #[.int .i64 (x : Int)] w fun e w' => e = .returned (.int .i64 (Ham.wt x : Int)) ∧ w = w' := by
  go_enter Tryd.func29, Tryd.ntmps29
  go_wp2_with fail
  go_loop [3, 4] (fun n i => ∃ k : Nat, k ≤ 13 ∧ i = .int .i64 (k : Int) ∧ n = .int .i64 (Ham.wtTo x k : Int)) (fun _ i => 13 - (intOf i).toNat)
  case atStart => exact ⟨0, by omega, rfl, rfl⟩
  case round =>
    obtain ⟨k, hk, rfl, rfl⟩ := hrel
    by_cases hlt : k < 13
    · have hb2 := Ham.bitN_lt x k
      have hn2 := Ham.wtTo_le x k
      have HS : Hid (Ham.wtTo x (k + 1) = Ham.wtTo x k + Ham.bitN x k) := rfl
      go_wp2_with fail
      refine (l4Bit_any x k w hx (by omega)).mono ?_
      rintro e w1 ⟨rfl, rfl⟩
      obtain ⟨n, hn⟩ : ∃ n, n = Ham.wtTo x k := ⟨_, rfl⟩
      obtain ⟨b, hb⟩ : ∃ b, b = Ham.bitN x k := ⟨_, rfl⟩
      rw [← hn, ← hb] at HS
      rw [← hn] at hn2
      rw [← hn, ← hb]
      rw [← hb] at hb2
      clear hn hb
      go_wp2_with fail
      go_round
      case rel => exact ⟨k + 1, by omega, by go_num, by rw [HS.out]; go_num⟩
      case measure => simp [intOf]; omega
    · go_wp2_with fail
      go_ret
      exact ⟨ret_i64 (by rw [show k = 13 by omega]; rfl), rfl⟩

theorem l4Places_any (w : World) :
    Calls Tryd.prog 39 #[] w fun e w' => e = .returned (.slice (some ⟨w.heap.size, 0, none⟩) 8 8) ∧ (∀ k, k < 8 → w'.cell? ⟨w.heap.size, k, none⟩ = some (.int .i64 (Ham.place k : Int))) ∧ Below w.heap.size w w' := by
  go_enter Tryd.func39, Tryd.ntmps39
  go_wp2_with fail
  go_ret
  refine ⟨rfl, fun k hk => ?_, (Below.refl _ _).alloc (Nat.le_refl _) _⟩
  rw [World.cell?_alloc_new]
  match k, hk with
  | 0, _ | 1, _ | 2, _ | 3, _ | 4, _ | 5, _ | 6, _ | 7, _ => rfl

theorem shl_bit (d q : Nat) (hd : d < 2) (hq : q < 13) : wrap64 ((d : Int) * 2 ^ q) = ((d * 2 ^ q : Nat) : Int) := by
  have h := Ham.bit_pow_lt hd hq
  have hp : ((d : Int) * 2 ^ q) = ((d * 2 ^ q : Nat) : Int) := by simp
  rw [hp]
  generalize d * 2 ^ q = r at *
  unfold wrap64
  omega
theorem or_shl (n d q : Nat) (hn : n < 8192) (hd : d < 2) (hq : q < 13) : bits .or .i64 (n : Int) (wrap64 ((d : Int) * 2 ^ q)) = ((n ||| d * 2 ^ q : Nat) : Int) := by
  have h := Ham.bit_pow_lt hd hq
  rw [shl_bit d q hd hq, i64_or_nat _ _ (by omega) (Nat.lt_trans h (by omega))]

end Go.Proofs.YtbgjagmnpfcfaalDoor
