/- The walks of chapter 4's program: the byte of a word, the word of a byte. -/
import Derived.Test.YtbgjagmnpfcfaalDoorHamImpl0
import Derived.Test.YtbgjagmnpfcfaalDoorHamTab
namespace Go.Proofs.YtbgjagmnpfcfaalDoor
open Go.RowKit
set_option linter.unusedVariables false
set_option maxRecDepth 20000

/-- The table's value, read at k. -/
theorem places_index : ∀ k, k < 8 → ∀ w, (Instr.index 102 (.agg #[.int .i64 3, .int .i64 5, .int .i64 6, .int .i64 7, .int .i64 9, .int .i64 10, .int .i64 11, .int .i64 12]) (.int .i64 (k : Nat))).run Tryd.prog w = .ok (.int .i64 (Ham.place k : Int)) w := by
  have e0 : ∀ w, (Instr.index 102 (.agg #[.int .i64 3, .int .i64 5, .int .i64 6, .int .i64 7, .int .i64 9, .int .i64 10, .int .i64 11, .int .i64 12]) (.int .i64 0)).run Tryd.prog w = .ok (.int .i64 3) w := fun _ => by kernel_rfl
  have e1 : ∀ w, (Instr.index 102 (.agg #[.int .i64 3, .int .i64 5, .int .i64 6, .int .i64 7, .int .i64 9, .int .i64 10, .int .i64 11, .int .i64 12]) (.int .i64 1)).run Tryd.prog w = .ok (.int .i64 5) w := fun _ => by kernel_rfl
  have e2 : ∀ w, (Instr.index 102 (.agg #[.int .i64 3, .int .i64 5, .int .i64 6, .int .i64 7, .int .i64 9, .int .i64 10, .int .i64 11, .int .i64 12]) (.int .i64 2)).run Tryd.prog w = .ok (.int .i64 6) w := fun _ => by kernel_rfl
  have e3 : ∀ w, (Instr.index 102 (.agg #[.int .i64 3, .int .i64 5, .int .i64 6, .int .i64 7, .int .i64 9, .int .i64 10, .int .i64 11, .int .i64 12]) (.int .i64 3)).run Tryd.prog w = .ok (.int .i64 7) w := fun _ => by kernel_rfl
  have e4 : ∀ w, (Instr.index 102 (.agg #[.int .i64 3, .int .i64 5, .int .i64 6, .int .i64 7, .int .i64 9, .int .i64 10, .int .i64 11, .int .i64 12]) (.int .i64 4)).run Tryd.prog w = .ok (.int .i64 9) w := fun _ => by kernel_rfl
  have e5 : ∀ w, (Instr.index 102 (.agg #[.int .i64 3, .int .i64 5, .int .i64 6, .int .i64 7, .int .i64 9, .int .i64 10, .int .i64 11, .int .i64 12]) (.int .i64 5)).run Tryd.prog w = .ok (.int .i64 10) w := fun _ => by kernel_rfl
  have e6 : ∀ w, (Instr.index 102 (.agg #[.int .i64 3, .int .i64 5, .int .i64 6, .int .i64 7, .int .i64 9, .int .i64 10, .int .i64 11, .int .i64 12]) (.int .i64 6)).run Tryd.prog w = .ok (.int .i64 11) w := fun _ => by kernel_rfl
  have e7 : ∀ w, (Instr.index 102 (.agg #[.int .i64 3, .int .i64 5, .int .i64 6, .int .i64 7, .int .i64 9, .int .i64 10, .int .i64 11, .int .i64 12]) (.int .i64 7)).run Tryd.prog w = .ok (.int .i64 12) w := fun _ => by kernel_rfl
  intro k hk w
  match k, hk with
  | 0, _ => exact e0 w
  | 1, _ => exact e1 w
  | 2, _ => exact e2 w
  | 3, _ => exact e3 w
  | 4, _ => exact e4 w
  | 5, _ => exact e5 w
  | 6, _ => exact e6 w
  | 7, _ => exact e7 w

set_option maxHeartbeats 800000 in
theorem cwData_any (x : Nat) (w : World) (hx : x < 65536) (hT : Tab w) :
    Calls Tryd.prog 48 #[.int .i64 (x : Int)] w fun e w' => e = .returned (.int .i64 (Ham.byteOf x : Int)) ∧ w = w' := by
  have c0 : w.cell? ⟨6, 0, none⟩ = some (.int .i64 3) := hT 0 (by omega)
  have c1 : w.cell? ⟨6, 1, none⟩ = some (.int .i64 5) := hT 1 (by omega)
  have c2 : w.cell? ⟨6, 2, none⟩ = some (.int .i64 6) := hT 2 (by omega)
  have c3 : w.cell? ⟨6, 3, none⟩ = some (.int .i64 7) := hT 3 (by omega)
  have c4 : w.cell? ⟨6, 4, none⟩ = some (.int .i64 9) := hT 4 (by omega)
  have c5 : w.cell? ⟨6, 5, none⟩ = some (.int .i64 10) := hT 5 (by omega)
  have c6 : w.cell? ⟨6, 6, none⟩ = some (.int .i64 11) := hT 6 (by omega)
  have c7 : w.cell? ⟨6, 7, none⟩ = some (.int .i64 12) := hT 7 (by omega)
  clear hT
  go_enter Tryd.func48, Tryd.ntmps48
  go_wp2_with fail
  clear c0 c1 c2 c3 c4 c5 c6 c7
  go_loop [3, 7] (fun n i => ∃ k : Nat, k ≤ 8 ∧ i = .int .i64 (k : Int) ∧ n = .int .i64 (Ham.byteTo x k : Int)) (fun _ i => 8 - (intOf i).toNat)
  case atStart => exact ⟨0, by omega, rfl, rfl⟩
  case round =>
    obtain ⟨k, hk, rfl, rfl⟩ := hrel
    by_cases hlt : k < 8
    · have hix := places_index k hlt
      obtain ⟨n, hn⟩ : ∃ n, n = Ham.byteTo x k := ⟨_, rfl⟩
      obtain ⟨q, hq⟩ : ∃ q, q = Ham.place k := ⟨_, rfl⟩
      have hb2 := Ham.bitN_lt x q
      have hand := and1_bitN x q hx
      obtain ⟨d, hd⟩ : ∃ d, d = Ham.bitN x q := ⟨_, rfl⟩
      rw [← hn]
      rw [← hd] at hb2 hand
      rw [← hq] at hix
      have hq13 : q < 13 := by rw [hq]; exact Ham.place_lt k
      have HOR := hide (or_shl8 n d k (by rw [hn]; exact Ham.byteTo_lt x k hk) hb2 hlt)
      have HS : Hid (Ham.byteTo x (k + 1) = n ||| d * 2 ^ k) := by rw [hn, hd, hq]; rfl
      clear hn hd hq
      go_wp2_with fail
      go_round
      case rel => exact ⟨k + 1, by omega, by go_num, by rw [HS.out, ← HOR.out]⟩
      case measure => simp [intOf]; omega
    · go_wp2_with fail
      go_ret
      exact ⟨ret_i64 (by rw [show k = 8 by omega]; rfl), rfl⟩

end Go.Proofs.YtbgjagmnpfcfaalDoor
