/- The walk of the model's Xored. -/
import Derived.Test.YtbojjpdbjfiocaaRows
import Derived.Test.YtbojjpdbjfiocaaBytesBase
namespace Go.Proofs.Ytbojjpdbjfiocaa
open Go.RowKit
set_option linter.unusedVariables false
set_option maxRecDepth 20000

set_option maxHeartbeats 400000 in
theorem specXored_any (a b : ByteArray) (w : World) (ha : a.size ≤ 1048576) (hb : b.size ≤ 1048576) :
    Calls Try.prog 20 #[.string a, .string b] w fun e w' => e = .returned (.string (xored a b)) ∧ Below w.heap.size w w' := by
  by_cases he : a.size = b.size
  · have hcv := run_bytes_of_string (P := Try.prog) w 9 22 5 a Try.underlying9 Try.underlying22 Try.underlying5
    obtain ⟨cap, hcap⟩ : ∃ c, c = grownCap w a.size 0 5 := ⟨_, rfl⟩
    rw [← hcap] at hcv
    have hmade := bytes_made w a 5 cap ((bytesRow a cap).size + 1)
    have HM := hide (hmade)
    clear hmade hcap
    obtain ⟨C, hC⟩ : ∃ C, C = Obj.cells (bytesRow a cap) 5 ((bytesRow a cap).size, (bytesRow a cap).size + 1) := ⟨_, rfl⟩
    unfold Hid at HM
    rw [← hC] at hcv HM
    have HM' := hide (HM)
    clear HM hC
    have hne : ((a.size : Int) != (b.size : Int)) = false := by simp; omega
    have HE : Hid (a.size = b.size) := he
    clear he
    go_enter Try.func20, Try.ntmps20
    go_wp2
    go_loopw [6] (fun i wr => ∃ k : Nat, k ≤ a.size ∧ i = .int .i64 k ∧ Owned w.heap.size (w.heap.size + 1) wr (some ⟨w.heap.size, 0, none⟩) a.size (fun i => if i < k then cellB (xorL a.data.toList b.data.toList) i else cellB a.data.toList i) ∧ Below w.heap.size w wr) (fun i _ => a.size - (intOf i).toNat)
    case atStart => exact ⟨0, Nat.zero_le _, rfl, (Owned.congr HM'.out (fun _ _ => by simp)).drew, ((Below.refl _ _).alloc (Nat.le_refl _) _).drew⟩
    case round =>
      obtain ⟨k, hk, rfl, hrow, hbel⟩ := hrel
      by_cases hlt : k < a.size
      · have hltb : k < b.size := by rw [← HE.out]; exact hlt
        obtain ⟨hco, hfo, _, _⟩ := hrow.at0 hlt
        simp only [Nat.lt_irrefl, if_false, cellB, byte_at a k hlt] at hco
        go_wp2
        go_region
        go_wp2
        go_roundw
        case rel =>
          exact ⟨k + 1, by omega, by go_num, ((hrow.set0 hlt _).congr (fun j _ => cells_step k j (xor_cell a b k hlt hltb))).drew, (hbel.setCell (p := ⟨w.heap.size, k, none⟩) (Nat.le_refl _) _).drew⟩
        case measure => simp [intOf]; omega
      · have hB : Bytes w.heap.size (w.heap.size + 1) wr (some ⟨w.heap.size, 0, none⟩) a.size (xorL a.data.toList b.data.toList) :=
          ⟨by rw [xorL_length _ _ (by simpa using HE.out)]; simp, (hrow.congr (fun i hi => if_pos (by omega))).reads⟩
        have hst := fun cap => string_of (P := Try.prog) hB 22 9 5 cap Try.underlying22 Try.underlying5 Try.underlying9
        clear hB hrow
        go_wp2
        go_ret
        exact ⟨ret_str (by simp [xored, HE.out, str]), hbel⟩
  · have hne : ((a.size : Int) != (b.size : Int)) = true := by simp; omega
    go_enter Try.func20, Try.ntmps20
    go_wp2
    go_ret
    exact ⟨ret_str (by simp [xored, he]; rfl), Below.refl _ _⟩
end Go.Proofs.Ytbojjpdbjfiocaa
