/- The walk of the model's l1Bytes: the bytes of bits, however many. -/
import Derived.Test.YtbojjpdbjfiocaiRows
import Derived.Test.YtbojjpdbjfiocaiBytesMath
import Derived.Test.YtbojjpdbjfiocaiCopyBase
namespace Go.Proofs.Ytbojjpdbjfiocai
open Go.RowKit
set_option linter.unusedVariables false
set_option maxRecDepth 20000

theorem Try.infoU8y : (Try.prog.info? 5).map (fun i => (i.zero, i.size, i.bytes)) = some (some (.int .u8 0), 1, 1) := by kernel_rfl
set_option maxHeartbeats 800000 in
theorem specl1Bytes_all (a : Option Addr) (n cap : Nat) (xs : List Int) (w : World) {lo hi : Nat} (h : Ints lo hi w a n xs) (hn : n ≤ 8388608) (hall : xs.all bit = true) :
    Calls Try.prog 16 #[.slice a n cap] w fun e w' => e = .returned (.string (str (byteL xs))) ∧ Below w.heap.size w w' := by
  have hI := h
  obtain ⟨hl, hsz, hx⟩ := h
  have HL : Hid (xs.length = n) := hl
  clear hl
  obtain ⟨N, hN⟩ : ∃ N, N = (n + 7) / 8 := ⟨_, rfl⟩
  have n1 : 8 * N ≤ n + 7 := by omega
  have n2 : n ≤ 8 * N := by omega
  have hmk := make_row (P := Try.prog) 27 5 (.int .u8 0) 1 Try.underlying27 Try.infoU8y rfl (((n : Int) + 7) / 8) (((n : Int) + 7) / 8) N N (by omega) (by omega) (by omega) (by omega) (by omega)
  have HN := hide hN
  have HALL := hide hall
  clear hN hall
  go_enter Try.func16, Try.ntmps16
  go_wp2
  go_loopw [4] (fun i wr => ∃ k : Nat, k ≤ n ∧ i = .int .i64 k ∧ wr.rowIs w.heap.size 5 N (fun i => .int .u8 (jn (eight (xs.take k) (8 * i)))) ∧ Below w.heap.size w wr) (fun i _ => n - (intOf i).toNat)
  case atStart => exact ⟨0, Nat.zero_le _, rfl, (World.rowIs_made w (.int .u8 0) N 5).congr (fun _ _ => by simp [eight, jn]), (Below.refl _ _).alloc (Nat.le_refl _) _⟩
  case round =>
    obtain ⟨k, hk, rfl, hrow, hbel⟩ := hrel
    by_cases hlt : k < n
    · obtain ⟨b, off, rfl, _, hb, hc⟩ := hx (by omega)
      have hck : wr.cell? ⟨b, off + k, none⟩ = some (.int .i64 (xs.getD k 0)) := (hbel.cell (p := ⟨b, off + k, none⟩) (by show b < _; omega)).trans (hc k hlt)
      have hbit := bit_at HALL.out k
      clear hc hx
      obtain ⟨z, hz⟩ : ∃ z, z = xs.getD k 0 := ⟨_, rfl⟩
      rw [← hz] at hck hbit
      have HZ := hide hz
      have HROW := hide hrow
      have HB := hide hbel
      have hco := hrow.cell (i := k / 8) (by omega)
      have hfo := hrow.frozen (k / 8)
      have hd : (0 : Int) ≤ (k : Int) / 8 := by omega
      have hd2 : (k : Int) / 8 < N := by omega
      have hone := byte_one HALL.out k
      rw [← hz] at hone
      have hbd := jn8_bd (take_all HALL.out k) (8 * (k / 8))
      obtain ⟨c, hc0⟩ : ∃ c, c = jn (eight (xs.take k) (8 * (k / 8))) := ⟨_, rfl⟩
      rw [← hc0] at hco hone hbd
      obtain ⟨c0, c1⟩ := hbd
      have HONE := hide hone
      clear hz hrow hbel hone hc0
      rcases (show z = 0 ∨ z = 1 by simp [bit] at hbit; omega) with rfl | rfl
      · go_wp2
        go_roundw
        case rel => exact ⟨k + 1, by omega, by go_num, HROW.out.congr (fun i _ => by rw [byte_zero xs k i HZ.out.symm]), HB.out⟩
        case measure => simp [intOf]; omega
      · go_wp2
        go_roundw
        case rel => exact ⟨k + 1, by omega, by go_num, (HROW.out.set (k / 8) _).congr (fun i _ => by
            by_cases e : i = k / 8
            · subst e; simp only [if_true]; rw [HONE.out rfl]
            · simp only [if_neg e]; rw [byte_other xs k i e]), HB.out.setCell (p := ⟨w.heap.size, k / 8, none⟩) (Nat.le_refl _) _⟩
        case measure => simp [intOf]; omega
    · have hkn : k = n := by omega
      subst hkn
      have hB : Bytes w.heap.size wr.heap.size wr (some ⟨w.heap.size, 0, none⟩) N (byteL xs) :=
        ⟨by rw [byteL_length, HL.out, ← HN.out], ((owned_of_row hrow (Nat.le_refl _) hrow.lt (Nat.le_refl _)).congr (fun i hi => by
          rw [List.take_of_length_le (by rw [HL.out]; omega)]
          exact byte_cell HALL.out i (by rw [HL.out, ← HN.out]; exact hi))).reads⟩
      have hst := string_of (P := Try.prog) hB 27 9 5 N Try.underlying27 Try.underlying5 Try.underlying9
      clear hB hrow
      go_wp2
      go_ret
      exact ⟨ret_str rfl, hbel⟩

end Go.Proofs.Ytbojjpdbjfiocai
