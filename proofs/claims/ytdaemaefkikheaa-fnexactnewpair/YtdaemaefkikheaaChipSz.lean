/- How much room is left behind a Chip: the laws' own walks. -/
import Derived.Test.YtdaemaefkikheaaChipBase
import Derived.Test.YtdaemaefkikheaaTextWalk
import Derived.Test.YtdaemaefkikheaaResCell
namespace Go.Proofs.Ytdaemaefkikheaa
open Go.RowKit
set_option linter.unusedVariables false
set_option maxRecDepth 20000

/-- What a look at the room answers: nothing left, or just what is left behind so much. -/
def Left (L : Int) (z : Nat) (e : Ending) : Prop := ∃ r : Int, e = .returned (.int .i64 r) ∧ -1 ≤ r ∧ r ≤ L ∧ (0 ≤ r → r = L - (z : Int))

set_option maxHeartbeats 800000 in
theorem szTL_any (a : Option Addr) (n cap : Nat) (xs : List ByteArray) (L : Int) (w : World) {lo hi : Nat} (h : Texts lo hi w a n xs) (hn : n ≤ maxLen) (hxs : ∀ s ∈ xs, s.size ≤ maxLen) (hL0 : 0 ≤ L) (hL1 : L ≤ 1048576) :
    Calls Try.prog 82 #[.slice a n cap, .int .i64 L] w fun e w' => Left L (n + total xs) e ∧ w = w' := by
  obtain ⟨hl, hsz, hx⟩ := h
  unfold maxLen at hn hxs
  have HL : Hid (xs.length = n) := hl
  have HX := hide hxs
  clear hl hxs
  by_cases hb : (n : Int) ≤ L
  · go_enter Try.func82, Try.ntmps82
    go_wp2
    go_loop [1, 5] (fun t i => ∃ k : Nat, k ≤ n ∧ i = .int .i64 k ∧ (n : Int) + (total (xs.take k) : Int) ≤ L ∧ t = .int .i64 (L - (n : Int) - (total (xs.take k) : Int))) (fun _ i => n - (intOf i).toNat)
    case atStart => exact ⟨0, Nat.zero_le _, rfl, by simp [total]; omega, by simp [total]⟩
    case round =>
      obtain ⟨k, hk, rfl, htot, rfl⟩ := hrel
      by_cases hlt : k < n
      · obtain ⟨b, off, rfl, _, hb1, hc⟩ := hx (by omega)
        have hck : w.cell? ⟨b, off + k, none⟩ = some (.string (xs.getD k ByteArray.empty)) := hc k hlt
        clear hc hx
        have HT : Hid (total (xs.take (k + 1)) = total (xs.take k) + (xs.getD k ByteArray.empty).size) := total_take xs k (by rw [HL.out]; exact hlt)
        have hz9 : (xs.getD k ByteArray.empty).size ≤ 9223372036854775807 := by
          refine Nat.le_trans (HX.out _ ?_) (by omega)
          rw [List.getD_eq_getElem?_getD, List.getElem?_eq_getElem (by rw [HL.out]; exact hlt)]
          exact List.getElem_mem _
        obtain ⟨z, hz⟩ : ∃ z, z = xs.getD k ByteArray.empty := ⟨_, rfl⟩
        rw [← hz] at hck hz9 HT
        clear hz
        generalize total (xs.take k) = q at *
        by_cases h0 : (n : Int) + (q : Int) + (z.size : Int) ≤ L
        · go_wp2
          go_round
          case rel => exact ⟨k + 1, by omega, by go_num, by rw [HT.out]; omega, by rw [HT.out]; go_num⟩
          case measure => simp [intOf]; omega
        · go_wp2
          go_ret
          exact ⟨⟨-1, rfl, by omega, by omega, by omega⟩, rfl⟩
      · have HW : Hid (total (xs.take k) = total xs) := by show _ = _; rw [List.take_of_length_le (by rw [HL.out]; omega)]
        generalize total (xs.take k) = q at *
        go_wp2
        go_ret
        exact ⟨⟨_, rfl, by omega, by omega, fun _ => by have := HW.out; omega⟩, rfl⟩
  · go_enter Try.func82, Try.ntmps82
    go_wp2
    go_ret
    exact ⟨⟨-1, rfl, by omega, by omega, by omega⟩, rfl⟩

def weight (qs : List Sq) : Nat := (qs.map fun q => q.1.length + total q.1).sum
theorem weight_take (qs : List Sq) (k : Nat) (h : k < qs.length) : weight (qs.take (k + 1)) = weight (qs.take k) + ((sqAt qs k).1.length + total (sqAt qs k).1) := by
  unfold weight sqAt
  rw [List.take_succ_eq_append_getElem h, List.map_append, List.sum_append, List.getD_eq_getElem?_getD, List.getElem?_eq_getElem h]
  simp
theorem sq_fits {qs : List Sq} {k : Nat} (h : ∀ x ∈ qs, sqFits x) (hk : k < qs.length) : sqFits (sqAt qs k) := by
  unfold sqAt
  rw [List.getD_eq_getElem?_getD, List.getElem?_eq_getElem hk]
  exact h _ (List.getElem_mem hk)

/-- A Chip behind which there is room: all of it is small. -/
theorem left_small {z : Nat} {r : Int} (h : 0 ≤ r → r = 1048576 - (z : Int)) (h0 : 0 ≤ r) : z ≤ 1048576 := by
  have := h h0; omega
end Go.Proofs.Ytdaemaefkikheaa
