/- Texts measured from what is left, marked from any number on. -/
import Derived.Test.YtckkcimkfhhacaaLTextWalk
namespace Go.Proofs.Ytckkcimkfhhacaa
open Go.RowKit
set_option linter.unusedVariables false
set_option maxRecDepth 20000
set_option maxHeartbeats 800000 in
theorem szT_from (a : Option Addr) (n cap : Nat) (xs : List ByteArray) (L : Int) (w : World) {lo hi : Nat} (h : Texts lo hi w a n xs) (hn : n ≤ maxLen) (hxs : ∀ s ∈ xs, s.size ≤ maxLen) (hL0 : 0 ≤ L) (hL : L ≤ 1048576) :
    Calls Try.prog 27 #[.slice a n cap, .int .i64 L] w fun e w' => (∃ r : Int, e = .returned (.int .i64 r) ∧ -1 ≤ r ∧ r ≤ 1048576 ∧ (0 ≤ r → r = L - (n : Int) - (total xs : Int))) ∧ w = w' := by
  obtain ⟨hl, hsz, hx⟩ := h
  unfold maxLen at hn hxs
  have HL : Hid (xs.length = n) := hl
  have HX := hide hxs
  clear hl hxs
  by_cases hb : (n : Int) ≤ L
  · go_enter Try.func27, Try.ntmps27
    go_wp2
    go_loop [1, 5] (fun t i => ∃ k : Nat, k ≤ n ∧ i = .int .i64 k ∧ (n : Int) + (total (xs.take k) : Int) ≤ L ∧ t = .int .i64 (L - (n : Int) - (total (xs.take k) : Int))) (fun _ i => n - (intOf i).toNat)
    case atStart => exact ⟨0, Nat.zero_le _, rfl, by simp [total]; omega, by simp [total]⟩
    case round =>
      obtain ⟨k, hk, rfl, htot, rfl⟩ := hrel
      by_cases hlt : k < n
      · obtain ⟨b, off, rfl, _, hb1, hc⟩ := hx (by omega)
        have hck : w.cell? ⟨b, off + k, none⟩ = some (.string (xs.getD k ByteArray.empty)) := hc k hlt
        clear hc hx
        have HT : Hid (total (xs.take (k + 1)) = total (xs.take k) + (xs.getD k ByteArray.empty).size) := total_take xs k (by rw [HL.out]; exact hlt)
        have hz9 : (xs.getD k ByteArray.empty).size ≤ 9223372036854775807 := by
          refine Nat.le_trans (HX.out _ ?_) (by omega)
          rw [List.getD_eq_getElem?_getD, List.getElem?_eq_getElem (by rw [HL.out]; exact hlt)]
          exact List.getElem_mem _
        have HTL : Hid (total (xs.take (k + 1)) ≤ total xs) := by
          show _ ≤ _
          unfold total
          conv => rhs; rw [← List.take_append_drop (k + 1) xs, List.map_append, List.sum_append]
          omega
        obtain ⟨z, hz⟩ : ∃ z, z = xs.getD k ByteArray.empty := ⟨_, rfl⟩
        rw [← hz] at hck hz9 HT
        clear hz
        generalize total (xs.take k) = q at *
        by_cases h0 : (n : Int) + (q : Int) + (z.size : Int) ≤ L
        · go_wp2
          go_round
          case rel => exact ⟨k + 1, by omega, by go_num, by rw [HT.out]; omega, by rw [HT.out]; go_num⟩
          case measure => simp [intOf]; omega
        · go_wp2
          go_ret
          exact ⟨⟨-1, rfl, by omega, by omega, by omega⟩, rfl⟩
      · have HW : Hid (total (xs.take k) = total xs) := by show _ = _; rw [List.take_of_length_le (by rw [HL.out]; omega)]
        generalize total (xs.take k) = q at *
        go_wp2
        go_ret
        exact ⟨⟨_, rfl, by omega, by omega, fun _ => by have := HW.out; omega⟩, rfl⟩
  · go_enter Try.func27, Try.ntmps27
    go_wp2
    go_ret
    exact ⟨⟨-1, rfl, by omega, by omega, by omega⟩, rfl⟩

set_option maxHeartbeats 800000 in
theorem markTS_from (a : Option Addr) (n cap : Nat) (xs : List ByteArray) (m : Nat) (w : World) {lo hi : Nat} (h : OwnTexts lo hi w a n xs) (hn : n ≤ 1048576) (m0 : 1 ≤ m) (m1 : m + n ≤ 4194304) :
    Calls Try.prog 34 #[.slice a n cap, .int .i64 (m : Int)] w fun e w' => e = .returned (.int .i64 ((m + n : Nat) : Int)) ∧ OwnTexts lo hi w' a n (marksT m n) ∧ Aside lo hi w w' := by
  obtain ⟨hl, hx⟩ := h
  have HL : Hid (xs.length = n) := hl
  clear hl
  go_enter Try.func34, Try.ntmps34
  go_wp2_with fail
  go_loopw [1, 5] (fun t i wr => ∃ k : Nat, k ≤ n ∧ i = .int .i64 k ∧ t = .int .i64 ((m + k : Nat) : Int) ∧ Owned lo hi wr a n (fun i => if i < k then .string (markT (m + i)) else cellT xs i) ∧ Aside lo hi w wr) (fun _ i _ => n - (intOf i).toNat)
  case atStart => exact ⟨0, Nat.zero_le _, rfl, by simp, hx.congr (fun _ _ => by simp), Aside.refl _ _ _⟩
  case round =>
    obtain ⟨k, hk, rfl, rfl, hrow, hasd⟩ := hrel
    have hhi := hrow.1
    have HX := hide hx
    clear hx
    by_cases hlt : k < n
    · have HR0 := hide hrow
      have HA0 := hide hasd
      clear hrow hasd
      go_wp2_with fail
      refine (markText_to (m + k) _ (by omega) (by omega) (by omega) wr).mono ?_
      rintro e w2 ⟨rfl, b2⟩
      have hrow := HR0.out.later b2 hhi
      have hasd := HA0.out.trans (aside_new b2)
      obtain ⟨b, off, rfl, hb1, hb2, hc⟩ := hrow.2 (by omega)
      obtain ⟨hco, hfo⟩ := hc k hlt
      simp only [Nat.lt_irrefl, if_false, cellT] at hco
      have HR := hide ((hrow.set hlt (.string (markT (m + k)))).congr (g := fun i => if i < k + 1 then .string (markT (m + i)) else cellT xs i) (fun j hj => markT_step xs m k j))
      have HB := hide (hasd.setCell (p := ⟨b, off + k, none⟩) hb1 hb2 (.string (markT (m + k))))
      clear hrow hasd hc HR0 HA0 b2
      go_wp2_with fail
      go_roundw
      case rel => exact ⟨k + 1, by omega, by go_num, by go_num, HR.out, HB.out⟩
      case measure => simp [intOf]; omega
    · obtain rfl : k = n := by omega
      go_wp2_with fail
      go_ret
      exact ⟨rfl, ⟨marksT_length m k, hrow.congr (fun i hi => by rw [if_pos hi, marksT_at m k i hi])⟩, hasd⟩

end Go.Proofs.Ytckkcimkfhhacaa
