/- The walks of Weight, on both sides. -/
import Derived.Test.YtgnfibdgoghkpaaWalkOk
import Derived.Test.YtgnfibdgoghkpaaBitsMath
namespace Go.Proofs.Ytgnfibdgoghkpaa
open Go.RowKit
set_option linter.unusedVariables false

set_option maxHeartbeats 400000 in
theorem specWeight_any (a : Option Addr) (n cap : Nat) (xs : List Int) (w : World) {lo hi : Nat} (h : Ints lo hi w a n xs) (hn : n ≤ 1048576) :
    Calls Try.prog 22 #[.slice a n cap] w fun e w' => e = .returned (.int .i64 (weight xs)) ∧ w = w' := by
  have hI := h
  obtain ⟨hl, hsz, hx⟩ := h
  have HL : Hid (xs.length = n) := hl
  clear hl
  cases hok : bitsOk xs
  · go_enter Try.func22, Try.ntmps22
    go_wp2_with (go_at_call 24; refine (specBitsOk_any _ _ _ xs _ hI hn).mono ?_; rintro e w' ⟨rfl, rfl⟩)
    go_ret
    exact ⟨ret_i64 (weight_no hok).symm, rfl⟩
  · have hall := bits_all hok
    have hbd := sum_bd hall
    have HALL : Hid (xs.all bit = true) := hall
    have HBD := hide (hbd)
    clear hall hbd
    go_enter Try.func22, Try.ntmps22
    go_wp2_with (go_at_call 24; refine (specBitsOk_any _ _ _ xs _ hI hn).mono ?_; rintro e w' ⟨rfl, rfl⟩)
    go_loop [3, 4] (fun t i => ∃ k : Nat, k ≤ n ∧ i = .int .i64 k ∧ t = .int .i64 (xs.take k).sum) (fun _ i => n - (intOf i).toNat)
    case atStart => exact ⟨0, Nat.zero_le _, rfl, rfl⟩
    case round =>
      obtain ⟨k, hk, rfl, rfl⟩ := hrel
      obtain ⟨s, hs⟩ : ∃ s, s = (xs.take k).sum := ⟨_, rfl⟩
      obtain ⟨s0, s1⟩ : 0 ≤ s ∧ s ≤ k := by rw [hs]; exact HBD.out k (by rw [HL.out]; exact hk)
      rw [← hs]
      have HS : Hid (s = (xs.take k).sum) := hs
      clear hs
      by_cases hlt : k < n
      · obtain ⟨b, off, rfl, _, _, hc⟩ := hx (by omega)
        have hck : w.cell? ⟨b, off + k, none⟩ = some (.int .i64 (xs.getD k 0)) := hc k hlt
        clear hc hx
        have hzb := bit_bd (bit_at HALL.out k)
        obtain ⟨z, hz⟩ : ∃ z, z = xs.getD k 0 := ⟨_, rfl⟩
        rw [← hz] at hck hzb
        have HZ : Hid (z = xs.getD k 0) := hz
        clear hz
        obtain ⟨z0, z1⟩ := hzb
        go_wp2
        go_round
        case rel => exact ⟨k + 1, by omega, by go_num, by rw [sum_snoc xs k (by rw [HL.out]; exact hlt), ← HS.out, ← HZ.out]⟩
        case measure => simp [intOf]; omega
      · go_wp2
        go_ret
        exact ⟨ret_i64 (by rw [weight_ok hok, HS.out, List.take_of_length_le (by rw [HL.out]; omega)]), rfl⟩

set_option maxHeartbeats 400000 in
theorem implWeight_any (a : Option Addr) (n cap : Nat) (xs : List Int) (w : World) {lo hi : Nat} (h : Ints lo hi w a n xs) (hn : n ≤ 1048576) :
    Calls Try.prog 21 #[.slice a n cap] w fun e w' => e = .returned (.int .i64 (weight xs)) ∧ w = w' := by
  have hI := h
  obtain ⟨hl, hsz, hx⟩ := h
  have HL : Hid (xs.length = n) := hl
  clear hl
  cases hok : bitsOk xs
  · go_enter Try.func21, Try.ntmps21
    go_wp2_with (go_at_call 23; refine (implBitsOk_any _ _ _ xs _ hI hn).mono ?_; rintro e w' ⟨rfl, rfl⟩)
    go_ret
    exact ⟨ret_i64 (weight_no hok).symm, rfl⟩
  · have hall := bits_all hok
    have hbd := sum_bd hall
    have HALL : Hid (xs.all bit = true) := hall
    have HBD := hide (hbd)
    clear hall hbd
    go_enter Try.func21, Try.ntmps21
    go_wp2_with (go_at_call 23; refine (implBitsOk_any _ _ _ xs _ hI hn).mono ?_; rintro e w' ⟨rfl, rfl⟩)
    go_loop [3, 11] (fun t i => ∃ k : Nat, k ≤ n ∧ i = .int .i64 k ∧ t = .int .i64 (xs.take k).sum) (fun _ i => n - (intOf i).toNat)
    case atStart => exact ⟨0, Nat.zero_le _, rfl, rfl⟩
    case round =>
      obtain ⟨k, hk, rfl, rfl⟩ := hrel
      obtain ⟨s, hs⟩ : ∃ s, s = (xs.take k).sum := ⟨_, rfl⟩
      obtain ⟨s0, s1⟩ : 0 ≤ s ∧ s ≤ k := by rw [hs]; exact HBD.out k (by rw [HL.out]; exact hk)
      rw [← hs]
      have HS : Hid (s = (xs.take k).sum) := hs
      clear hs
      by_cases hlt : k < n
      · obtain ⟨b, off, rfl, _, _, hc⟩ := hx (by omega)
        have hck : w.cell? ⟨b, off + k, none⟩ = some (.int .i64 (xs.getD k 0)) := hc k hlt
        clear hc hx
        have hzb := bit_bd (bit_at HALL.out k)
        obtain ⟨z, hz⟩ : ∃ z, z = xs.getD k 0 := ⟨_, rfl⟩
        rw [← hz] at hck hzb
        have HZ : Hid (z = xs.getD k 0) := hz
        clear hz
        obtain ⟨z0, z1⟩ := hzb
        go_wp2
        go_round
        case rel => exact ⟨k + 1, by omega, by go_num, by rw [sum_snoc xs k (by rw [HL.out]; exact hlt), ← HS.out, ← HZ.out]⟩
        case measure => simp [intOf]; omega
      · go_wp2
        go_ret
        exact ⟨ret_i64 (by rw [weight_ok hok, HS.out, List.take_of_length_le (by rw [HL.out]; omega)]), rfl⟩

end Go.Proofs.Ytgnfibdgoghkpaa
