/- The walks of BitsOk, on both sides. -/
import Derived.Test.YtgnfibdgoghkpaaRows
import Derived.Test.YtgnfibdgoghkpaaBase
import Derived.Deep.QuietTactic
import Derived.BigQuiet
namespace Go.Proofs.Ytgnfibdgoghkpaa
open Go.RowKit
set_option linter.unusedVariables false

theorem Try.infoI64 : (Try.prog.info? 2).map (fun i => (i.zero, i.size, i.bytes)) = some (some (.int .i64 0), 1, 8) := by kernel_rfl

set_option maxHeartbeats 400000 in
theorem l1In_any (x lo hi : Int) (w : World) :
    Calls Try.prog 40 #[.int .i64 x, .int .i64 lo, .int .i64 hi] w fun e w' => e = .returned (.bool (inB x lo hi)) ∧ w = w' := by
  by_cases h1 : lo ≤ x
  · go_enter Try.func40, Try.ntmps40
    go_wp2
    go_ret
    exact ⟨by simp [inB, h1], rfl⟩
  · have h1' : decide (lo ≤ x) = false := by simpa using h1
    go_enter Try.func40, Try.ntmps40
    go_wp2
    go_ret
    exact ⟨by simp [inB, h1'], rfl⟩

set_option maxHeartbeats 400000 in
theorem specBitsOk_any (a : Option Addr) (n cap : Nat) (xs : List Int) (w : World) {lo hi : Nat} (h : Ints lo hi w a n xs) (hn : n ≤ 1048576) :
    Calls Try.prog 24 #[.slice a n cap] w fun e w' => e = .returned (.bool (bitsOk xs)) ∧ w = w' := by
  obtain ⟨hl, hsz, hx⟩ := h
  have HL : Hid (xs.length = n) := hl
  clear hl
  by_cases hbig : n ≤ 4096
  · go_enter Try.func24, Try.ntmps24
    go_wp2
    go_loop [3] (fun i => ∃ k : Nat, k ≤ n ∧ i = .int .i64 k ∧ (xs.take k).all bit = true) (fun i => n - (intOf i).toNat)
    case atStart => exact ⟨0, Nat.zero_le _, rfl, rfl⟩
    case round =>
      obtain ⟨k, hk, rfl, hall⟩ := hrel
      have HA : Hid ((xs.take k).all bit = true) := hall
      clear hall
      by_cases hlt : k < n
      · obtain ⟨b, off, rfl, _, _, hc⟩ := hx (by omega)
        have hck : w.cell? ⟨b, off + k, none⟩ = some (.int .i64 (xs.getD k 0)) := hc k hlt
        clear hc hx
        obtain ⟨z, hz⟩ : ∃ z, z = xs.getD k 0 := ⟨_, rfl⟩
        rw [← hz] at hck
        have HZ : Hid (z = xs.getD k 0) := hz
        clear hz
        cases hb : bit z
        · have hb1 : inB z 0 1 = false := by simp [bit, inB] at hb ⊢; omega
          go_wp2_with (go_at_call 40; refine (l1In_any _ _ _ _).mono ?_; rintro e w' ⟨rfl, rfl⟩)
          go_ret
          exact ⟨ret_bool (all_fall xs k (by rw [HL.out]; exact hlt) (by rw [← HZ.out]; exact hb)).symm, rfl⟩
        · have hb1 : inB z 0 1 = true := by simp [bit, inB] at hb ⊢; omega
          go_wp2_with (go_at_call 40; refine (l1In_any _ _ _ _).mono ?_; rintro e w' ⟨rfl, rfl⟩)
          go_round
          case rel => exact ⟨k + 1, by omega, by go_num, all_step xs k (by rw [HL.out]; exact hlt) HA.out (by rw [← HZ.out]; exact hb)⟩
          case measure => simp [intOf]; omega
      · go_wp2
        go_ret
        exact ⟨ret_bool (all_whole xs (by rw [HL.out]; exact hbig) (by rw [show xs.length = k from by rw [HL.out]; omega]; exact HA.out)).symm, rfl⟩
  · go_enter Try.func24, Try.ntmps24
    go_wp2
    go_ret
    exact ⟨ret_bool (by simp [bitsOk, HL.out, hbig]), rfl⟩

set_option maxHeartbeats 400000 in
theorem implBitsOk_any (a : Option Addr) (n cap : Nat) (xs : List Int) (w : World) {lo hi : Nat} (h : Ints lo hi w a n xs) (hn : n ≤ 1048576) :
    Calls Try.prog 23 #[.slice a n cap] w fun e w' => e = .returned (.bool (bitsOk xs)) ∧ w = w' := by
  obtain ⟨hl, hsz, hx⟩ := h
  have HL : Hid (xs.length = n) := hl
  clear hl
  by_cases hbig : n ≤ 4096
  · go_enter Try.func23, Try.ntmps23
    go_wp2
    go_loop [10] (fun i => ∃ k : Nat, k ≤ n ∧ i = .int .i64 k ∧ (xs.take k).all bit = true) (fun i => n - (intOf i).toNat)
    case atStart => exact ⟨0, Nat.zero_le _, rfl, rfl⟩
    case round =>
      obtain ⟨k, hk, rfl, hall⟩ := hrel
      have HA : Hid ((xs.take k).all bit = true) := hall
      clear hall
      by_cases hlt : k < n
      · obtain ⟨b, off, rfl, _, _, hc⟩ := hx (by omega)
        have hck : w.cell? ⟨b, off + k, none⟩ = some (.int .i64 (xs.getD k 0)) := hc k hlt
        clear hc hx
        obtain ⟨z, hz⟩ : ∃ z, z = xs.getD k 0 := ⟨_, rfl⟩
        rw [← hz] at hck
        have HZ : Hid (z = xs.getD k 0) := hz
        clear hz
        by_cases h0 : z = 0
        · subst h0
          go_wp2
          go_round
          case rel => exact ⟨k + 1, by omega, by go_num, all_step xs k (by rw [HL.out]; exact hlt) HA.out (by rw [← HZ.out]; rfl)⟩
          case measure => simp [intOf]; omega
        · by_cases h1 : z = 1
          · subst h1
            go_wp2
            go_round
            case rel => exact ⟨k + 1, by omega, by go_num, all_step xs k (by rw [HL.out]; exact hlt) HA.out (by rw [← HZ.out]; rfl)⟩
            case measure => simp [intOf]; omega
          · have e0 : (z == 0) = false := by simpa using h0
            have e1 : (z == 1) = false := by simpa using h1
            have e2 : (z != 0) = true := by simpa using h0
            have e3 : (z != 1) = true := by simpa using h1
            have hb : bit z = false := by simp [bit, h0, h1]
            go_wp2
            go_ret
            exact ⟨ret_bool (all_fall xs k (by rw [HL.out]; exact hlt) (by rw [← HZ.out]; exact hb)).symm, rfl⟩
      · go_wp2
        go_ret
        exact ⟨ret_bool (all_whole xs (by rw [HL.out]; exact hbig) (by rw [show xs.length = k from by rw [HL.out]; omega]; exact HA.out)).symm, rfl⟩
  · go_enter Try.func23, Try.ntmps23
    go_wp2
    go_ret
    exact ⟨ret_bool (by simp [bitsOk, HL.out, hbig]), rfl⟩

end Go.Proofs.Ytgnfibdgoghkpaa
