/- The walks of the two functions that mark a list and look whether the marks are held. -/
import Derived.Test.YtnemncmaaejajaaWalkA
namespace Go.Proofs.Ytnemncmaaejajaa
open Go.RowKit
set_option linter.unusedVariables false
set_option maxRecDepth 20000

set_option maxHeartbeats 400000 in
/-- Marks are written into what is owned. -/
theorem mark_any (a : Option Addr) (n cap : Nat) (xs : List Int) (m : Int) (w : World) {lo hi : Nat} (h : OwnInts lo hi w a n xs) (hn : n ≤ 1048576) (m0 : 0 ≤ m) (m1 : m ≤ 1048576) :
    Calls Try.prog 22 #[.slice a n cap, .int .i64 m] w fun e w' => e = .returned (.int .i64 (m + n)) ∧ OwnInts lo hi w' a n (marks m n) ∧ Aside lo hi w w' := by
  obtain ⟨hl, hx⟩ := h
  have HL : Hid (xs.length = n) := hl
  clear hl
  go_enter Try.func22, Try.ntmps22
  go_wp2
  go_loopw [1, 5] (fun t i wr => ∃ k : Nat, k ≤ n ∧ i = .int .i64 k ∧ t = .int .i64 (m + k) ∧ Owned lo hi wr a n (fun i => if i < k then .int .i64 (m + i) else cellI xs i) ∧ Aside lo hi w wr) (fun _ i _ => n - (intOf i).toNat)
  case atStart => exact ⟨0, Nat.zero_le _, rfl, by simp, hx.congr (fun _ _ => by simp), Aside.refl _ _ _⟩
  case round =>
    obtain ⟨k, hk, rfl, rfl, hrow, hasd⟩ := hrel
    by_cases hlt : k < n
    · obtain ⟨b, off, rfl, hb1, hb2, hc⟩ := hrow.2 (by omega)
      obtain ⟨hco, hfo⟩ := hc k hlt
      simp only [Nat.lt_irrefl, if_false, cellI] at hco
      have hR := (hrow.set hlt (.int .i64 (m + k))).congr (g := fun i => if i < k + 1 then .int .i64 (m + i) else cellI xs i) (fun j hj => mark_step xs m k j)
      have hB := hasd.setCell (p := ⟨b, off + k, none⟩) hb1 hb2 (.int .i64 (m + k))
      have HR := hide (hR)
      have HB := hide (hB)
      clear hR hB hrow hasd hc hx
      go_wp2
      go_roundw
      case rel => exact ⟨k + 1, by omega, by go_num, by go_num, HR.out, HB.out⟩
      case measure => simp [intOf]; omega
    · go_wp2
      go_ret
      exact ⟨ret_i64 (by omega), ⟨marks_length m n, hrow.congr (fun i hi => by rw [if_pos (by omega), cellI, marks_getD m n i hi])⟩, hasd⟩

set_option maxHeartbeats 400000 in
/-- They are held as long as they read as marks. -/
theorem held_any (a : Option Addr) (n cap : Nat) (m : Int) (w : World) {lo hi : Nat} (h : Ints lo hi w a n (marks m n)) (hn : n ≤ 1048576) (m0 : 0 ≤ m) (m1 : m ≤ 1048576) :
    Calls Try.prog 23 #[.slice a n cap, .int .i64 m] w fun e w' => e = .returned (.int .i64 (m + n)) ∧ w = w' := by
  obtain ⟨_, hsz, hx⟩ := h
  go_enter Try.func23, Try.ntmps23
  go_wp2
  go_loop [1, 5] (fun t i => ∃ k : Nat, k ≤ n ∧ i = .int .i64 k ∧ t = .int .i64 (m + k)) (fun _ i => n - (intOf i).toNat)
  case atStart => exact ⟨0, Nat.zero_le _, rfl, by simp⟩
  case round =>
    obtain ⟨k, hk, rfl, rfl⟩ := hrel
    by_cases hlt : k < n
    · obtain ⟨b, off, rfl, _, _, hc⟩ := hx (by omega)
      have hck : w.cell? ⟨b, off + k, none⟩ = some (.int .i64 (m + k)) := by rw [hc k hlt, cellI, marks_getD m n k hlt]
      clear hc hx
      go_wp2
      go_round
      case rel => exact ⟨k + 1, by omega, by go_num, by go_num⟩
      case measure => simp [intOf]; omega
    · go_wp2
      go_ret
      exact ⟨ret_i64 (by omega), rfl⟩
end Go.Proofs.Ytnemncmaaejajaa
