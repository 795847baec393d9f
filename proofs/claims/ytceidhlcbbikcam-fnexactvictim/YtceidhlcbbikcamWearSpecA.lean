/- The model's l9Live, Free, Worn. -/
import Derived.Test.YtceidhlcbbikcamWearMath
import Derived.Test.YtceidhlcbbikcamChipCopyS
import Derived.Deep.QuietTactic
import Derived.BigQuiet
namespace Go.Proofs.Ytceidhlcbbikcam
open Go.RowKit
set_option linter.unusedVariables false
set_option maxRecDepth 20000

set_option maxHeartbeats 800000 in
theorem l9Live_any (a : Option Addr) (n cap : Nat) (ps : List Pl) (s : Int) (w : World) {lo hi : Nat} (h : Places lo hi w a n ps) (hn : n ≤ 1048576) :
    Calls Try.prog 56 #[.slice a n cap, .int .i64 s] w fun e w' => e = .returned (.int .i64 (liveN ps s : Int)) ∧ w = w' := by
  obtain ⟨hl, hx⟩ := h
  have HL := hide hl
  have HX := hide hx
  have hsz := hx.1
  clear hl hx
  go_enter Try.func56, Try.ntmps56
  go_wp2_with fail
  go_loopw [5, 6] (fun t i wr => ∃ k : Nat, k ≤ n ∧ i = .int .i64 (k : Int) ∧ t = .int .i64 (liveN (ps.take k) s : Int) ∧ w = wr) (fun _ i _ => n - (intOf i).toNat)
  case atStart => exact ⟨0, Nat.zero_le _, rfl, by simp [liveN], rfl⟩
  case round =>
    obtain ⟨k, hk, rfl, rfl, rfl⟩ := hrel
    by_cases hlt : k < n
    · obtain ⟨b, off, rfl, _, hb, hc⟩ := HX.out.2 (by omega)
      obtain ⟨c0, c1⟩ := pl_cells hc (Below.refl w.heap.size w) (show b < w.heap.size by omega) hlt
      have HS := hide (liveN_step (show k < ps.length by rw [HL.out]; exact hlt) s)
      have hle := liveN_le (ps.take k) s
      have hle2 : liveN (ps.take k) s ≤ 1048576 := by rw [List.length_take] at hle; omega
      clear hc c1 hle
      generalize liveN (ps.take k) s = q at *
      by_cases he : (plAt ps k).1 = s
      · have g : ((plAt ps k).1 == s) = true := by simpa using he
        have HE : Hid (liveN (ps.take (k + 1)) s = q + 1) := by show _ = _; rw [HS.out, g]; rfl
        generalize (plAt ps k).1 = v at *
        subst he
        go_wp2_with fail
        exact ⟨⟨k + 1, by omega, by go_num, by rw [HE.out]; go_num, trivial⟩, by simp [intOf]; omega⟩
      · have g : ((plAt ps k).1 == s) = false := by simpa using he
        have HE : Hid (liveN (ps.take (k + 1)) s = q) := by show _ = _; rw [HS.out, g]; rfl
        generalize (plAt ps k).1 = v at *
        go_wp2_with fail
        exact ⟨⟨k + 1, by omega, by go_num, by rw [HE.out], trivial⟩, by simp [intOf]; omega⟩
    · have HE : Hid (liveN (ps.take k) s = liveN ps s) := by show _ = _; rw [List.take_of_length_le (by rw [HL.out]; omega)]
      generalize liveN (ps.take k) s = q at *
      go_wp2_with fail
      go_ret
      exact ⟨by rw [← HE.out]; rfl, rfl⟩

theorem freeK_bound {z : Int} {qs : List Sq} (h : chipOk z qs = true) : ∀ k, k ≤ qs.length → 0 ≤ freeK z qs k ∧ freeK z qs k ≤ 8 * (k : Int)
  | 0, _ => by simp [freeK]
  | k + 1, hk => by
    have h1 := freeK_bound h k (by omega)
    have h2 := sqOk_parts (chipOk_at h (show k < qs.length by omega))
    have h3 := (chipOk_parts h).2.1
    rw [freeK_step (by omega)]
    split
    · omega
    · omega

end Go.Proofs.Ytceidhlcbbikcam
