/- Jobs that are alike, Jobs that are marked. -/
import Derived.Test.YtceidhlcbbikcalChipJob
namespace Go.Proofs.Ytceidhlcbbikcal
open Go.RowKit
set_option linter.unusedVariables false
set_option maxRecDepth 20000

theorem eqJob_same (k q : Int) (x : ByteArray) (w : World) :
    Calls Try.prog 43 #[.agg #[.int .i64 k, .int .i64 q, .string x], .agg #[.int .i64 k, .int .i64 q, .string x]] w fun e w' => e = .returned (.bool true) ∧ Below w.heap.size w w' := by
  go_enter Try.func43, Try.ntmps43
  go_wp2_with fail
  all_goals go_ret
  all_goals exact ⟨rfl, ((Below.refl w.heap.size w).alloc (Nat.le_refl _) _).alloc (by simp) _⟩

set_option maxHeartbeats 1600000 in
theorem eqJobS_same (a a' : Option Addr) (n cap cap' : Nat) (js : List Jb) (w : World) {lo hi lo' hi' : Nat} (h : Jobs lo hi w a n js) (h' : Jobs lo' hi' w a' n js) (hn : n ≤ 1048576) :
    Calls Try.prog 29 #[.slice a n cap, .slice a' n cap'] w fun e w' => e = .returned (.bool true) ∧ Below w.heap.size w w' := by
  obtain ⟨hl, hx⟩ := h
  obtain ⟨hl', hx'⟩ := h'
  have HX := hide hx
  have HX' := hide hx'
  have hsz := hx.1
  have hsz' := hx'.1
  clear hl hl' hx hx'
  go_enter Try.func29, Try.ntmps29
  go_wp2_with fail
  go_loopw [5] (fun i wr => ∃ k : Nat, k ≤ n ∧ i = .int .i64 k ∧ Below w.heap.size w wr) (fun i _ => n - (intOf i).toNat)
  case atStart => exact ⟨0, Nat.zero_le _, rfl, Below.refl _ _⟩
  case round =>
    obtain ⟨k, hk, rfl, hbel⟩ := hrel
    by_cases hlt : k < n
    · obtain ⟨b, off, rfl, _, hb, hc⟩ := HX.out.2 (by omega)
      obtain ⟨b', off', rfl, _, hb', hc'⟩ := HX'.out.2 (by omega)
      obtain ⟨c0, c1, c2⟩ := job_cells hc hbel (show b < w.heap.size by omega) hlt
      obtain ⟨d0, d1, d2⟩ := job_cells hc' hbel (show b' < w.heap.size by omega) hlt
      have HBB := hide hbel
      clear hc hc' hbel
      generalize jbAt js k = y at *
      obtain ⟨kd, sq, tx⟩ := y
      go_wp2_with fail
      go_region_with (go_at_call 43; refine (eqJob_same kd sq tx _).mono ?_; rintro e w1 ⟨rfl, b1⟩; have HB1 := hide (below_here (show Below w.heap.size w wr.drew from HBB.out.drew) b1); clear b1)
      all_goals go_wp2_with fail
      all_goals exact ⟨⟨k + 1, by omega, by go_num, HB1.out⟩, by simp [intOf]; omega⟩
    · go_wp2_with fail
      go_ret
      exact ⟨rfl, hbel⟩

set_option maxHeartbeats 1600000 in
/-- Jobs are marked: in their own memory. -/
theorem markJobS_any (a : Option Addr) (n cap : Nat) (js : List Jb) (m : Nat) (w : World) {lo hi : Nat} (h : OwnJobs lo hi w a n js) (hn : n ≤ 1048576) (m0 : 1 ≤ m) (m1 : m + 3 * n ≤ 4194304) :
    Calls Try.prog 30 #[.slice a n cap, .int .i64 (m : Int)] w fun e w' => e = .returned (.int .i64 ((m + 3 * n : Nat) : Int)) ∧ Aside lo hi w w' := by
  obtain ⟨hl, hx⟩ := h
  have HX := hide hx
  clear hl hx
  go_enter Try.func30, Try.ntmps30
  go_wp2_with fail
  go_loopw [1, 5] (fun t i wr => ∃ (k : Nat) (f : Nat → Value), k ≤ n ∧ i = .int .i64 (k : Int) ∧ t = .int .i64 ((m + 3 * k : Nat) : Int) ∧ Owned lo hi wr a (3 * n) f ∧ Aside lo hi w wr) (fun _ i _ => n - (intOf i).toNat)
  case atStart => exact ⟨0, _, Nat.zero_le _, rfl, by simp, HX.out, Aside.refl _ _ _⟩
  case round =>
    obtain ⟨k, f, hk, rfl, rfl, hrow, hasd⟩ := hrel
    clear HX
    by_cases hlt : k < n
    · obtain ⟨b, off, rfl, hb1, hb2, hc⟩ := hrow.2 (by omega)
      obtain ⟨c0, f0, _, _⟩ := hrow.place (show k * 3 < 3 * n by omega)
      obtain ⟨c1, f1, _, _⟩ := hrow.place (show k * 3 + 1 < 3 * n by omega)
      rw [← Nat.add_assoc] at c1 f1
      have HRW := hide hrow
      have HAS := hide hasd
      clear hrow hasd hc
      obtain ⟨s, hs⟩ : ∃ s, s = m + 3 * k := ⟨_, rfl⟩
      rw [← hs]
      have HN1 := hide ((HRW.out.set (show k * 3 < 3 * n by omega) (.int .i64 (s : Int))).set (show k * 3 + 1 < 3 * n by omega) (.int .i64 ((s : Int) + 1)))
      have HA1 := hide ((HAS.out.setCell (p := ⟨b, off + k * 3, none⟩) hb1 hb2 (.int .i64 (s : Int))).setCell (p := ⟨b, off + k * 3 + 1, none⟩) hb1 hb2 (.int .i64 ((s : Int) + 1)))
      have hs9 : s + 3 ≤ 4194304 := by omega
      have HS := hide hs
      clear HRW HAS hs
      go_wp2_with fail
      refine (markText_to (s + 2) _ (by omega) (by omega) (by omega) _).mono ?_
      rintro e w2 ⟨rfl, b2⟩
      have hro := HN1.out.later b2 HN1.out.1
      obtain ⟨c2, f2, _, _⟩ := hro.place (show k * 3 + 2 < 3 * n by omega)
      rw [← Nat.add_assoc] at c2 f2
      have HN2 := hide (hro.set (show k * 3 + 2 < 3 * n by omega) (.string (markT (s + 2))))
      have HA2 := hide ((HA1.out.trans (aside_new b2)).setCell (p := ⟨b, off + k * 3 + 2, none⟩) hb1 hb2 (.string (markT (s + 2))))
      clear hro b2 HN1 HA1 c0 c1
      go_wp2_with fail
      exact ⟨⟨k + 1, _, by omega, by go_num, by have := HS.out; go_num, HN2.out, HA2.out⟩, by simp [intOf]; omega⟩
    · obtain rfl : k = n := by omega
      go_wp2_with fail
      go_ret
      exact ⟨rfl, hasd⟩
end Go.Proofs.Ytceidhlcbbikcal
