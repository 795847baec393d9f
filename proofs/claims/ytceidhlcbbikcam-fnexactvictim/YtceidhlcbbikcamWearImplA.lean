/- The program's placesIn, isNone; slices.Index, slices.Contains at Places. -/
import Derived.Test.YtceidhlcbbikcamWearSpecC
import Derived.Deep.QuietTactic
import Derived.BigQuiet
namespace Go.Proofs.Ytceidhlcbbikcam
open Go.RowKit
set_option linter.unusedVariables false
set_option maxRecDepth 20000

set_option maxHeartbeats 800000 in
theorem placesIn_any (a : Option Addr) (n cap : Nat) (ps : List Pl) (s : Int) (w : World) {lo hi : Nat} (h : Places lo hi w a n ps) (hn : n ≤ 1048576) :
    Calls Try.prog 58 #[.slice a n cap, .int .i64 s] w fun e w' => e = .returned (.int .i64 (liveN ps s : Int)) ∧ Below w.heap.size w w' := by
  obtain ⟨hl, hx⟩ := h
  have HL := hide hl
  have HX := hide hx
  have hsz := hx.1
  clear hl hx
  go_enter Try.func58, Try.ntmps58
  go_wp2_with fail
  go_loopw [5, 10] (fun t i wr => ∃ k : Nat, k ≤ n ∧ i = .int .i64 (k : Int) ∧ t = .int .i64 (liveN (ps.take k) s : Int) ∧ Below w.heap.size w wr) (fun _ i _ => n - (intOf i).toNat)
  case atStart => exact ⟨0, Nat.zero_le _, rfl, by simp [liveN], Below.refl _ _⟩
  case round =>
    obtain ⟨k, hk, rfl, rfl, hbel⟩ := hrel
    have HBB := hide hbel
    by_cases hlt : k < n
    · obtain ⟨b, off, rfl, _, hb, hc⟩ := HX.out.2 (by omega)
      obtain ⟨c0, c1⟩ := pl_cells hc hbel (show b < w.heap.size by omega) hlt
      have HS := hide (liveN_step (show k < ps.length by rw [HL.out]; exact hlt) s)
      have hle := liveN_le (ps.take k) s
      have hle2 : liveN (ps.take k) s ≤ 1048576 := by rw [List.length_take] at hle; omega
      have HBA : Hid (∀ o, Below w.heap.size w (wr.alloc o)) := fun o => hbel.alloc hbel.size o
      clear hc hle hbel
      generalize liveN (ps.take k) s = q at *
      by_cases he : (plAt ps k).1 = s
      · have g : ((plAt ps k).1 == s) = true := by simpa using he
        have HE : Hid (liveN (ps.take (k + 1)) s = q + 1) := by show _ = _; rw [HS.out, g]; rfl
        generalize plAt ps k = v at *
        obtain ⟨v0, v1⟩ := v
        dsimp only at c0 c1 he
        subst he
        go_wp2_with fail
        exact ⟨⟨k + 1, by omega, by go_num, by rw [HE.out]; go_num, HBA.out _⟩, by simp [intOf]; omega⟩
      · have g : ((plAt ps k).1 == s) = false := by simpa using he
        have HE : Hid (liveN (ps.take (k + 1)) s = q) := by show _ = _; rw [HS.out, g]; rfl
        generalize plAt ps k = v at *
        obtain ⟨v0, v1⟩ := v
        dsimp only at c0 c1 he
        go_wp2_with fail
        exact ⟨⟨k + 1, by omega, by go_num, by rw [HE.out], HBA.out _⟩, by simp [intOf]; omega⟩
    · have HE : Hid (liveN (ps.take k) s = liveN ps s) := by show _ = _; rw [List.take_of_length_le (by rw [HL.out]; omega)]
      generalize liveN (ps.take k) s = q at *
      go_wp2_with fail
      go_ret
      exact ⟨by rw [← HE.out]; rfl, HBB.out⟩

set_option maxHeartbeats 400000 in
theorem isNone_any (p q : Int) (w : World) :
    Calls Try.prog 53 #[.agg #[.int .i64 p, .int .i64 q]] w fun e w' => e = .returned (.bool ((p == -1) && (q == 0))) ∧ Below w.heap.size w w' := by
  obtain ⟨wA, hwA⟩ : ∃ wA, wA = w.alloc (.cells #[.int .i64 p, .int .i64 q] 76) := ⟨_, rfl⟩
  have HBA : Hid (Below w.heap.size w wA) := by rw [hwA]; exact (Below.refl _ _).alloc (Nat.le_refl _) _
  have q1 := Try.eqPl p q (-1) 0
  have q2 := Try.guardPl
  go_enter Try.func53, Try.ntmps53
  go_wp2_with fail
  rw [← hwA]
  go_ret
  exact ⟨rfl, HBA.out⟩

/-- Is it none of the first n? -/
def noneOf (ps : List Pl) (n : Nat) (v : Pl) : Bool := (List.range n).all (fun j => plAt ps j != v)

set_option maxHeartbeats 1600000 in
theorem indexPl_any (a : Option Addr) (n cap : Nat) (ps : List Pl) (p q : Int) (w : World) {lo hi : Nat} (h : Places lo hi w a n ps) (hn : n ≤ 1048576) :
    Calls Try.prog 78 #[.slice a n cap, .agg #[.int .i64 p, .int .i64 q]] w fun e w' => ∃ r : Int, e = .returned (.int .i64 r) ∧ decide (r ≥ 0) = !(noneOf ps n (p, q)) ∧ Below w.heap.size w w' := by
  obtain ⟨wA, hwA⟩ : ∃ wA, wA = w.alloc (.cells #[.int .i64 p, .int .i64 q] 76) := ⟨_, rfl⟩
  have hzA : wA.heap.size = w.heap.size + 1 := by rw [hwA]; simp
  have HBA : Hid (Below w.heap.size w wA) := by rw [hwA]; exact (Below.refl _ _).alloc (Nat.le_refl _) _
  have H1 : Hid (wA.heap[w.heap.size]? = some (.cells #[.int .i64 p, .int .i64 q] 76)) := by rw [hwA]; exact heap_new _ _
  obtain ⟨hl, hx⟩ := h
  have HL := hide hl
  have HX := hide hx
  have hsz := hx.1
  have q2 := Try.guardPl
  clear hl hx
  go_enter Try.func78, Try.ntmps78
  go_wp2_with fail
  rw [← hwA]
  clear hwA
  go_loopw [5, 8] (fun _ i wr => ∃ k : Nat, k ≤ n ∧ i = .int .i64 (k : Int) ∧ noneOf ps k (p, q) = true ∧ Below wA.heap.size wA wr) (fun _ i _ => n - (intOf i).toNat)
  case atStart => exact ⟨0, Nat.zero_le _, rfl, rfl, Below.refl _ _⟩
  case round =>
    obtain ⟨k, hk, rfl, hal, hbel⟩ := hrel
    have HAL := hide hal
    have HBB := hide hbel
    obtain ⟨d0, d1⟩ := two_cells (block_on H1.out hbel)
    clear hal
    by_cases hlt : k < n
    · obtain ⟨b, off, rfl, _, hb, hc⟩ := HX.out.2 (by omega)
      obtain ⟨c0, c1⟩ := pl_cells hc (HBA.out.trans (hbel.mono (by omega))) (show b < w.heap.size by omega) hlt
      have HF : Hid ((plAt ps k == (p, q)) = true → noneOf ps n (p, q) = false) := fun hh => all_range_fall hlt (by simp only [bne, hh]; rfl)
      have HS : Hid ((plAt ps k == (p, q)) = false → noneOf ps (k + 1) (p, q) = true) := fun hh => all_range_step HAL.out (by simp only [bne, hh]; rfl)
      rw [pl_eq] at HF HS
      have hlt2 : (k : Int) < (n : Int) := by omega
      clear hc hbel
      generalize plAt ps k = y at *
      obtain ⟨r, t⟩ := y
      dsimp only at c0 c1 HF HS
      have q1 := Try.eqPl p q r t
      cases heq : ((p == r) && (q == t)) with
      | true =>
        have HNO := hide (HF.out (by simp only [Bool.and_eq_true, beq_iff_eq] at heq ⊢; exact ⟨heq.1.symm, heq.2.symm⟩))
        rw [heq] at q1
        go_wp2_with fail
        go_quiet (fail)
        go_wp2_with fail
        go_ret
        exact ⟨_, rfl, by rw [HNO.out]; simp, by have hh := below_here HBA.out HBB.out; exact ⟨hh.os, hh.tape, hh.output, hh.size, hh.block⟩⟩
      | false =>
        have HOK := hide (HS.out (by
          cases hh : ((r == p) && (t == q)) with
          | false => rfl
          | true =>
            simp only [Bool.and_eq_true, beq_iff_eq] at hh
            rw [hh.1, hh.2] at heq
            simp at heq))
        rw [heq] at q1
        go_wp2_with fail
        go_quiet (fail)
        go_wp2_with fail
        go_roundw
        case rel => exact ⟨k + 1, by omega, by go_num, HOK.out, ⟨HBB.out.os, HBB.out.tape, HBB.out.output, HBB.out.size, HBB.out.block⟩⟩
        case measure => simp [intOf]; omega
    · obtain rfl : k = n := by omega
      go_wp2_with fail
      go_ret
      exact ⟨_, rfl, by rw [HAL.out]; rfl, below_here HBA.out HBB.out⟩

set_option maxHeartbeats 800000 in
theorem containsPl_any (a : Option Addr) (n cap : Nat) (ps : List Pl) (p q : Int) (w : World) {lo hi : Nat} (h : Places lo hi w a n ps) (hhi : hi ≤ w.heap.size) (hn : n ≤ 1048576) :
    Calls Try.prog 54 #[.slice a n cap, .agg #[.int .i64 p, .int .i64 q]] w fun e w' => e = .returned (.bool (!(noneOf ps n (p, q)))) ∧ Below w.heap.size w w' := by
  obtain ⟨wA, hwA⟩ : ∃ wA, wA = w.alloc (.cells #[.int .i64 p, .int .i64 q] 76) := ⟨_, rfl⟩
  have hzA : wA.heap.size = w.heap.size + 1 := by rw [hwA]; simp
  have HBA : Hid (Below w.heap.size w wA) := by rw [hwA]; exact (Below.refl _ _).alloc (Nat.le_refl _) _
  have HP := hide (h.later HBA.out hhi)
  clear h
  go_enter Try.func54, Try.ntmps54
  go_wp2_with fail
  rw [← hwA]
  clear hwA
  refine (indexPl_any a n cap ps p q wA HP.out hn).mono ?_
  rintro e w1 ⟨r, rfl, hr, b1⟩
  have HR := hide hr
  have HB1 := hide (below_here HBA.out b1)
  clear hr b1
  go_wp2_with fail
  go_ret
  exact ⟨ret_bool HR.out, HB1.out⟩
end Go.Proofs.Ytceidhlcbbikcam
