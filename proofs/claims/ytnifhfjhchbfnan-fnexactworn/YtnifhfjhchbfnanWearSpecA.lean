/- The model's l9Live, Free, Worn. -/
import Derived.Test.YtnifhfjhchbfnanWearMath
import Derived.Test.YtnifhfjhchbfnanChipCopyS
import Derived.Deep.QuietTactic
import Derived.BigQuiet
namespace Go.Proofs.Ytnifhfjhchbfnan
open Go.RowKit
set_option linter.unusedVariables false
set_option maxRecDepth 20000

set_option maxHeartbeats 800000 in
theorem l9Live_any (a : Option Addr) (n cap : Nat) (ps : List Pl) (s : Int) (w : World) {lo hi : Nat} (h : Places lo hi w a n ps) (hn : n ≤ 1048576) :
    Calls Try.prog 76 #[.slice a n cap, .int .i64 s] w fun e w' => e = .returned (.int .i64 (liveN ps s : Int)) ∧ w = w' := by
  obtain ⟨hl, hx⟩ := h
  have HL := hide hl
  have HX := hide hx
  have hsz := hx.1
  clear hl hx
  go_enter Try.func76, Try.ntmps76
  go_wp2_with fail
  go_loopw [5, 6] (fun t i wr => ∃ k : Nat, k ≤ n ∧ i = .int .i64 (k : Int) ∧ t = .int .i64 (liveN (ps.take k) s : Int) ∧ w = wr) (fun _ i _ => n - (intOf i).toNat)
  case atStart => exact ⟨0, Nat.zero_le _, rfl, by simp [liveN], rfl⟩
  case round =>
    obtain ⟨k, hk, rfl, rfl, rfl⟩ := hrel
    by_cases hlt : k < n
    · obtain ⟨b, off, rfl, _, hb, hc⟩ := HX.out.2 (by omega)
      obtain ⟨c0, c1⟩ := pl_cells hc (Below.refl w.heap.size w) (show b < w.heap.size by omega) hlt
      have HS := hide (liveN_step (show k < ps.length by rw [HL.out]; exact hlt) s)
      have hle := liveN_le (ps.take k) s
      have hle2 : liveN (ps.take k) s ≤ 1048576 := by rw [List.length_take] at hle; omega
      clear hc c1 hle
      generalize liveN (ps.take k) s = q at *
      by_cases he : (plAt ps k).1 = s
      · have g : ((plAt ps k).1 == s) = true := by simpa using he
        have HE : Hid (liveN (ps.take (k + 1)) s = q + 1) := by show _ = _; rw [HS.out, g]; rfl
        generalize (plAt ps k).1 = v at *
        subst he
        go_wp2_with fail
        exact ⟨⟨k + 1, by omega, by go_num, by rw [HE.out]; go_num, trivial⟩, by simp [intOf]; omega⟩
      · have g : ((plAt ps k).1 == s) = false := by simpa using he
        have HE : Hid (liveN (ps.take (k + 1)) s = q) := by show _ = _; rw [HS.out, g]; rfl
        generalize (plAt ps k).1 = v at *
        go_wp2_with fail
        exact ⟨⟨k + 1, by omega, by go_num, by rw [HE.out], trivial⟩, by simp [intOf]; omega⟩
    · have HE : Hid (liveN (ps.take k) s = liveN ps s) := by show _ = _; rw [List.take_of_length_le (by rw [HL.out]; omega)]
      generalize liveN (ps.take k) s = q at *
      go_wp2_with fail
      go_ret
      exact ⟨by rw [← HE.out]; rfl, rfl⟩

theorem freeK_bound {z : Int} {qs : List Sq} (h : chipOk z qs = true) : ∀ k, k ≤ qs.length → 0 ≤ freeK z qs k ∧ freeK z qs k ≤ 8 * (k : Int)
  | 0, _ => by simp [freeK]
  | k + 1, hk => by
    have h1 := freeK_bound h k (by omega)
    have h2 := sqOk_parts (chipOk_at h (show k < qs.length by omega))
    have h3 := (chipOk_parts h).2.1
    rw [freeK_step (by omega)]
    split
    · omega
    · omega

set_option maxHeartbeats 1600000 in
theorem specFree_any (z : Int) (a : Option Addr) (n cap : Nat) (qs : List Sq) (w : World) {lo hi : Nat} (h : Squares lo hi w a n qs) (hhi : hi ≤ w.heap.size) (hn : n ≤ 1048576) (hf : ∀ x ∈ qs, sqFits x) :
    Calls Try.prog 9 #[.agg #[.int .i64 z, .slice a n cap]] w fun e w' => e = .returned (.int .i64 (free z qs)) ∧ Below w.heap.size w w' := by
  obtain ⟨wA, hwA⟩ : ∃ wA, wA = w.alloc (.cells #[.int .i64 z, .slice a n cap] 29) := ⟨_, rfl⟩
  have hzA : wA.heap.size = w.heap.size + 1 := by rw [hwA]; simp
  have HBA : Hid (Below w.heap.size w wA) := by rw [hwA]; exact (Below.refl _ _).alloc (Nat.le_refl _) _
  have H1 : Hid (wA.heap[w.heap.size]? = some (.cells #[.int .i64 z, .slice a n cap] 29)) := by rw [hwA]; exact heap_new _ _
  have HSQ := hide (h.later HBA.out hhi)
  have HL := hide h.1
  have HF := hide hf
  clear h hf
  obtain ⟨a0, a1⟩ := two_cells H1.out
  go_enter Try.func9, Try.ntmps9
  go_upto_region 1 with fail
  rw [← hwA]
  clear hwA
  go_wp2_with fail
  refine (specChipOk_any z a n cap qs wA HSQ.out (by omega) hn HF.out).mono ?_
  rintro e w1 ⟨rfl, b1⟩
  have K1 := hide (block_on H1.out b1)
  have HS1 := hide (HSQ.out.later b1 (by omega))
  have HB1 := hide (below_here HBA.out b1)
  have hs1 := b1.size
  clear b1 H1 HSQ HBA a0 a1
  cases hok : chipOk z qs with
  | false =>
    have HE : Hid (free z qs = -1) := by show _ = _; unfold free; rw [hok]; rfl
    go_wp2_with fail
    go_ret
    exact ⟨by rw [HE.out]; rfl, HB1.out⟩
  | true =>
    have HE : Hid (free z qs = freeK z qs qs.length) := by show _ = _; unfold free; rw [hok]; rfl
    have HFB := hide (freeK_bound hok)
    have HOK := hide hok
    have hz8 := (chipOk_parts hok).2.1
    have hz1 := (chipOk_parts hok).1
    have hn12 : n ≤ 12 := by have := (chipOk_parts hok).2.2.2.1; rw [HL.out] at this; exact this
    clear hok
    go_wp2_with fail
    go_loopw [3, 4] (fun t i wr => ∃ k : Nat, k ≤ n ∧ i = .int .i64 (k : Int) ∧ t = .int .i64 (freeK z qs k) ∧ Below w1.heap.size w1 wr) (fun _ i _ => n - (intOf i).toNat)
    case atStart => exact ⟨0, Nat.zero_le _, rfl, by simp [freeK], Below.refl _ _⟩
    case round =>
      obtain ⟨k, hk, rfl, rfl, hbel⟩ := hrel
      obtain ⟨a0, a1⟩ := two_cells (block_on K1.out hbel)
      have HBB := hide hbel
      by_cases hlt : k < n
      · have hql : k < qs.length := by rw [HL.out]; exact hlt
        obtain ⟨_, A, C, hx, ht⟩ := HS1.out
        obtain ⟨b, off, rfl, _, hb, hc⟩ := hx.2 (by omega)
        obtain ⟨c0, c1, c2⟩ := sq_cells hc hbel (show b < w1.heap.size by omega) hlt
        have HST := hide (freeK_step (z := z) hql)
        have hfb := HFB.out k (by omega)
        have hl8 : (sqAt qs k).1.length ≤ 8 := by have := (sqOk_parts (chipOk_at HOK.out hql)).1; omega
        clear hc hx ht hbel c1
        generalize freeK z qs k = q at *
        generalize sqAt qs k = y at *
        obtain ⟨ts, zw, bd⟩ := y
        dsimp only at c0 c2 hl8 HST
        cases bd with
        | true =>
          go_wp2_with fail
          exact ⟨⟨k + 1, by omega, by go_num, by rw [HST.out]; simp, HBB.out⟩, by simp [intOf]; omega⟩
        | false =>
          have HST2 : Hid (freeK z qs (k + 1) = q + z - (ts.length : Int)) := by show _ = _; rw [HST.out]; simp; omega
          go_wp2_with fail
          go_quiet (fail)
          go_wp2_with fail
          go_roundw
          case rel => exact ⟨k + 1, by omega, by go_num, by rw [HST2.out], ⟨HBB.out.os, HBB.out.tape, HBB.out.output, HBB.out.size, HBB.out.block⟩⟩
          case measure => simp [intOf]; omega
      · obtain rfl : k = n := by omega
        have HE2 : Hid (free z qs = freeK z qs k) := by show _ = _; rw [HE.out, HL.out]
        generalize freeK z qs k = q at *
        go_wp2_with fail
        go_ret
        exact ⟨by rw [HE2.out]; rfl, below_here HB1.out HBB.out⟩
end Go.Proofs.Ytnifhfjhchbfnan
