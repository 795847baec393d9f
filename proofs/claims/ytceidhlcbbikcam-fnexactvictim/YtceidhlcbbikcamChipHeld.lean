/- Marks are still there. -/
import Derived.Test.YtceidhlcbbikcamChipMark
namespace Go.Proofs.Ytceidhlcbbikcam
open Go.RowKit
set_option linter.unusedVariables false
set_option maxRecDepth 20000

set_option maxHeartbeats 400000 in
/-- They are held as long as they read as marks, also far up. -/
theorem heldTL_any (a : Option Addr) (n cap : Nat) (m : Nat) (w : World) {lo hi : Nat} (h : Texts lo hi w a n (marksT m n)) (hn : n ≤ 1048576) (m0 : 1 ≤ m) (m1 : m + n ≤ 4194304) :
    Calls Try.prog 76 #[.slice a n cap, .int .i64 (m : Int)] w fun e w' => e = .returned (.int .i64 ((m + n : Nat) : Int)) ∧ Below w.heap.size w w' := by
  obtain ⟨_, hsz, hx⟩ := h
  go_enter Try.func76, Try.ntmps76
  go_wp2_with fail
  go_loopw [1, 5] (fun t i wr => ∃ k : Nat, k ≤ n ∧ i = .int .i64 k ∧ t = .int .i64 ((m + k : Nat) : Int) ∧ Below w.heap.size w wr) (fun _ i _ => n - (intOf i).toNat)
  case atStart => exact ⟨0, Nat.zero_le _, rfl, by simp, Below.refl _ _⟩
  case round =>
    obtain ⟨k, hk, rfl, rfl, hbel⟩ := hrel
    by_cases hlt : k < n
    · obtain ⟨b, off, rfl, _, hb, hc⟩ := hx (by omega)
      have hck : wr.cell? ⟨b, off + k, none⟩ = some (.string (markT (m + k))) := (hbel.cell (p := ⟨b, off + k, none⟩) (by show b < _; omega)).trans (by rw [hc k hlt, marksT_at m n k hlt])
      have HW : Hid (b < wr.heap.size) := by have := hbel.size; show b < _; omega
      have HBB := hide hbel
      have HCK := hide hck
      clear hc hx hbel
      have e0 := text_same (markT (m + k))
      go_wp2_with fail
      go_region_with (go_at_call 87; refine (markText_to (m + k) _ (by omega) (by omega) (by omega) _).mono ?_; rintro e w2 ⟨rfl, b2⟩; have hck2 := (b2.cell (p := ⟨b, off + k, none⟩) HW.out).trans HCK.out; have HB2 := hide (below_here (show Below w.heap.size w wr.drew from HBB.out.drew) b2); clear b2)
      all_goals go_wp2_with fail
      all_goals exact ⟨⟨k + 1, by omega, by go_num, by go_num, HB2.out⟩, by simp [intOf]; omega⟩
    · obtain rfl : k = n := by omega
      go_wp2_with fail
      go_ret
      exact ⟨rfl, hbel⟩

set_option maxHeartbeats 1600000 in
theorem heldSquareS_any (a : Option Addr) (n cap : Nat) (qs : List Sq) (m : Nat) (w : World) {lo hi : Nat} (h : Squares lo hi w a n (sqMark qs m)) (hfit : n + weight qs ≤ 1048576) (m0 : 1 ≤ m) (m1 : m ≤ 1048576) :
    Calls Try.prog 46 #[.slice a n cap, .int .i64 (m : Int)] w fun e w' => e = .returned (.int .i64 ((m + lens qs + 2 * n : Nat) : Int)) ∧ Below w.heap.size w w' := by
  obtain ⟨hl, A, C, hx, ht⟩ := h
  rw [sqMark_length] at hl
  have HL := hide hl
  have HX := hide hx
  have HT := hide ht
  have hsz := hx.1
  have hle := lens_weight qs
  clear hl hx ht
  go_enter Try.func46, Try.ntmps46
  go_wp2_with fail
  go_loopw [1, 5] (fun t i wr => ∃ k : Nat, k ≤ n ∧ i = .int .i64 (k : Int) ∧ t = .int .i64 ((markS qs m k : Nat) : Int) ∧ Below w.heap.size w wr) (fun _ i _ => n - (intOf i).toNat)
  case atStart => exact ⟨0, Nat.zero_le _, rfl, by simp [markS, lens], Below.refl _ _⟩
  case round =>
    obtain ⟨k, hk, rfl, rfl, hbel⟩ := hrel
    by_cases hlt : k < n
    · have hql : k < qs.length := by rw [HL.out]; exact hlt
      obtain ⟨b, off, rfl, _, hb, hc⟩ := HX.out.2 (by omega)
      obtain ⟨c0, c1, c2⟩ := sq_cells hc hbel (show b < w.heap.size by omega) hlt
      have hti := (HT.out k hlt).later hbel hsz
      have hbw : b < wr.heap.size := by have := hbel.size; omega
      have hlw := lens_whole qs (k + 1)
      have HLT := hide (lens_take qs k hql)
      rw [HLT.out] at hlw
      rw [sqMark_len qs m k hql] at c0 hti
      rw [sqMark_at qs m k hql] at c1 c2 hti
      dsimp only at c1 c2 hti
      have HBB := hide hbel
      clear hc hbel
      obtain ⟨s, hs⟩ : ∃ s, s = markS qs m k := ⟨_, rfl⟩
      have HS := hide hs
      have hsb : s + (sqAt qs k).1.length + 2 ≤ 4194304 := by rw [hs]; unfold markS; omega
      have hs0 : 1 ≤ s := by rw [hs]; unfold markS; omega
      have hl9 : (sqAt qs k).1.length ≤ 1048576 := by omega
      obtain ⟨z, hz⟩ : ∃ z, z = (sqAt qs k).1.length := ⟨_, rfl⟩
      have HZ := hide hz
      rw [← hs] at c1 c2 hti ⊢
      rw [← hz] at c0 c1 c2 hti hsb hl9
      have HTI := hide hti
      clear hs hz hti
      obtain ⟨q, hq⟩ : ∃ q, q = s + z := ⟨_, rfl⟩
      rw [← hq] at c1 c2
      have HQ := hide hq
      clear hq
      go_wp2_with fail
      refine (heldTL_any (A k) z (C k) s wr HTI.out hl9 hs0 (by omega)).mono ?_
      rintro e w2 ⟨rfl, b2⟩
      have d0 := (b2.cell (p := ⟨b, off + k * 3, none⟩) hbw).trans c0
      have d1 := (b2.cell (p := ⟨b, off + k * 3 + 1, none⟩) hbw).trans c1
      have d2 := (b2.cell (p := ⟨b, off + k * 3 + 2, none⟩) hbw).trans c2
      have HB2 := hide (below_here HBB.out b2)
      clear b2 c0 c1 c2 HTI
      rw [← HQ.out]
      have hq9 : q + 2 ≤ 4194304 := by rw [HQ.out]; exact hsb
      have hbe : (((q : Int) + 1) % 3 == 0) = decide ((q + 1) % 3 = 0) := by
        by_cases e : (q + 1) % 3 = 0
        · rw [decide_eq_true e, beq_iff_eq]; omega
        · rw [decide_eq_false e, beq_eq_false_iff_ne]; omega
      generalize decide ((q + 1) % 3 = 0) = bd at *
      go_wp2_with fail
      have hms : markS qs m (k + 1) = q + 2 := by
        unfold markS
        rw [HLT.out, HQ.out, HS.out, HZ.out]
        unfold markS
        omega
      exact ⟨⟨k + 1, by omega, by go_num, by rw [hms]; go_num, HB2.out⟩, by simp [intOf]; omega⟩
    · obtain rfl : k = n := by omega
      obtain ⟨s, hs⟩ : ∃ s, s = markS qs m k := ⟨_, rfl⟩
      have HS := hide hs
      rw [← hs]
      clear hs
      go_wp2_with fail
      go_ret
      have hq := HL.out
      exact ⟨ret_i64 (by rw [HS.out]; unfold markS; rw [List.take_of_length_le (by omega)]), hbel⟩

theorem heldChip_any (z : Int) (a : Option Addr) (n cap : Nat) (qs : List Sq) (w : World) {lo hi : Nat} (h : Squares lo hi w a n (sqMark qs 1)) (hhi : hi ≤ w.heap.size) (hfit : n + weight qs ≤ 1048576) :
    Calls Try.prog 17 #[.agg #[.int .i64 z, .slice a n cap], .int .i64 1] w fun e w' => e = .returned (.int .i64 ((1 + lens qs + 2 * n : Nat) : Int)) ∧ Below w.heap.size w w' := by
  obtain ⟨wA, hwA⟩ : ∃ wA, wA = w.alloc (.cells #[.int .i64 z, .slice a n cap] 31) := ⟨_, rfl⟩
  have HBA : Hid (Below w.heap.size w wA) := by rw [hwA]; exact (Below.refl _ _).alloc (Nat.le_refl _) _
  have HTA := hide (h.later HBA.out hhi)
  have hle := lens_weight qs
  clear h
  go_enter Try.func17, Try.ntmps17
  go_wp2_with fail
  rw [← hwA]
  clear hwA
  refine (heldSquareS_any a n cap qs 1 wA HTA.out hfit (by omega) (by omega)).mono ?_
  rintro e w1 ⟨rfl, h2⟩
  have H2 := hide (below_here HBA.out h2)
  clear h2 HTA
  obtain ⟨t, ht⟩ : ∃ t, t = 1 + lens qs + 2 * n := ⟨_, rfl⟩
  rw [← ht]
  have ht9 : t ≤ 4194304 := by omega
  have HT := hide ht
  clear ht
  go_wp2_with fail
  go_ret
  exact ⟨by rw [← HT.out]; rfl, H2.out⟩
end Go.Proofs.Ytceidhlcbbikcam
