/- The model's PageAt. -/
import Derived.Test.YtceidhlcbbikcamChipOkS
namespace Go.Proofs.Ytceidhlcbbikcam
open Go.RowKit
set_option linter.unusedVariables false
set_option maxRecDepth 20000

def pageAt (z : Int) (qs : List Sq) (s p : Int) : ByteArray :=
  if chipOk z qs && (inB s 0 ((qs.length : Int) - 1) && inB p 0 (((sqAt qs s.toNat).1.length : Int) - 1)) then (sqAt qs s.toNat).1.getD p.toNat ByteArray.empty else ByteArray.empty

set_option maxHeartbeats 1600000 in
theorem specPageAt_any (z : Int) (a : Option Addr) (n cap : Nat) (qs : List Sq) (sq pg : Int) (w : World) {lo hi : Nat} (h : Squares lo hi w a n qs) (hhi : hi ≤ w.heap.size) (hn : n ≤ 1048576) (hf : ∀ x ∈ qs, sqFits x) :
    Calls Try.prog 18 #[.agg #[.int .i64 z, .slice a n cap], .int .i64 sq, .int .i64 pg] w fun e w' => e = .returned (.string (pageAt z qs sq pg)) ∧ Below w.heap.size w w' := by
  obtain ⟨wA, hwA⟩ : ∃ wA, wA = w.alloc (.cells #[.int .i64 z, .slice a n cap] 31) := ⟨_, rfl⟩
  have hzA : wA.heap.size = w.heap.size + 1 := by rw [hwA]; simp
  have HBA : Hid (Below w.heap.size w wA) := by rw [hwA]; exact (Below.refl _ _).alloc (Nat.le_refl _) _
  have H1 : Hid (wA.heap[w.heap.size]? = some (.cells #[.int .i64 z, .slice a n cap] 31)) := by rw [hwA]; exact heap_new _ _
  have HSQ := hide (h.later HBA.out hhi)
  have HL := hide h.1
  have HF := hide hf
  clear h hf
  go_enter Try.func18, Try.ntmps18
  go_wp2_with fail
  rw [← hwA]
  clear hwA
  refine (specChipOk_any z a n cap qs wA HSQ.out (by omega) hn HF.out).mono ?_
  rintro e w1 ⟨rfl, b1⟩
  obtain ⟨a0, a1⟩ := two_cells (block_on H1.out b1)
  have HS1 := hide (HSQ.out.later b1 (by omega))
  have hs1 := b1.size
  have HB1 := hide (below_here HBA.out b1)
  clear b1 H1 HSQ HBA
  by_cases hok : chipOk z qs = true
  · rw [hok]
    go_wp2_with fail
    refine (l1In_any sq 0 ((n : Int) - 1) w1).mono ?_
    rintro e w2 ⟨rfl, rfl⟩
    by_cases hin : inB sq 0 ((n : Int) - 1) = true
    · rw [hin]
      have hin2 := hin
      unfold inB at hin2
      simp only [Bool.and_eq_true, decide_eq_true_eq] at hin2
      obtain ⟨i, rfl⟩ : ∃ i : Nat, sq = (i : Int) := ⟨sq.toNat, by omega⟩
      have hlt : i < n := by omega
      have hql : i < qs.length := by rw [HL.out]; exact hlt
      obtain ⟨_, A, C, hx, ht⟩ := HS1.out
      obtain ⟨b, off, rfl, _, hb, hc⟩ := hx.2 (by omega)
      obtain ⟨c0, c1, c2⟩ := sq_cells hc (Below.refl w1.heap.size w1) (show b < w1.heap.size by have := hx.1; omega) hlt
      have hfi := sq_fits HF.out hql
      have hl9 := hfi.2.1
      unfold maxLen at hl9
      have HTX := hide (ht i hlt)
      have HE : Hid (pageAt z qs (i : Int) pg = if inB pg 0 (((sqAt qs i).1.length : Int) - 1) then (sqAt qs i).1.getD pg.toNat ByteArray.empty else ByteArray.empty) := by
        show _ = _
        unfold pageAt
        rw [HL.out, hok, hin]
        simp
      clear hc hx ht hfi hin hin2
      generalize sqAt qs i = y at *
      obtain ⟨ts, zw, bd⟩ := y
      dsimp only at c0 c1 c2 hl9 HTX HE
      go_wp2_with fail
      refine (l1In_any pg 0 ((ts.length : Int) - 1) w1).mono ?_
      rintro e w2 ⟨rfl, rfl⟩
      by_cases hip : inB pg 0 ((ts.length : Int) - 1) = true
      · rw [hip]
        rw [hip] at HE
        unfold inB at hip
        simp only [Bool.and_eq_true, decide_eq_true_eq] at hip
        obtain ⟨j, rfl⟩ : ∃ j : Nat, pg = (j : Int) := ⟨pg.toNat, by omega⟩
        have hjl : j < ts.length := by omega
        obtain ⟨b2, off2, hAk, _, hb2, hc2⟩ := HTX.out.2.2 (by omega)
        have hcj : w1.cell? ⟨b2, off2 + j, none⟩ = some (.string (ts.getD j ByteArray.empty)) := hc2 j hjl
        have HE2 : Hid (pageAt z qs (i : Int) (j : Int) = ts.getD j ByteArray.empty) := HE.out
        rw [hAk] at c0 ⊢
        clear hc2 HTX HE
        generalize ts.getD j ByteArray.empty = x at *
        go_wp2_with fail
        go_ret
        exact ⟨by rw [HE2.out]; rfl, HB1.out⟩
      · have hip' : inB pg 0 ((ts.length : Int) - 1) = false := by simpa using hip
        rw [hip']
        rw [hip'] at HE
        have HNO : Hid (pageAt z qs (i : Int) pg = ByteArray.empty) := HE.out
        clear HE
        go_wp2_with fail
        go_ret
        exact ⟨by rw [HNO.out]; rfl, HB1.out⟩
    · have hin' : inB sq 0 ((n : Int) - 1) = false := by simpa using hin
      have HNO : Hid (pageAt z qs sq pg = ByteArray.empty) := by show _ = _; unfold pageAt; rw [HL.out, hin']; simp
      rw [hin']
      go_wp2_with fail
      go_ret
      exact ⟨by rw [HNO.out]; rfl, HB1.out⟩
  · have hok' : chipOk z qs = false := by simpa using hok
    have HNO : Hid (pageAt z qs sq pg = ByteArray.empty) := by show _ = _; unfold pageAt; rw [hok']; rfl
    rw [hok']
    go_wp2_with fail
    go_ret
    exact ⟨by rw [HNO.out]; rfl, HB1.out⟩
end Go.Proofs.Ytceidhlcbbikcam
