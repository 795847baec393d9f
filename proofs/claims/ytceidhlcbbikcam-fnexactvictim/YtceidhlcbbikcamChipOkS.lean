/- The model's ChipOk. -/
import Derived.Test.YtceidhlcbbikcamChipHeld
import Derived.Test.YtceidhlcbbikcamWalkIn
namespace Go.Proofs.Ytceidhlcbbikcam
open Go.RowKit
set_option linter.unusedVariables false
set_option maxRecDepth 20000

def txOk (s : ByteArray) : Bool := decide (1 ≤ s.size) && decide (s.size ≤ 200)
def sqOk (z : Int) (q : Sq) : Bool := decide ((q.1.length : Int) ≤ z) && (inB q.2.1 0 1000000 && q.1.all txOk)
def chipOk (z : Int) (qs : List Sq) : Bool := inB z 1 8 && (decide (1 ≤ qs.length) && (decide (qs.length ≤ 12) && qs.all (sqOk z)))
theorem sq_all_step {z : Int} {qs : List Sq} {k : Nat} (h : k < qs.length) (h1 : (qs.take k).all (sqOk z) = true) (h2 : sqOk z (sqAt qs k) = true) : (qs.take (k + 1)).all (sqOk z) = true := by
  rw [List.take_succ_eq_append_getElem h, List.all_append, h1]
  unfold sqAt at h2
  rw [List.getD_eq_getElem?_getD, List.getElem?_eq_getElem h] at h2
  simpa using h2
theorem sq_all_fall {z : Int} {qs : List Sq} {k : Nat} (h : k < qs.length) (h2 : sqOk z (sqAt qs k) = false) : chipOk z qs = false := by
  have : qs.all (sqOk z) = false := by
    rw [List.all_eq_false]
    unfold sqAt at h2
    rw [List.getD_eq_getElem?_getD, List.getElem?_eq_getElem h] at h2
    exact ⟨qs[k], List.getElem_mem h, by simpa using h2⟩
  unfold chipOk
  rw [this]; simp
theorem tx_all_step {ts : List ByteArray} {k : Nat} (h : k < ts.length) (h1 : (ts.take k).all txOk = true) (h2 : txOk (ts.getD k ByteArray.empty) = true) : (ts.take (k + 1)).all txOk = true := by
  rw [List.take_succ_eq_append_getElem h, List.all_append, h1]
  rw [List.getD_eq_getElem?_getD, List.getElem?_eq_getElem h] at h2
  simpa using h2
theorem tx_all_fall {ts : List ByteArray} {k : Nat} (h : k < ts.length) (h2 : txOk (ts.getD k ByteArray.empty) = false) : ts.all txOk = false := by
  rw [List.all_eq_false]
  rw [List.getD_eq_getElem?_getD, List.getElem?_eq_getElem h] at h2
  exact ⟨ts[k], List.getElem_mem h, by simpa using h2⟩

set_option maxHeartbeats 1600000 in
theorem specChipOk_any (z : Int) (a : Option Addr) (n cap : Nat) (qs : List Sq) (w : World) {lo hi : Nat} (h : Squares lo hi w a n qs) (hhi : hi ≤ w.heap.size) (hn : n ≤ 1048576) (hf : ∀ x ∈ qs, sqFits x) :
    Calls Try.prog 35 #[.agg #[.int .i64 z, .slice a n cap]] w fun e w' => e = .returned (.bool (chipOk z qs)) ∧ Below w.heap.size w w' := by
  obtain ⟨wA, hwA⟩ : ∃ wA, wA = w.alloc (.cells #[.int .i64 z, .slice a n cap] 31) := ⟨_, rfl⟩
  have hzA : wA.heap.size = w.heap.size + 1 := by rw [hwA]; simp
  have HBA : Hid (Below w.heap.size w wA) := by rw [hwA]; exact (Below.refl _ _).alloc (Nat.le_refl _) _
  have H1 : Hid (wA.heap[w.heap.size]? = some (.cells #[.int .i64 z, .slice a n cap] 31)) := by rw [hwA]; exact heap_new _ _
  have HSQ := hide (h.later HBA.out hhi)
  have HL := hide h.1
  have HF := hide hf
  clear h hf
  obtain ⟨hA0, hA1⟩ := two_cells H1.out
  by_cases hz : inB z 1 8 = true
  · by_cases h1 : 1 ≤ n
    · by_cases h12 : n ≤ 12
      · have e1 : decide ((n : Int) < 1) = false := by simp; omega
        have e2 : decide ((n : Int) > 12) = false := by simp; omega
        go_enter Try.func35, Try.ntmps35
        go_wp2_with fail
        rw [← hwA]
        clear hwA
        refine (l1In_any z 1 8 wA).mono ?_
        rintro e w1 ⟨rfl, rfl⟩
        rw [hz]
        go_wp2_with fail
        clear hA0 hA1 e1 e2
        have HZZ := hide hz
        clear hz
        go_loopw [3] (fun i wr => ∃ k : Nat, k ≤ n ∧ i = .int .i64 (k : Int) ∧ (qs.take k).all (sqOk z) = true ∧ Below wA.heap.size wA wr) (fun i _ => n - (intOf i).toNat)
        case atStart => exact ⟨0, Nat.zero_le _, rfl, by simp, Below.refl _ _⟩
        case round =>
          obtain ⟨k, hk, rfl, hall, hbel⟩ := hrel
          obtain ⟨hA0, hA1⟩ := two_cells (block_on H1.out hbel)
          have HAL := hide hall
          have HBB := hide hbel
          clear hall
          by_cases hlt : k < n
          · have hql : k < qs.length := by rw [HL.out]; exact hlt
            obtain ⟨_, A, C, hx, ht⟩ := HSQ.out
            obtain ⟨b, off, rfl, _, hb, hc⟩ := hx.2 (by omega)
            obtain ⟨c0, c1, c2⟩ := sq_cells hc hbel (show b < wA.heap.size by omega) hlt
            have HTX := hide ((ht k hlt).later hbel (by omega))
            have hl9 : (sqAt qs k).1.length ≤ maxLen := (HF.out _ (by unfold sqAt; rw [List.getD_eq_getElem?_getD, List.getElem?_eq_getElem hql]; exact List.getElem_mem hql)).2.1
            have hwf : (Lit.int .i64 (sqAt qs k).2.1).wf = true := (HF.out _ (by unfold sqAt; rw [List.getD_eq_getElem?_getD, List.getElem?_eq_getElem hql]; exact List.getElem_mem hql)).2.2
            have htf : ∀ s ∈ (sqAt qs k).1, s.size ≤ maxLen := (HF.out _ (by unfold sqAt; rw [List.getD_eq_getElem?_getD, List.getElem?_eq_getElem hql]; exact List.getElem_mem hql)).1
            unfold maxLen at hl9 htf
            have hws : w.heap.size < wr.heap.size := by have := hbel.size; omega
            have hA0' : (wr.alloc (.cells #[.slice (A k) (sqAt qs k).1.length (C k), .int .i64 (sqAt qs k).2.1, .bool (sqAt qs k).2.2] 68)).cell? ⟨w.heap.size, 0, none⟩ = some (.int .i64 z) := (((Below.refl wr.heap.size wr).alloc (Nat.le_refl _) _).cell (p := ⟨w.heap.size, 0, none⟩) hws).trans hA0
            clear hc hx ht hbel
            have HFA := hide (fun h => sq_all_fall (z := z) hql h)
            have HST := hide (fun h => sq_all_step (z := z) hql HAL.out h)
            generalize sqAt qs k = y at *
            obtain ⟨ts, zw, bd⟩ := y
            dsimp only at c0 c1 c2 hl9 hwf htf HTX hA0'
            have HTF := hide htf
            clear htf hwf
            by_cases hle : (ts.length : Int) ≤ z
            · have g1 : decide ((ts.length : Int) > z) = false := by simp; omega
              go_wp2_with fail
              obtain ⟨wB, hwB⟩ : ∃ wB, wB = wr.alloc (.cells #[.slice (A k) ts.length (C k), .int .i64 zw, .bool bd] 68) := ⟨_, rfl⟩
              rw [← hwB] at hA0' ⊢
              have HB1 : Hid (Below wr.heap.size wr wB) := by rw [hwB]; exact (Below.refl _ _).alloc (Nat.le_refl _) _
              have HB0 : Hid (wB.heap[wr.heap.size]? = some (.cells #[.slice (A k) ts.length (C k), .int .i64 zw, .bool bd] 68)) := by rw [hwB]; exact heap_new _ _
              have HTB := hide (HTX.out.later HB1.out HTX.out.2.1)
              have HBW := hide (below_here (below_here HBA.out HBB.out) HB1.out)
              have HBA1 := hide (below_here HBB.out HB1.out)
              clear hwB hA0' HTX
              refine (l1In_any zw 0 1000000 wB).mono ?_
              rintro e w1 ⟨rfl, rfl⟩
              by_cases hin : inB zw 0 1000000 = true
              · rw [hin]
                obtain ⟨d0, d1, d2⟩ := three_cells HB0.out
                go_wp2_with fail
                clear d0 d1 d2
                go_loopw [5] (fun i wq => ∃ j : Nat, j ≤ ts.length ∧ i = .int .i64 (j : Int) ∧ (ts.take j).all txOk = true ∧ Below wB.heap.size wB wq) (fun i _ => ts.length - (intOf i).toNat)
                case atStart => exact ⟨0, Nat.zero_le _, rfl, by simp, Below.refl _ _⟩
                case round =>
                  obtain ⟨j, hj, rfl, hal, hbq⟩ := hrel
                  obtain ⟨d0, d1, d2⟩ := three_cells (block_on HB0.out hbq)
                  have HAT := hide hal
                  have HBQ := hide hbq
                  clear hal
                  by_cases hjl : j < ts.length
                  · obtain ⟨_, _, hxx⟩ := HTB.out
                    obtain ⟨b2, off2, hAk, _, hb2, hc2⟩ := hxx (by omega)
                    have hcj : wr.cell? ⟨b2, off2 + j, none⟩ = some (.string (ts.getD j ByteArray.empty)) := (hbq.cell (p := ⟨b2, off2 + j, none⟩) (by show b2 < _; have := HTB.out.2.1; omega)).trans (hc2 j hjl)
                    rw [hAk] at d0
                    clear hxx hc2 hbq
                    have HFJ := hide (fun h => tx_all_fall (k := j) hjl h)
                    have HSJ := hide (fun h => tx_all_step (k := j) hjl HAT.out h)
                    have hx9 : (ts.getD j ByteArray.empty).size ≤ 9223372036854775807 := by
                      refine Nat.le_trans (HTF.out _ ?_) (by omega)
                      rw [List.getD_eq_getElem?_getD, List.getElem?_eq_getElem hjl]
                      exact List.getElem_mem _
                    have HNA : Hid (ts.all txOk = false → chipOk z qs = false) := fun h => HFA.out (by unfold sqOk; rw [h]; simp)
                    generalize ts.getD j ByteArray.empty = x at *
                    by_cases hx1 : 1 ≤ x.size
                    · by_cases hx2 : x.size ≤ 200
                      · have q1 : decide ((x.size : Int) < 1) = false := by simp; omega
                        have q2 : decide ((x.size : Int) > 200) = false := by simp; omega
                        have HOK := hide (HSJ.out (by unfold txOk; rw [decide_eq_true hx1, decide_eq_true hx2]; rfl))
                        go_wp2_with fail
                        exact ⟨⟨j + 1, by omega, by go_num, HOK.out, HBQ.out⟩, by simp [intOf]; omega⟩
                      · have q1 : decide ((x.size : Int) < 1) = false := by simp; omega
                        have q2 : decide ((x.size : Int) > 200) = true := by simp; omega
                        have HNO := hide (HNA.out (HFJ.out (by unfold txOk; rw [decide_eq_false hx2]; simp)))
                        go_wp2_with fail
                        go_ret
                        exact ⟨ret_bool HNO.out.symm, below_here HBW.out HBQ.out⟩
                    · have q1 : decide ((x.size : Int) < 1) = true := by simp; omega
                      have HNO := hide (HNA.out (HFJ.out (by unfold txOk; rw [decide_eq_false hx1]; simp)))
                      go_wp2_with fail
                      go_ret
                      exact ⟨ret_bool HNO.out.symm, below_here HBW.out HBQ.out⟩
                  · have HOK := hide (HST.out (by
                      have h9 := HAT.out
                      rw [List.take_of_length_le (by omega)] at h9
                      unfold sqOk
                      rw [decide_eq_true hle, hin, h9]; rfl))
                    go_wp2_with fail
                    exact ⟨⟨k + 1, by omega, by go_num, HOK.out, below_here HBA1.out HBQ.out⟩, by simp [intOf]; omega⟩
              · have hin' : inB zw 0 1000000 = false := by simpa using hin
                rw [hin']
                have HNO := hide (HFA.out (by unfold sqOk; rw [hin']; simp))
                go_wp2_with fail
                go_ret
                exact ⟨ret_bool HNO.out.symm, HBW.out⟩
            · have g1 : decide ((ts.length : Int) > z) = true := by simp; omega
              have HNO := hide (HFA.out (by unfold sqOk; rw [decide_eq_false hle]; rfl))
              go_wp2_with fail
              go_ret
              exact ⟨ret_bool HNO.out.symm, below_here (below_here HBA.out HBB.out) ((Below.refl wr.heap.size wr).alloc (Nat.le_refl _) _)⟩
          · go_wp2_with fail
            go_ret
            have hq := HL.out
            refine ⟨ret_bool ?_, below_here HBA.out HBB.out⟩
            have h9 := HAL.out
            rw [List.take_of_length_le (by omega)] at h9
            unfold chipOk
            rw [HZZ.out, h9, decide_eq_true (by omega), decide_eq_true (by omega)]
            rfl
      · have e1 : decide ((n : Int) < 1) = false := by simp; omega
        have e2 : decide ((n : Int) > 12) = true := by simp; omega
        have HNO : Hid (chipOk z qs = false) := by show _ = _; unfold chipOk; rw [HL.out, decide_eq_false h12]; simp
        go_enter Try.func35, Try.ntmps35
        go_wp2_with fail
        rw [← hwA]
        clear hwA
        refine (l1In_any z 1 8 wA).mono ?_
        rintro e w1 ⟨rfl, rfl⟩
        rw [hz]
        go_wp2_with fail
        go_ret
        exact ⟨ret_bool HNO.out.symm, HBA.out⟩
    · have e1 : decide ((n : Int) < 1) = true := by simp; omega
      have HNO : Hid (chipOk z qs = false) := by show _ = _; unfold chipOk; rw [HL.out, decide_eq_false h1]; simp
      go_enter Try.func35, Try.ntmps35
      go_wp2_with fail
      rw [← hwA]
      clear hwA
      refine (l1In_any z 1 8 wA).mono ?_
      rintro e w1 ⟨rfl, rfl⟩
      rw [hz]
      go_wp2_with fail
      go_ret
      exact ⟨ret_bool HNO.out.symm, HBA.out⟩
  · have hz' : inB z 1 8 = false := by simpa using hz
    have HNO : Hid (chipOk z qs = false) := by show _ = _; unfold chipOk; rw [hz']; rfl
    go_enter Try.func35, Try.ntmps35
    go_wp2_with fail
    rw [← hwA]
    clear hwA
    refine (l1In_any z 1 8 wA).mono ?_
    rintro e w1 ⟨rfl, rfl⟩
    rw [hz']
    go_wp2_with fail
    go_ret
    exact ⟨ret_bool HNO.out.symm, HBA.out⟩
end Go.Proofs.Ytceidhlcbbikcam
