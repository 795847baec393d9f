/- The model's l8Can. -/
import Derived.Test.YtceidhlcbbikcamChipOkS
namespace Go.Proofs.Ytceidhlcbbikcam
open Go.RowKit
set_option linter.unusedVariables false
set_option maxRecDepth 20000

def canK (z : Int) (q : Sq) (kd : Int) (tx : ByteArray) : Bool :=
  if kd = 1 then decide ((q.1.length : Int) < z) && txOk tx else if kd = 2 then decide (q.2.1 < 1000000) else decide (kd = 3)
def canJ (z : Int) (qs : List Sq) (j : Jb) : Bool := inB j.2.1 0 ((qs.length : Int) - 1) && (!(sqAt qs j.2.1.toNat).2.2 && canK z (sqAt qs j.2.1.toNat) j.1 j.2.2)

set_option maxHeartbeats 1600000 in
theorem l8Can_any (z : Int) (a : Option Addr) (n cap : Nat) (qs : List Sq) (kd sq : Int) (tx : ByteArray) (w : World) {lo hi : Nat} (h : Squares lo hi w a n qs) (hhi : hi ≤ w.heap.size) (hn : n ≤ 1048576) (hf : ∀ x ∈ qs, sqFits x) (htx : tx.size ≤ maxLen) :
    Calls Try.prog 65 #[.agg #[.int .i64 z, .slice a n cap], .agg #[.int .i64 kd, .int .i64 sq, .string tx]] w fun e w' => e = .returned (.bool (canJ z qs (kd, sq, tx))) ∧ Below w.heap.size w w' := by
  obtain ⟨wA, hwA⟩ : ∃ wA, wA = (w.alloc (.cells #[.int .i64 z, .slice a n cap] 31)).alloc (.cells #[.int .i64 kd, .int .i64 sq, .string tx] 34) := ⟨_, rfl⟩
  have hzA : wA.heap.size = w.heap.size + 1 + 1 := by rw [hwA]; simp
  have HBA : Hid (Below w.heap.size w wA) := by rw [hwA]; exact ((Below.refl _ _).alloc (Nat.le_refl _) _).alloc (by simp) _
  have H1 : Hid (wA.heap[w.heap.size]? = some (.cells #[.int .i64 z, .slice a n cap] 31)) := by rw [hwA]; exact heap_old (heap_new _ _)
  have H2 : Hid (wA.heap[w.heap.size + 1]? = some (.cells #[.int .i64 kd, .int .i64 sq, .string tx] 34)) := by rw [hwA]; exact heap_at (by simp)
  have HSQ := hide (h.later HBA.out hhi)
  have HL := hide h.1
  have HF := hide hf
  unfold maxLen at htx
  clear h hf
  go_enter Try.func65, Try.ntmps65
  go_wp2_with fail
  rw [← hwA]
  clear hwA
  refine (l1In_any sq 0 ((n : Int) - 1) wA).mono ?_
  rintro e w1 ⟨rfl, rfl⟩
  obtain ⟨a0, a1⟩ := two_cells H1.out
  obtain ⟨b0, b1, b2⟩ := three_cells H2.out
  by_cases hin : inB sq 0 ((n : Int) - 1) = true
  · rw [hin]
    have hin2 := hin
    unfold inB at hin2
    simp only [Bool.and_eq_true, decide_eq_true_eq] at hin2
    obtain ⟨i, rfl⟩ : ∃ i : Nat, sq = (i : Int) := ⟨sq.toNat, by omega⟩
    have hlt : i < n := by omega
    have hql : i < qs.length := by rw [HL.out]; exact hlt
    obtain ⟨_, A, C, hx, ht⟩ := HSQ.out
    obtain ⟨b, off, rfl, _, hb, hc⟩ := hx.2 (by omega)
    obtain ⟨c0, c1, c2⟩ := sq_cells hc (Below.refl wA.heap.size wA) (show b < wA.heap.size by have := hx.1; omega) hlt
    have hfi := sq_fits HF.out hql
    have hl9 := hfi.2.1
    unfold maxLen at hl9
    have HE : Hid (canJ z qs (kd, (i : Int), tx) = (!(sqAt qs i).2.2 && canK z (sqAt qs i) kd tx)) := by
      show _ = _
      unfold canJ
      dsimp only
      rw [HL.out, hin]
      simp
    clear hc hx ht hfi hin hin2
    generalize sqAt qs i = y at *
    obtain ⟨ts, zw, bd⟩ := y
    dsimp only at c0 c1 c2 hl9
    cases bd with
    | true =>
      go_wp2_with fail
      go_ret
      exact ⟨ret_bool (by rw [HE.out]; rfl), HBA.out⟩
    | false =>
      have hb0 : w.heap.size < wA.heap.size := by omega
      have hb1 : w.heap.size + 1 < wA.heap.size := by omega
      have HBB := hide ((Below.refl wA.heap.size wA).alloc (Nat.le_refl _) (.cells #[.slice (A i) ts.length (C i), .int .i64 zw, .bool false] 68))
      have a0' := (HBB.out.cell (p := ⟨w.heap.size, 0, none⟩) hb0).trans a0
      have b0' := (HBB.out.cell (p := ⟨w.heap.size + 1, 0, none⟩) hb1).trans b0
      have b2' := (HBB.out.cell (p := ⟨w.heap.size + 1, 2, none⟩) hb1).trans b2
      have HBF := hide (below_here HBA.out HBB.out)
      have HE2 : Hid (canJ z qs (kd, (i : Int), tx) = canK z (ts, zw, false) kd tx) := HE.out
      clear HE
      by_cases k1 : kd = 1
      · subst k1
        by_cases m1 : (ts.length : Int) < z
        · by_cases m2 : 1 ≤ tx.size
          · have g1 : decide ((ts.length : Int) < z) = true := by simpa using m1
            have g2 : decide ((1 : Int) ≤ (tx.size : Int)) = true := by simp; omega
            have g2' : decide ((tx.size : Int) ≥ 1) = true := g2
            have HV : Hid (canK z (ts, zw, false) 1 tx = decide ((tx.size : Int) ≤ 200)) := by
              show _ = _
              unfold canK txOk
              rw [if_pos rfl, g1, decide_eq_true m2]
              simp
              omega
            go_wp2_with fail
            go_ret
            exact ⟨ret_bool (by rw [HE2.out, HV.out]), HBF.out⟩
          · have g1 : decide ((ts.length : Int) < z) = true := by simpa using m1
            have g2 : decide ((1 : Int) ≤ (tx.size : Int)) = false := by simp; omega
            have g2' : decide ((tx.size : Int) ≥ 1) = false := g2
            have HV : Hid (canK z (ts, zw, false) 1 tx = false) := by
              show _ = _
              unfold canK txOk
              rw [if_pos rfl, decide_eq_false m2]
              simp
            go_wp2_with fail
            go_ret
            exact ⟨ret_bool (by rw [HE2.out, HV.out]), HBF.out⟩
        · have g1 : decide ((ts.length : Int) < z) = false := by simpa using m1
          have HV : Hid (canK z (ts, zw, false) 1 tx = false) := by
            show _ = _
            unfold canK
            rw [if_pos rfl, g1]
            rfl
          go_wp2_with fail
          go_ret
          exact ⟨ret_bool (by rw [HE2.out, HV.out]), HBF.out⟩
      · by_cases k2 : kd = 2
        · subst k2
          go_wp2_with fail
          go_ret
          exact ⟨ret_bool (by rw [HE2.out]; rfl), HBF.out⟩
        · have g1 : (kd == 1) = false := by simpa using k1
          have g2 : (kd == 2) = false := by simpa using k2
          have HV : Hid (canK z (ts, zw, false) kd tx = (kd == 3)) := by
            show _ = _
            unfold canK
            rw [if_neg k1, if_neg k2]
            rfl
          go_wp2_with fail
          go_ret
          exact ⟨ret_bool (by rw [HE2.out, HV.out]), HBF.out⟩
  · have hin' : inB sq 0 ((n : Int) - 1) = false := by simpa using hin
    rw [hin']
    have HNO : Hid (canJ z qs (kd, sq, tx) = false) := by show _ = _; unfold canJ; dsimp only; rw [HL.out, hin']; rfl
    go_wp2_with fail
    go_ret
    exact ⟨ret_bool HNO.out.symm, HBA.out⟩
end Go.Proofs.Ytceidhlcbbikcam
