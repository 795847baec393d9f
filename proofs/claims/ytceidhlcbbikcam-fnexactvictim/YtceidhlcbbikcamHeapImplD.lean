/- container/heap at the program's ranking: Push, Pop; takeNext. -/
import Derived.Test.YtceidhlcbbikcamHeapImplC
namespace Go.Proofs.Ytceidhlcbbikcam
open Go.RowKit
set_option linter.unusedVariables false
set_option maxRecDepth 20000

theorem HeapR.upd {n : Nat} {f : Nat → Rk} (h : HeapR n f) (x : Rk) : HeapR n (upd f n x) := by
  intro k h1 h2
  rw [upd_other _ _ (show k ≠ n by omega), upd_other _ _ (show (k - 1) / 2 ≠ n by omega)]
  exact h k h1 h2

set_option maxHeartbeats 1600000 in
theorem heapPush_any (B p g n cap : Nat) (f : Nat → Rk) (x : Rk) (w : World) (h : Rkg B w p g n cap f) (hh : HeapR n f) (hn : n < 1048576) (hB : B ≤ w.heap.size) :
    Calls Try.prog 60 #[.iface 86 (.pointer (some ⟨p, 0, none⟩)), .iface 91 (rkV x)] w fun e w' => e = .returned (.tuple #[]) ∧ ∃ g' cap' f', Rkg B w' p g' (n + 1) cap' f' ∧ HeapR (n + 1) f' ∧ SameR (n + 1) (upd f n x) f' ∧ Below B w w' := by
  have HR := hide h
  have HH := hide hh
  have q0 := Try.toPush p
  clear h hh
  go_enter Try.func60, Try.ntmps60
  go_wp2_with fail
  refine (rkPush_any B p g n cap f x w HR.out hn hB).mono ?_
  rintro e w1 ⟨rfl, g', cap', r1, b1⟩
  have HR1 := hide r1
  have HB1 := hide b1
  have hs1 := b1.size
  have hcell := rk_cell1 r1.cell
  have q1 := Try.toLen p _ w1 hcell
  clear r1 b1 q0
  go_wp2_with fail
  refine (rkLen_any _ (n + 1) cap' w1 (by omega)).mono ?_
  rintro e w2 ⟨rfl, rfl⟩
  clear q1 hcell
  go_wp2_with fail
  refine (up_any B p g' (n + 1) cap' (upd f n x) n w1 HR1.out (by omega) (UpR.start (HH.out.upd x)) (by omega)).mono ?_
  rintro e w2 ⟨rfl, f', r2, h2, s2, a2⟩
  have HR2 := hide r2
  have HH2 := hide h2
  have HS2 := hide s2
  have HB2 := hide (HB1.out.trans (a2.below (rk_lt HR1.out.row).1 (by omega)))
  clear r2 h2 s2 a2
  go_wp2_with fail
  go_end0
  exact ⟨rfl, g', cap', f', HR2.out, HH2.out, HS2.out, HB2.out⟩

set_option maxHeartbeats 1600000 in
theorem heapPop_any (B p g n cap : Nat) (f : Nat → Rk) (H : Nat) (w : World) (h : Rkg B w p g (n + 1) cap f) (hh : HeapR (n + 1) f) (hn : n < 1048576) (hpH : p < H) (hgH : g < H) :
    Calls Try.prog 80 #[.iface 86 (.pointer (some ⟨p, 0, none⟩))] w fun e w' => e = .returned (.iface 91 (rkV (f 0))) ∧ ∃ f', Rkg B w' p g n cap f' ∧ HeapR n f' ∧ SameR n (swp f 0 n) f' ∧ Aside B H w w' := by
  have HR := hide h
  have HH := hide hh
  have hcell := rk_cell1 h.cell
  have q1 := Try.toLen p _ w hcell
  have q2 := Try.toSwap p _ w hcell
  clear h hh
  go_enter Try.func80, Try.ntmps80
  go_wp2_with fail
  refine (rkLen_any _ (n + 1) cap w (by omega)).mono ?_
  rintro e w1 ⟨rfl, rfl⟩
  go_wp2_with fail
  refine (rkSwap_any B g (n + 1) cap f 0 n w HR.out.row (by omega) (by omega) (by omega)).mono ?_
  rintro e w1 ⟨rfl, r1, a1⟩
  have HR1 : Hid (Rkg B w1 p g (n + 1) cap (swp f 0 n)) := ⟨r1, (a1.block p HR.out.ltP (by have := HR.out.apart; omega)).trans HR.out.cell, HR.out.atP⟩
  have hgB := (rk_lt HR.out.row).1
  have hpB := HR.out.atP
  have HA1 := hide (a1.widen (lo' := B) (hi' := H) hgB (by omega))
  have HD1 : Hid (DownR n (swp f 0 n) 0) := DownR.start HH.out (fun k h1 h2 => swp_o f 0 n (by omega) (by omega))
  clear r1 a1 q1 q2 hcell
  go_wp2_with fail
  refine (down_any B p g (n + 1) cap (swp f 0 n) n w1 HR1.out (by omega) HD1.out (by omega)).mono ?_
  rintro e w2 ⟨v, rfl, f', r2, h2, s2, k2, a2⟩
  have HR2 := hide r2
  have HH2 := hide h2
  have HS2 := hide s2
  have HE : Hid (f' n = f 0) := by show _ = _; rw [k2 n (Nat.le_refl _), swp_r]
  have HA2 := hide (HA1.out.trans (a2.widen (lo' := B) (hi' := H) hgB (by omega)))
  have q0 := Try.toPop p
  clear r2 h2 s2 k2 a2
  go_wp2_with fail
  refine (rkPop_any B p g n cap f' w2 HR2.out hn).mono ?_
  rintro e w3 ⟨rfl, r3, a3⟩
  have HR3 := hide r3
  have HA3 := hide (HA2.out.trans (a3.widen (lo' := B) (hi' := H) hpB (by omega)))
  rw [HE.out]
  clear r3 a3
  go_wp2_with fail
  go_ret
  exact ⟨rfl, f', HR3.out, HH2.out, HS2.out, HA3.out⟩

set_option maxHeartbeats 1600000 in
theorem takeNext_any (B p g n cap : Nat) (f : Nat → Rk) (H : Nat) (w : World) (h : Rkg B w p g (n + 1) cap f) (hh : HeapR (n + 1) f) (hn : n < 1048576) (hpH : p < H) (hgH : g < H) :
    Calls Try.prog 62 #[.pointer (some ⟨p, 0, none⟩)] w fun e w' => e = .returned (rkV (f 0)) ∧ ∃ f', Rkg B w' p g n cap f' ∧ HeapR n f' ∧ SameR n (swp f 0 n) f' ∧ Aside B H w w' := by
  obtain ⟨wA, hwA⟩ : ∃ wA, wA = w.alloc (.cells #[.int .i64 0, .int .i64 0, .int .i64 0] 91) := ⟨_, rfl⟩
  have hzA : wA.heap.size = w.heap.size + 1 := by rw [hwA]; simp
  have HBA : Hid (Below w.heap.size w wA) := by rw [hwA]; exact (Below.refl _ _).alloc (Nat.le_refl _) _
  have H1 : Hid (wA.heap[w.heap.size]? = some (.cells #[.int .i64 0, .int .i64 0, .int .i64 0] 91)) := by rw [hwA]; exact heap_new _ _
  have HRA := hide (h.later HBA.out)
  have HH := hide hh
  have hsp := h.ltP
  have hsg := (rk_lt h.row).2
  clear h hh
  go_enter Try.func62, Try.ntmps62
  go_wp2_with fail
  rw [← hwA]
  clear hwA
  refine (heapPop_any B p g n cap f (min H w.heap.size) wA HRA.out HH.out hn (by omega) (by omega)).mono ?_
  rintro e w1 ⟨rfl, f', r1, h1, s1, a1⟩
  have HR1 := hide r1
  have HH1 := hide h1
  have HS1 := hide s1
  have HA1 := hide (((Aside.ofBelow HBA.out : Aside B (min H w.heap.size) w wA).trans a1).widen (lo' := B) (hi' := H) (Nat.le_refl _) (Nat.min_le_left _ _))
  have K1 : Hid (w1.heap[w.heap.size]? = some (.cells #[.int .i64 0, .int .i64 0, .int .i64 0] 91)) := (a1.block w.heap.size (by omega) (.inr (Nat.min_le_right _ _))).trans H1.out
  have q0 := Try.asRk (rkV (f 0))
  obtain ⟨c0, c1, c2⟩ := three_cells K1.out
  have f0 := four_frozen K1.out 0
  have f1 := four_frozen K1.out 1
  have f2 := four_frozen K1.out 2
  have hs1 := HA1.out.size
  clear r1 h1 s1 a1
  go_wp2_with fail
  have HSET := hide (set_block (set_block (set_block K1.out 0 (.int .i64 (f 0).1) (by simp)) 1 (.int .i64 (f 0).2.1) (by simp)) 2 (.int .i64 (f 0).2.2) (by simp))
  have HAS := hide ((((Aside.refl w.heap.size (w.heap.size + 1) w1).setCell (p := ⟨w.heap.size, 0, none⟩) (Nat.le_refl _) (Nat.lt_succ_self _) (.int .i64 (f 0).1)).setCell (p := ⟨w.heap.size, 1, none⟩) (Nat.le_refl _) (Nat.lt_succ_self _) (.int .i64 (f 0).2.1)).setCell (p := ⟨w.heap.size, 2, none⟩) (Nat.le_refl _) (Nat.lt_succ_self _) (.int .i64 (f 0).2.2))
  refine bodyPost_ret (results_cell rfl rfl (run_loadVar_row _ _ _ _ _ _ _ HSET.out Try.underlying91 rfl (by kernel_rfl))) rfl ⟨rfl, f', HR1.out.keep (HAS.out.block p HR1.out.ltP (by omega)) (HAS.out.block g (rk_lt HR1.out.row).2 (by omega)), HH1.out, HS1.out, HA1.out.thenNew HAS.out (Nat.le_refl _)⟩
end Go.Proofs.Ytceidhlcbbikcam
