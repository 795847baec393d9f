/- The model's Mount and Spoil, at every argument. -/
import Derived.Test.YtoocbagnfkgbfaaGreatDoorMMountSpec
import Derived.Test.YtoocbagnfkgbfaaGreatDoorMFtlSpecH
namespace Go.Proofs.YtoocbagnfkgbfaaGreatDoor
open Go.RowKit
set_option linter.unusedVariables false
set_option maxRecDepth 20000

set_option maxHeartbeats 3200000 in
theorem specMount_any (z : Int) (a : Option Addr) (n cap : Nat) (qs : List Sq) (N : Int) (w : World) {lo hi : Nat} (h : Squares lo hi w a n qs) (hhi : hi ≤ w.heap.size) (hn : n ≤ 1048576) (hf : ∀ x ∈ qs, sqFits x) :
    Calls Tryz.prog 27 #[.agg #[.int .i64 z, .slice a n cap], .int .i64 N] w fun e w' => ∃ v, e = .returned v ∧ FtlAns w (mountF z qs N) v w' := by
  obtain ⟨fv, hfv⟩ : ∃ fv : Fv, fv = mountF z qs N := ⟨_, rfl⟩
  have HFV := hide hfv
  rw [← hfv]
  clear hfv
  obtain ⟨wA, hwA⟩ : ∃ wA, wA = (w.alloc (.cells #[.int .i64 z, .slice a n cap] 26)).alloc (.cells #[.int .i64 0, .slice none 0 0, .slice none 0 0, .int .i64 0, .int .i64 0] 29) := ⟨_, rfl⟩
  have hzA : wA.heap.size = w.heap.size + 1 + 1 := by rw [hwA]; simp
  have HBA : Hid (Below w.heap.size w wA) := by rw [hwA]; exact ((Below.refl _ _).alloc (Nat.le_refl _) _).alloc (by simp) _
  have H0 : Hid (wA.heap[w.heap.size]? = some (.cells #[.int .i64 z, .slice a n cap] 26)) := by rw [hwA]; exact heap_old (heap_new _ _)
  have H1 : Hid (wA.heap[w.heap.size + 1]? = some (.cells #[.int .i64 0, .slice none 0 0, .slice none 0 0, .int .i64 0, .int .i64 0] 29)) := by rw [hwA]; exact heap_at (by simp)
  have HSQ := hide (h.later HBA.out hhi)
  have HLQ := hide h.1
  have HFI := hide hf
  clear h hf
  obtain ⟨d0, d1⟩ := two_cells H0.out
  go_enter Tryz.func27, Tryz.ntmps27
  go_wp2_with fail
  rw [← hwA]
  clear hwA
  refine (specChipOk_any z a n cap qs wA HSQ.out (by omega) hn HFI.out).mono ?_
  rintro e w1 ⟨rfl, b1⟩
  have K0 := hide (block_on H0.out b1)
  have K1 := hide (block_on H1.out b1)
  have HS1 := hide (HSQ.out.later b1 (by omega))
  have HB1 := hide (below_here HBA.out b1)
  have hs1 := b1.size
  clear b1 H0 H1 HSQ HBA d0 d1
  obtain ⟨p0, p1, p2, p3, p4⟩ := five_cells K1.out
  have f0 := four_frozen K1.out 0
  have f1 := four_frozen K1.out 1
  have f2 := four_frozen K1.out 2
  have f3 := four_frozen K1.out 3
  have f4 := four_frozen K1.out 4
  have HRS := hide (five_set K1.out (.int .i64 0) (.slice none 0 0) (.slice none 0 0) (.int .i64 0) (.int .i64 0))
  have HAS := hide (five_aside (b := w.heap.size + 1) (Aside.refl (w.heap.size + 1) (w.heap.size + 1 + 1) w1) (Nat.le_refl _) (Nat.lt_succ_self _) (.int .i64 0) (.slice none 0 0) (.slice none 0 0) (.int .i64 0) (.int .i64 0))
  have HBF := hide (HB1.out.trans (HAS.out.below (B := w.heap.size) (by omega) (by omega)))
  cases hok : chipOk z qs with
  | false =>
    have HFE : Hid (fv = ⟨0, [], [], 0, 0⟩) := by show _ = _; rw [HFV.out]; unfold mountF; rw [hok]; rfl
    go_wp2_with fail
    refine bodyPost_ret (results_cell rfl rfl (run_loadVar_row _ _ _ _ _ _ _ HRS.out Tryz.underlying29 rfl (by kernel_rfl))) rfl ⟨_, rfl, none, 0, none, 0, by rw [HFE.out]; rfl, ⟨Nat.le_refl _, .inl ?_⟩, HBF.out, by rw [HFE.out]; exact Nat.le_refl _⟩
    rw [HFE.out]; exact ⟨rfl, rfl⟩
  | true =>
    go_wp2_with fail
    refine (l1In_any N 1 64 w1).mono ?_
    rintro e w2 ⟨rfl, rfl⟩
    cases hin : inB N 1 64 with
    | false =>
      have HFE : Hid (fv = ⟨0, [], [], 0, 0⟩) := by show _ = _; rw [HFV.out]; unfold mountF; rw [hok, hin]; rfl
      go_wp2_with fail
      refine bodyPost_ret (results_cell rfl rfl (run_loadVar_row _ _ _ _ _ _ _ HRS.out Tryz.underlying29 rfl (by kernel_rfl))) rfl ⟨_, rfl, none, 0, none, 0, by rw [HFE.out]; rfl, ⟨Nat.le_refl _, .inl ?_⟩, HBF.out, by rw [HFE.out]; exact Nat.le_refl _⟩
      rw [HFE.out]; exact ⟨rfl, rfl⟩
    | true =>
      have hn' : 1 ≤ N ∧ N ≤ 64 := by unfold inB at hin; simpa using hin
      obtain ⟨M, rfl⟩ : ∃ M : Nat, N = (M : Int) := ⟨N.toNat, by omega⟩
      have HFE : Hid (fv = ⟨z, qs, (mtAll M qs).ps, -1, (mtAll M qs).S⟩) := by show _ = _; rw [HFV.out]; unfold mountF; rw [hok, hin]; simp
      have HOK := hide hok
      have hM1 : 1 ≤ M := by omega
      have hM2 : M ≤ 64 := by omega
      clear hok hin hn' HRS HAS HBF p0 p1 p2 p3 p4 f0 f1 f2 f3 f4
      obtain ⟨d0, d1⟩ := two_cells K0.out
      go_wp2_with fail
      refine (l11Mount_any z a n cap qs M w1 HS1.out (by omega) HOK.out hM1 hM2).mono ?_
      rintro e w3 ⟨v, rfl, a', c', am', cm', rfl, ho, hb, hcap⟩
      have K3 := hide (block_on K1.out hb)
      have HB3 := hide (below_here HB1.out hb)
      have HO3 := hide ho
      have HCP := hide hcap
      have hs3 := hb.size
      clear ho hb hcap d0 d1
      unfold fvV
      dsimp only at HO3 HCP ⊢
      obtain ⟨L, hL⟩ : ∃ L, L = (mtAll M qs).ps.length := ⟨_, rfl⟩
      obtain ⟨S, hS⟩ : ∃ S, S = (mtAll M qs).S := ⟨_, rfl⟩
      have HLL := hide hL
      have HSS := hide hS
      rw [← hL, ← hS, HLQ.out]
      clear hL hS
      obtain ⟨p0, p1, p2, p3, p4⟩ := five_cells K3.out
      have f0 := four_frozen K3.out 0
      have f1 := four_frozen K3.out 1
      have f2 := four_frozen K3.out 2
      have f3 := four_frozen K3.out 3
      have f4 := four_frozen K3.out 4
      have HRS := hide (five_set K3.out (.int .i64 z) (.slice a' n c') (.slice am' L cm') (.int .i64 (-1)) (.int .i64 S))
      have HAS := hide (five_aside (b := w.heap.size + 1) (Aside.refl (w.heap.size + 1) (w.heap.size + 1 + 1) w3) (Nat.le_refl _) (Nat.lt_succ_self _) (.int .i64 z) (.slice a' n c') (.slice am' L cm') (.int .i64 (-1)) (.int .i64 S))
      have HBF := hide (HB3.out.trans (HAS.out.below (B := w.heap.size) (by omega) (by omega)))
      go_wp2_with fail
      refine bodyPost_ret (results_cell rfl rfl (run_loadVar_row _ _ _ _ _ _ _ HRS.out Tryz.underlying29 rfl (by kernel_rfl))) rfl ⟨_, rfl, a', c', am', cm', ?_, ?_, HBF.out, ?_⟩
      · rw [HFE.out]; unfold fvV; dsimp only; rw [HLQ.out, ← HLL.out, ← HSS.out]
      · rw [HFE.out]
        exact (HO3.out.aside HAS.out (.inl (by omega))).wide (by omega) HAS.out.size (Nat.le_refl _)
      · rw [HFE.out]; exact HCP.out
end Go.Proofs.YtoocbagnfkgbfaaGreatDoor
