/- Several texts in one: CacheDrop, CacheDropFit. -/
import Derived.Test.YtfabojbkhicpmaaGreatDoorXFtlImplH
import Derived.Test.YtfabojbkhicpmaaGreatDoorXMountSpec
import Derived.Test.YtfabojbkhicpmaaGreatDoorXMountImpl
import Derived.Deep.RegionWith
import Derived.Test.YtfabojbkhicpmaaGreatDoorXFtlOwnP
section
namespace Go.Proofs.YtfabojbkhicpmaaGreatDoor
open Go.RowKit
set_option linter.unusedVariables false
set_option maxRecDepth 20000

def dropF (c : Cv) : Cv := if cacheOk c then ⟨c.rm, [], ⟨c.f.z, c.f.qs, (mtAll c.f.ps.length c.f.qs).ps, -1, (mtAll c.f.ps.length c.f.qs).S⟩⟩ else zeroC

set_option maxHeartbeats 3200000 in
theorem specDropped_any (rm : Int) (ai : Option Addr) (ni ci : Nat) (ys : List Hd) (z : Int) (a : Option Addr) (n cap : Nat) (qs : List Sq) (am : Option Addr) (m cm : Nat) (ps : List Pl) (op st : Int) (w : World) {l1 r1 lo hi lo' hi' : Nat} (hy : Helds l1 r1 w ai ni ys) (hr1 : r1 ≤ w.heap.size) (hni : ni ≤ 1048576) (hfy : ∀ x ∈ ys, hdFits x) (h : Squares lo hi w a n qs) (hhi : hi ≤ w.heap.size) (hn : n ≤ 1048576) (hf : ∀ x ∈ qs, sqFits x) (hp : Places lo' hi' w am m ps) (hhi' : hi' ≤ w.heap.size) (hm : m ≤ 1048576) :
    Calls Tryz.prog 61 #[.agg #[.int .i64 rm, .slice ai ni ci, .int .i64 z, .slice a n cap, .slice am m cm, .int .i64 op, .int .i64 st]] w fun e w' => ∃ v, e = .returned v ∧ CacheAns w (dropF ⟨rm, ys, ⟨z, qs, ps, op, st⟩⟩) v w' := by
  obtain ⟨cv, hcv⟩ : ∃ cv, cv = dropF ⟨rm, ys, ⟨z, qs, ps, op, st⟩⟩ := ⟨_, rfl⟩
  have HCV := hide hcv
  rw [← hcv]
  clear hcv
  obtain ⟨wA, hwA⟩ : ∃ wA, wA = (w.alloc (.cells #[.int .i64 rm, .slice ai ni ci, .int .i64 z, .slice a n cap, .slice am m cm, .int .i64 op, .int .i64 st] 69)).alloc (.cells #[.int .i64 0, .slice none 0 0, .int .i64 0, .slice none 0 0, .slice none 0 0, .int .i64 0, .int .i64 0] 69) := ⟨_, rfl⟩
  have hzA : wA.heap.size = w.heap.size + 1 + 1 := by rw [hwA]; simp
  have HBA : Hid (Below w.heap.size w wA) := by rw [hwA]; exact ((Below.refl _ _).alloc (Nat.le_refl _) _).alloc (by simp) _
  have H0 : Hid (wA.heap[w.heap.size]? = some (.cells #[.int .i64 rm, .slice ai ni ci, .int .i64 z, .slice a n cap, .slice am m cm, .int .i64 op, .int .i64 st] 69)) := by rw [hwA]; exact heap_old (heap_new _ _)
  have H1 : Hid (wA.heap[w.heap.size + 1]? = some (.cells #[.int .i64 0, .slice none 0 0, .int .i64 0, .slice none 0 0, .slice none 0 0, .int .i64 0, .int .i64 0] 69)) := by rw [hwA]; exact heap_at (by simp)
  have HYA := hide (hy.later HBA.out hr1)
  have HSA := hide (h.later HBA.out hhi)
  have HPA := hide (hp.later HBA.out hhi')
  have HF := hide hf
  have HFY := hide hfy
  have hlq := h.1
  have hlp := hp.1
  clear h hp hf hy hfy
  obtain ⟨c0, c1, c2, c3, c4, c5, c6⟩ := seven_cells H0.out
  go_enter Tryz.func61, Tryz.ntmps61
  go_wp2_with fail
  rw [← hwA]
  clear hwA
  refine (specCacheOk_any rm ai ni ci ys z a n cap qs am m cm ps op st wA HYA.out (by omega) hni HFY.out HSA.out (by omega) hn HF.out HPA.out (by omega) hm).mono ?_
  rintro e w2 ⟨rfl, b2⟩
  have K0 := hide (block_on H0.out b2)
  have K1 := hide (block_on H1.out b2)
  have HB2 := hide (below_here HBA.out b2)
  have HS2 := hide (HSA.out.later b2 (by omega))
  have hs2 := b2.size
  clear b2 c0 c1 c2 c3 c4 c5 c6
  obtain ⟨c0, c1, c2, c3, c4, c5, c6⟩ := seven_cells K0.out
  cases hco : cacheOk ⟨rm, ys, ⟨z, qs, ps, op, st⟩⟩ with
  | false =>
    have HCE : Hid (cv = zeroC) := by show _ = _; rw [HCV.out]; unfold dropF; rw [hco]; rfl
    obtain ⟨d0, d1, d2, d3, d4, d5, d6⟩ := seven_cells K1.out
    have f0 := four_frozen K1.out 0
    have f1 := four_frozen K1.out 1
    have f2 := four_frozen K1.out 2
    have f3 := four_frozen K1.out 3
    have f4 := four_frozen K1.out 4
    have f5 := four_frozen K1.out 5
    have f6 := four_frozen K1.out 6
    have HRS := hide (seven_set K1.out (.int .i64 0) (.slice none 0 0) (.int .i64 0) (.slice none 0 0) (.slice none 0 0) (.int .i64 0) (.int .i64 0))
    have HAS := hide (seven_aside (b := w.heap.size + 1) (Aside.refl (w.heap.size + 1) (w.heap.size + 1 + 1) w2) (Nat.le_refl _) (Nat.lt_succ_self _) (.int .i64 0) (.slice none 0 0) (.int .i64 0) (.slice none 0 0) (.slice none 0 0) (.int .i64 0) (.int .i64 0))
    have HBF := hide (HB2.out.trans (HAS.out.below (B := w.heap.size) (by omega) (by omega)))
    go_wp2_with fail
    refine bodyPost_ret (results_cell rfl rfl (run_loadVar_row _ _ _ _ _ _ _ HRS.out Tryz.underlying69 rfl (by kernel_rfl))) rfl ⟨_, rfl, ?_⟩
    rw [HCE.out]
    exact ⟨none, 0, none, 0, none, 0, rfl, cache_zero _ _, HBF.out, Nat.le_refl _⟩
  | true =>
    have hC := cacheOk_iff.1 hco
    have hfo : ftlOk z qs ps op st = true := hC.ftl
    obtain ⟨hmo, _, _, _, _, _, _⟩ := ftlOk_parts hfo
    have hm64 : m ≤ 64 := by have := (mapOk_len hmo).2; rw [hlp] at this; exact this
    have hm1 : 1 ≤ m := by have := (mapOk_len hmo).1; rw [hlp] at this; exact this
    have HCK := hide (mapOk_chip hmo)
    obtain ⟨S, hS⟩ : ∃ S, S = (mtAll m qs).S := ⟨_, rfl⟩
    obtain ⟨MP, hMP⟩ : ∃ MP, MP = (mtAll m qs).ps := ⟨_, rfl⟩
    have HCE : Hid (cv = ⟨rm, [], ⟨z, qs, MP, -1, S⟩⟩) := by show _ = _; rw [HCV.out]; unfold dropF; rw [hco]; dsimp only; rw [hlp, ← hS, ← hMP]; rfl
    clear hmo hco hC hfo
    have HM : ∀ W, Hid (Below w2.heap.size w2 W → Calls Tryz.prog 108 #[.agg #[.int .i64 z, .slice a n cap], .int .i64 (m : Int)] W fun e w' => ∃ v, e = .returned v ∧ FtlAns W ⟨z, qs, MP, -1, S⟩ v w') := fun W hb => by
      have h9 := l11Mount_any z a n cap qs m W (HS2.out.later hb (by omega)) (by have := hb.size; omega) HCK.out hm1 hm64
      rw [← hS, ← hMP] at h9
      exact h9
    clear hS hMP
    have hm9 : m ≤ 281474976710656 := by omega
    go_upto_region 3 with fail
    go_region_with (go_at_call 108; refine ((HM _).out (by exact (Below.refl w2.heap.size w2).drew)).mono ?_; rintro e w5 ⟨v, rfl, a', c', am', cm', rfl, ho5, b5, hcap5⟩; unfold fvV; dsimp only; rw [hlq]; have HO5 := hide (cache_of_ftl ho5); have HC5 := hide hcap5; have M0 := hide (block_on (w := w2.drew) K0.out b5); have M1 := hide (block_on (w := w2.drew) K1.out b5); have HB5 : Hid (Below w.heap.size w w5) := below_here (show Below w.heap.size w w2.drew from HB2.out.drew) b5; have hs5 : w2.heap.size ≤ w5.heap.size := b5.size; clear ho5 b5 hcap5; obtain ⟨y0, y1, y2, y3, y4, y5, y6⟩ := seven_cells M0.out; obtain ⟨d0, d1, d2, d3, d4, d5, d6⟩ := seven_cells M1.out; have f0 := four_frozen M1.out 0; have f1 := four_frozen M1.out 1; have f2 := four_frozen M1.out 2; have f3 := four_frozen M1.out 3; have f4 := four_frozen M1.out 4; have f5 := four_frozen M1.out 5; have f6 := four_frozen M1.out 6)
    all_goals
      have HRS := hide (seven_set M1.out (.int .i64 rm) (.slice none 0 0) (.int .i64 z) (.slice a' n c') (.slice am' MP.length cm') (.int .i64 (-1)) (.int .i64 S))
      have HAS := hide (seven_aside (b := w.heap.size + 1) (Aside.refl (w.heap.size + 1) (w.heap.size + 1 + 1) w5) (Nat.le_refl _) (Nat.lt_succ_self _) (.int .i64 rm) (.slice none 0 0) (.int .i64 z) (.slice a' n c') (.slice am' MP.length cm') (.int .i64 (-1)) (.int .i64 S))
      have HBF := hide (HB5.out.trans (HAS.out.below (B := w.heap.size) (by omega) (by omega)))
      go_wp2_with fail
      refine bodyPost_ret (results_cell rfl rfl (run_loadVar_row _ _ _ _ _ _ _ HRS.out Tryz.underlying69 rfl (by kernel_rfl))) rfl ⟨_, rfl, none, 0, a', c', am', cm', ?_, ?_, HBF.out, by rw [HCE.out]; exact HC5.out⟩
      · rw [HCE.out]; unfold cvV; dsimp only; rw [hlq]; rfl
      · rw [HCE.out]; exact cache_stored HO5.out HAS.out (by show w.heap.size + 1 + 1 ≤ w2.heap.size; omega) (by show w.heap.size ≤ w2.heap.size; omega)

set_option maxHeartbeats 3200000 in
theorem implDropped_any (rm : Int) (ai : Option Addr) (ni ci : Nat) (ys : List Hd) (z : Int) (a : Option Addr) (n cap : Nat) (qs : List Sq) (am : Option Addr) (m cm : Nat) (ps : List Pl) (op st : Int) (w : World) {l1 r1 lo hi lo' hi' : Nat} (hy : Helds l1 r1 w ai ni ys) (hr1 : r1 ≤ w.heap.size) (hni : ni ≤ 1048576) (hfy : ∀ x ∈ ys, hdFits x) (h : Squares lo hi w a n qs) (hhi : hi ≤ w.heap.size) (hn : n ≤ 1048576) (hf : ∀ x ∈ qs, sqFits x) (hp : Places lo' hi' w am m ps) (hhi' : hi' ≤ w.heap.size) (hm : m ≤ 1048576) (hcl : m ≤ cm) (hT : Tab w) {aB aL aS aC aF : Addr} (E : Errs w aB aL aS aC aF) :
    Calls Tryz.prog 60 #[.agg #[.int .i64 rm, .slice ai ni ci, .int .i64 z, .slice a n cap, .slice am m cm, .int .i64 op, .int .i64 st]] w fun e w' => ∃ v, e = .returned v ∧ CacheAns w (dropF ⟨rm, ys, ⟨z, qs, ps, op, st⟩⟩) v w' := by
  obtain ⟨cv, hcv⟩ : ∃ cv, cv = dropF ⟨rm, ys, ⟨z, qs, ps, op, st⟩⟩ := ⟨_, rfl⟩
  have HCV := hide hcv
  rw [← hcv]
  clear hcv
  obtain ⟨wA, hwA⟩ : ∃ wA, wA = (w.alloc (.cells #[.int .i64 rm, .slice ai ni ci, .int .i64 z, .slice a n cap, .slice am m cm, .int .i64 op, .int .i64 st] 69)).alloc (.cells #[.int .i64 0, .slice none 0 0, .int .i64 0, .slice none 0 0, .slice none 0 0, .int .i64 0, .int .i64 0] 69) := ⟨_, rfl⟩
  have hzA : wA.heap.size = w.heap.size + 1 + 1 := by rw [hwA]; simp
  have HBA : Hid (Below w.heap.size w wA) := by rw [hwA]; exact ((Below.refl _ _).alloc (Nat.le_refl _) _).alloc (by simp) _
  have H0 : Hid (wA.heap[w.heap.size]? = some (.cells #[.int .i64 rm, .slice ai ni ci, .int .i64 z, .slice a n cap, .slice am m cm, .int .i64 op, .int .i64 st] 69)) := by rw [hwA]; exact heap_old (heap_new _ _)
  have H1 : Hid (wA.heap[w.heap.size + 1]? = some (.cells #[.int .i64 0, .slice none 0 0, .int .i64 0, .slice none 0 0, .slice none 0 0, .int .i64 0, .int .i64 0] 69)) := by rw [hwA]; exact heap_at (by simp)
  have HYA := hide (hy.later HBA.out hr1)
  have HSA := hide (h.later HBA.out hhi)
  have HPA := hide (hp.later HBA.out hhi')
  have HF := hide hf
  have HFY := hide hfy
  have hlq := h.1
  have hlp := hp.1
  have HTA := hide (hT.here HBA.out)
  have HEA := hide (E.here HBA.out)
  clear hT E
  clear h hp hf hy hfy
  obtain ⟨c0, c1, c2, c3, c4, c5, c6⟩ := seven_cells H0.out
  go_enter Tryz.func60, Tryz.ntmps60
  go_wp2_with fail
  rw [← hwA]
  clear hwA
  refine (implCacheOk_any rm ai ni ci ys z a n cap qs am m cm ps op st wA HYA.out (by omega) hni HFY.out HSA.out (by omega) hn HF.out HPA.out (by omega) hm hcl HTA.out HEA.out).mono ?_
  rintro e w2 ⟨rfl, b2⟩
  have K0 := hide (block_on H0.out b2)
  have K1 := hide (block_on H1.out b2)
  have HB2 := hide (below_here HBA.out b2)
  have HS2 := hide (HSA.out.later b2 (by omega))
  have hs2 := b2.size
  have HT2 := hide (HTA.out.here b2)
  have HE2 := hide (HEA.out.here b2)
  clear b2 c0 c1 c2 c3 c4 c5 c6
  obtain ⟨c0, c1, c2, c3, c4, c5, c6⟩ := seven_cells K0.out
  cases hco : cacheOk ⟨rm, ys, ⟨z, qs, ps, op, st⟩⟩ with
  | false =>
    have HCE : Hid (cv = zeroC) := by show _ = _; rw [HCV.out]; unfold dropF; rw [hco]; rfl
    obtain ⟨d0, d1, d2, d3, d4, d5, d6⟩ := seven_cells K1.out
    have f0 := four_frozen K1.out 0
    have f1 := four_frozen K1.out 1
    have f2 := four_frozen K1.out 2
    have f3 := four_frozen K1.out 3
    have f4 := four_frozen K1.out 4
    have f5 := four_frozen K1.out 5
    have f6 := four_frozen K1.out 6
    have HRS := hide (seven_set K1.out (.int .i64 0) (.slice none 0 0) (.int .i64 0) (.slice none 0 0) (.slice none 0 0) (.int .i64 0) (.int .i64 0))
    have HAS := hide (seven_aside (b := w.heap.size + 1) (Aside.refl (w.heap.size + 1) (w.heap.size + 1 + 1) w2) (Nat.le_refl _) (Nat.lt_succ_self _) (.int .i64 0) (.slice none 0 0) (.int .i64 0) (.slice none 0 0) (.slice none 0 0) (.int .i64 0) (.int .i64 0))
    have HBF := hide (HB2.out.trans (HAS.out.below (B := w.heap.size) (by omega) (by omega)))
    go_wp2_with fail
    refine bodyPost_ret (results_cell rfl rfl (run_loadVar_row _ _ _ _ _ _ _ HRS.out Tryz.underlying69 rfl (by kernel_rfl))) rfl ⟨_, rfl, ?_⟩
    rw [HCE.out]
    exact ⟨none, 0, none, 0, none, 0, rfl, cache_zero _ _, HBF.out, Nat.le_refl _⟩
  | true =>
    have hC := cacheOk_iff.1 hco
    have hfo : ftlOk z qs ps op st = true := hC.ftl
    obtain ⟨hmo, _, _, _, _, _, _⟩ := ftlOk_parts hfo
    have hm64 : m ≤ 64 := by have := (mapOk_len hmo).2; rw [hlp] at this; exact this
    have hm1 : 1 ≤ m := by have := (mapOk_len hmo).1; rw [hlp] at this; exact this
    have HCK := hide (mapOk_chip hmo)
    obtain ⟨S, hS⟩ : ∃ S, S = (mtAll m qs).S := ⟨_, rfl⟩
    obtain ⟨MP, hMP⟩ : ∃ MP, MP = (mtAll m qs).ps := ⟨_, rfl⟩
    have HCE : Hid (cv = ⟨rm, [], ⟨z, qs, MP, -1, S⟩⟩) := by show _ = _; rw [HCV.out]; unfold dropF; rw [hco]; dsimp only; rw [hlp, ← hS, ← hMP]; rfl
    clear hmo hco hC hfo
    have HM : ∀ W, Hid (Below w2.heap.size w2 W → Calls Tryz.prog 30 #[.agg #[.int .i64 z, .slice a n cap], .int .i64 (m : Int)] W fun e w' => ∃ v, e = .returned v ∧ FtlAns W ⟨z, qs, MP, -1, S⟩ v w') := fun W hb => by
      have h9 := implMount_any z a n cap qs (m : Int) W (HS2.out.later hb (by omega)) (by have := hb.size; omega) hn HF.out (HT2.out.here hb) (HE2.out.here hb)
      have e : mountF z qs (m : Int) = ⟨z, qs, MP, -1, S⟩ := by unfold mountF; rw [HCK.out, show inB (m : Int) 1 64 = true by unfold inB; simp; omega, hS, hMP]; rfl
      rw [e] at h9
      exact h9
    clear hS hMP
    have hm9 : m ≤ 281474976710656 := by omega
    go_upto_region 3 with fail
    go_region_with (go_at_call 30; refine ((HM _).out (by exact (Below.refl w2.heap.size w2).drew)).mono ?_; rintro e w5 ⟨v, rfl, a', c', am', cm', rfl, ho5, b5, hcap5⟩; unfold fvV; dsimp only; rw [hlq]; have HO5 := hide (cache_of_ftl ho5); have HC5 := hide hcap5; have M0 := hide (block_on (w := w2.drew) K0.out b5); have M1 := hide (block_on (w := w2.drew) K1.out b5); have HB5 : Hid (Below w.heap.size w w5) := below_here (show Below w.heap.size w w2.drew from HB2.out.drew) b5; have hs5 : w2.heap.size ≤ w5.heap.size := b5.size; clear ho5 b5 hcap5; obtain ⟨y0, y1, y2, y3, y4, y5, y6⟩ := seven_cells M0.out; obtain ⟨d0, d1, d2, d3, d4, d5, d6⟩ := seven_cells M1.out; have f0 := four_frozen M1.out 0; have f1 := four_frozen M1.out 1; have f2 := four_frozen M1.out 2; have f3 := four_frozen M1.out 3; have f4 := four_frozen M1.out 4; have f5 := four_frozen M1.out 5; have f6 := four_frozen M1.out 6)
    all_goals
      have HRS := hide (seven_set M1.out (.int .i64 rm) (.slice none 0 0) (.int .i64 z) (.slice a' n c') (.slice am' MP.length cm') (.int .i64 (-1)) (.int .i64 S))
      have HAS := hide (seven_aside (b := w.heap.size + 1) (Aside.refl (w.heap.size + 1) (w.heap.size + 1 + 1) w5) (Nat.le_refl _) (Nat.lt_succ_self _) (.int .i64 rm) (.slice none 0 0) (.int .i64 z) (.slice a' n c') (.slice am' MP.length cm') (.int .i64 (-1)) (.int .i64 S))
      have HBF := hide (HB5.out.trans (HAS.out.below (B := w.heap.size) (by omega) (by omega)))
      go_wp2_with fail
      refine bodyPost_ret (results_cell rfl rfl (run_loadVar_row _ _ _ _ _ _ _ HRS.out Tryz.underlying69 rfl (by kernel_rfl))) rfl ⟨_, rfl, none, 0, a', c', am', cm', ?_, ?_, HBF.out, by rw [HCE.out]; exact HC5.out⟩
      · rw [HCE.out]; unfold cvV; dsimp only; rw [hlq]; rfl
      · rw [HCE.out]; exact cache_stored HO5.out HAS.out (by show w.heap.size + 1 + 1 ≤ w2.heap.size; omega) (by show w.heap.size ≤ w2.heap.size; omega)
end Go.Proofs.YtfabojbkhicpmaaGreatDoor
end

section
namespace Go.Proofs.YtfabojbkhicpmaaGreatDoor
open Go.RowKit
set_option linter.unusedVariables false
theorem dropF_fit (c : Cv) : CFit (dropF c) := by
  unfold dropF
  split
  · rename_i h
    have hc := (cacheOk_iff.1 h)
    obtain ⟨hmo, _, _, _, _, _, _⟩ := ftlOk_parts hc.ftl
    have h1 := mapOk_chip hmo
    have h2 := (mapOk_len hmo).1
    have h3 := (mapOk_len hmo).2
    have e : mountF c.f.z c.f.qs (c.f.ps.length : Int) = ⟨c.f.z, c.f.qs, (mtAll c.f.ps.length c.f.qs).ps, -1, (mtAll c.f.ps.length c.f.qs).S⟩ := by
      unfold mountF
      rw [h1, show inB (c.f.ps.length : Int) 1 64 = true by unfold inB; simp; omega]
      rfl
    have h4 := mountF_fit c.f.z c.f.qs (c.f.ps.length : Int)
    rw [e] at h4
    have h5 := chipOk_small h1
    refine ⟨by simp, ?_, h4.2⟩
    dsimp only
    simp only [List.length_nil]
    omega
  · exact zeroC_fit
end Go.Proofs.YtfabojbkhicpmaaGreatDoor
end

