/- The program's Mount. -/
import Derived.Test.YtfabojbkhicpmaaGreatDoorXFindImpl2
import Derived.Test.YtfabojbkhicpmaaGreatDoorXFtlNew
import Derived.Test.YtfabojbkhicpmaaGreatDoorXChipAns
import Derived.Test.YtfabojbkhicpmaaGreatDoorXFtlOwnP
namespace Go.Proofs.YtfabojbkhicpmaaGreatDoor
open Go.RowKit
set_option linter.unusedVariables false
set_option maxRecDepth 20000

/-- Squares of one's own and a map that was made before. -/
theorem own_of_mixed {lo B n g gm : Nat} {w : World} {am : Option Addr} {A : Nat → Option Addr} {C : Nat → Nat} {qs : List Sq} {ps : List Pl} (sq : GrowSqs B w n qs g A C) (pl : OwnPlaces gm (gm + 1) w am ps.length ps) (h1 : lo ≤ gm) (h2 : gm < B) (h3 : gm < w.heap.size) (h4 : lo ≤ B) : FtlOwn lo w.heap.size w (some ⟨g, 0, none⟩) am qs ps := by
  have hl := sq.len
  have hg := sq.atG
  refine ⟨Nat.le_refl _, .inr ⟨g, 0, A, C, fun i => (oB (A i)).getD g, gm, ?_, pl, h1, h3, by omega, fun i hi h0 e => ?_⟩⟩
  · have := sq.own.wide h4 (Nat.le_refl _) (Nat.le_refl _)
    rw [hl]
    exact this
  · rw [hl] at hi
    have := (sq.own.atP i hi).1
    dsimp only at e this
    omega
/-- The map while it is filled: k numbers are told. -/
def psK (s : Mt) (N k : Nat) : List Pl := (List.range N).map fun j => if j < k then plAt s.ps j else (-1, 0)
theorem psK_len (s : Mt) (N k : Nat) : (psK s N k).length = N := by unfold psK; simp
theorem psK_at (s : Mt) {N k j : Nat} (h : j < N) : plAt (psK s N k) j = if j < k then plAt s.ps j else (-1, 0) := by
  unfold plAt psK
  rw [List.getD_eq_getElem?_getD, List.getElem?_map, List.getElem?_range h]
  rfl
theorem pl_ext {l m : List Pl} (hl : l.length = m.length) (h : ∀ j, j < l.length → plAt l j = plAt m j) : l = m := by
  refine List.ext_getElem hl fun j h1 h2 => ?_
  have := h j h1
  unfold plAt at this
  rw [List.getD_eq_getElem?_getD, List.getD_eq_getElem?_getD, List.getElem?_eq_getElem h1, List.getElem?_eq_getElem h2] at this
  exact this
theorem psK_zero (s : Mt) (N : Nat) : psK s N 0 = List.replicate N (-1, 0) := by
  unfold psK
  simp [List.map_const']
theorem psK_set (s : Mt) {N k : Nat} (h : k < N) : (psK s N k).set k (plAt s.ps k) = psK s N (k + 1) := by
  refine pl_ext (by rw [List.length_set, psK_len, psK_len]) fun j hj => ?_
  rw [List.length_set, psK_len] at hj
  rw [plAt_set _ _ (by rw [psK_len]; exact h), psK_at s hj, psK_at s hj]
  by_cases e : j = k
  · subst e; rw [if_pos rfl, if_pos (by omega)]
  · rw [if_neg e]
    by_cases e2 : j < k
    · rw [if_pos e2, if_pos (by omega)]
    · rw [if_neg e2, if_neg (by omega)]
theorem psK_skip (s : Mt) {N k : Nat} (h : k < N) (h0 : plAt s.ps k = (-1, 0)) : psK s N k = psK s N (k + 1) := by
  refine pl_ext (by rw [psK_len, psK_len]) fun j hj => ?_
  rw [psK_len] at hj
  rw [psK_at s hj, psK_at s hj]
  by_cases e : j = k
  · subst e; rw [if_neg (by omega), if_pos (by omega), h0]
  · by_cases e2 : j < k
    · rw [if_pos e2, if_pos (by omega)]
    · rw [if_neg e2, if_neg (by omega)]
theorem psK_all (s : Mt) {N : Nat} (h : s.ps.length = N) : psK s N N = s.ps := by
  refine pl_ext (by rw [psK_len, h]) fun j hj => ?_
  rw [psK_len] at hj
  rw [psK_at s hj, if_pos hj]
theorem cellP_pair (ps : List Pl) {T : Nat} (x y : Int) (h : T < ps.length) (j : Nat) : (if j = T * 2 + 1 then Value.int .i64 y else if j = T * 2 then .int .i64 x else cellP ps j) = cellP (ps.set T (x, y)) j := by
  unfold cellP
  rw [plAt_set ps _ h]
  by_cases e1 : j = T * 2 + 1
  · subst e1
    rw [if_pos rfl, if_neg (show ¬ (T * 2 + 1) % 2 = 0 by omega), if_pos (show (T * 2 + 1) / 2 = T by omega)]
  · rw [if_neg e1]
    by_cases e0 : j = T * 2
    · subst e0
      rw [if_pos rfl, if_pos (show T * 2 % 2 = 0 by omega), if_pos (show T * 2 / 2 = T by omega)]
    · rw [if_neg e0, if_neg (show ¬ j / 2 = T by omega)]
theorem mountF_no {z : Int} {qs : List Sq} {n : Int} (h : (nfOk (qs.length : Int) z n && chipOk z qs) = false) : mountF z qs n = ⟨0, [], [], 0, 0⟩ := by
  unfold mountF
  rw [if_neg]
  intro h2
  rw [Bool.and_eq_true] at h2
  have h3 : newOk (qs.length : Int) z = true := by
    obtain ⟨k1, k2, k3, k4, _⟩ := chipOk_parts h2.1
    unfold newOk inB
    simp
    omega
  unfold nfOk at h
  rw [h3, h2.1, h2.2] at h
  cases h
theorem mountF_yes {z : Int} {qs : List Sq} {n : Int} (h1 : nfOk (qs.length : Int) z n = true) (h2 : chipOk z qs = true) : 1 ≤ n ∧ n ≤ 64 ∧ mountF z qs n = ⟨z, qs, (mtAll n.toNat qs).ps, -1, (mtAll n.toNat qs).S⟩ := by
  unfold nfOk at h1
  rw [Bool.and_eq_true] at h1
  have hn : 1 ≤ n ∧ n ≤ 64 := by have := h1.2; unfold inB at this; simpa using this
  refine ⟨hn.1, hn.2, ?_⟩
  unfold mountF
  rw [h2, h1.2]
  rfl

set_option maxHeartbeats 8000000 in
theorem implMount_any (z : Int) (a : Option Addr) (n cap : Nat) (qs : List Sq) (NI : Int) (w : World) {lo hi : Nat} (h : Squares lo hi w a n qs) (hhi : hi ≤ w.heap.size) (hn : n ≤ 1048576) (hf : ∀ x ∈ qs, sqFits x) (hT : Tab w) {aB aL aS aC aF : Addr} (E : Errs w aB aL aS aC aF) :
    Calls Tryz.prog 30 #[.agg #[.int .i64 z, .slice a n cap], .int .i64 NI] w fun e w' => ∃ v, e = .returned v ∧ FtlAns w (mountF z qs NI) v w' := by
  obtain ⟨fv, hfv⟩ : ∃ fv : Fv, fv = mountF z qs NI := ⟨_, rfl⟩
  have HFV := hide hfv
  rw [← hfv]
  clear hfv
  obtain ⟨wA, hwA⟩ : ∃ wA, wA = (w.alloc (.cells #[.int .i64 z, .slice a n cap] 26)).alloc (.cells #[.int .i64 0, .slice none 0 0, .slice none 0 0, .int .i64 0, .int .i64 0] 29) := ⟨_, rfl⟩
  have hzA : wA.heap.size = w.heap.size + 1 + 1 := by rw [hwA]; simp
  have HBA : Hid (Below w.heap.size w wA) := by rw [hwA]; exact ((Below.refl _ _).alloc (Nat.le_refl _) _).alloc (by simp) _
  have H0 : Hid (wA.heap[w.heap.size]? = some (.cells #[.int .i64 z, .slice a n cap] 26)) := by rw [hwA]; exact heap_old (heap_new _ _)
  have H1 : Hid (wA.heap[w.heap.size + 1]? = some (.cells #[.int .i64 0, .slice none 0 0, .slice none 0 0, .int .i64 0, .int .i64 0] 29)) := by rw [hwA]; exact heap_at (by simp)
  have HSQ := hide (h.later HBA.out hhi)
  have HLQ := hide h.1
  have HFI := hide hf
  have HT := hide hT
  have HE := hide E
  clear h hf hT E
  obtain ⟨d0, d1⟩ := two_cells H0.out
  have hnw : ((n : Int)) ≤ 9223372036854775807 := by omega
  go_enter Tryz.func30, Tryz.ntmps30
  go_wp2_with fail
  rw [← hwA]
  clear hwA
  refine (implNewFtl_any (n : Int) z NI wA).mono ?_
  rintro e w1 ⟨v, rfl, a1, c1', am1, cm1, rfl, ho1, b1, hc1⟩
  have HNO : Hid ((nfOk (n : Int) z NI && chipOk z qs) = false → fv = ⟨0, [], [], 0, 0⟩) := fun hh => by rw [HFV.out]; exact mountF_no (by rw [HLQ.out]; exact hh)
  have HYE : Hid (nfOk (n : Int) z NI = true → chipOk z qs = true → 1 ≤ NI ∧ NI ≤ 64 ∧ fv = ⟨z, qs, (mtAll NI.toNat qs).ps, -1, (mtAll NI.toNat qs).S⟩) := fun h1 h2 => by rw [HFV.out]; exact mountF_yes (by rw [HLQ.out]; exact h1) h2
  have HNF : Hid (nfOk (n : Int) z NI = true → newF (n : Int) z NI = ⟨z, newQ (n : Int) z, List.replicate NI.toNat (-1, 0), -1, 0⟩) := fun hh => by unfold newF; rw [if_pos hh]
  obtain ⟨f1, hf1⟩ : ∃ f, f = newF (n : Int) z NI := ⟨_, rfl⟩
  rw [← hf1] at ho1 hc1 HNF
  rw [← hf1]
  clear hf1
  obtain ⟨nb, hnb⟩ : ∃ nb, nb = nfOk (n : Int) z NI := ⟨_, rfl⟩
  rw [← hnb] at HNO HYE HNF
  rw [← hnb]
  clear hnb
  unfold fvV
  obtain ⟨wX, hwX⟩ : ∃ wX, wX = w1.alloc (.cells #[.int .i64 f1.z, .slice a1 f1.qs.length c1', .slice am1 f1.ps.length cm1, .int .i64 f1.op, .int .i64 f1.st] 29) := ⟨_, rfl⟩
  have hzX : w1.heap.size < wX.heap.size := by rw [hwX]; simp
  have HBX : Hid (Below w1.heap.size w1 wX) := by rw [hwX]; exact (Below.refl _ _).alloc (Nat.le_refl _) _
  have HX : Hid (wX.heap[w1.heap.size]? = some (.cells #[.int .i64 f1.z, .slice a1 f1.qs.length c1', .slice am1 f1.ps.length cm1, .int .i64 f1.op, .int .i64 f1.st] 29)) := by rw [hwX]; exact heap_new _ _
  have HB1 := hide (below_here b1 HBX.out)
  have HO1 := hide (ho1.later HBX.out (Nat.le_refl _))
  have HC1 := hide hc1
  have K0 := hide (block_on H0.out HB1.out)
  have K1 := hide (block_on H1.out HB1.out)
  have HS1 := hide (HSQ.out.later HB1.out (by omega))
  have HBW := hide (below_here HBA.out HB1.out)
  have hs1 := b1.size
  clear ho1 b1 hc1 H0 H1 HSQ HBA d0 d1
  go_upto_region 2 with fail
  rw [← hwX]
  clear hwX
  have HZ : ∀ w9 : World, Hid (Below wX.heap.size wX w9 → fv = ⟨0, [], [], 0, 0⟩ → ∃ v, (Value.agg #[.int .i64 0, .slice none 0 0, .slice none 0 0, .int .i64 0, .int .i64 0]) = v ∧ FtlAns w fv v (((((w9.setCell ⟨w.heap.size + 1, 0, none⟩ (.int .i64 0)).setCell ⟨w.heap.size + 1, 1, none⟩ (.slice none 0 0)).setCell ⟨w.heap.size + 1, 2, none⟩ (.slice none 0 0)).setCell ⟨w.heap.size + 1, 3, none⟩ (.int .i64 0)).setCell ⟨w.heap.size + 1, 4, none⟩ (.int .i64 0))) := fun w9 hb he => by
    have hs9 := hb.size
    have HAS := five_aside (b := w.heap.size + 1) (Aside.refl (w.heap.size + 1) (w.heap.size + 1 + 1) w9) (Nat.le_refl _) (Nat.lt_succ_self _) (.int .i64 0) (.slice none 0 0) (.slice none 0 0) (.int .i64 0) (.int .i64 0)
    refine ⟨_, rfl, none, 0, none, 0, by rw [he]; rfl, ⟨Nat.le_refl _, .inl (by rw [he]; exact ⟨rfl, rfl⟩)⟩, (below_here HBW.out hb).trans (HAS.below (B := w.heap.size) (by omega) (by omega)), by rw [he]; exact Nat.le_refl _⟩
  cases nb with
  | false =>
    have HFE := hide (HNO.out rfl)
    obtain ⟨p0, p1, p2, p3, p4⟩ := five_cells K1.out
    have f0 := four_frozen K1.out 0
    have f1' := four_frozen K1.out 1
    have f2 := four_frozen K1.out 2
    have f3 := four_frozen K1.out 3
    have f4 := four_frozen K1.out 4
    have HRS := hide (five_set K1.out (.int .i64 0) (.slice none 0 0) (.slice none 0 0) (.int .i64 0) (.int .i64 0))
    obtain ⟨vz, hvz, hz9⟩ := (HZ wX).out (Below.refl _ _) HFE.out
    have HZ9 := hide hz9
    subst hvz
    clear hz9
    go_wp2_with fail
    exact bodyPost_ret (results_cell rfl rfl (run_loadVar_row _ _ _ _ _ _ _ HRS.out Tryz.underlying29 rfl (by kernel_rfl))) rfl ⟨_, rfl, HZ9.out⟩
  | true =>
    obtain ⟨d0, d1⟩ := two_cells K0.out
    go_wp2_with fail
    refine (implChipOk_any z a n cap qs wX HS1.out (by omega) hn HFI.out).mono ?_
    rintro e w2 ⟨rfl, b2⟩
    have HX2 := hide (block_on HX.out b2)
    have L0 := hide (block_on K0.out b2)
    have L1 := hide (block_on K1.out b2)
    have HS2 := hide (HS1.out.later b2 (by omega))
    have HO2 := hide (HO1.out.later b2 HO1.out.1)
    have HB2 := hide (below_here HBW.out b2)
    have HBX2 := hide b2
    have hs2 := b2.size
    clear b2 d0 d1 K0 K1 HX HS1 HO1
    cases hok : chipOk z qs with
    | false =>
      have HFE := hide (HNO.out (by rw [hok]; rfl))
      obtain ⟨p0, p1, p2, p3, p4⟩ := five_cells L1.out
      have f0 := four_frozen L1.out 0
      have f1' := four_frozen L1.out 1
      have f2 := four_frozen L1.out 2
      have f3 := four_frozen L1.out 3
      have f4 := four_frozen L1.out 4
      have HRS := hide (five_set L1.out (.int .i64 0) (.slice none 0 0) (.slice none 0 0) (.int .i64 0) (.int .i64 0))
      obtain ⟨vz, hvz, hz9⟩ := (HZ w2).out HBX2.out HFE.out
      have HZ9 := hide hz9
      subst hvz
      clear hz9
      go_wp2_with fail
      exact bodyPost_ret (results_cell rfl rfl (run_loadVar_row _ _ _ _ _ _ _ HRS.out Tryz.underlying29 rfl (by kernel_rfl))) rfl ⟨_, rfl, HZ9.out⟩
    | true =>
      have HOK := hide hok
      obtain ⟨hN1, hN64, hfe⟩ := HYE.out (by trivial) hok
      obtain ⟨N, rfl⟩ : ∃ N : Nat, NI = (N : Int) := ⟨NI.toNat, by omega⟩
      rw [Int.toNat_natCast] at hfe
      have hnf := HNF.out (by trivial)
      rw [Int.toNat_natCast] at hnf
      have HFE := hide hfe
      have hp1 : f1.ps = List.replicate N (-1, 0) := by rw [hnf]
      have hpl : f1.ps.length = N := by rw [hp1]; exact List.length_replicate
      have ho1' : f1.op = -1 := by rw [hnf]
      have hst1 : f1.st = 0 := by rw [hnf]
      have h1N : 1 ≤ N := by omega
      have h64N : N ≤ 64 := by omega
      rw [hpl] at HX2 HC1
      rw [ho1', hst1] at HX2
      obtain ⟨hh2, hor⟩ := HO2.out
      have hmp : ∃ gm, OwnPlaces gm (gm + 1) w2 am1 N (List.replicate N (-1, 0)) ∧ wA.heap.size ≤ gm ∧ gm < w1.heap.size := by
        rcases hor with ⟨_, e2⟩ | ⟨g, off, A, C, P, gm, _, h3, h4, h5, _⟩
        · rw [hp1] at e2
          have : (List.replicate N ((-1 : Int), (0 : Int))).length = 0 := by rw [e2]; rfl
          rw [List.length_replicate] at this
          omega
        · rw [hpl, hp1] at h3
          exact ⟨gm, h3, h4, h5⟩
      obtain ⟨gm, hmap, hgm1, hgm2⟩ := hmp
      obtain ⟨bm, off, rfl, hb1', hb2', _⟩ := hmap.2.2 (by omega)
      obtain rfl : bm = gm := by omega
      have HMP := hide hmap
      obtain ⟨q1, hq1⟩ : ∃ q, q = f1.qs.length := ⟨_, rfl⟩
      rw [← hq1] at HX2
      obtain ⟨z1, hz1⟩ : ∃ q, q = f1.z := ⟨_, rfl⟩
      rw [← hz1] at HX2
      clear hok HNF HNO HYE hfe hnf hp1 hpl ho1' hst1 hor hmap HO2 HZ hb1' hb2' hq1 hz1
      obtain ⟨d0, d1⟩ := two_cells L0.out
      go_wp2_with fail
      refine (copyOfChip_any z a n cap qs w2 HS2.out (by omega) HOK.out).mono ?_
      rintro e w3 ⟨g, c, A, C, rfl, hG, b3⟩
      have hs3 := b3.size
      have hX3 := block_on HX2.out b3
      obtain ⟨wC, hwC⟩ : ∃ wC, wC = (w3.setCell ⟨w1.heap.size, 0, none⟩ (.int .i64 z)).setCell ⟨w1.heap.size, 1, none⟩ (.slice (some ⟨g, 0, none⟩) n c) := ⟨_, rfl⟩
      have HAC : Hid (Aside w1.heap.size (w1.heap.size + 1) w3 wC) := by rw [hwC]; exact two_aside (b := w1.heap.size) (Aside.refl _ _ w3) (Nat.le_refl _) (Nat.lt_succ_self _) _ _
      have HXC : Hid (wC.heap[w1.heap.size]? = some (.cells #[.int .i64 z, .slice (some ⟨g, 0, none⟩) n c, .slice (some ⟨bm, off, none⟩) N cm1, .int .i64 (-1), .int .i64 0] 29)) := by
        rw [hwC]
        exact set_block (set_block hX3 0 _ (by simp)) 1 _ (by simp)
      have hgB := hG.atG
      have hgl : g < w3.heap.size := by have := hG.row.1; omega
      have HGC := hide (hG.aside HAC.out (.inl (by omega)))
      have HMC := hide ((HMP.out.later b3 (by omega)).aside HAC.out (by omega))
      have M0 : Hid (wC.heap[w.heap.size]? = some (.cells #[.int .i64 z, .slice a n cap] 26)) := (HAC.out.block _ (by omega) (by omega)).trans (block_on L0.out b3)
      have M1 : Hid (wC.heap[w.heap.size + 1]? = some (.cells #[.int .i64 0, .slice none 0 0, .slice none 0 0, .int .i64 0, .int .i64 0] 29)) := (HAC.out.block _ (by omega) (by omega)).trans (block_on L1.out b3)
      have HBC := hide ((below_here HB2.out b3).trans (HAC.out.below (B := w.heap.size) (by omega) (by omega)))
      have hsC := HAC.out.size
      obtain ⟨p0, p1, p2, p3, p4⟩ := five_cells hX3
      have f0 := four_frozen hX3 0
      have f1' := four_frozen hX3 1
      clear hG b3 hX3 d0 d1 HX2 L0 L1 HMP HS2
      go_upto_region 5 with fail
      rw [← hwC]
      clear hwC p0 p1 p2 p3 p4 f0 f1'
      obtain ⟨p0, p1, p2, p3, p4⟩ := five_cells HXC.out
      have HGS := hide HGC.out.own.squares
      go_wp2_with fail
      refine (findPages_any z (some ⟨g, 0, none⟩) n c qs N wC HGS.out (Nat.le_refl _) HOK.out h1N h64N (HT.out.here HBC.out) (HE.out.here HBC.out)).mono ?_
      rintro e w4 ⟨v, rfl, b, G, cnt, F, rfl, hb, hGG, hFD, hFK, b4⟩
      obtain ⟨wD, hwD⟩ : ∃ wD, wD = w4.alloc (.cells #[.map (some b), .slice (some ⟨G, 0, none⟩) N N] 147) := ⟨_, rfl⟩
      have hzD : w4.heap.size < wD.heap.size := by rw [hwD]; simp
      have HBD : Hid (Below w4.heap.size w4 wD) := by rw [hwD]; exact (Below.refl _ _).alloc (Nat.le_refl _) _
      have HDD : Hid (wD.heap[w4.heap.size]? = some (.cells #[.map (some b), .slice (some ⟨G, 0, none⟩) N N] 147)) := by rw [hwD]; exact heap_new _ _
      have B4 := hide (below_here b4 HBD.out)
      have hs4 := b4.size
      have HFD := hide (hFD.later HBD.out)
      have HFK := hide hFK
      have HXD := hide (block_on HXC.out B4.out)
      have HGD := hide (HGC.out.later B4.out)
      have HMD := hide (HMC.out.later B4.out HMC.out.2.1)
      have N1 := hide (block_on M1.out B4.out)
      have HBE := hide (below_here HBC.out B4.out)
      have hbl := hFD.map.lt
      have hGl : G < w4.heap.size := by have := hFD.row.1; omega
      clear b4 hFD hFK p0 p1 p2 p3 p4 HXC HGC HMC M0 M1 HGS
      obtain ⟨s, hs⟩ : ∃ s, s = mtAll N qs := ⟨_, rfl⟩
      have HSS := hide hs
      have hsp : s.ps.length = N := by rw [hs]; exact (mtAll_ok N qs).ps
      rw [← hs] at HFD HFK HFE
      clear hs
      go_upto_region 6 with fail
      rw [← hwD]
      clear hwD
      obtain ⟨q0, q1'⟩ := two_cells HDD.out
      go_wp2_with fail
      go_loopw [40] (fun x wr => ∃ k : Nat, k ≤ N ∧ x = .int .i64 (k : Int) ∧ OwnPlaces bm (bm + 1) wr (some ⟨bm, off, none⟩) N (psK s N k) ∧ Aside bm (bm + 1) wD wr) (fun x _ => N - (intOf x).toNat)
      case atStart => exact ⟨0, Nat.zero_le _, rfl, by rw [psK_zero]; exact HMD.out, Aside.refl _ _ _⟩
      case round =>
        obtain ⟨k, hk, rfl, hM, hA⟩ := hrel
        have HM := hide hM
        have HA := hide hA
        have hszr := hA.size
        have RX : Hid (wr.heap[w1.heap.size]? = some (.cells #[.int .i64 z, .slice (some ⟨g, 0, none⟩) n c, .slice (some ⟨bm, off, none⟩) N cm1, .int .i64 (-1), .int .i64 0] 29)) := (hA.block _ (by omega) (by omega)).trans HXD.out
        have RD : Hid (wr.heap[w4.heap.size]? = some (.cells #[.map (some b), .slice (some ⟨G, 0, none⟩) N N] 147)) := (hA.block _ (by omega) (by omega)).trans HDD.out
        have HFR : Hid (FdAt wr b G N cnt s.st F) := ⟨HFD.out.map.kept (hA.block b (by omega) (by omega)), HFD.out.row.aside hA (by omega), HFD.out.len, HFD.out.ne⟩
        clear hM hA q0 q1'
        by_cases hlt : k < N
        · have hlt2 : (k : Int) < (N : Int) := by omega
          obtain ⟨c0, _⟩ := HFR.out.row.at0 hlt
          obtain ⟨t, ht⟩ : ∃ t, t = stAt s.st k := ⟨_, rfl⟩
          have HEA := hide (HFK.out.each k hlt)
          have hlow := HFK.out.low (k : Int) 0 (Int.le_refl _)
          have htop := HFK.out.top k hlt
          have hok9 := (mtAll_ok N qs).hi
          rw [← HSS.out] at hok9
          rw [← ht] at c0 HEA htop
          clear ht
          have ht0 : 0 ≤ t := by rcases HEA.out with e | e <;> omega
          have hlook := HFR.out.map.look (a := (k : Int)) (s := t) (WalkArith.wf_i64 (by omega)) (WalkArith.wf_i64 (by omega))
          obtain ⟨q0, q1'⟩ := two_cells RD.out
          rcases HEA.out with ⟨e1, e2⟩ | ⟨e1, e2⟩
          · subst e1
            rw [hlow] at hlook
            unfold plV at hlook
            simp only [Option.getD_none, Option.isSome_none] at hlook
            have HPN := hide (psK_skip s hlt e2)
            have HAN := hide (HA.out.trans (aside_new (lo := bm) (hi := bm + 1) ((Below.refl wr.heap.size wr).alloc (Nat.le_refl _) (.cells #[.int .i64 0, .int .i64 0] 48))))
            have HMN : Hid (OwnPlaces bm (bm + 1) (wr.alloc (.cells #[.int .i64 0, .int .i64 0] 48)) (some ⟨bm, off, none⟩) N (psK s N (k + 1))) := by
              rw [← HPN.out]
              exact HM.out.later ((Below.refl wr.heap.size wr).alloc (Nat.le_refl _) _) HM.out.2.1
            clear e2 hlow
            go_wp2_with fail
            exact ⟨⟨k + 1, by omega, by go_num, HMN.out, HAN.out⟩, by simp [intOf]; omega⟩
          · rw [e2] at hlook
            unfold plV at hlook
            simp only [Option.getD_some, Option.isSome_some] at hlook
            have HPN := hide (psK_set s hlt)
            obtain ⟨y, hy⟩ : ∃ y, y = plAt s.ps k := ⟨_, rfl⟩
            rw [← hy] at hlook HPN
            clear hy e2 hlow
            obtain ⟨p, q⟩ := y
            dsimp only at hlook
            obtain ⟨wP, hwP⟩ : ∃ wP, wP = wr.alloc (.cells #[.int .i64 p, .int .i64 q] 48) := ⟨_, rfl⟩
            have hzP : wr.heap.size < wP.heap.size := by rw [hwP]; simp
            have HBP : Hid (Below wr.heap.size wr wP) := by rw [hwP]; exact (Below.refl _ _).alloc (Nat.le_refl _) _
            have HPP : Hid (wP.heap[wr.heap.size]? = some (.cells #[.int .i64 p, .int .i64 q] 48)) := by rw [hwP]; exact heap_new _ _
            have HMW := hide (HM.out.later HBP.out HM.out.2.1)
            have RX2 := hide (block_on RX.out HBP.out)
            go_upto_region 11 with fail
            rw [← hwP]
            clear hwP q0 q1' c0 hlook
            obtain ⟨x0, x1, x2, x3, x4⟩ := five_cells RX2.out
            obtain ⟨v0, v1⟩ := two_cells HPP.out
            obtain ⟨_, _, e9, _, _, hcl⟩ := HMW.out.2.2 (by omega)
            simp only [Option.some.injEq, Addr.mk.injEq, and_true] at e9
            obtain ⟨rfl, rfl⟩ := e9
            have fr0 := (hcl (k * 2) (by omega)).2
            have fr1 := (hcl (k * 2 + 1) (by omega)).2
            have cl0 := (hcl (k * 2) (by omega)).1
            have cl1 := (hcl (k * 2 + 1) (by omega)).1
            have HAN := hide ((HA.out.trans (aside_new (lo := bm) (hi := bm + 1) HBP.out)).trans (((Aside.refl bm (bm + 1) wP).setCell (p := ⟨bm, off + k * 2, none⟩) (Nat.le_refl _) (Nat.lt_succ_self _) (.int .i64 p)).setCell (p := ⟨bm, off + k * 2 + 1, none⟩) (Nat.le_refl _) (Nat.lt_succ_self _) (.int .i64 q)))
            have HMN : Hid (OwnPlaces bm (bm + 1) ((wP.setCell ⟨bm, off + k * 2, none⟩ (.int .i64 p)).setCell ⟨bm, off + k * 2 + 1, none⟩ (.int .i64 q)) (some ⟨bm, off, none⟩) N (psK s N (k + 1))) := by
              rw [← HPN.out]
              have g1 := (HMW.out.2.set (i := k * 2) (by omega) (.int .i64 p)).set (i := k * 2 + 1) (by omega) (.int .i64 q)
              rw [show off + (k * 2 + 1) = off + k * 2 + 1 by omega] at g1
              exact ⟨by rw [List.length_set, psK_len], g1.congr fun j _ => cellP_pair (psK s N k) p q (by rw [psK_len]; exact hlt) j⟩
            rw [show off + (k * 2 + 1) = off + k * 2 + 1 by omega] at fr1 cl1
            clear hcl
            go_wp2_with fail
            exact ⟨⟨k + 1, by omega, by go_num, HMN.out, HAN.out⟩, by simp [intOf]; omega⟩
        · obtain rfl : k = N := by omega
          rw [psK_all s hsp] at HM
          obtain ⟨q0, q1'⟩ := two_cells RD.out
          go_wp2_with fail
          refine (maxI64_any G k s.st wr HFR.out.row h1N h64N).mono ?_
          rintro e w5 ⟨⟨m, rfl, hm1, hm2⟩, rfl⟩
          have hmS := fd_max HFK.out hm1 hm2
          subst hmS
          clear hm1 hm2
          obtain ⟨x0, x1, x2, x3, x4⟩ := five_cells RX.out
          have fx := four_frozen RX.out 4
          obtain ⟨wZ, hwZ⟩ : ∃ wZ, wZ = wr.setCell ⟨w1.heap.size, 4, none⟩ (.int .i64 s.S) := ⟨_, rfl⟩
          have HAZ : Hid (Aside w1.heap.size (w1.heap.size + 1) wr wZ) := by rw [hwZ]; exact (Aside.refl _ _ wr).setCell (p := ⟨w1.heap.size, 4, none⟩) (Nat.le_refl _) (Nat.lt_succ_self _) _
          have RZ : Hid (wZ.heap[w1.heap.size]? = some (.cells #[.int .i64 z, .slice (some ⟨g, 0, none⟩) n c, .slice (some ⟨bm, off, none⟩) k cm1, .int .i64 (-1), .int .i64 s.S] 29)) := by rw [hwZ]; exact set_block RX.out 4 _ (by simp)
          have R1 : Hid (wZ.heap[w.heap.size + 1]? = some (.cells #[.int .i64 0, .slice none 0 0, .slice none 0 0, .int .i64 0, .int .i64 0] 29)) := (HAZ.out.block _ (by omega) (by omega)).trans ((HA.out.block _ (by omega) (by omega)).trans N1.out)
          have HGZ := hide ((HGD.out.aside HA.out (.inl (by omega))).aside HAZ.out (.inl (by omega)))
          have HMZ := hide (HM.out.aside HAZ.out (by omega))
          have HBZ := hide ((HBE.out.trans (HA.out.below (B := w.heap.size) (by omega) (by omega))).trans (HAZ.out.below (B := w.heap.size) (by omega) (by omega)))
          have hsZ := HAZ.out.size
          go_upto_region 14 with fail
          rw [← hwZ]
          clear hwZ x0 x1 x2 x3 x4 fx q0 q1'
          obtain ⟨x0, x1, x2, x3, x4⟩ := five_cells RZ.out
          obtain ⟨p0, p1, p2, p3, p4⟩ := five_cells R1.out
          have f0 := four_frozen R1.out 0
          have f1' := four_frozen R1.out 1
          have f2 := four_frozen R1.out 2
          have f3 := four_frozen R1.out 3
          have f4 := four_frozen R1.out 4
          have HRS := hide (five_set R1.out (.int .i64 z) (.slice (some ⟨g, 0, none⟩) n c) (.slice (some ⟨bm, off, none⟩) k cm1) (.int .i64 (-1)) (.int .i64 s.S))
          have HAS := hide (five_aside (b := w.heap.size + 1) (Aside.refl (w.heap.size + 1) (w.heap.size + 1 + 1) wZ) (Nat.le_refl _) (Nat.lt_succ_self _) (.int .i64 z) (.slice (some ⟨g, 0, none⟩) n c) (.slice (some ⟨bm, off, none⟩) k cm1) (.int .i64 (-1)) (.int .i64 s.S))
          have HBF := hide (HBZ.out.trans (HAS.out.below (B := w.heap.size) (by omega) (by omega)))
          have HOF := hide (own_of_mixed (lo := w.heap.size + 1 + 1) HGZ.out (by rw [hsp]; exact HMZ.out) (by omega) (by omega) (by omega) (by omega))
          go_wp2_with fail
          refine bodyPost_ret (results_cell rfl rfl (run_loadVar_row _ _ _ _ _ _ _ HRS.out Tryz.underlying29 rfl (by kernel_rfl))) rfl ⟨_, rfl, some ⟨g, 0, none⟩, c, some ⟨bm, off, none⟩, cm1, ?_, ?_, HBF.out, ?_⟩
          · rw [HFE.out]; unfold fvV; dsimp only; rw [HLQ.out, hsp]
          · rw [HFE.out]
            exact (HOF.out.aside HAS.out (.inl (Nat.le_refl _))).wide (by omega) HAS.out.size (Nat.le_refl _)
          · rw [HFE.out]; dsimp only; rw [hsp]; exact HC1.out
end Go.Proofs.YtfabojbkhicpmaaGreatDoor
