/- Several texts in one: CacheLoadS, CacheFlushS, CacheCopyI. -/
import Derived.Test.YtkbhcdkfjniafaaGreatDoorFFtlImplH
import Derived.Test.YtkbhcdkfjniafaaGreatDoorFFtlOwnP
import Derived.Test.YtkbhcdkfjniafaaGreatDoorFFtlSpecB
import Derived.Test.YtkbhcdkfjniafaaGreatDoorFQuietTail
import Derived.Lib.QuietBelow
import Derived.BigQuiet
import Derived.Deep.RegionHeld3
import Derived.Test.YtkbhcdkfjniafaaGreatDoorFFtlImplD
import Derived.Deep.RegionWith
import Derived.Deep.RegionLaw
import Derived.Deep.AppendLies
section
namespace Go.Proofs.YtkbhcdkfjniafaaGreatDoor
open Go.RowKit
set_option linter.unusedVariables false
set_option maxRecDepth 20000
end Go.Proofs.YtkbhcdkfjniafaaGreatDoor
end

section
namespace Go.Proofs.YtkbhcdkfjniafaaGreatDoor
open Go.RowKit
set_option linter.unusedVariables false
set_option maxRecDepth 20000
set_option maxHeartbeats 6400000 in
theorem specFlush_any (rm : Int) (ai : Option Addr) (ni ci : Nat) (ys : List Hd) (z : Int) (a : Option Addr) (n cap : Nat) (qs : List Sq) (am : Option Addr) (m cm : Nat) (ps : List Pl) (op st : Int) (w : World) {l1 r1 lo hi lo' hi' : Nat} (hy : Helds l1 r1 w ai ni ys) (hr1 : r1 <= w.heap.size) (hni : ni <= 1048576) (hfy : ∀ x ∈ ys, hdFits x) (h : Squares lo hi w a n qs) (hhi : hi <= w.heap.size) (hn : n <= 1048576) (hf : ∀ x ∈ qs, sqFits x) (hp : Places lo' hi' w am m ps) (hhi' : hi' <= w.heap.size) (hm : m <= 1048576) :
  Calls Tryz.prog 50 #[.agg #[.int .i64 rm, .slice ai ni ci, .int .i64 z, .slice a n cap, .slice am m cm, .int .i64 op, .int .i64 st]] w fun e w' => ∃ v, e = .returned (.tuple #[v, .bool (flushB ⟨rm, ys, ⟨z, qs, ps, op, st⟩⟩)]) ∧ CacheRd w (flushF ⟨rm, ys, ⟨z, qs, ps, op, st⟩⟩) v w' := by
 obtain ⟨cv, hcv⟩ : ∃ cv, cv = flushF ⟨rm, ys, ⟨z, qs, ps, op, st⟩⟩ := ⟨_, rfl⟩
 obtain ⟨bv, hbv⟩ : ∃ bv, bv = flushB ⟨rm, ys, ⟨z, qs, ps, op, st⟩⟩ := ⟨_, rfl⟩
 have HCV := hide hcv
 have HBV := hide hbv
 rw [<- hcv, <- hbv]
 clear hcv hbv
 obtain ⟨wA, hwA⟩ : ∃ wA, wA = (w.alloc (.cells #[.int .i64 rm, .slice ai ni ci, .int .i64 z, .slice a n cap, .slice am m cm, .int .i64 op, .int .i64 st] 65)).alloc (.cells #[.int .i64 0, .slice none 0 0, .int .i64 0, .slice none 0 0, .slice none 0 0, .int .i64 0, .int .i64 0] 65) := ⟨_, rfl⟩
 have hzA : wA.heap.size = w.heap.size + 1 + 1 := by rw [hwA]; simp
 have HBA : Hid (Below w.heap.size w wA) := by rw [hwA]; exact ((Below.refl _ _).alloc (Nat.le_refl _) _).alloc (by simp) _
 have H0 : Hid (wA.heap[w.heap.size]? = some (.cells #[.int .i64 rm, .slice ai ni ci, .int .i64 z, .slice a n cap, .slice am m cm, .int .i64 op, .int .i64 st] 65)) := by rw [hwA]; exact heap_old (heap_new _ _)
 have H1 : Hid (wA.heap[w.heap.size + 1]? = some (.cells #[.int .i64 0, .slice none 0 0, .int .i64 0, .slice none 0 0, .slice none 0 0, .int .i64 0, .int .i64 0] 65)) := by rw [hwA]; exact heap_at (by simp)
 have HYA := hide (hy.later HBA.out hr1)
 have HSA := hide (h.later HBA.out hhi)
 have HPA := hide (hp.later HBA.out hhi')
 have HF := hide hf
 have HFY := hide hfy
 have HLY := hide hy.1
 have HLQ := hide h.1
 have HLP := hide hp.1
 clear h hp hf hy hfy
 obtain ⟨c0, c1, c2, c3, c4, c5, c6⟩ := seven_cells H0.out
 go_enter Tryz.func50, Tryz.ntmps50
 go_wp2_with fail
 rw [<- hwA]
 clear hwA
 refine (specCacheOk_any rm ai ni ci ys z a n cap qs am m cm ps op st wA HYA.out (by omega) hni HFY.out HSA.out (by omega) hn HF.out HPA.out (by omega) hm).mono ?_
 rintro e w2 ⟨rfl, b2⟩
 have K0 := hide (block_on H0.out b2)
 have K1 := hide (block_on H1.out b2)
 have HB2 := hide (below_here HBA.out b2)
 have HY2 := hide (HYA.out.later b2 (by omega))
 have HS2 := hide (HSA.out.later b2 (by omega))
 have HP2 := hide (HPA.out.later b2 (by omega))
 have hs2 := b2.size
 clear b2 c0 c1 c2 c3 c4 c5 c6
 obtain ⟨c0, c1, c2, c3, c4, c5, c6⟩ := seven_cells K0.out
 cases hco : cacheOk ⟨rm, ys, ⟨z, qs, ps, op, st⟩⟩ with
 | false =>
  have HCE : Hid (cv = zeroC) := by show _ = _; rw [HCV.out]; unfold flushF; rw [hco]; rfl
  have HBE : Hid (bv = false) := by show _ = _; rw [HBV.out]; unfold flushB; rw [hco]; rfl
  obtain ⟨d0, d1, d2, d3, d4, d5, d6⟩ := seven_cells K1.out
  have f0 := four_frozen K1.out 0
  have f1 := four_frozen K1.out 1
  have f2 := four_frozen K1.out 2
  have f3 := four_frozen K1.out 3
  have f4 := four_frozen K1.out 4
  have f5 := four_frozen K1.out 5
  have f6 := four_frozen K1.out 6
  have HRS := hide (seven_set K1.out (.int .i64 0) (.slice none 0 0) (.int .i64 0) (.slice none 0 0) (.slice none 0 0) (.int .i64 0) (.int .i64 0))
  have HAS := hide (seven_aside (b := w.heap.size + 1) (Aside.refl (w.heap.size + 1) (w.heap.size + 1 + 1) w2) (Nat.le_refl _) (Nat.lt_succ_self _) (.int .i64 0) (.slice none 0 0) (.int .i64 0) (.slice none 0 0) (.slice none 0 0) (.int .i64 0) (.int .i64 0))
  have HBF := hide (HB2.out.trans (HAS.out.below (B := w.heap.size) (by omega) (HB2.out.size)))
  go_wp2_with fail
  refine bodyPost_ret (results_ct rfl rfl (run_loadVar_row _ _ _ _ _ _ _ HRS.out Tryz.underlying65 rfl (by kernel_rfl))) rfl ⟨_, by rw [HBE.out]; rfl, ?_⟩
  rw [HCE.out]
  exact CacheAns.toRd ⟨none, 0, none, 0, none, 0, rfl, cache_zero _ _, HBF.out, Nat.le_refl _⟩
 | true =>
  have hC := cacheOk_iff.1 hco
  have hfo : ftlOk z qs ps op st = true := hC.ftl
  obtain ⟨hmo, _, _, _, _, _, _⟩ := ftlOk_parts hfo
  have hm64 : m <= 64 := by have := (mapOk_len hmo).2; rw [HLP.out] at this; exact this
  have hm1 : 1 <= m := by have := (mapOk_len hmo).1; rw [HLP.out] at this; exact this
  have h16 : ni <= 16 := by have := hC.len; have := hC.r1; have := HLY.out; dsimp only at *; omega
  have HCK := hide (mapOk_chip hmo)
  have HC := hide hC
  have HCO : Hid (cv = (flushO ⟨rm, ys, ⟨z, qs, ps, op, st⟩⟩).getD ⟨rm, ys, ⟨z, qs, ps, op, st⟩⟩) := by show _ = _; rw [HCV.out]; unfold flushF; rw [hco]; rfl
  have HBO : Hid (bv = (flushO ⟨rm, ys, ⟨z, qs, ps, op, st⟩⟩).isSome) := by show _ = _; rw [HBV.out]; unfold flushB; rw [hco]; rfl
  have HCC : ∀ W, Hid (Below w2.heap.size w2 W -> Calls Tryz.prog 123 #[.agg #[.int .i64 rm, .slice ai ni ci, .int .i64 z, .slice a n cap, .slice am m cm, .int .i64 op, .int .i64 st]] W fun e w' => ∃ aj cj g c' gm cm' A C, e = .returned (.agg #[.int .i64 rm, .slice aj ni cj, .int .i64 z, .slice (some ⟨g, 0, none⟩) n c', .slice (some ⟨gm, 0, none⟩) m cm', .int .i64 op, .int .i64 st]) ∧ HdOwn W.heap.size w' (.slice aj ni cj) ys ∧ GrowSqs W.heap.size w' n qs g A C ∧ PlOwn W.heap.size w' (.slice (some ⟨gm, 0, none⟩) ps.length cm') ps ∧ gm ≠ g ∧ (Value.slice aj ni cj).ownBlock ≠ some g ∧ Below W.heap.size W w') := fun W hb =>
   l12Copy_any rm ai ni ci ys z a n cap qs am m cm ps op st W (HY2.out.later hb (by omega)) (by have := hb.size; omega) (by omega) (HS2.out.later hb (by omega)) (by have := hb.size; omega) HCK.out (HP2.out.later hb (by omega)) (by have := hb.size; omega) hm1 hm64
  -- the refusal: a copy of what came in
  have HNO : ∀ (W : World), Hid (cv = ⟨rm, ys, ⟨z, qs, ps, op, st⟩⟩ -> bv = false -> True) := fun _ _ _ => trivial
  have HOK : Hid (ftlOkF ⟨z, qs, ps, op, st⟩ = true) := hfo
  clear hmo hco hC hfo HNO
  go_wp2_with fail
  refine ((HCC _).out (Below.refl _ _)).mono ?_
  rintro e w3 ⟨aj, cj, g, c', gm, cm', A, C, rfl, ho3, hG3, hP3, hne3, hng3, b3⟩
  obtain ⟨wO, hwO⟩ : ∃ wO, wO = w3.alloc (.cells #[.int .i64 rm, .slice aj ni cj, .int .i64 z, .slice (some ⟨g, 0, none⟩) n c', .slice (some ⟨gm, 0, none⟩) m cm', .int .i64 op, .int .i64 st] 65) := ⟨_, rfl⟩
  have hzO : wO.heap.size = w3.heap.size + 1 := by rw [hwO]; simp
  have HBO3 : Hid (Below w3.heap.size w3 wO) := by rw [hwO]; exact (Below.refl _ _).alloc (Nat.le_refl _) _
  have HO3 : Hid (wO.heap[w3.heap.size]? = some (.cells #[.int .i64 rm, .slice aj ni cj, .int .i64 z, .slice (some ⟨g, 0, none⟩) n c', .slice (some ⟨gm, 0, none⟩) m cm', .int .i64 op, .int .i64 st] 65)) := by rw [hwO]; exact heap_new _ _
  have hs3 := b3.size
  have hg3 : g < w3.heap.size := by have := hG3.row.1; omega
  have HCA : Hid (CacheAt w2.heap.size wO w3.heap.size ⟨rm, ys, ⟨z, qs, ps, op, st⟩⟩ aj cj n g c' gm cm' A C) := by
   have h9 : HdOwn w2.heap.size wO (.slice aj ni cj) ys := HdOwn_on2 ho3 HBO3.out
   refine ⟨⟨hG3.later HBO3.out, own_keepBy hP3 (grown_below HBO3.out none) (fun k e => by cases e), ?_, hne3, by omega, by omega⟩, ?_, ?_⟩
   ·dsimp only; rw [HLY.out, HLP.out]; exact HO3.out
   ·dsimp only; rw [HLY.out]; exact h9
   ·dsimp only; rw [HLY.out]; exact hng3
  have HB3 := hide (below_here b3 HBO3.out)
  have L0 := hide (block_on K0.out HB3.out)
  have L1 := hide (block_on K1.out HB3.out)
  have HBW := hide (below_here HB2.out HB3.out)
  clear ho3 hG3 hP3 hne3 hng3 b3 c0 c1 c2 c3 c4 c5 c6 HO3
  have HZO := hide hzO
  clear hzO
  -- where it is refused
  have HREF : ∀ (W : World) (tmps : Unit), Hid True := fun _ _ => trivial
  clear HREF
  obtain ⟨c0, c1, c2, c3, c4, c5, c6⟩ := seven_cells L0.out
  have hsO := HB3.out.size
  have hzo := HZO.out
  go_upto_region 4 with fail
  rw [<- hwO]
  clear hwO
  go_wp2_with fail
  clear c0 c1 c2 c3 c4 c5 c6
  go_loopw [5] (fun i wr => ∃ (r : Nat) (YS : List Hd) (F : Fv) (aj' : Option Addr) (A' : Nat -> Option Addr) (C' : Nat -> Nat), r <= ni ∧ i = .int .i64 ((r : Int) - 1) ∧ flushN ys ⟨z, qs, ps, op, st⟩ (ni - r) = some (YS, F) ∧ CacheAt w2.heap.size wr w3.heap.size ⟨rm, YS, F⟩ aj' cj n g c' gm cm' A' C' ∧ Below w2.heap.size wO wr) (fun i _ => (intOf i + 1).toNat)
  case atStart => exact ⟨ni, ys, ⟨z, qs, ps, op, st⟩, aj, A, C, Nat.le_refl _, rfl, by rw [Nat.sub_self]; rfl, HCA.out, Below.refl _ _⟩
  case round =>
   obtain ⟨r, YS, F, aj', A', C', hr, rfl, hfl, hca, hbl⟩ := hrel
   have HFL := hide hfl
   have HCR := hide hca
   have hsr := hbl.size
   have HBr := hide (HB3.out.trans hbl)
   have HBW6 := hide (HBW.out.trans (hbl.mono (show w.heap.size <= w2.heap.size by omega)))
   have M0 : Hid (wr.heap[w.heap.size]? = some (.cells #[.int .i64 rm, .slice ai ni ci, .int .i64 z, .slice a n cap, .slice am m cm, .int .i64 op, .int .i64 st] 65)) := (hbl.block _ (by omega)).trans L0.out
   have M1 : Hid (wr.heap[w.heap.size + 1]? = some (.cells #[.int .i64 0, .slice none 0 0, .int .i64 0, .slice none 0 0, .slice none 0 0, .int .i64 0, .int .i64 0] 65)) := (hbl.block _ (by omega)).trans L1.out
   obtain ⟨hokF, hlen, hpl, hql, hzz⟩ := flush_kept HOK.out hfl
   have HLN : Hid (YS.length = ni) := by show _ = _; rw [hlen]; exact HLY.out
   have HOF := hide hokF
   have HLOW := hide (flush_low hfl)
   have HBL := hide hbl
   clear hfl hca hbl hokF hlen hpl hql hzz
   obtain ⟨c0, c1, c2, c3, c4, c5, c6⟩ := seven_cells M0.out
   by_cases hr0 : 0 < r
   ·obtain ⟨q, rfl⟩ : ∃ q, r = q + 1 := ⟨r - 1, by omega⟩
    have hq1 : (((q + 1 : Nat) : Int) - 1) = (q : Int) := by omega
    rw [hq1]
    have hqn : q < ni := by omega
    have hqi : (q : Int) < (ni : Int) := by omega
    have HNX : Hid (flushN ys ⟨z, qs, ps, op, st⟩ (ni - q) = (backD F (hdAt ys q)).map fun f' => (YS.set q (cleanH (hdAt ys q)), f')) := flush_next HLY.out hqn HFL.out
    obtain ⟨b, off, rfl, hb1, hb2, hcc⟩ := HY2.out.2.2 (by omega)
    obtain ⟨x0, x1, x2⟩ := hd_cells hcc HBr.out (show b < w2.heap.size by omega) hqn
    have HYQ : Hid (hdAt YS q = hdAt ys q) := HLOW.out q (by have := HLY.out; omega)
    clear hcc
    generalize hdAt ys q = y at *
    obtain ⟨ya, yt, yd⟩ := y
    dsimp only at x0 x1 x2
    cases yd with
    | false =>
     have HSM : Hid (YS.set q (cleanH (ya, yt, false)) = YS) := set_same (by rw [HLN.out]; exact hqn) HYQ.out
     have HNY : Hid (flushN ys ⟨z, qs, ps, op, st⟩ (ni - q) = some (YS, F)) := by show _ = _; rw [HNX.out, HSM.out]; rfl
     go_wp2_with fail
     go_roundw
     case rel => exact ⟨q, YS, F, aj', A', C', by omega, by go_num, HNY.out, HCR.out, HBL.out⟩
     case measure => simp [intOf]
    | true =>
     have HM := hide HCR.out.mem
     have HI := hide HCR.out.items
     have HNG := hide HCR.out.ng
     dsimp only at HM HI HNG
     obtain ⟨hmo, _, _, hst0, hst1, _, _⟩ := ftlOk_parts (show ftlOk F.z F.qs F.ps F.op F.st = true from HOF.out)
     have HCB := hide (l12Back_any w2.heap.size w3.heap.size rm (.slice aj' YS.length cj) F.z F.st n g c' gm cm' A' C' F.qs F.ps F.op ya yt true wr HM.out (by omega) (kok_of (show ftlOk F.z F.qs F.ps F.op F.st = true from HOF.out) []) ⟨hst0, hst1⟩)
     obtain ⟨eK, heK⟩ : ∃ eK, eK = enterK F.z ⟨F.qs, F.ps, F.op, []⟩ F.st 1 ya yt := ⟨_, rfl⟩
     rw [<- heK] at HCB
     have HBD : Hid (backD F (ya, yt, true) = eK.map fun s => ⟨F.z, s.qs, s.ps, s.op, F.st + 1⟩) := by show _ = _; rw [heK]; rfl
     clear heK hmo hst0 hst1
     go_wp2_with fail
     refine HCB.out.mono ?_
     rintro e w6 ⟨rfl, hf6, hk6⟩
     have HF6 := hide hf6
     have HK6 := hide hk6
     have hs6 := hf6.below.size
     have N0 : Hid (w6.heap[w.heap.size]? = some (.cells #[.int .i64 rm, .slice (some ⟨b, off, none⟩) ni ci, .int .i64 z, .slice a n cap, .slice am m cm, .int .i64 op, .int .i64 st] 65)) := (hf6.below.block _ (by omega)).trans M0.out
     have P1 : Hid (w6.heap[w.heap.size + 1]? = some (.cells #[.int .i64 0, .slice none 0 0, .int .i64 0, .slice none 0 0, .slice none 0 0, .int .i64 0, .int .i64 0] 65)) := (hf6.below.block _ (by omega)).trans M1.out
     have HB26 := hide (HBr.out.trans hf6.below)
     have HBW7 := hide (HBW6.out.trans (hf6.below.mono (show w.heap.size <= w2.heap.size by omega)))
     have HBL6 := hide (HBL.out.trans hf6.below)
     clear hf6 hk6 HCB c0 c1 c2 c3 c4 c5 c6 x0 x1 x2
     cases heK : eK with
     | none =>
      have HFN : Hid (flushO ⟨rm, ys, ⟨z, qs, ps, op, st⟩⟩ = none) := by
       show _ = _
       have h1 : flushN ys ⟨z, qs, ps, op, st⟩ (ni - q) = none := by rw [HNX.out, HBD.out, heK]; rfl
       have h2 := flush_none h1 q
       unfold flushO
       dsimp only
       rw [HLY.out, show ni = ni - q + q by omega, h2]; rfl
      rw [Option.isSome_none]
      clear heK
      have HCE : Hid (cv = ⟨rm, ys, ⟨z, qs, ps, op, st⟩⟩) := by show _ = _; rw [HCO.out, HFN.out]; rfl
      have HBE : Hid (bv = false) := by show _ = _; rw [HBO.out, HFN.out]; rfl
      obtain ⟨c0, c1, c2, c3, c4, c5, c6⟩ := seven_cells N0.out
      go_wp2_with fail
      refine ((HCC _).out HB26.out).mono ?_
      rintro e w7 ⟨a7, c7, g7, d7, m7, e7, A7, C7, rfl, ho7, hG7, hP7, hne7, hng7, b7⟩
      have N1 := hide (block_on P1.out b7)
      have HB7 := hide (below_here HBW7.out b7)
      have hs7 := b7.size
      have HR7 := hide (crd_of ho7 hG7 hP7)
      have hsW := (HBW7.out).size
      clear ho7 hG7 hP7 hne7 hng7 b7 c0 c1 c2 c3 c4 c5 c6
      obtain ⟨d0, d1, d2, d3, d4, d5, d6⟩ := seven_cells N1.out
      have f0 := four_frozen N1.out 0
      have f1 := four_frozen N1.out 1
      have f2 := four_frozen N1.out 2
      have f3 := four_frozen N1.out 3
      have f4 := four_frozen N1.out 4
      have f5 := four_frozen N1.out 5
      have f6 := four_frozen N1.out 6
      have HRS := hide (seven_set N1.out (.int .i64 rm) (.slice a7 ni c7) (.int .i64 z) (.slice (some ⟨g7, 0, none⟩) n d7) (.slice (some ⟨m7, 0, none⟩) m e7) (.int .i64 op) (.int .i64 st))
      have HAS := hide (seven_aside (b := w.heap.size + 1) (Aside.refl (w.heap.size + 1) (w.heap.size + 1 + 1) w7) (Nat.le_refl _) (Nat.lt_succ_self _) (.int .i64 rm) (.slice a7 ni c7) (.int .i64 z) (.slice (some ⟨g7, 0, none⟩) n d7) (.slice (some ⟨m7, 0, none⟩) m e7) (.int .i64 op) (.int .i64 st))
      have HBF := hide (HB7.out.trans (HAS.out.below (B := w.heap.size) (by omega) (HB7.out.size)))
      go_wp2_with fail
      refine bodyPost_ret (results_ct rfl rfl (run_loadVar_row _ _ _ _ _ _ _ HRS.out Tryz.underlying65 rfl (by kernel_rfl))) rfl ⟨_, by rw [HBE.out]; rfl, ?_⟩
      rw [HCE.out]
      refine ⟨a7, c7, some ⟨g7, 0, none⟩, d7, some ⟨m7, 0, none⟩, e7, ?_, (HR7.out.aside HAS.out (.inl (by omega))).wide (by omega) HAS.out.size (Nat.le_refl _), HBF.out⟩
      unfold cvV
      dsimp only
      rw [HLY.out, HLQ.out, HLP.out]
     | some s6 =>
      obtain ⟨A6, C6, hM6⟩ := HK6.out s6 heK
      obtain ⟨gj, cj9, e9, hcl9, hgl1, hgl2⟩ := hd_some HI.out (by have := HLN.out; omega)
      simp only [Value.slice.injEq] at e9
      obtain ⟨rfl, -, rfl⟩ := e9
      obtain ⟨cs9, fz9, hkd⟩ := Go.Lib.ownsRow_kind HI.out gj rfl
      have hgg : gj ≠ g := fun e => HNG.out (by rw [<- e]; rfl)
      have hgp : gj ≠ w3.heap.size := fun e => by
       have h1 := HM.out.box
       rw [<- e, hkd] at h1
       simp only [Option.some.injEq, Obj.cells.injEq] at h1
       exact absurd h1.2.1 (by decide)
      have hgm9 : gj ≠ gm := fun e => by
       obtain ⟨cs8, fz8, hk8⟩ := Go.Lib.ownsRow_kind HM.out.pl gm rfl
       rw [<- e, hkd] at hk8
       simp only [Option.some.injEq, Obj.cells.injEq] at hk8
       exact absurd hk8.2.1 (by decide)
      have HI6 := hide (hd_frame HI.out HF6.out (fun q e => by have e' : some gj = some q := e; simp only [Option.some.injEq] at e'; subst e'; simp only [List.mem_cons, List.not_mem_nil, or_false]; omega))
      obtain ⟨cs6, fz6, hkd6⟩ := Go.Lib.ownsRow_kind HI6.out gj rfl
      have hqY : q < YS.length := by rw [HLN.out]; exact hqn
      obtain ⟨hcl, hgr⟩ := hd_clean HI6.out hqY
      have HCL := hide hcl
      have HM7 := hide (mem_kept hM6 hgr hkd6 hgg)
      have HB7 := hide (HBL6.out.setCell (p := ⟨gj, 3 * q + 2, none⟩) hgl1 (.bool false))
      obtain ⟨b9, o9, e9, _, _, hc9⟩ := (hd_own HI6.out).2.2 (by omega)
      simp only [Option.some.injEq, Addr.mk.injEq, and_true] at e9
      obtain ⟨rfl, rfl⟩ := e9
      have hcq := hc9 (3 * q + 2) (by omega)
      rw [Nat.zero_add, show 3 * q + 2 = q * 3 + 2 by omega] at hcq
      obtain ⟨v1, v2⟩ := hcq
      rw [show 3 * q + 2 = q * 3 + 2 by omega] at HCL HM7 HB7
      obtain ⟨y0, y1, y2, y3, y4, y5, y6⟩ := seven_cells hM6.box
      have HNY : Hid (flushN ys ⟨z, qs, ps, op, st⟩ (ni - q) = some (YS.set q (cleanH (ya, yt, true)), ⟨F.z, s6.qs, s6.ps, s6.op, F.st + 1⟩)) := by show _ = _; rw [HNX.out, HBD.out, heK]; rfl
      have hYL : (YS.length : Int) = (ni : Int) := by have := HLN.out; omega
      have HYL := hide hYL
      rw [Option.isSome_some]
      rw [HYQ.out] at HCL
      have HSL : Hid ((YS.set q (cleanH (ya, yt, true))).length = YS.length) := by show _ = _; simp
      clear heK hcl hgr hM6 hc9 hkd hkd6 hYL
      skip
      go_wp2_with fail
      go_roundw
      case rel => exact ⟨q, _, _, some ⟨gj, 0, none⟩, A6, C6, by omega, by go_num, HNY.out, ⟨by dsimp only; rw [HSL.out]; exact HM7.out, HCL.out, by dsimp only; intro e; simp [Value.ownBlock] at e; exact hgg e⟩, HB7.out⟩
      case measure => simp [intOf]
   ·obtain rfl : r = 0 := by omega
    have hm1 : (((0 : Nat) : Int) - 1) = -1 := rfl
    rw [hm1]
    have HFS : Hid (flushO ⟨rm, ys, ⟨z, qs, ps, op, st⟩⟩ = some ⟨rm, YS, F⟩) := by
     show _ = _
     unfold flushO
     dsimp only
     rw [HLY.out]
     have h1 := HFL.out
     rw [Nat.sub_zero] at h1
     rw [h1]; rfl
    have HCE : Hid (cv = ⟨rm, YS, F⟩) := by show _ = _; rw [HCO.out, HFS.out]; rfl
    have HBE : Hid (bv = true) := by show _ = _; rw [HBO.out, HFS.out]; rfl
    have HM6 := hide HCR.out.mem
    have HI6 := hide HCR.out.items
    dsimp only at HM6 HI6
    have HQL := hide HM6.out.sq.len
    obtain ⟨y0, y1, y2, y3, y4, y5, y6⟩ := seven_cells HM6.out.box
    clear c0 c1 c2 c3 c4 c5 c6
    obtain ⟨Z, Q, PS, OP, ST⟩ := F
    dsimp only at y0 y1 y2 y3 y4 y5 y6 HM6 HQL
    obtain ⟨d0, d1, d2, d3, d4, d5, d6⟩ := seven_cells M1.out
    have f0 := four_frozen M1.out 0
    have f1 := four_frozen M1.out 1
    have f2 := four_frozen M1.out 2
    have f3 := four_frozen M1.out 3
    have f4 := four_frozen M1.out 4
    have f5 := four_frozen M1.out 5
    have f6 := four_frozen M1.out 6
    have HRS := hide (seven_set M1.out (.int .i64 rm) (.slice aj' YS.length cj) (.int .i64 Z) (.slice (some ⟨g, 0, none⟩) n c') (.slice (some ⟨gm, 0, none⟩) PS.length cm') (.int .i64 OP) (.int .i64 ST))
    have HAS := hide (seven_aside (b := w.heap.size + 1) (Aside.refl (w.heap.size + 1) (w.heap.size + 1 + 1) wr) (Nat.le_refl _) (Nat.lt_succ_self _) (.int .i64 rm) (.slice aj' YS.length cj) (.int .i64 Z) (.slice (some ⟨g, 0, none⟩) n c') (.slice (some ⟨gm, 0, none⟩) PS.length cm') (.int .i64 OP) (.int .i64 ST))
    have HBF := hide (HBW6.out.trans (HAS.out.below (B := w.heap.size) (by omega) (HBW6.out.size)))
    go_wp2_with fail
    refine bodyPost_ret (results_ct rfl rfl (run_loadVar_row _ _ _ _ _ _ _ HRS.out Tryz.underlying65 rfl (by kernel_rfl))) rfl ⟨_, by rw [HBE.out]; rfl, ?_⟩
    rw [HCE.out]
    refine ⟨aj', cj, some ⟨g, 0, none⟩, c', some ⟨gm, 0, none⟩, cm', ?_, ((crd_of HI6.out HM6.out.sq HM6.out.pl).aside HAS.out (.inl (by omega))).wide (by omega) HAS.out.size (Nat.le_refl _), HBF.out⟩
    unfold cvV
    dsimp only
    rw [HQL.out]
end Go.Proofs.YtkbhcdkfjniafaaGreatDoor
end

section
namespace Go.Proofs.YtkbhcdkfjniafaaGreatDoor
open Go.RowKit
set_option linter.unusedVariables false
set_option maxRecDepth 20000
theorem hdL_snoc (ys : List Hd) (x : Hd) : hdL ys ++ [.int .i64 x.1, .string x.2.1, .bool x.2.2] = hdL (ys ++ [x]) := by rw [hdL_append]; rfl
theorem hd_take_snoc {ys : List Hd} {k : Nat} (h : k < ys.length) : ys.take k ++ [hdAt ys k] = ys.take (k + 1) := by
 rw [List.take_succ_eq_append_getElem h, hdAt_get h]
theorem hd_new (w : World) (x y z : Value) (t : TypeId) : ∀ j u, [x, y, z][j]? = some u -> (w.alloc (.cells #[x, y, z] t)).cell? ((⟨w.heap.size, 0, none⟩ : Addr).add j) = some u := cell_three_new w x y z t
def CacheAns2 (w : World) (c : Cv) (v : Value) (w' : World) : Prop := ∃ ai ci a cp am cm, v = cvV c ai ci a cp am cm ∧ CacheOwn w.heap.size w'.heap.size w' ai a am c.ys c.f.qs c.f.ps ∧ Below w.heap.size w w' ∧ c.f.ps.length <= cm ∧ c.ys.length <= ci
theorem CacheAns2.one {w w' : World} {c : Cv} {v : Value} (h : CacheAns2 w c v w') : CacheAns w c v w' := by
 obtain ⟨ai, ci, a, cp, am, cm, h1, h2, h3, h4, _⟩ := h
 exact ⟨ai, ci, a, cp, am, cm, h1, h2, h3, h4⟩
set_option maxHeartbeats 6400000 in
theorem copyOfCache_any (rm : Int) (ai : Option Addr) (ni ci : Nat) (ys : List Hd) (z : Int) (a : Option Addr) (n cap : Nat) (qs : List Sq) (am : Option Addr) (m cm : Nat) (ps : List Pl) (op st : Int) (w : World) {l1 r1 lo hi lo' hi' : Nat} (hy : Helds l1 r1 w ai ni ys) (hr1 : r1 <= w.heap.size) (hni : ni <= 1000) (hfy : ∀ i, i < ni -> (hdAt ys i).2.1.size <= 1048576) (h : Squares lo hi w a n qs) (hhi : hi <= w.heap.size) (hok : chipOk z qs = true) (hp : Places lo' hi' w am m ps) (hhi' : hi' <= w.heap.size) (hm1 : 1 <= m) (hm : m <= 64) :
  Calls Tryz.prog 114 #[.agg #[.int .i64 rm, .slice ai ni ci, .int .i64 z, .slice a n cap, .slice am m cm, .int .i64 op, .int .i64 st]] w fun e w' => ∃ v, e = .returned v ∧ CacheAns2 w ⟨rm, ys, ⟨z, qs, ps, op, st⟩⟩ v w' := by
 obtain ⟨wA, hwA⟩ : ∃ wA, wA = (w.alloc (.cells #[.int .i64 rm, .slice ai ni ci, .int .i64 z, .slice a n cap, .slice am m cm, .int .i64 op, .int .i64 st] 65)).alloc (.cells #[.int .i64 0, .slice none 0 0, .int .i64 0, .slice none 0 0, .slice none 0 0, .int .i64 0, .int .i64 0] 65) := ⟨_, rfl⟩
 have hzA : wA.heap.size = w.heap.size + 1 + 1 := by rw [hwA]; simp
 have HBA : Hid (Below w.heap.size w wA) := by rw [hwA]; exact ((Below.refl _ _).alloc (Nat.le_refl _) _).alloc (by simp) _
 have H0 : Hid (wA.heap[w.heap.size]? = some (.cells #[.int .i64 rm, .slice ai ni ci, .int .i64 z, .slice a n cap, .slice am m cm, .int .i64 op, .int .i64 st] 65)) := by rw [hwA]; exact heap_old (heap_new _ _)
 have H1 : Hid (wA.heap[w.heap.size + 1]? = some (.cells #[.int .i64 0, .slice none 0 0, .int .i64 0, .slice none 0 0, .slice none 0 0, .int .i64 0, .int .i64 0] 65)) := by rw [hwA]; exact heap_at (by simp)
 have HYA := hide (hy.later HBA.out hr1)
 have HSA := hide (h.later HBA.out hhi)
 have HPA := hide (hp.later HBA.out hhi')
 have HFY := hide hfy
 have hly := hy.1
 have hlq := h.1
 have hlp := hp.1
 obtain ⟨i0, hi0, hzz0, hzz1, hzz2⟩ := info_parts Tryz.infoHeld
 have HCF : ∀ W, Hid (Below wA.heap.size wA W -> Calls Tryz.prog 102 #[.agg #[.int .i64 z, .slice a n cap, .slice am m cm, .int .i64 op, .int .i64 st]] W fun e w' => ∃ v, e = .returned v ∧ FtlAns W ⟨z, qs, ps, op, st⟩ v w') := fun W hb =>
  copyOfFtl_raw z a n cap qs am m cm ps op st W (HSA.out.later hb (by omega)) (by have := hb.size; omega) hok (HPA.out.later hb (by omega)) (by have := hb.size; omega) hm1 hm
 clear h hp hy hfy
 obtain ⟨c0, c1, c2, c3, c4, c5, c6⟩ := seven_cells H0.out
 go_enter Tryz.func114, Tryz.ntmps114
 go_upto_region 1 with fail
 rw [<- hwA]
 clear hwA
 go_cut [3] (fun v wx => ∃ (P : Nat) (a' : Option Addr) (c' : Nat) (am' : Option Addr) (cm' : Nat), v = .pointer (some ⟨P, 0, none⟩) ∧ wx.heap[P]? = some (.cells #[.int .i64 rm, .slice none 0 0, .int .i64 z, .slice a' n c', .slice am' m cm', .int .i64 op, .int .i64 st] 65) ∧ (∃ lF hF, FtlOwn lF hF wx a' am' qs ps ∧ wA.heap.size <= lF ∧ hF <= wx.heap.size ∧ (P + 1 <= lF ∨ hF <= P)) ∧ Below wA.heap.size wA wx ∧ ps.length <= cm' ∧ wA.heap.size <= P)
 case first =>
  obtain ⟨wZ, hwZ⟩ : ∃ wZ, wZ = wA.alloc (.cells #[.int .i64 0, .slice none 0 0, .int .i64 0, .slice none 0 0, .slice none 0 0, .int .i64 0, .int .i64 0] 65) := ⟨_, rfl⟩
  have hzZ : wZ.heap.size = wA.heap.size + 1 := by rw [hwZ]; simp
  have HBZ : Hid (Below wA.heap.size wA wZ) := by rw [hwZ]; exact (Below.refl _ _).alloc (Nat.le_refl _) _
  have HZ : Hid (wZ.heap[wA.heap.size]? = some (.cells #[.int .i64 0, .slice none 0 0, .int .i64 0, .slice none 0 0, .slice none 0 0, .int .i64 0, .int .i64 0] 65)) := by rw [hwZ]; exact heap_new _ _
  have HZ0 := hide (block_on H0.out HBZ.out)
  have HBD : Hid (Below wA.heap.size wA wZ.drew) := HBZ.out.drew
  rw [hwZ] at HBD
  have cz := seven_cells HZ0.out
  rw [hwZ] at cz
  obtain ⟨e0, e1, e2, e3, e4, e5, e6⟩ := cz
  have HZA := hide hzA
  have HZZ := hide hzZ
  clear hzA hzZ
  go_region_with (first
   | (go_at_call 102; refine ((HCF _).out (by exact (Below.refl wA.heap.size wA).drew)).mono ?_; rintro e w5 ⟨v, rfl, a', c', am', cm', rfl, ho5, b5, hcap5⟩; unfold fvV; dsimp only; rw [hlq, hlp]; have HO5 := hide ho5; have HC5 := hide hcap5; have M0 := hide (block_on (w := wA.drew) H0.out b5); have HB5 : Hid (Below wA.heap.size wA w5) := below_here (Below.refl wA.heap.size wA).drew b5; have hs5 : wA.heap.size <= w5.heap.size := b5.size; have HWAY : Hid (True ∧ wA = wA) := ⟨trivial, rfl⟩; clear ho5 b5 hcap5; obtain ⟨y0, y1, y2, y3, y4, y5, y6⟩ := seven_cells M0.out; have M2 := hide (heap_old (o := .cells #[.int .i64 0, .slice none 0 0, .int .i64 0, .slice none 0 0, .slice none 0 0, .int .i64 0, .int .i64 0] 65) M0.out); obtain ⟨v0, v1, v2, v3, v4, v5, v6⟩ := seven_cells M2.out; have NZ := hide (heap_new w5 (.cells #[.int .i64 0, .slice none 0 0, .int .i64 0, .slice none 0 0, .slice none 0 0, .int .i64 0, .int .i64 0] 65)); obtain ⟨d0, d1, d2, d3, d4, d5, d6⟩ := seven_cells NZ.out; have f0 := four_frozen NZ.out 0; have f1 := four_frozen NZ.out 1; have f2 := four_frozen NZ.out 2; have f3 := four_frozen NZ.out 3; have f4 := four_frozen NZ.out 4; have f5 := four_frozen NZ.out 5; have f6 := four_frozen NZ.out 6)
   | (go_at_call 102; refine ((HCF _).out (by exact HBD.out)).mono ?_; rintro e w5 ⟨v, rfl, a', c', am', cm', rfl, ho5, b5, hcap5⟩; unfold fvV; dsimp only; rw [hlq, hlp]; rw [<- hwZ] at ho5 b5; have HO5 := hide ho5; have HC5 := hide hcap5; have M0 := hide (block_on (w := wZ.drew) HZ0.out b5); have M1 := hide (block_on (w := wZ.drew) HZ.out b5); have HB5 : Hid (Below wA.heap.size wA w5) := (show Below wA.heap.size wA wZ.drew from HBZ.out.drew).trans (b5.mono HBZ.out.size); have hs5 : wZ.heap.size <= w5.heap.size := b5.size; clear ho5 b5 hcap5; obtain ⟨y0, y1, y2, y3, y4, y5, y6⟩ := seven_cells M0.out; obtain ⟨d0, d1, d2, d3, d4, d5, d6⟩ := seven_cells M1.out; have f0 := four_frozen M1.out 0; have f1 := four_frozen M1.out 1; have f2 := four_frozen M1.out 2; have f3 := four_frozen M1.out 3; have f4 := four_frozen M1.out 4; have f5 := four_frozen M1.out 5; have f6 := four_frozen M1.out 6))
  all_goals first
   | (have HBF := hide (HB5.out.alloc (o := .cells #[.int .i64 rm, .slice none 0 0, .int .i64 z, .slice a' n c', .slice am' m cm', .int .i64 op, .int .i64 st] 65) hs5)
      have HOF := hide (HO5.out.later ((Below.refl w5.heap.size w5).alloc (o := .cells #[.int .i64 rm, .slice none 0 0, .int .i64 z, .slice a' n c', .slice am' m cm', .int .i64 op, .int .i64 st] 65) (Nat.le_refl _)) (Nat.le_refl _))
      have HUSE := HWAY
      go_wp2_with fail
      go_meet
      exact ⟨w5.heap.size, a', c', am', cm', rfl, heap_new _ _, ⟨wA.heap.size, w5.heap.size, HOF.out, Nat.le_refl _, by simp, .inr (Nat.le_refl _)⟩, HBF.out, HC5.out, hs5⟩)
   | (have HRS := hide (seven_set M1.out (.int .i64 rm) (.slice none 0 0) (.int .i64 z) (.slice a' n c') (.slice am' m cm') (.int .i64 op) (.int .i64 st))
      have HAS := hide (seven_aside (b := wA.heap.size) (Aside.refl wA.heap.size (wA.heap.size + 1) w5) (Nat.le_refl _) (Nat.lt_succ_self _) (.int .i64 rm) (.slice none 0 0) (.int .i64 z) (.slice a' n c') (.slice am' m cm') (.int .i64 op) (.int .i64 st))
      have HBF := hide (HB5.out.trans (HAS.out.below (B := wA.heap.size) (Nat.le_refl _) (by have := HZZ.out; omega)))
      have HOF := hide (HO5.out.aside HAS.out (.inl (by show wA.heap.size + 1 <= wZ.heap.size; have := HZZ.out; omega)))
      go_wp2_with fail
      go_meet
      exact ⟨wA.heap.size, a', c', am', cm', rfl, HRS.out, ⟨wZ.heap.size, w5.heap.size, HOF.out, HBZ.out.size, HAS.out.size, .inl (by have := HZZ.out; omega)⟩, HBF.out, HC5.out, Nat.le_refl _⟩)
 case rest =>
  obtain ⟨P, a', c', am', cm', rfl, hP, hown, hbel, hcap, hPA⟩ := hcut
  obtain ⟨wS, hwS⟩ : ∃ wS, wS = wc := ⟨_, rfl⟩
  subst hwS
  have HP := hide hP
  obtain ⟨lF, hF, hown, hlF, hhF, hapF⟩ := hown
  have HOW := hide hown
  have HBS := hide hbel
  have HCP := hide hcap
  have hPl : P < wS.heap.size := (Array.getElem?_eq_some_iff.1 hP).1
  have K0 := hide (block_on H0.out hbel)
  have K1 := hide (block_on H1.out hbel)
  have HY := hide (HYA.out.later hbel (by omega))
  clear hP hown hbel hcap HCF c0 c1 c2 c3 c4 c5 c6 H0 H1
  obtain ⟨c0, c1, c2, c3, c4, c5, c6⟩ := seven_cells K0.out
  go_wp2_with fail
  clear c0 c1 c2 c3 c4 c5 c6
  go_loopw [15] (fun i wr => ∃ (k : Nat) (V : Value), k <= ni ∧ i = .int .i64 (k : Int) ∧ wr.heap[P]? = some (.cells #[.int .i64 rm, V, .int .i64 z, .slice a' n c', .slice am' m cm', .int .i64 op, .int .i64 st] 65) ∧ wr.ownsRow wS.heap.size 83 3 V k (hdL (ys.take k)) ∧ wS.heap.size <= wr.heap.size ∧ Aside P (P + 1) wS wr) (fun i _ => ni - (intOf i).toNat)
  case atStart => exact ⟨0, .slice none 0 0, Nat.zero_le _, rfl, HP.out, World.ownsRow_nil _ _ _ _, Nat.le_refl _, Aside.refl _ _ _⟩
  case round =>
   obtain ⟨k, V, hk, rfl, hb0, hrow, hsz, hbel⟩ := hrel
   have KP := hide hb0
   have HRW := hide hrow
   have HBB := hide hbel
   clear hb0 hrow
   have hV : ∀ m, V.ownBlock = some m -> wS.heap.size <= m := fun m hm => (HRW.out.lt m hm).1
   by_cases hlt : k < ni
   ·obtain ⟨b, off, rfl, hb1, hb2, x0, x1, x2⟩ := hd_read (HY.out.aside hbel (.inl (by omega))) hlt
    have hx9 := HFY.out k hlt
    have HTK := hide (hd_take_snoc (ys := ys) (k := k) (by omega))
    have hkn : (k : Int) < (ni : Int) := by omega
    clear hbel
    generalize hdAt ys k = x at *
    obtain ⟨xa, xt, xd⟩ := x
    dsimp only at x0 x1 x2 hx9
    obtain ⟨wI, hwI⟩ : ∃ wI, wI = wr.alloc (.cells #[.int .i64 xa, .string xt, .bool xd] 83) := ⟨_, rfl⟩
    have hzI : wI.heap.size = wr.heap.size + 1 := by rw [hwI]; simp
    have HBI : Hid (Below wr.heap.size wr wI) := by rw [hwI]; exact (Below.refl _ _).alloc (Nat.le_refl _) _
    have HI : Hid (wI.heap[wr.heap.size]? = some (.cells #[.int .i64 xa, .string xt, .bool xd] 83)) := by rw [hwI]; exact heap_new _ _
    have KI := hide (block_on KP.out HBI.out)
    have HRI : Hid (wI.ownsRow wS.heap.size 83 3 V k (hdL (ys.take k))) := own_keepBy HRW.out (grown_below HBI.out none) (fun k e => by cases e)
    have HWI := hide (HBB.out.trans (aside_new HBI.out))
    obtain ⟨i1, i2, i3⟩ := three_cells HI.out
    obtain ⟨q0, q1, q2, q3, q4, q5, q6⟩ := seven_cells KI.out
    have HCL : ∀ w9, Hid (Calls Tryz.prog 176 #[.agg #[.int .i64 xa, .string xt, .bool xd]] w9 fun e w' => e = .returned (.agg #[.int .i64 xa, .string xt, .bool xd]) ∧ Below w9.heap.size w9 w') := fun w9 => copyOfHeld_any xa xt xd w9 hx9
    go_upto_region 5 with fail
    rw [<- hwI]
    clear hwI x0 x1 x2
    go_region_law (first
     | (refine step_append_lies _ (by rfl) _ _ _ (by rfl) wS.heap.size 83 i0 (.agg #[.int .i64 0, .string ByteArray.empty, .bool false]) 3 32 Tryz.underlying63 hi0 hzz0 hzz1 hzz2 rfl (by decide) V k (hdL (ys.take k)) (by rfl) HO9.out ⟨w9.heap.size, 0, none⟩ 1 1 [.int .i64 xa, .string xt, .bool xd] (by rfl) rfl (hd_new _ _ _ _ _) (hdV_one (xa, xt, xd)) (by omega) (by unfold maxLen; omega) (by omega) (by simp; omega) (w9.heap.size + 1) (by simp) ?_; intro g' c'' w5 hown5 hgr5 hat5 hlt5; have K5 : Hid (w5.heap[P]? = some (.cells #[.int .i64 rm, V, .int .i64 z, .slice a' n c', .slice am' m cm', .int .i64 op, .int .i64 st] 65)) := (hgr5.block _ (by simp; omega) (fun e => by have := hV _ e.symm; omega)).trans KA.out; obtain ⟨r0, r1, r2, r3, r4, r5, r6⟩ := seven_cells K5.out; have rf := four_frozen K5.out 1; have HO5 := hide hown5; have HR5 := hide hgr5; clear hown5 hgr5 hat5)
     | (go_simp; go_at_call 176; refine (HCL _).out.mono ?_; rintro e w9 ⟨rfl, b9⟩; have K9 := hide (block_on (w := wI.drew) KI.out b9); have hs9 : wI.heap.size <= w9.heap.size := b9.size; have KA := hide (heap_old (o := .cells #[.int .i64 xa, .string xt, .bool xd] 83) K9.out); have HO9 := hide ((HRI.out.drew.kept (grown_below b9 none) (by cases hv : V.ownBlock with | none => exact .inl rfl | some q => exact .inr (by simp))).alloc (.cells #[.int .i64 xa, .string xt, .bool xd] 83)); obtain ⟨s0, s1, s2, s3, s4, s5, s6⟩ := seven_cells K9.out; obtain ⟨t0, t1, t2, t3, t4, t5, t6⟩ := seven_cells KA.out; have B9 := hide ((Below.refl wI.heap.size wI).drew.trans b9); clear b9; dsimp only))
    all_goals
     have hs5 := HR5.out.size
     have hzz : (w9.alloc (.cells #[.int .i64 xa, .string xt, .bool xd] 83)).heap.size = w9.heap.size + 1 := by simp
     have HRL : Hid (w5.ownsRow wS.heap.size 83 3 (.slice (some ⟨g', 0, none⟩) (k + 1) c'') (k + 1) (hdL (ys.take (k + 1)))) := by have := HO5.out; rw [<- HTK.out, <- hdL_snoc]; exact this
     have HBA2 := hide ((HWI.out.trans (aside_new B9.out)).trans (aside_new ((Below.refl w9.heap.size w9).alloc (Nat.le_refl _) (.cells #[.int .i64 xa, .string xt, .bool xd] 83))))
     have HK0F := hide (set_block K5.out 1 (.slice (some ⟨g', 0, none⟩) (k + 1) c'') (by simp))
     have HOF := hide (ownsRow_setCell_below HRL.out (a := ⟨P, 1, none⟩) (by show P < _; omega) (.slice (some ⟨g', 0, none⟩) (k + 1) c''))
     have HA5 : Hid (Aside P (P + 1) wS w5) := ⟨HR5.out.os.trans HBA2.out.os, HR5.out.tape.trans HBA2.out.tape, HR5.out.output.trans HBA2.out.output, Nat.le_trans HBA2.out.size hs5, fun q hq h' => (HR5.out.block q (by omega) (fun e => by have := hV q e.symm; omega)).trans (HBA2.out.block q hq h')⟩
     have HBF := hide (HA5.out.setCell (p := ⟨P, 1, none⟩) (Nat.le_refl _) (Nat.lt_succ_self _) (.slice (some ⟨g', 0, none⟩) (k + 1) c''))
     have hsF : wS.heap.size <= (w5.setCell ⟨P, 1, none⟩ (.slice (some ⟨g', 0, none⟩) (k + 1) c'')).heap.size := by rw [Go.Deep.nblk_setCell]; omega
     go_wp2_with fail
     exact ⟨⟨k + 1, .slice (some ⟨g', 0, none⟩) (k + 1) c'', by omega, by go_num, HK0F.out, HOF.out, hsF, HBF.out⟩, by simp [intOf]; omega⟩
   ·obtain rfl : k = ni := by omega
    have HTK : Hid (ys.take k = ys) := by show _ = _; rw [<- hly]; exact List.take_length
    have hrw := HRW.out
    rw [HTK.out] at hrw
    obtain ⟨ai', ci', rfl⟩ : ∃ ai' ci', V = .slice ai' k ci' := by
     rcases Go.Joins.ownsRow_forms hrw with ⟨rfl, h0⟩ | ⟨g', c', rfl⟩
     ·exact ⟨none, 0, by rw [h0]⟩
     ·exact ⟨_, c', rfl⟩
    have hrw' : HdOwn wS.heap.size wr (.slice ai' k ci') ys := by show World.ownsRow _ _ _ _ _ ys.length _; rw [hly]; exact hrw
    have HOI := hide (hd_own hrw')
    have HCI : Hid (ys.length <= ci') := by
     obtain ⟨a9, c9, e9, h9⟩ := hd_form hrw'
     simp only [Value.slice.injEq] at e9
     show _ <= _
     omega
    have KZ : Hid (wr.heap[w.heap.size + 1]? = some (.cells #[.int .i64 0, .slice none 0 0, .int .i64 0, .slice none 0 0, .slice none 0 0, .int .i64 0, .int .i64 0] 65)) := (hbel.block _ (by omega) (.inl (by omega))).trans K1.out
    have HFT := hide (HOW.out.aside hbel hapF)
    clear hrw hrw' hbel
    obtain ⟨q0, q1, q2, q3, q4, q5, q6⟩ := seven_cells KP.out
    obtain ⟨p0, p1, p2, p3, p4, p5, p6⟩ := seven_cells KZ.out
    have f0 := four_frozen KZ.out 0
    have f1 := four_frozen KZ.out 1
    have f2 := four_frozen KZ.out 2
    have f3 := four_frozen KZ.out 3
    have f4 := four_frozen KZ.out 4
    have f5 := four_frozen KZ.out 5
    have f6 := four_frozen KZ.out 6
    have HRS := hide (seven_set KZ.out (.int .i64 rm) (.slice ai' k ci') (.int .i64 z) (.slice a' n c') (.slice am' m cm') (.int .i64 op) (.int .i64 st))
    have HAS := hide (seven_aside (b := w.heap.size + 1) (Aside.refl (w.heap.size + 1) (w.heap.size + 1 + 1) wr) (Nat.le_refl _) (Nat.lt_succ_self _) (.int .i64 rm) (.slice ai' k ci') (.int .i64 z) (.slice a' n c') (.slice am' m cm') (.int .i64 op) (.int .i64 st))
    have HBF := hide ((below_here HBA.out HBS.out).trans ((HBB.out.below (B := w.heap.size) (by omega) (by omega)).trans (HAS.out.below (B := w.heap.size) (by omega) (by omega))))
    have HCO : Hid (CacheOwn wA.heap.size wr.heap.size wr ai' a' am' ys qs ps) := ⟨Nat.le_refl _, wS.heap.size, wr.heap.size, lF, hF, by omega, Nat.le_refl _, hlF, by omega, .inr (by omega), HOI.out, HFT.out⟩
    go_wp2_with fail
    refine bodyPost_ret (results_cell rfl rfl (run_loadVar_row _ _ _ _ _ _ _ HRS.out Tryz.underlying65 rfl (by kernel_rfl))) rfl ⟨_, rfl, ai', ci', a', c', am', cm', ?_, ?_, HBF.out, HCP.out, HCI.out⟩
    ·unfold cvV; dsimp only; rw [hly, hlq, hlp]
    ·exact cache_stored HCO.out HAS.out (by omega) (by omega)
end Go.Proofs.YtkbhcdkfjniafaaGreatDoor
end

