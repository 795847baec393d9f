/- . -/
import Derived.Test.YtokdehlppolnhaaGreatDoorLFtlImplH
import Derived.Test.YtokdehlppolnhaaGreatDoorLFtlOwnP
import Derived.Test.YtokdehlppolnhaaGreatDoorLFtlSpecB
import Derived.Test.YtokdehlppolnhaaGreatDoorLQuietTail
import Derived.Lib.QuietBelow
import Derived.BigQuiet
import Derived.Deep.RegionHeld3
namespace Go.Proofs.YtokdehlppolnhaaGreatDoor
open Go.RowKit
set_option linter.unusedVariables false
set_option maxRecDepth 20000
theorem cacheAt_on {B px cj n g cp gm cm : Nat} {w w' : World} {c : Cv} {aj : Option Addr} {A : Nat -> Option Addr} {C : Nat -> Nat} (h : CacheAt B w px c aj cj n g cp gm cm A C) (hb : Below w.heap.size w w') : CacheAt B w' px c aj cj n g cp gm cm A C :=
 ⟨h.mem.later hb,HdOwn_on2 h.items hb,h.ng⟩
set_option maxHeartbeats 6400000 in
theorem specLoad_any (rm : Int) (ai : Option Addr) (ni ci : Nat) (ys : List Hd) (z : Int) (a : Option Addr) (n cap : Nat) (qs : List Sq) (am : Option Addr) (m cm : Nat) (ps : List Pl) (op st : Int) (at_ : Int) (w : World) {l1 r1 lo hi lo' hi' : Nat} (hy : Helds l1 r1 w ai ni ys) (hr1 : r1 <= w.heap.size) (hni : ni <= 1048576) (hfy : ∀ x ∈ ys,hdFits x) (h : Squares lo hi w a n qs) (hhi : hi <= w.heap.size) (hn : n <= 1048576) (hf : ∀ x ∈ qs,sqFits x) (hp : Places lo' hi' w am m ps) (hhi' : hi' <= w.heap.size) (hm : m <= 1048576) :
  Calls Tryz.prog 18 #[.agg #[.int .i64 rm,.slice ai ni ci,.int .i64 z,.slice a n cap,.slice am m cm,.int .i64 op,.int .i64 st],.int .i64 at_] w fun e w' => ∃ v,e = .returned (.tuple #[v,.string (loadT ⟨rm,ys,⟨z,qs,ps,op,st⟩⟩ at_),.bool (loadB ⟨rm,ys,⟨z,qs,ps,op,st⟩⟩ at_)]) ∧ CacheRd w (loadF ⟨rm,ys,⟨z,qs,ps,op,st⟩⟩ at_) v w' := by
 obtain ⟨cv,hcv⟩ : ∃ cv,cv = loadF ⟨rm,ys,⟨z,qs,ps,op,st⟩⟩ at_ := ⟨_,rfl⟩
 obtain ⟨bv,hbv⟩ : ∃ bv,bv = loadB ⟨rm,ys,⟨z,qs,ps,op,st⟩⟩ at_ := ⟨_,rfl⟩
 obtain ⟨tv,htv⟩ : ∃ tv,tv = loadT ⟨rm,ys,⟨z,qs,ps,op,st⟩⟩ at_ := ⟨_,rfl⟩
 have HCV := hide hcv
 have HTF : Hid (bv = false -> tv = ⟨#[]⟩) := by intro hb; rw [htv]; unfold loadT; rw [<- hbv,hb]; rfl
 have HTT : Hid (bv = true -> tv = (itemF ⟨rm,ys,⟨z,qs,ps,op,st⟩⟩ at_).2.1) := by intro hb; rw [htv]; unfold loadT; rw [<- hbv,hb]; rfl
 have HBV := hide hbv
 rw [<- hcv,<- hbv,<- htv]
 clear hcv hbv htv
 obtain ⟨wA,hwA⟩ : ∃ wA,wA = (w.alloc (.cells #[.int .i64 rm,.slice ai ni ci,.int .i64 z,.slice a n cap,.slice am m cm,.int .i64 op,.int .i64 st] 40)).alloc (.cells #[.int .i64 0,.slice none 0 0,.int .i64 0,.slice none 0 0,.slice none 0 0,.int .i64 0,.int .i64 0] 40) := ⟨_,rfl⟩
 have hzA : wA.heap.size = w.heap.size + 1 + 1 := by rw [hwA]; simp
 have HBA : Hid (Below w.heap.size w wA) := by rw [hwA]; exact ((Below.refl _ _).alloc (Nat.le_refl _) _).alloc (by simp) _
 have H0 : Hid (wA.heap[w.heap.size]? = some (.cells #[.int .i64 rm,.slice ai ni ci,.int .i64 z,.slice a n cap,.slice am m cm,.int .i64 op,.int .i64 st] 40)) := by rw [hwA]; exact heap_old (heap_new _ _)
 have H1 : Hid (wA.heap[w.heap.size + 1]? = some (.cells #[.int .i64 0,.slice none 0 0,.int .i64 0,.slice none 0 0,.slice none 0 0,.int .i64 0,.int .i64 0] 40)) := by rw [hwA]; exact heap_at (by simp)
 have HYA := hide (hy.later HBA.out hr1)
 have HSA := hide (h.later HBA.out hhi)
 have HPA := hide (hp.later HBA.out hhi')
 have HF := hide hf
 have HFY := hide hfy
 have HLY := hide hy.1
 have HLQ := hide h.1
 have HLP := hide hp.1
 clear h hp hf hy hfy
 obtain ⟨c0,c1,c2,c3,c4,c5,c6⟩ := seven_cells H0.out
 go_enter Tryz.func18,Tryz.ntmps18
 go_wp2_with fail
 rw [<- hwA]
 clear hwA
 refine (specCacheOk_any rm ai ni ci ys z a n cap qs am m cm ps op st wA HYA.out (by omega) hni HFY.out HSA.out (by omega) hn HF.out HPA.out (by omega) hm).mono ?_
 rintro e w2 ⟨rfl,b2⟩
 have K0 := hide (block_on H0.out b2)
 have K1 := hide (block_on H1.out b2)
 have HB2 := hide (below_here HBA.out b2)
 have HY2 := hide (HYA.out.later b2 (by omega))
 have HS2 := hide (HSA.out.later b2 (by omega))
 have HP2 := hide (HPA.out.later b2 (by omega))
 have hs2 := b2.size
 clear b2 c0 c1 c2 c3 c4 c5 c6
 obtain ⟨c0,c1,c2,c3,c4,c5,c6⟩ := seven_cells K0.out
 cases hco : cacheOk ⟨rm,ys,⟨z,qs,ps,op,st⟩⟩ with
 | false =>
  have HCE : Hid (cv = zeroC) := by show _ = _; rw [HCV.out]; unfold loadF; rw [hco]; rfl
  have HBE : Hid (bv = false) := by show _ = _; rw [HBV.out]; unfold loadB; rw [hco]; rfl
  obtain ⟨d0,d1,d2,d3,d4,d5,d6⟩ := seven_cells K1.out
  have f0 := four_frozen K1.out 0
  have f1 := four_frozen K1.out 1
  have f2 := four_frozen K1.out 2
  have f3 := four_frozen K1.out 3
  have f4 := four_frozen K1.out 4
  have f5 := four_frozen K1.out 5
  have f6 := four_frozen K1.out 6
  have HRS := hide (seven_set K1.out (.int .i64 0) (.slice none 0 0) (.int .i64 0) (.slice none 0 0) (.slice none 0 0) (.int .i64 0) (.int .i64 0))
  have HAS := hide (seven_aside (b := w.heap.size + 1) (Aside.refl (w.heap.size + 1) (w.heap.size + 1 + 1) w2) (Nat.le_refl _) (Nat.lt_succ_self _) (.int .i64 0) (.slice none 0 0) (.int .i64 0) (.slice none 0 0) (.slice none 0 0) (.int .i64 0) (.int .i64 0))
  have HBF := hide (HB2.out.trans (HAS.out.below (B := w.heap.size) (by omega) (HB2.out.size)))
  go_wp2_with fail
  refine bodyPost_ret (results_ctt rfl rfl (run_loadVar_row _ _ _ _ _ _ _ HRS.out Tryz.underlying40 rfl (by kernel_rfl))) rfl ⟨_,by rw [HTF.out HBE.out,HBE.out]; rfl,?_⟩
  rw [HCE.out]
  exact CacheAns.toRd ⟨none,0,none,0,none,0,rfl,cache_zero _ _,HBF.out,Nat.le_refl _⟩
 | true =>
  have hC := cacheOk_iff.1 hco
  have hfo : ftlOk z qs ps op st = true := hC.ftl
  obtain ⟨hmo,_,_,_,_,_,_⟩ := ftlOk_parts hfo
  have hm64 : m <= 64 := by have := (mapOk_len hmo).2; rw [HLP.out] at this; exact this
  have hm1 : 1 <= m := by have := (mapOk_len hmo).1; rw [HLP.out] at this; exact this
  have h16 : ni <= 16 := by have := hC.len; have := hC.r1; have := HLY.out; dsimp only at *; omega
  have HCK := hide (mapOk_chip hmo)
  have HC := hide hC
  have HCO : Hid (cv = (loadO ⟨rm,ys,⟨z,qs,ps,op,st⟩⟩ at_).getD ⟨rm,ys,⟨z,qs,ps,op,st⟩⟩) := by show _ = _; rw [HCV.out]; unfold loadF; rw [hco]; rfl
  have HBO : Hid (bv = (loadO ⟨rm,ys,⟨z,qs,ps,op,st⟩⟩ at_).isSome) := by show _ = _; rw [HBV.out]; unfold loadB; rw [hco]; rfl
  have HMH : Hid (inB at_ 0 (((⟨rm,ys,⟨z,qs,ps,op,st⟩⟩ : Cv).f.ps.length : Int) - 1) = inB at_ 0 ((m : Int) - 1)) := by show _ = _; dsimp only; rw [HLP.out]
  have HFO := hide hfo
  have HCC : ∀ W,Hid (Below w2.heap.size w2 W -> Calls Tryz.prog 63 #[.agg #[.int .i64 rm,.slice ai ni ci,.int .i64 z,.slice a n cap,.slice am m cm,.int .i64 op,.int .i64 st]] W fun e w' => ∃ aj cj g c' gm cm' A C,e = .returned (.agg #[.int .i64 rm,.slice aj ni cj,.int .i64 z,.slice (some ⟨g,0,none⟩) n c',.slice (some ⟨gm,0,none⟩) m cm',.int .i64 op,.int .i64 st]) ∧ HdOwn W.heap.size w' (.slice aj ni cj) ys ∧ GrowSqs W.heap.size w' n qs g A C ∧ PlOwn W.heap.size w' (.slice (some ⟨gm,0,none⟩) ps.length cm') ps ∧ gm ≠ g ∧ (Value.slice aj ni cj).ownBlock ≠ some g ∧ Below W.heap.size W w') := fun W hb =>
   l12Copy_any rm ai ni ci ys z a n cap qs am m cm ps op st W (HY2.out.later hb (by omega)) (by have := hb.size; omega) (by omega) (HS2.out.later hb (by omega)) (by have := hb.size; omega) HCK.out (HP2.out.later hb (by omega)) (by have := hb.size; omega) hm1 hm64
  -- the refusal: a copy of what came in
  have HNO : ∀ (W : World),Hid (cv = ⟨rm,ys,⟨z,qs,ps,op,st⟩⟩ -> bv = false -> True) := fun _ _ _ => trivial
  clear hmo hco hC hfo HNO
  go_wp2_with fail
  refine ((HCC _).out (Below.refl _ _)).mono ?_
  rintro e w3 ⟨aj,cj,g,c',gm,cm',A,C,rfl,ho3,hG3,hP3,hne3,hng3,b3⟩
  obtain ⟨wO,hwO⟩ : ∃ wO,wO = w3.alloc (.cells #[.int .i64 rm,.slice aj ni cj,.int .i64 z,.slice (some ⟨g,0,none⟩) n c',.slice (some ⟨gm,0,none⟩) m cm',.int .i64 op,.int .i64 st] 40) := ⟨_,rfl⟩
  have hzO : wO.heap.size = w3.heap.size + 1 := by rw [hwO]; simp
  have HBO3 : Hid (Below w3.heap.size w3 wO) := by rw [hwO]; exact (Below.refl _ _).alloc (Nat.le_refl _) _
  have HO3 : Hid (wO.heap[w3.heap.size]? = some (.cells #[.int .i64 rm,.slice aj ni cj,.int .i64 z,.slice (some ⟨g,0,none⟩) n c',.slice (some ⟨gm,0,none⟩) m cm',.int .i64 op,.int .i64 st] 40)) := by rw [hwO]; exact heap_new _ _
  have hs3 := b3.size
  have hg3 : g < w3.heap.size := by have := hG3.row.1; omega
  have HCA : Hid (CacheAt w2.heap.size wO w3.heap.size ⟨rm,ys,⟨z,qs,ps,op,st⟩⟩ aj cj n g c' gm cm' A C) := by
   have h9 : HdOwn w2.heap.size wO (.slice aj ni cj) ys := HdOwn_on2 ho3 HBO3.out
   refine ⟨⟨hG3.later HBO3.out,own_keepBy hP3 (grown_below HBO3.out none) (fun k e => by cases e),?_,hne3,by omega,by omega⟩,?_,?_⟩
   ·dsimp only; rw [HLY.out,HLP.out]; exact HO3.out
   ·dsimp only; rw [HLY.out]; exact h9
   ·dsimp only; rw [HLY.out]; exact hng3
  have HB3 := hide (below_here b3 HBO3.out)
  have L0 := hide (block_on K0.out HB3.out)
  have L1 := hide (block_on K1.out HB3.out)
  have HBW := hide (below_here HB2.out HB3.out)
  clear ho3 hG3 hP3 hne3 hng3 b3 c0 c1 c2 c3 c4 c5 c6 HO3
  have HZO := hide hzO
  clear hzO
  -- where it is refused
  have HREF : ∀ (W : World) (tmps : Unit),Hid True := fun _ _ => trivial
  clear HREF
  obtain ⟨c0,c1,c2,c3,c4,c5,c6⟩ := seven_cells L0.out
  go_upto_region 4 with fail
  rw [<- hwO]
  clear hwO
  go_wp2_with fail
  refine (l1In_any at_ 0 ((m : Int) - 1) wO).mono ?_
  rintro e w4 ⟨rfl,rfl⟩
  have hsO := HB3.out.size
  cases hin : inB at_ 0 ((m : Int) - 1) with
  | false =>
   have HKN : Hid (loadO ⟨rm,ys,⟨z,qs,ps,op,st⟩⟩ at_ = none) := by show _ = _; unfold loadO; rw [HMH.out,hin]; rfl
   have HCE : Hid (cv = ⟨rm,ys,⟨z,qs,ps,op,st⟩⟩) := by show _ = _; rw [HCO.out,HKN.out]; rfl
   have HBE : Hid (bv = false) := by show _ = _; rw [HBO.out,HKN.out]; rfl
   have HM6 := hide HCA.out.mem
   have HI6 := hide HCA.out.items
   dsimp only at HM6 HI6
   rw [HLY.out] at HM6 HI6
   have M1 := L1
   have HBW6 := HBW
   have HQL := hide HM6.out.sq.len
   have hbx := HM6.out.box
   rw [HLP.out] at hbx
   obtain ⟨y0,y1,y2,y3,y4,y5,y6⟩ := seven_cells hbx
   clear hbx c0 c1 c2 c3 c4 c5 c6
   obtain ⟨d0,d1,d2,d3,d4,d5,d6⟩ := seven_cells M1.out
   have f0 := four_frozen M1.out 0
   have f1 := four_frozen M1.out 1
   have f2 := four_frozen M1.out 2
   have f3 := four_frozen M1.out 3
   have f4 := four_frozen M1.out 4
   have f5 := four_frozen M1.out 5
   have f6 := four_frozen M1.out 6
   have HRS := hide (seven_set M1.out (.int .i64 rm) (.slice aj ni cj) (.int .i64 z) (.slice (some ⟨g,0,none⟩) n c') (.slice (some ⟨gm,0,none⟩) m cm') (.int .i64 op) (.int .i64 st))
   have HAS := hide (seven_aside (b := w.heap.size + 1) (Aside.refl (w.heap.size + 1) (w.heap.size + 1 + 1) wO) (Nat.le_refl _) (Nat.lt_succ_self _) (.int .i64 rm) (.slice aj ni cj) (.int .i64 z) (.slice (some ⟨g,0,none⟩) n c') (.slice (some ⟨gm,0,none⟩) m cm') (.int .i64 op) (.int .i64 st))
   have HBF := hide (HBW6.out.trans (HAS.out.below (B := w.heap.size) (by omega) (HBW6.out.size)))
   go_wp2_with fail
   refine bodyPost_ret (results_ctt rfl rfl (run_loadVar_row _ _ _ _ _ _ _ HRS.out Tryz.underlying40 rfl (by kernel_rfl))) rfl ⟨_,by rw [HTF.out HBE.out,HBE.out]; rfl,?_⟩
   rw [HCE.out]
   refine ⟨aj,cj,some ⟨g,0,none⟩,c',some ⟨gm,0,none⟩,cm',?_,((crd_of HI6.out HM6.out.sq HM6.out.pl).aside HAS.out (.inl (by omega))).wide (by omega) HAS.out.size (Nat.le_refl _),HBF.out⟩
   unfold cvV
   dsimp only
   rw [HLY.out,HLQ.out,HLP.out]
  | true =>
   obtain ⟨x,hx⟩ : ∃ x,x = itemF ⟨rm,ys,⟨z,qs,ps,op,st⟩⟩ at_ := ⟨_,rfl⟩
   rw [<- hx] at HTT
   have HKS : Hid (loadO ⟨rm,ys,⟨z,qs,ps,op,st⟩⟩ at_ = usedF ⟨rm,ys,⟨z,qs,ps,op,st⟩⟩ x) := by show _ = _; unfold loadO; rw [HMH.out,hin,<- hx]; rfl
   rw [HKS.out] at HCO HBO
   obtain ⟨K,rfl,hK⟩ : ∃ K : Nat,at_ = (K : Int) ∧ K < m := by
    simp [inB] at hin
    exact ⟨at_.toNat,by omega,by omega⟩
   obtain ⟨gt,hgt⟩ : ∃ gt,gt = (ftlGet z qs ps op st (K : Int)).1 := ⟨_,rfl⟩
   have HPK : Hid (pickH ys (K : Int) ((K : Int),gt,false) ys.length = x) := by show _ = _; rw [hgt,hx]; exact pick_all HC.out (K : Int)
   have hgp := get_plain HFO.out (show K < ps.length by rw [HLP.out]; exact hK)
   have HL10 := hide (l10Get_any z a n cap qs am m cm ps op st K wO (HS2.out.later HB3.out (by omega)) (by omega) hn HF.out (HP2.out.later HB3.out (by omega)) (by omega) hm64 hK HCK.out)
   rw [<- hgp,<- hgt] at HL10
   clear hx hgp hgt hin HKS
   go_wp2_with fail
   refine HL10.out.mono ?_
   generalize (!(plAt ps K == (-1,0)) && ((pgOf z qs (plAt ps K)).1 == 1)) = gb
   rintro e wG ⟨rfl,bG⟩
   obtain ⟨wX,hwX⟩ : ∃ wX,wX = wG.alloc (.cells #[.int .i64 (K : Int),.string gt,.bool false] 67) := ⟨_,rfl⟩
   have HBX : Hid (Below wG.heap.size wG wX) := by rw [hwX]; exact (Below.refl _ _).alloc (Nat.le_refl _) _
   have HX0 : Hid (wX.heap[wG.heap.size]? = some (.cells #[.int .i64 (K : Int),.string gt,.bool false] 67)) := by rw [hwX]; exact heap_new _ _
   have G0 := hide (block_on L0.out bG)
   have G1 := hide (block_on L1.out bG)
   have HBG := hide (below_here HB3.out bG)
   have HBWG := hide (below_here HBW.out bG)
   have HCG := hide (cacheAt_on HCA.out bG)
   have hsG := bG.size
   clear bG HL10 c0 c1 c2 c3 c4 c5 c6 HCA
   go_upto_region 8 with fail
   rw [<- hwX]
   clear hwX
   go_wp2_with fail
   go_loopw [11] (fun i wr => ∃ (k : Nat) (X : Hd),k <= ni ∧ i = .int .i64 (k : Int) ∧ X = pickH ys (K : Int) ((K : Int),gt,false) k ∧ wr.heap[wG.heap.size]? = some (.cells #[.int .i64 X.1,.string X.2.1,.bool X.2.2] 67) ∧ Below wG.heap.size wG wr) (fun i _ => ni - (intOf i).toNat)
   case atStart => exact ⟨0,_,Nat.zero_le _,rfl,rfl,HX0.out,HBX.out⟩
   case round =>
    obtain ⟨k,X,hk,rfl,hX,hxb,hbl⟩ := hrel
    have HXE := hide hX
    have HXB := hide hxb
    have HBL := hide hbl
    have R0 := hide (block_on G0.out hbl)
    clear hX hxb hbl HX0 HBX
    obtain ⟨c0,c1,c2,c3,c4,c5,c6⟩ := seven_cells R0.out
    by_cases hlt : k < ni
    ·obtain ⟨b,off,rfl,hb1,hb2,hcc⟩ := HY2.out.2.2 (by omega)
     obtain ⟨x0,x1,x2⟩ := hd_cells hcc (below_here HBG.out HBL.out) (show b < w2.heap.size by omega) hlt
     have hkn : (k : Int) < (ni : Int) := by omega
     have HPN : Hid (pickH ys (K : Int) ((K : Int),gt,false) (k + 1) = if (hdAt ys k).1 = (K : Int) then hdAt ys k else pickH ys (K : Int) ((K : Int),gt,false) k) := rfl
     clear hcc
     generalize hdAt ys k = y at *
     obtain ⟨ya,yt,yd⟩ := y
     dsimp only at x0 x1 x2 HPN
     by_cases hey : ya = (K : Int)
     ·have hye : (ya == (K : Int)) = true := by simpa using hey
      rw [if_pos hey] at HPN
      obtain ⟨d0,d1,d2⟩ := three_cells HXB.out
      have f0 := four_frozen HXB.out 0
      have f1 := four_frozen HXB.out 1
      have f2 := four_frozen HXB.out 2
      have HXN := hide (three_set HXB.out (.int .i64 ya) (.string yt) (.bool yd))
      have HBN := hide (three_under HBL.out (b := wG.heap.size) (Nat.le_refl _) (.int .i64 ya) (.string yt) (.bool yd))
      have HEY := hide hey
      clear hey
      go_wp2_with fail
      go_roundw
      case rel => exact ⟨k + 1,(ya,yt,yd),by omega,by go_num,HPN.out.symm,HXN.out,HBN.out⟩
      case measure => simp [intOf]; omega
     ·have hye : (ya == (K : Int)) = false := by simpa using hey
      rw [if_neg hey] at HPN
      have HEY := hide hey
      clear hey
      go_wp2_with fail
      go_roundw
      case rel => exact ⟨k + 1,X,by omega,by go_num,HXE.out.trans HPN.out.symm,HXB.out,HBL.out⟩
      case measure => simp [intOf]; omega
    ·obtain rfl : k = ni := by omega
     have hXx : X = x := by rw [HXE.out,<- HPK.out,HLY.out]
     subst hXx
     obtain ⟨xa,xt,xd⟩ := X
     dsimp only at HXB HTT
     obtain ⟨i0,i1,i2⟩ := three_cells HXB.out
     have HCR := hide (cacheAt_on HCG.out HBL.out)
     have hsr := HBL.out.size
     have HBWr := hide (below_here HBWG.out HBL.out)
     have HBr := hide (below_here HBG.out HBL.out)
     have R1 := hide (block_on G1.out HBL.out)
     have HFT := hide (l12Front_any w2.heap.size w3.heap.size ⟨rm,ys,⟨z,qs,ps,op,st⟩⟩ HC.out aj cj n g c' gm cm' A C xa xt xd wr HCR.out (by omega))
     have hzo := HZO.out
     go_wp2_with fail
     refine HFT.out.mono ?_
     rintro e w6 ⟨rfl,hfw6,hk6⟩
     have bw6 := hfw6.below
     have hgG : g < wG.heap.size := by have := HCG.out.mem.sq.row.1; omega
     have hmG : gm < wG.heap.size := by
      obtain ⟨cs9,fz9,hk9⟩ := Go.Lib.ownsRow_kind HCG.out.mem.pl gm rfl
      exact (Array.getElem?_eq_some_iff.1 hk9).1
     have hpG : w3.heap.size < wG.heap.size := (Array.getElem?_eq_some_iff.1 HCG.out.mem.box).1
     have X6 : Hid (w6.heap[wG.heap.size]? = some (.cells #[.int .i64 xa,.string xt,.bool xd] 67)) := hfw6.other _ _ _ _ (by simp only [List.mem_cons,List.not_mem_nil,or_false]; omega) (by decide) (by decide) HXB.out
     have HK6 := hide hk6
     have hs6 := bw6.size
     have M0 : Hid (w6.heap[w.heap.size]? = some (.cells #[.int .i64 rm,.slice ai k ci,.int .i64 z,.slice a n cap,.slice am m cm,.int .i64 op,.int .i64 st] 40)) := (bw6.block _ (by omega)).trans R0.out
     have M1 : Hid (w6.heap[w.heap.size + 1]? = some (.cells #[.int .i64 0,.slice none 0 0,.int .i64 0,.slice none 0 0,.slice none 0 0,.int .i64 0,.int .i64 0] 40)) := (bw6.block _ (by omega)).trans R1.out
     have HBW6 := hide (HBWr.out.trans (bw6.mono (show w.heap.size <= w2.heap.size by omega)))
     have HB26 := hide (HBr.out.trans bw6)
     clear bw6 hfw6 hk6 HFT c0 c1 c2 c3 c4 c5 c6 i0 i1 i2 hgG hmG hpG
     cases hu : usedF ⟨rm,ys,⟨z,qs,ps,op,st⟩⟩ (xa,xt,xd) with
     | none =>
      have HKN : Hid (usedF ⟨rm,ys,⟨z,qs,ps,op,st⟩⟩ (xa,xt,xd) = none) := hu
      rw [Option.isSome_none]
      clear hu
      obtain ⟨c0,c1,c2,c3,c4,c5,c6⟩ := seven_cells M0.out
      have HCE : Hid (cv = ⟨rm,ys,⟨z,qs,ps,op,st⟩⟩) := by show _ = _; rw [HCO.out,HKN.out]; rfl
      have HBE : Hid (bv = false) := by show _ = _; rw [HBO.out,HKN.out]; rfl
      go_wp2_with fail
      refine ((HCC _).out HB26.out).mono ?_
      rintro e w7 ⟨a7,c7,g7,d7,m7,e7,A7,C7,rfl,ho7,hG7,hP7,hne7,hng7,b7⟩
      have N1 := hide (block_on M1.out b7)
      have HB7 := hide (below_here HBW6.out b7)
      have hs7 := b7.size
      have HR7 := hide (crd_of ho7 hG7 hP7)
      have hsW := (HBW6.out).size
      clear ho7 hG7 hP7 hne7 hng7 b7 c0 c1 c2 c3 c4 c5 c6
      obtain ⟨d0,d1,d2,d3,d4,d5,d6⟩ := seven_cells N1.out
      have f0 := four_frozen N1.out 0
      have f1 := four_frozen N1.out 1
      have f2 := four_frozen N1.out 2
      have f3 := four_frozen N1.out 3
      have f4 := four_frozen N1.out 4
      have f5 := four_frozen N1.out 5
      have f6 := four_frozen N1.out 6
      have HRS := hide (seven_set N1.out (.int .i64 rm) (.slice a7 k c7) (.int .i64 z) (.slice (some ⟨g7,0,none⟩) n d7) (.slice (some ⟨m7,0,none⟩) m e7) (.int .i64 op) (.int .i64 st))
      have HAS := hide (seven_aside (b := w.heap.size + 1) (Aside.refl (w.heap.size + 1) (w.heap.size + 1 + 1) w7) (Nat.le_refl _) (Nat.lt_succ_self _) (.int .i64 rm) (.slice a7 k c7) (.int .i64 z) (.slice (some ⟨g7,0,none⟩) n d7) (.slice (some ⟨m7,0,none⟩) m e7) (.int .i64 op) (.int .i64 st))
      have HBF := hide (HB7.out.trans (HAS.out.below (B := w.heap.size) (by omega) (HB7.out.size)))
      go_wp2_with fail
      refine bodyPost_ret (results_ctt rfl rfl (run_loadVar_row _ _ _ _ _ _ _ HRS.out Tryz.underlying40 rfl (by kernel_rfl))) rfl ⟨_,by rw [HTF.out HBE.out,HBE.out]; rfl,?_⟩
      rw [HCE.out]
      refine ⟨a7,c7,some ⟨g7,0,none⟩,d7,some ⟨m7,0,none⟩,e7,?_,(HR7.out.aside HAS.out (.inl (by have := HZO.out; omega))).wide (by have := HZO.out; omega) HAS.out.size (Nat.le_refl _),HBF.out⟩
      unfold cvV
      dsimp only
      rw [HLY.out,HLQ.out,HLP.out]
     | some cu =>
      rw [hu] at HCO HBO
      have hBE : bv = true := HBO.out
      have hCE : cv = cu := HCO.out
      have HBE := hide hBE
      have HCE := hide hCE
      have HTX := hide (HTT.out hBE)
      obtain ⟨ak,ck,A6,C6,hCA6⟩ := HK6.out cu hu
      have HM6 := hide hCA6.mem
      have HI6 := hide hCA6.items
      rw [Option.isSome_some]
      clear hu hBE hCE hCA6 HK6 HCO HBO HCV HBV
      obtain ⟨RM,YS,⟨Z,Q,PS,OP,ST⟩⟩ := cu
      dsimp only at HM6 HI6
      have hql := HM6.out.sq.len
      have HQL := hide hql
      obtain ⟨y0,y1,y2,y3,y4,y5,y6⟩ := seven_cells HM6.out.box
      obtain ⟨i0,i1,i2⟩ := three_cells X6.out
      clear hql
      obtain ⟨d0,d1,d2,d3,d4,d5,d6⟩ := seven_cells M1.out
      have f0 := four_frozen M1.out 0
      have f1 := four_frozen M1.out 1
      have f2 := four_frozen M1.out 2
      have f3 := four_frozen M1.out 3
      have f4 := four_frozen M1.out 4
      have f5 := four_frozen M1.out 5
      have f6 := four_frozen M1.out 6
      have HRS := hide (seven_set M1.out (.int .i64 RM) (.slice ak YS.length ck) (.int .i64 Z) (.slice (some ⟨g,0,none⟩) n c') (.slice (some ⟨gm,0,none⟩) PS.length cm') (.int .i64 OP) (.int .i64 ST))
      have HAS := hide (seven_aside (b := w.heap.size + 1) (Aside.refl (w.heap.size + 1) (w.heap.size + 1 + 1) w6) (Nat.le_refl _) (Nat.lt_succ_self _) (.int .i64 RM) (.slice ak YS.length ck) (.int .i64 Z) (.slice (some ⟨g,0,none⟩) n c') (.slice (some ⟨gm,0,none⟩) PS.length cm') (.int .i64 OP) (.int .i64 ST))
      have HBF := hide (HBW6.out.trans (HAS.out.below (B := w.heap.size) (by omega) (HBW6.out.size)))
      have hxG : w.heap.size + 1 + 1 <= wG.heap.size := by omega
      have hxw : wG.heap.size < w6.heap.size := (Array.getElem?_eq_some_iff.1 X6.out).1
      have hpx : w3.heap.size < w6.heap.size := (Array.getElem?_eq_some_iff.1 HM6.out.box).1
      obtain ⟨wS,hwS⟩ : ∃ wS,wS = ((((((w6.setCell ⟨w.heap.size + 1,0,none⟩ (.int .i64 RM)).setCell ⟨w.heap.size + 1,1,none⟩ (.slice ak YS.length ck)).setCell ⟨w.heap.size + 1,2,none⟩ (.int .i64 Z)).setCell ⟨w.heap.size + 1,3,none⟩ (.slice (some ⟨g,0,none⟩) n c')).setCell ⟨w.heap.size + 1,4,none⟩ (.slice (some ⟨gm,0,none⟩) PS.length cm')).setCell ⟨w.heap.size + 1,5,none⟩ (.int .i64 OP)).setCell ⟨w.heap.size + 1,6,none⟩ (.int .i64 ST) := ⟨_,rfl⟩
      rw [<- hwS] at HRS HAS HBF
      have XS : wS.heap[wG.heap.size]? = some (.cells #[.int .i64 xa,.string xt,.bool xd] 67) := (HAS.out.block _ hxw (.inr (by omega))).trans X6.out
      have YS' := (HAS.out.block w3.heap.size hpx (.inr (by omega))).trans HM6.out.box
      have HSC : ∀ W,Hid (Below w6.heap.size w6 W -> (W.cell? ⟨wG.heap.size,1,none⟩ = some (.string xt) ∧ W.cell? ⟨w3.heap.size,0,none⟩ = some (.int .i64 RM) ∧ W.cell? ⟨w3.heap.size,1,none⟩ = some (.slice ak YS.length ck) ∧ W.cell? ⟨w3.heap.size,2,none⟩ = some (.int .i64 Z) ∧ W.cell? ⟨w3.heap.size,3,none⟩ = some (.slice (some ⟨g,0,none⟩) n c') ∧ W.cell? ⟨w3.heap.size,4,none⟩ = some (.slice (some ⟨gm,0,none⟩) PS.length cm') ∧ W.cell? ⟨w3.heap.size,5,none⟩ = some (.int .i64 OP) ∧ W.cell? ⟨w3.heap.size,6,none⟩ = some (.int .i64 ST))) := fun W hb => by
       obtain ⟨j0,j1,j2⟩ := three_cells (block_on X6.out hb)
       obtain ⟨z0,z1,z2,z3,z4,z5,z6⟩ := seven_cells (block_on HM6.out.box hb)
       exact ⟨j1,z0,z1,z2,z3,z4,z5,z6⟩
      have HSE : ∀ W,Hid (Below wS.heap.size wS W -> (W.cell? ⟨wG.heap.size,1,none⟩ = some (.string xt) ∧ W.cell? ⟨w3.heap.size,0,none⟩ = some (.int .i64 RM) ∧ W.cell? ⟨w3.heap.size,1,none⟩ = some (.slice ak YS.length ck) ∧ W.cell? ⟨w3.heap.size,2,none⟩ = some (.int .i64 Z) ∧ W.cell? ⟨w3.heap.size,3,none⟩ = some (.slice (some ⟨g,0,none⟩) n c') ∧ W.cell? ⟨w3.heap.size,4,none⟩ = some (.slice (some ⟨gm,0,none⟩) PS.length cm') ∧ W.cell? ⟨w3.heap.size,5,none⟩ = some (.int .i64 OP) ∧ W.cell? ⟨w3.heap.size,6,none⟩ = some (.int .i64 ST))) := fun W hb => by
       obtain ⟨j0,j1,j2⟩ := three_cells (block_on XS hb)
       obtain ⟨z0,z1,z2,z3,z4,z5,z6⟩ := seven_cells (block_on YS' hb)
       exact ⟨j1,z0,z1,z2,z3,z4,z5,z6⟩
      have HR0 : Hid (Below w6.heap.size w6 w6.drew) := (Below.refl w6.heap.size w6).drew
      have HR1 : Hid (Below wS.heap.size wS wS.drew) := (Below.refl wS.heap.size wS).drew
      have HSE2 := HSE
      have HR2 := HR1
      have HAS2 := hide (HAS.out.thenBelow HR1.out HAS.out.size)
      have HBF2 := hide HBF.out.drew
      have HRS2 : Hid (wS.drew.heap[w.heap.size + 1]? = some (.cells #[.int .i64 RM,.slice ak YS.length ck,.int .i64 Z,.slice (some ⟨g,0,none⟩) n c',.slice (some ⟨gm,0,none⟩) PS.length cm',.int .i64 OP,.int .i64 ST] 40)) := HRS.out
      clear XS YS' HRS HAS HBF HSE HR1
      rw [hwS] at HSE2 HR2
      go_upto_region 15 with fail
      go_region_held3 (fun W => W.cell? ⟨wG.heap.size,1,none⟩ = some (.string xt) ∧ W.cell? ⟨w3.heap.size,0,none⟩ = some (.int .i64 RM) ∧ W.cell? ⟨w3.heap.size,1,none⟩ = some (.slice ak YS.length ck) ∧ W.cell? ⟨w3.heap.size,2,none⟩ = some (.int .i64 Z) ∧ W.cell? ⟨w3.heap.size,3,none⟩ = some (.slice (some ⟨g,0,none⟩) n c') ∧ W.cell? ⟨w3.heap.size,4,none⟩ = some (.slice (some ⟨gm,0,none⟩) PS.length cm') ∧ W.cell? ⟨w3.heap.size,5,none⟩ = some (.int .i64 OP) ∧ W.cell? ⟨w3.heap.size,6,none⟩ = some (.int .i64 ST))
       (first | with_reducible exact (HSC _).out HR0.out | with_reducible exact (HSE2 _).out HR2.out | fail) (fail)
      rw [<- hwS]
      clear hwS HSC HSE2 HR0 HR2 f0 f1 f2 f3 f4 f5 f6 d0 d1 d2 d3 d4 d5 d6 y0 y1 y2 y3 y4 y5 y6 i0 i1 i2
      generalize wS.drew = wT at *
      go_wp2_with fail
      refine bodyPost_ret (results_ctt rfl rfl (run_loadVar_row _ _ _ _ _ _ _ HRS2.out Tryz.underlying40 rfl (by kernel_rfl))) rfl ⟨_,by rw [HTX.out,HBE.out]; rfl,?_⟩
      rw [HCE.out]
      refine ⟨ak,ck,some ⟨g,0,none⟩,c',some ⟨gm,0,none⟩,cm',?_,((crd_of HI6.out HM6.out.sq HM6.out.pl).aside HAS2.out (.inl (by omega))).wide (by omega) HAS2.out.size (Nat.le_refl _),HBF2.out⟩
      unfold cvV
      dsimp only
      rw [HQL.out]
end Go.Proofs.YtokdehlppolnhaaGreatDoor
