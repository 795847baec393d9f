/- Several texts in one: FtlSpecH, MountSpec2, SpoilSpec, FtlVar, Draw10, FtlSpace, RoomLaw, Draw10b. -/
import Derived.Test.YtgjoepdfhadmcaaGreatDoorMFtlSpecC
import Derived.Test.YtgjoepdfhadmcaaGreatDoorMFtlSpecA
import Derived.Test.YtgjoepdfhadmcaaGreatDoorMChipAns
import Derived.Test.YtgjoepdfhadmcaaGreatDoorMFtlOwnP
import Derived.Test.YtgjoepdfhadmcaaGreatDoorMMountSpec
import Derived.Test.YtgjoepdfhadmcaaGreatDoorMDraw7
import Derived.Deep.RegionWith
import Derived.Deep.DeepCutAuto
section
namespace Go.Proofs.YtgjoepdfhadmcaaGreatDoor
open Go.RowKit
set_option linter.unusedVariables false
set_option maxRecDepth 20000
set_option maxHeartbeats 3200000 in
theorem specEnter_any (z:Int)(a:Option Addr)(n cap:Nat)(qs:List Sq)(am:Option Addr)(m cm:Nat)(ps:List Pl)(op st kd at_ sp:Int)(tx:ByteArray)(w:World){lo hi lo' hi':Nat}(h:Squares lo hi w a n qs)(hhi:hi<=w.heap.size)(hn:n<=1048576)(hf:∀x∈qs,sqFits x)(hp:Places lo' hi' w am m ps)(hhi':hi'<=w.heap.size)(hm:m<=1048576) :
  Calls Tryz.prog 182 #[.agg #[.int .i64 z,.slice a n cap,.slice am m cm,.int .i64 op,.int .i64 st],.agg #[.int .i64 kd,.int .i64 at_,.int .i64 sp,.string tx]] w fun e w'=>∃v,e=.returned (.tuple #[v,.bool (planR z qs ps op st kd at_ tx).isSome])∧FtlAns w (entF z qs ps op st kd at_ tx) v w':=by
 obtain⟨r,hr⟩:∃r,r=planR z qs ps op st kd at_ tx:=⟨_,rfl⟩
 have HR:=hide hr
 rw[<- hr]
 clear hr
 obtain⟨fv,hfv⟩:∃fv,fv=entF z qs ps op st kd at_ tx:=⟨_,rfl⟩
 have HFV:=hide hfv
 rw[<- hfv]
 clear hfv
 obtain⟨wA,hwA⟩:∃wA,wA=((w.alloc (.cells #[.int .i64 z,.slice a n cap,.slice am m cm,.int .i64 op,.int .i64 st] 29)).alloc (.cells #[.int .i64 kd,.int .i64 at_,.int .i64 sp,.string tx] 31)).alloc (.cells #[.int .i64 0,.slice none 0 0,.slice none 0 0,.int .i64 0,.int .i64 0] 29):=⟨_,rfl⟩
 have hzA:wA.heap.size=w.heap.size+1+1+1:=by rw[hwA];simp
 have HBA:Hid (Below w.heap.size w wA):=by rw[hwA];exact(((Below.refl _ _).alloc (Nat.le_refl _) _).alloc (by simp) _).alloc (by simp;omega) _
 have H0:Hid (wA.heap[w.heap.size]?=some (.cells #[.int .i64 z,.slice a n cap,.slice am m cm,.int .i64 op,.int .i64 st] 29)):=by rw[hwA];exact heap_old (heap_old (heap_new _ _))
 have H1:Hid (wA.heap[w.heap.size+1]?=some (.cells #[.int .i64 kd,.int .i64 at_,.int .i64 sp,.string tx] 31)):=by rw[hwA];exact heap_old (heap_at (by simp))
 have H2:Hid (wA.heap[w.heap.size+1+1]?=some (.cells #[.int .i64 0,.slice none 0 0,.slice none 0 0,.int .i64 0,.int .i64 0] 29)):=by rw[hwA];exact heap_at (by simp)
 have HSQ:=hide (h.later HBA.out hhi)
 have HPL:=hide (hp.later HBA.out hhi')
 have HL:=hide h.1
 have HLP:=hide hp.1
 have HF:=hide hf
 clear h hf hp
 obtain⟨c0,c1,c2,c3,c4⟩:=five_cells H0.out
 go_enter Tryz.func182,Tryz.ntmps182
 go_wp2_with fail
 rw[<- hwA]
 clear hwA
 refine(specFtlOk_any z a n cap qs am m cm ps op st wA HSQ.out (by omega) hn HF.out HPL.out (by omega) hm).mono ?_
 rintro e w1 ⟨rfl,b1⟩
 have K0:=hide (block_on H0.out b1)
 have K1:=hide (block_on H1.out b1)
 have K2:=hide (block_on H2.out b1)
 have HS1:=hide (HSQ.out.later b1 (by omega))
 have HP1:=hide (HPL.out.later b1 (by omega))
 have HB1:=hide (below_here HBA.out b1)
 have hs1:=b1.size
 clear b1 H0 H1 H2 HSQ HPL HBA c0 c1 c2 c3 c4
 cases hok:ftlOk z qs ps op st with
 | false =>
  have HE:Hid (r=none):=by show _=_;rw[HR.out];unfold planR;rw[hok];rfl
  have HFE:Hid (fv=⟨0,[],[],0,0⟩):=by show _=_;rw[HFV.out];unfold entF;rw[hok];rfl
  obtain⟨p0,p1,p2,p3,p4⟩:=five_cells K2.out
  have f0:=four_frozen K2.out 0
  have f1:=four_frozen K2.out 1
  have f2:=four_frozen K2.out 2
  have f3:=four_frozen K2.out 3
  have f4:=four_frozen K2.out 4
  have HRS:=hide (five_set K2.out (.int .i64 0) (.slice none 0 0) (.slice none 0 0) (.int .i64 0) (.int .i64 0))
  have HAS:=hide (five_aside (b:=w.heap.size+1+1) (Aside.refl (w.heap.size+1+1) (w.heap.size+1+1+1) w1) (Nat.le_refl _) (Nat.lt_succ_self _) (.int .i64 0) (.slice none 0 0) (.slice none 0 0) (.int .i64 0) (.int .i64 0))
  have HBF:=hide (HB1.out.trans (HAS.out.below (B:=w.heap.size) (by omega) (by omega)))
  go_wp2_with fail
  refine bodyPost_ret (results_ct rfl rfl (run_loadVar_row _ _ _ _ _ _ _ HRS.out Tryz.underlying29 rfl (by kernel_rfl))) rfl ⟨.agg #[.int .i64 0,.slice none 0 0,.slice none 0 0,.int .i64 0,.int .i64 0],by rw[HE.out];rfl,none,0,none,0,by rw[HFE.out];rfl,⟨Nat.le_refl _,.inl ?_⟩,HBF.out,by rw[HFE.out];exact Nat.le_refl _⟩
  rw[HFE.out];exact⟨rfl,rfl⟩
 | true =>
  have HE:Hid (r=enterK z ⟨qs,ps,op,[]⟩ st kd at_ tx):=by show _=_;rw[HR.out];unfold planR;rw[hok];rfl
  have HFE:Hid (fv=(match enterK z ⟨qs,ps,op,[]⟩ st kd at_ tx with|none=>⟨z,qs,ps,op,st⟩|some s=>⟨z,s.qs,s.ps,s.op,st+1⟩)):=by show _=_;rw[HFV.out];unfold entF;rw[hok];rfl
  have HK:=hide (kok_of hok [])
  obtain⟨hmo,_,_,hst0,hst1,_,_⟩:=ftlOk_parts hok
  have hm64:m<=64:=by have:=(mapOk_len hmo).2;rw[HLP.out] at this;exact this
  have hm1:1<=m:=by have:=(mapOk_len hmo).1;rw[HLP.out] at this;exact this
  have HCK:=hide (mapOk_chip hmo)
  clear hok hmo HR HFV
  obtain⟨wJ,hwJ⟩:∃wJ,wJ=(w1.alloc (.cells #[] 98)).alloc (.cells #[.slice (some ⟨w1.heap.size,0,none⟩) 0 0] 91):=⟨_,rfl⟩
  have hzJ:wJ.heap.size=w1.heap.size+1+1:=by rw[hwJ];simp
  have HBJ:Hid (Below w1.heap.size w1 wJ):=by rw[hwJ];exact((Below.refl _ _).alloc (Nat.le_refl _) _).alloc (by simp) _
  have J0:Hid (wJ.heap[w1.heap.size]?=some (.cells #[] 98)):=by rw[hwJ];exact heap_old (heap_new _ _)
  have J1:Hid (wJ.heap[w1.heap.size+1]?=some (.cells #[.slice (some ⟨w1.heap.size,0,none⟩) 0 0] 91)):=by rw[hwJ];exact heap_at (by simp)
  have HJ1:Hid (JbOwn (w.heap.size+3) wJ (.slice (some ⟨w1.heap.size,0,none⟩) 0 0) []):=⟨rfl,.inr ⟨w1.heap.size,0,#[],rfl,by omega,J0.out,Nat.le_refl _,Nat.zero_le _,rfl,rfl⟩⟩
  have L0:=hide (block_on K0.out HBJ.out)
  have L1:=hide (block_on K1.out HBJ.out)
  have L2:=hide (block_on K2.out HBJ.out)
  have HSJ:=hide (HS1.out.later HBJ.out (by omega))
  have HPJ:=hide (HP1.out.later HBJ.out (by omega))
  have HB2:=hide (below_here HB1.out HBJ.out)
  obtain⟨c0,c1,c2,c3,c4⟩:=five_cells L0.out
  rw[hwJ] at c0 c1 c2 c3 c4
  have HZJ:=hide hzJ
  clear K0 K1 K2 HS1 HP1 HB1 hzJ
  go_wp2_with fail
  rw[<- hwJ]
  clear hwJ c0 c1 c2 c3 c4
  have hzJ:=HZJ.out
  refine(l10Copy_any z a n cap qs am m cm ps op st wJ HSJ.out (by omega) HCK.out HPJ.out (by omega) hm1 hm64).mono ?_
  rintro e w2 ⟨g,c,gm,cm',A,C,rfl,hG,hP,hgm,b2⟩
  obtain⟨wX,hwX⟩:∃wX,wX=w2.alloc (.cells #[.int .i64 z,.slice (some ⟨g,0,none⟩) n c,.slice (some ⟨gm,0,none⟩) m cm',.int .i64 op,.int .i64 st] 29):=⟨_,rfl⟩
  have hzX:wX.heap.size=w2.heap.size+1:=by rw[hwX];simp
  have HBX:Hid (Below w2.heap.size w2 wX):=by rw[hwX];exact(Below.refl _ _).alloc (Nat.le_refl _) _
  have HX:Hid (wX.heap[w2.heap.size]?=some (.cells #[.int .i64 z,.slice (some ⟨g,0,none⟩) n c,.slice (some ⟨gm,0,none⟩) m cm',.int .i64 op,.int .i64 st] 29)):=by rw[hwX];exact heap_new _ _
  have hs2:=b2.size
  have hg1:=hG.atG
  have hg2:g<w2.heap.size:=by have:=hG.row.1;omega
  have hle:ps.length=m:=HLP.out
  have HFA:Hid (FtlAt (w.heap.size+3) wX w2.heap.size (w1.heap.size+1) z st n g c gm cm' A C (.slice (some ⟨w1.heap.size,0,none⟩) 0 0) ⟨qs,ps,op,[]⟩) :=
   ⟨⟨(hG.mono (by omega)).later HBX.out,own_keepBy (hP.mono (by omega)) (grown_below HBX.out none) (fun k e=>by cases e),own_keepBy (own_keepBy HJ1.out (grown_below b2 none) (fun k e=>by cases e)) (grown_below HBX.out none) (fun k e=>by cases e),hgm,fun e=>by simp[Value.ownBlock] at e;omega⟩,
    by dsimp only;rw[hle];exact HX.out,block_on (block_on J1.out b2) HBX.out,by omega,by omega,by omega,by omega⟩
  have M0:=hide (block_on (block_on L0.out b2) HBX.out)
  have M1:=hide (block_on (block_on L1.out b2) HBX.out)
  have M2:=hide (block_on (block_on L2.out b2) HBX.out)
  have HSX:=hide ((HSJ.out.later b2 (by omega)).later HBX.out (by omega))
  have HPX:=hide ((HPJ.out.later b2 (by omega)).later HBX.out (by omega))
  have HB3:=hide (below_here (below_here HB2.out b2) HBX.out)
  clear hG hP b2 L0 L1 L2 HSJ HPJ HB2
  obtain⟨p0,p1,p2,p3⟩:=four_cells M1.out
  rw[hwX] at p0 p1 p2 p3
  have HZX:=hide hzX
  clear hzX
  go_wp2_with fail
  rw[<- hwX]
  clear hwX p0 p1 p2 p3
  have hzX:=HZX.out
  refine(l10Enter_any (w.heap.size+3) w2.heap.size (w1.heap.size+1) z st n g c gm cm' A C _ ⟨qs,ps,op,[]⟩ kd at_ sp tx wX HFA.out (by omega) HK.out (by show 0<=_;omega) ⟨hst0,hst1⟩).mono ?_
  rintro e w3 ⟨rfl,hf3,hk3⟩
  have HF3:=hide (HB3.out.trans (hf3.below.mono (show w.heap.size<=w.heap.size+3 by omega)))
  have hs3:=hf3.below.size
  have HK3:=hide hk3
  have N0:Hid (w3.heap[w.heap.size]?=some (.cells #[.int .i64 z,.slice a n cap,.slice am m cm,.int .i64 op,.int .i64 st] 29)):=(hf3.below.block _ (by omega)).trans M0.out
  have N2:Hid (w3.heap[w.heap.size+1+1]?=some (.cells #[.int .i64 0,.slice none 0 0,.slice none 0 0,.int .i64 0,.int .i64 0] 29)):=(hf3.below.block _ (by omega)).trans M2.out
  have HS3:=hide (HSX.out.later hf3.below (by omega))
  have HP3:=hide (HPX.out.later hf3.below (by omega))
  clear hf3 hk3 M0 M1 M2 HSX HPX
  rw[<- HE.out] at HK3 HFE
  rw[<- HE.out]
  cases hrr:r with
  | none =>
   have HRR:=hide hrr
   have HFN:Hid (fv=⟨z,qs,ps,op,st⟩):=by show _=_;rw[HFE.out,hrr]
   clear hrr HK3
   obtain⟨c0,c1,c2,c3,c4⟩:=five_cells N0.out
   rw[Option.isSome_none]
   go_wp2_with fail
   refine(l10Copy_any z a n cap qs am m cm ps op st w3 HS3.out (by omega) HCK.out HP3.out (by omega) hm1 hm64).mono ?_
   rintro e w4 ⟨g',c',gm',cm2,A',C',rfl,hG',hP',hgm',b4⟩
   have HO4:=hide (own_of_parts hG' hP' hgm')
   have HCP4:=hide (pl_cap hP')
   have O2:=hide (block_on N2.out b4)
   have HB4:=hide (below_here HF3.out b4)
   have hs4:=b4.size
   clear hG' hP' b4 c0 c1 c2 c3 c4
   obtain⟨p0,p1,p2,p3,p4⟩:=five_cells O2.out
   have f0:=four_frozen O2.out 0
   have f1:=four_frozen O2.out 1
   have f2:=four_frozen O2.out 2
   have f3:=four_frozen O2.out 3
   have f4:=four_frozen O2.out 4
   have HRS:=hide (five_set O2.out (.int .i64 z) (.slice (some ⟨g',0,none⟩) n c') (.slice (some ⟨gm',0,none⟩) m cm2) (.int .i64 op) (.int .i64 st))
   have HAS:=hide (five_aside (b:=w.heap.size+1+1) (Aside.refl (w.heap.size+1+1) (w.heap.size+1+1+1) w4) (Nat.le_refl _) (Nat.lt_succ_self _) (.int .i64 z) (.slice (some ⟨g',0,none⟩) n c') (.slice (some ⟨gm',0,none⟩) m cm2) (.int .i64 op) (.int .i64 st))
   have HBF:=hide (HB4.out.trans (HAS.out.below (B:=w.heap.size) (by omega) (by omega)))
   go_wp2_with fail
   refine bodyPost_ret (results_ct rfl rfl (run_loadVar_row _ _ _ _ _ _ _ HRS.out Tryz.underlying29 rfl (by kernel_rfl))) rfl ⟨.agg #[.int .i64 z,.slice (some ⟨g',0,none⟩) n c',.slice (some ⟨gm',0,none⟩) m cm2,.int .i64 op,.int .i64 st],by rw[HRR.out];rfl,some ⟨g',0,none⟩,c',some ⟨gm',0,none⟩,cm2,by rw[HFN.out,<- HL.out,<- HLP.out];rfl,?_,HBF.out,by rw[HFN.out];exact HCP4.out⟩
   rw[HFN.out]
   exact(HO4.out.aside HAS.out (.inl (by omega))).wide (by omega) HAS.out.size (Nat.le_refl _)
  | some s' =>
   have HRR:=hide hrr
   have HFN:Hid (fv=⟨z,s'.qs,s'.ps,s'.op,st+1⟩):=by show _=_;rw[HFE.out,hrr]
   obtain⟨A',C',V',hA'⟩:=HK3.out s' hrr
   have HO4:=hide (own_of_kp hA'.mem)
   have HCP4:=hide (pl_cap hA'.mem.pl)
   have HLN:=hide hA'.mem.sq.len
   obtain⟨c0,c1,c2,c3,c4⟩:=five_cells hA'.ftl
   clear hrr HK3 hA'
   obtain⟨p0,p1,p2,p3,p4⟩:=five_cells N2.out
   have f0:=four_frozen N2.out 0
   have f1:=four_frozen N2.out 1
   have f2:=four_frozen N2.out 2
   have f3:=four_frozen N2.out 3
   have f4:=four_frozen N2.out 4
   have HRS:=hide (five_set N2.out (.int .i64 z) (.slice (some ⟨g,0,none⟩) n c) (.slice (some ⟨gm,0,none⟩) s'.ps.length cm') (.int .i64 s'.op) (.int .i64 (st+1)))
   have HAS:=hide (five_aside (b:=w.heap.size+1+1) (Aside.refl (w.heap.size+1+1) (w.heap.size+1+1+1) w3) (Nat.le_refl _) (Nat.lt_succ_self _) (.int .i64 z) (.slice (some ⟨g,0,none⟩) n c) (.slice (some ⟨gm,0,none⟩) s'.ps.length cm') (.int .i64 s'.op) (.int .i64 (st+1)))
   have HBF:=hide (HF3.out.trans (HAS.out.below (B:=w.heap.size) (by omega) (by omega)))
   rw[Option.isSome_some]
   go_wp2_with fail
   refine bodyPost_ret (results_ct rfl rfl (run_loadVar_row _ _ _ _ _ _ _ HRS.out Tryz.underlying29 rfl (by kernel_rfl))) rfl ⟨.agg #[.int .i64 z,.slice (some ⟨g,0,none⟩) n c,.slice (some ⟨gm,0,none⟩) s'.ps.length cm',.int .i64 s'.op,.int .i64 (st+1)],by rw[HRR.out];rfl,some ⟨g,0,none⟩,c,some ⟨gm,0,none⟩,cm',by rw[HFN.out,<- HLN.out];rfl,?_,HBF.out,by rw[HFN.out];exact HCP4.out⟩
   rw[HFN.out]
   exact(HO4.out.aside HAS.out (.inl (by omega))).wide (by omega) HAS.out.size (Nat.le_refl _)
end Go.Proofs.YtgjoepdfhadmcaaGreatDoor
end

section
namespace Go.Proofs.YtgjoepdfhadmcaaGreatDoor
open Go.RowKit
set_option linter.unusedVariables false
set_option maxRecDepth 20000
set_option maxHeartbeats 3200000 in
theorem specMount_any (z:Int)(a:Option Addr)(n cap:Nat)(qs:List Sq)(N:Int)(w:World){lo hi:Nat}(h:Squares lo hi w a n qs)(hhi:hi<=w.heap.size)(hn:n<=1048576)(hf:∀x∈qs,sqFits x) :
  Calls Tryz.prog 14 #[.agg #[.int .i64 z,.slice a n cap],.int .i64 N] w fun e w'=>∃v,e=.returned v∧FtlAns w (mountF z qs N) v w':=by
 obtain⟨fv,hfv⟩:∃fv:Fv,fv=mountF z qs N:=⟨_,rfl⟩
 have HFV:=hide hfv
 rw[<- hfv]
 clear hfv
 obtain⟨wA,hwA⟩:∃wA,wA=(w.alloc (.cells #[.int .i64 z,.slice a n cap] 26)).alloc (.cells #[.int .i64 0,.slice none 0 0,.slice none 0 0,.int .i64 0,.int .i64 0] 29):=⟨_,rfl⟩
 have hzA:wA.heap.size=w.heap.size+1+1:=by rw[hwA];simp
 have HBA:Hid (Below w.heap.size w wA):=by rw[hwA];exact((Below.refl _ _).alloc (Nat.le_refl _) _).alloc (by simp) _
 have H0:Hid (wA.heap[w.heap.size]?=some (.cells #[.int .i64 z,.slice a n cap] 26)):=by rw[hwA];exact heap_old (heap_new _ _)
 have H1:Hid (wA.heap[w.heap.size+1]?=some (.cells #[.int .i64 0,.slice none 0 0,.slice none 0 0,.int .i64 0,.int .i64 0] 29)):=by rw[hwA];exact heap_at (by simp)
 have HSQ:=hide (h.later HBA.out hhi)
 have HLQ:=hide h.1
 have HFI:=hide hf
 clear h hf
 obtain⟨d0,d1⟩:=two_cells H0.out
 go_enter Tryz.func14,Tryz.ntmps14
 go_wp2_with fail
 rw[<- hwA]
 clear hwA
 refine(specChipOk_any z a n cap qs wA HSQ.out (by omega) hn HFI.out).mono ?_
 rintro e w1 ⟨rfl,b1⟩
 have K0:=hide (block_on H0.out b1)
 have K1:=hide (block_on H1.out b1)
 have HS1:=hide (HSQ.out.later b1 (by omega))
 have HB1:=hide (below_here HBA.out b1)
 have hs1:=b1.size
 clear b1 H0 H1 HSQ HBA d0 d1
 obtain⟨p0,p1,p2,p3,p4⟩:=five_cells K1.out
 have f0:=four_frozen K1.out 0
 have f1:=four_frozen K1.out 1
 have f2:=four_frozen K1.out 2
 have f3:=four_frozen K1.out 3
 have f4:=four_frozen K1.out 4
 have HRS:=hide (five_set K1.out (.int .i64 0) (.slice none 0 0) (.slice none 0 0) (.int .i64 0) (.int .i64 0))
 have HAS:=hide (five_aside (b:=w.heap.size+1) (Aside.refl (w.heap.size+1) (w.heap.size+1+1) w1) (Nat.le_refl _) (Nat.lt_succ_self _) (.int .i64 0) (.slice none 0 0) (.slice none 0 0) (.int .i64 0) (.int .i64 0))
 have HBF:=hide (HB1.out.trans (HAS.out.below (B:=w.heap.size) (by omega) (by omega)))
 cases hok:chipOk z qs with
 | false =>
  have HFE:Hid (fv=⟨0,[],[],0,0⟩):=by show _=_;rw[HFV.out];unfold mountF;rw[hok];rfl
  go_wp2_with fail
  refine bodyPost_ret (results_cell rfl rfl (run_loadVar_row _ _ _ _ _ _ _ HRS.out Tryz.underlying29 rfl (by kernel_rfl))) rfl ⟨_,rfl,none,0,none,0,by rw[HFE.out];rfl,⟨Nat.le_refl _,.inl ?_⟩,HBF.out,by rw[HFE.out];exact Nat.le_refl _⟩
  rw[HFE.out];exact⟨rfl,rfl⟩
 | true =>
  go_wp2_with fail
  refine(l1In_any N 1 64 w1).mono ?_
  rintro e w2 ⟨rfl,rfl⟩
  cases hin:inB N 1 64 with
  | false =>
   have HFE:Hid (fv=⟨0,[],[],0,0⟩):=by show _=_;rw[HFV.out];unfold mountF;rw[hok,hin];rfl
   go_wp2_with fail
   refine bodyPost_ret (results_cell rfl rfl (run_loadVar_row _ _ _ _ _ _ _ HRS.out Tryz.underlying29 rfl (by kernel_rfl))) rfl ⟨_,rfl,none,0,none,0,by rw[HFE.out];rfl,⟨Nat.le_refl _,.inl ?_⟩,HBF.out,by rw[HFE.out];exact Nat.le_refl _⟩
   rw[HFE.out];exact⟨rfl,rfl⟩
  | true =>
   have hn':1<=N∧N<=64:=by unfold inB at hin;simpa using hin
   obtain⟨M,rfl⟩:∃M:Nat,N=(M:Int):=⟨N.toNat,by omega⟩
   have HFE:Hid (fv=⟨z,qs,(mtAll M qs).ps,-1,(mtAll M qs).S⟩):=by show _=_;rw[HFV.out];unfold mountF;rw[hok,hin];simp
   have HOK:=hide hok
   have hM1:1<=M:=by omega
   have hM2:M<=64:=by omega
   clear hok hin hn' HRS HAS HBF p0 p1 p2 p3 p4 f0 f1 f2 f3 f4
   obtain⟨d0,d1⟩:=two_cells K0.out
   go_wp2_with fail
   refine(l11Mount_any z a n cap qs M w1 HS1.out (by omega) HOK.out hM1 hM2).mono ?_
   rintro e w3 ⟨v,rfl,a',c',am',cm',rfl,ho,hb,hcap⟩
   have K3:=hide (block_on K1.out hb)
   have HB3:=hide (below_here HB1.out hb)
   have HO3:=hide ho
   have HCP:=hide hcap
   have hs3:=hb.size
   clear ho hb hcap d0 d1
   unfold fvV
   dsimp only at HO3 HCP ⊢
   obtain⟨L,hL⟩:∃L,L=(mtAll M qs).ps.length:=⟨_,rfl⟩
   obtain⟨S,hS⟩:∃S,S=(mtAll M qs).S:=⟨_,rfl⟩
   have HLL:=hide hL
   have HSS:=hide hS
   rw[<- hL,<- hS,HLQ.out]
   clear hL hS
   obtain⟨p0,p1,p2,p3,p4⟩:=five_cells K3.out
   have f0:=four_frozen K3.out 0
   have f1:=four_frozen K3.out 1
   have f2:=four_frozen K3.out 2
   have f3:=four_frozen K3.out 3
   have f4:=four_frozen K3.out 4
   have HRS:=hide (five_set K3.out (.int .i64 z) (.slice a' n c') (.slice am' L cm') (.int .i64 (-1)) (.int .i64 S))
   have HAS:=hide (five_aside (b:=w.heap.size+1) (Aside.refl (w.heap.size+1) (w.heap.size+1+1) w3) (Nat.le_refl _) (Nat.lt_succ_self _) (.int .i64 z) (.slice a' n c') (.slice am' L cm') (.int .i64 (-1)) (.int .i64 S))
   have HBF:=hide (HB3.out.trans (HAS.out.below (B:=w.heap.size) (by omega) (by omega)))
   go_wp2_with fail
   refine bodyPost_ret (results_cell rfl rfl (run_loadVar_row _ _ _ _ _ _ _ HRS.out Tryz.underlying29 rfl (by kernel_rfl))) rfl ⟨_,rfl,a',c',am',cm',?_,?_,HBF.out,?_⟩
   ·rw[HFE.out];unfold fvV;dsimp only;rw[HLQ.out,<- HLL.out,<- HSS.out]
   ·rw[HFE.out]
    exact(HO3.out.aside HAS.out (.inl (by omega))).wide (by omega) HAS.out.size (Nat.le_refl _)
   ·rw[HFE.out];exact HCP.out
end Go.Proofs.YtgjoepdfhadmcaaGreatDoor
end

section
namespace Go.Proofs.YtgjoepdfhadmcaaGreatDoor
open Go.RowKit
set_option linter.unusedVariables false
set_option maxRecDepth 20000
def spoilNo (ps:List Pl)(op sq:Int):Bool:=decide (sq=op)||decide ((0:Int)<(liveN ps sq:Int))
def spoilF (z:Int)(qs:List Sq)(ps:List Pl)(op st sq:Int):Fv :=
 if ftlOk z qs ps op st then(if spoilNo ps op sq then⟨z,qs,ps,op,st⟩ else⟨z,doJ z qs (3,sq,ByteArray.empty),ps,op,st⟩) else⟨0,[],[],0,0⟩
def spoilB (z:Int)(qs:List Sq)(ps:List Pl)(op st sq:Int):Bool:=ftlOk z qs ps op st&&(!spoilNo ps op sq&&canJ z qs (3,sq,ByteArray.empty))
theorem spoiled_ok {z:Int}{qs:List Sq}{ps:List Pl}{op st sq:Int}(h:ftlOk z qs ps op st=true)(hn:spoilNo ps op sq=false):ftlOk z (doJ z qs (3,sq,ByteArray.empty)) ps op st=true:=by
 cases hc:canJ z qs (3,sq,ByteArray.empty) with
 | false=>rw[doJ_no hc];exact h
 | true =>
  obtain⟨i,ho,hl,hb,_⟩:=canJ_parts hc
  dsimp only at ho
  subst ho
  have hK:=kok_of h []
  obtain⟨_,_,_,hst0,hst1,_,hfp⟩:=ftlOk_parts h
  have hD:=doJ_ok (j:=(3,(i:Int),ByteArray.empty)) hK.map.chip
  rw[doJ_yes hc] at hD ⊢
  have hsq:∀q,sqAt (qs.set i (sqDo (sqAt qs i) 3 ByteArray.empty)) q=if q=i then sqDo (sqAt qs i) 3 ByteArray.empty else sqAt qs q:=fun q=>sqAt_set qs _ hl q
  have hpg:∀q,(sqAt (qs.set i (sqDo (sqAt qs i) 3 ByteArray.empty)) q).1=(sqAt qs q).1:=fun q=>by
   rw[hsq];split
   ·rename_i e;subst e;rfl
   ·rfl
  have hth:∀p,plThere qs p=true->plThere (qs.set i (sqDo (sqAt qs i) 3 ByteArray.empty)) p=true∧txt (qs.set i (sqDo (sqAt qs i) 3 ByteArray.empty)) p=txt qs p:=fun p hp=>by
   obtain⟨s,k,rfl,h1,h2⟩:=plThere_iff.1 hp
   refine⟨plThere_iff.2 ⟨s,k,rfl,by rw[List.length_set];exact h1,by rw[hpg];exact h2⟩,?_⟩
   unfold txt txAt
   rw[hpg]
  have hmap:MapR z (qs.set i (sqDo (sqAt qs i) 3 ByteArray.empty)) ps:=⟨hD,hK.map.one,hK.map.few,fun j hj=>(hK.map.there j hj).imp id (fun h'=>(hth _ h').1),hK.map.apart⟩
  have hne:(i:Int)≠op:=fun e=>by
   unfold spoilNo at hn
   simp[e] at hn
  refine ftlOk_of (js:=[]) ⟨hmap,hK.lo,by show op<((qs.set i _).length:Int);rw[List.length_set];exact hK.hi,?_⟩ hst0 hst1 (fun j hj=>?_)
  ·have hg:=hK.good
   unfold opOk at hg ⊢
   dsimp only at hg ⊢
   rw[hsq]
   split
   ·rename_i e
    have hlo:=hK.lo
    dsimp only at hlo
    rcases Int.lt_or_le op 0 with h0|h0
    ·simp;omega
    ·exact absurd (by omega) hne
   ·exact hg
  ·refine same_ok (qs:=qs) (ps:=ps) (st:=st) hK.map hmap rfl (Int.le_refl _) hj (hfp j hj) ⟨Iff.rfl,fun hn'=>?_⟩
   rcases hK.map.there j hj with h1|h1
   ·exact absurd h1 hn'
   ·exact(hth _ h1).2
set_option maxHeartbeats 3200000 in
theorem specSpoil_any (z:Int)(a:Option Addr)(n cap:Nat)(qs:List Sq)(am:Option Addr)(m cm:Nat)(ps:List Pl)(op st sq:Int)(w:World){lo hi lo' hi':Nat}(h:Squares lo hi w a n qs)(hhi:hi<=w.heap.size)(hn:n<=1048576)(hf:∀x∈qs,sqFits x)(hp:Places lo' hi' w am m ps)(hhi':hi'<=w.heap.size)(hm:m<=1048576) :
  Calls Tryz.prog 183 #[.agg #[.int .i64 z,.slice a n cap,.slice am m cm,.int .i64 op,.int .i64 st],.int .i64 sq] w fun e w'=>∃v,e=.returned (.tuple #[v,.bool (spoilB z qs ps op st sq)])∧FtlAns w (spoilF z qs ps op st sq) v w':=by
 obtain⟨fv,hfv⟩:∃fv:Fv,fv=spoilF z qs ps op st sq:=⟨_,rfl⟩
 have HFV:=hide hfv
 rw[<- hfv]
 clear hfv
 obtain⟨B,hB⟩:∃B,B=spoilB z qs ps op st sq:=⟨_,rfl⟩
 have HBV:=hide hB
 rw[<- hB]
 clear hB
 obtain⟨wA,hwA⟩:∃wA,wA=(w.alloc (.cells #[.int .i64 z,.slice a n cap,.slice am m cm,.int .i64 op,.int .i64 st] 29)).alloc (.cells #[.int .i64 0,.slice none 0 0,.slice none 0 0,.int .i64 0,.int .i64 0] 29):=⟨_,rfl⟩
 have hzA:wA.heap.size=w.heap.size+1+1:=by rw[hwA];simp
 have HBA:Hid (Below w.heap.size w wA):=by rw[hwA];exact((Below.refl _ _).alloc (Nat.le_refl _) _).alloc (by simp) _
 have H0:Hid (wA.heap[w.heap.size]?=some (.cells #[.int .i64 z,.slice a n cap,.slice am m cm,.int .i64 op,.int .i64 st] 29)):=by rw[hwA];exact heap_old (heap_new _ _)
 have H1:Hid (wA.heap[w.heap.size+1]?=some (.cells #[.int .i64 0,.slice none 0 0,.slice none 0 0,.int .i64 0,.int .i64 0] 29)):=by rw[hwA];exact heap_at (by simp)
 have HSQ:=hide (h.later HBA.out hhi)
 have HPL:=hide (hp.later HBA.out hhi')
 have HLQ:=hide h.1
 have HLP:=hide hp.1
 have HFI:=hide hf
 clear h hf hp
 obtain⟨c0,c1,c2,c3,c4⟩:=five_cells H0.out
 go_enter Tryz.func183,Tryz.ntmps183
 go_wp2_with fail
 rw[<- hwA]
 clear hwA
 refine(specFtlOk_any z a n cap qs am m cm ps op st wA HSQ.out (by omega) hn HFI.out HPL.out (by omega) hm).mono ?_
 rintro e w1 ⟨rfl,b1⟩
 have K0:=hide (block_on H0.out b1)
 have K1:=hide (block_on H1.out b1)
 have HS1:=hide (HSQ.out.later b1 (by omega))
 have HP1:=hide (HPL.out.later b1 (by omega))
 have HB1:=hide (below_here HBA.out b1)
 have hs1:=b1.size
 clear b1 H0 H1 HSQ HPL HBA c0 c1 c2 c3 c4
 cases hok:ftlOk z qs ps op st with
 | false =>
  have HE:Hid (B=false):=by show _=_;rw[HBV.out];unfold spoilB;rw[hok];rfl
  have HFE:Hid (fv=⟨0,[],[],0,0⟩):=by show _=_;rw[HFV.out];unfold spoilF;rw[hok];rfl
  obtain⟨p0,p1,p2,p3,p4⟩:=five_cells K1.out
  have f0:=four_frozen K1.out 0
  have f1:=four_frozen K1.out 1
  have f2:=four_frozen K1.out 2
  have f3:=four_frozen K1.out 3
  have f4:=four_frozen K1.out 4
  have HRS:=hide (five_set K1.out (.int .i64 0) (.slice none 0 0) (.slice none 0 0) (.int .i64 0) (.int .i64 0))
  have HAS:=hide (five_aside (b:=w.heap.size+1) (Aside.refl (w.heap.size+1) (w.heap.size+1+1) w1) (Nat.le_refl _) (Nat.lt_succ_self _) (.int .i64 0) (.slice none 0 0) (.slice none 0 0) (.int .i64 0) (.int .i64 0))
  have HBF:=hide (HB1.out.trans (HAS.out.below (B:=w.heap.size) (by omega) (by omega)))
  go_wp2_with fail
  refine bodyPost_ret (results_ct rfl rfl (run_loadVar_row _ _ _ _ _ _ _ HRS.out Tryz.underlying29 rfl (by kernel_rfl))) rfl ⟨.agg #[.int .i64 0,.slice none 0 0,.slice none 0 0,.int .i64 0,.int .i64 0],by rw[HE.out];rfl,none,0,none,0,by rw[HFE.out];rfl,⟨Nat.le_refl _,.inl ?_⟩,HBF.out,by rw[HFE.out];exact Nat.le_refl _⟩
  rw[HFE.out];exact⟨rfl,rfl⟩
 | true =>
  obtain⟨hmo,_,_,_,_,_,_⟩:=ftlOk_parts hok
  have hm64:m<=64:=by have:=(mapOk_len hmo).2;rw[HLP.out] at this;exact this
  have hm1:1<=m:=by have:=(mapOk_len hmo).1;rw[HLP.out] at this;exact this
  have HCK:=hide (mapOk_chip hmo)
  have HFE:Hid (fv=(if spoilNo ps op sq then⟨z,qs,ps,op,st⟩ else⟨z,doJ z qs (3,sq,ByteArray.empty),ps,op,st⟩)):=by show _=_;rw[HFV.out];unfold spoilF;rw[hok];rfl
  have HE:Hid (B=(!spoilNo ps op sq&&canJ z qs (3,sq,ByteArray.empty))):=by show _=_;rw[HBV.out];unfold spoilB;rw[hok];rfl
  clear hok hmo HFV HBV
  obtain⟨c0,c1,c2,c3,c4⟩:=five_cells K0.out
  go_wp2_with fail
  refine(l10Copy_any z a n cap qs am m cm ps op st w1 HS1.out (by omega) HCK.out HP1.out (by omega) hm1 hm64).mono ?_
  rintro e w2 ⟨g,c,gm,cm',A,C,rfl,hG,hP,hgm,b2⟩
  obtain⟨wX,hwX⟩:∃wX,wX=w2.alloc (.cells #[.int .i64 z,.slice (some ⟨g,0,none⟩) n c,.slice (some ⟨gm,0,none⟩) m cm',.int .i64 op,.int .i64 st] 29):=⟨_,rfl⟩
  have HZX:Hid (wX.heap.size=w2.heap.size+1):=by show _=_;rw[hwX];simp
  have HBX:Hid (Below w2.heap.size w2 wX):=by rw[hwX];exact(Below.refl _ _).alloc (Nat.le_refl _) _
  have HX:Hid (wX.heap[w2.heap.size]?=some (.cells #[.int .i64 z,.slice (some ⟨g,0,none⟩) n c,.slice (some ⟨gm,0,none⟩) m cm',.int .i64 op,.int .i64 st] 29)):=by rw[hwX];exact heap_new _ _
  have hs2:=b2.size
  have hg2:g<w2.heap.size:=by have:=hG.row.1;omega
  have HKM:Hid (KpMem w1.heap.size wX n g gm cm' A C (.slice none 0 0) ⟨qs,ps,op,[]⟩) :=
   ⟨hG.later HBX.out,own_keepBy hP (grown_below HBX.out none) (fun k e=>by cases e),⟨rfl,.inl ⟨rfl,rfl⟩⟩,hgm,by simp[Value.ownBlock]⟩
  have L0:=hide (block_on (block_on K0.out b2) HBX.out)
  have L1:=hide (block_on (block_on K1.out b2) HBX.out)
  have HPX:=hide ((HP1.out.later b2 (by omega)).later HBX.out (by omega))
  have HB3:=hide (below_here (below_here HB1.out b2) HBX.out)
  clear hG hP b2 K0 K1 HS1 HP1 HB1 c0 c1 c2 c3 c4 HBX
  obtain⟨c0,c1,c2,c3,c4⟩:=five_cells L0.out
  go_upto_region 4 with fail
  rw[<- hwX]
  clear hwX
  have hend:∀(B':Bool) (qs':List Sq) (A':Nat->Option Addr) (C':Nat->Nat) (wE:World),KpMem w1.heap.size wE n g gm cm' A' C' (.slice none 0 0) ⟨qs',ps,op,[]⟩->fv=⟨z,qs',ps,op,st⟩->B=B'->wE.heap[w.heap.size+1]?=some (.cells #[.int .i64 0,.slice none 0 0,.slice none 0 0,.int .i64 0,.int .i64 0] 29)->Below w.heap.size w wE->w1.heap.size<=wE.heap.size ->
    (((((wE.setCell ⟨w.heap.size+1,0,none⟩ (.int .i64 z)).setCell ⟨w.heap.size+1,1,none⟩ (.slice (some ⟨g,0,none⟩) n c)).setCell ⟨w.heap.size+1,2,none⟩ (.slice (some ⟨gm,0,none⟩) m cm')).setCell ⟨w.heap.size+1,3,none⟩ (.int .i64 op)).setCell ⟨w.heap.size+1,4,none⟩ (.int .i64 st)).heap[w.heap.size+1]?=some (.cells #[.int .i64 z,.slice (some ⟨g,0,none⟩) n c,.slice (some ⟨gm,0,none⟩) m cm',.int .i64 op,.int .i64 st] 29) ∧
    FtlAns w fv (.agg #[.int .i64 z,.slice (some ⟨g,0,none⟩) n c,.slice (some ⟨gm,0,none⟩) m cm',.int .i64 op,.int .i64 st]) (((((wE.setCell ⟨w.heap.size+1,0,none⟩ (.int .i64 z)).setCell ⟨w.heap.size+1,1,none⟩ (.slice (some ⟨g,0,none⟩) n c)).setCell ⟨w.heap.size+1,2,none⟩ (.slice (some ⟨gm,0,none⟩) m cm')).setCell ⟨w.heap.size+1,3,none⟩ (.int .i64 op)).setCell ⟨w.heap.size+1,4,none⟩ (.int .i64 st)):=by
   intro B' qs' A' C' wE hk hfe hbe hr hb hle
   have hAS:=five_aside (b:=w.heap.size+1) (Aside.refl (w.heap.size+1) (w.heap.size+1+1) wE) (Nat.le_refl _) (Nat.lt_succ_self _) (.int .i64 z) (.slice (some ⟨g,0,none⟩) n c) (.slice (some ⟨gm,0,none⟩) m cm') (.int .i64 op) (.int .i64 st)
   refine⟨five_set hr _ _ _ _ _,some ⟨g,0,none⟩,c,some ⟨gm,0,none⟩,cm',?_,?_,hb.trans (hAS.below (B:=w.heap.size) (by omega) (by omega)),?_⟩
   ·rw[hfe];unfold fvV;dsimp only;rw[HLP.out,show qs'.length=n from hk.sq.len]
   ·rw[hfe]
    exact((own_of_kp hk).aside hAS (.inl (by omega))).wide (by omega) hAS.size (Nat.le_refl _)
   ·rw[hfe];exact pl_cap hk.pl
  have HEND:=hide hend
  clear hend
  by_cases hso:sq=op
  ·have hb1:(sq==op)=true:=by simpa using hso
   have hb2:decide (sq=op)=true:=by simpa using hso
   have HNO:Hid (spoilNo ps op sq=true):=by show _=_;unfold spoilNo;rw[hb2];rfl
   have HF1:Hid (fv=⟨z,qs,ps,op,st⟩):=by show _=_;rw[HFE.out,HNO.out];rfl
   have HE1:Hid (B=false):=by show _=_;rw[HE.out,HNO.out];rfl
   have HX9:=hide (HEND.out false qs A C wX HKM.out HF1.out HE1.out L1.out HB3.out (by have:=HZX.out;omega))
   obtain⟨x0,x1,x2,x3,x4⟩:=five_cells HX.out
   obtain⟨p0,p1,p2,p3,p4⟩:=five_cells L1.out
   have f0:=four_frozen L1.out 0
   have f1:=four_frozen L1.out 1
   have f2:=four_frozen L1.out 2
   have f3:=four_frozen L1.out 3
   have f4:=four_frozen L1.out 4
   go_wp2_with fail
   exact bodyPost_ret (results_ct rfl rfl (run_loadVar_row _ _ _ _ _ _ _ HX9.out.1 Tryz.underlying29 rfl (by kernel_rfl))) rfl ⟨_,by rw[HE1.out];rfl,HX9.out.2⟩
  ·have hb1:(sq==op)=false:=by simpa using hso
   have hb2:decide (sq=op)=false:=by simpa using hso
   go_wp2_with fail
   refine(l9Live_any am m cm ps sq wX HPX.out hm).mono ?_
   rintro e w3 ⟨rfl,rfl⟩
   obtain⟨lv,hlv⟩:∃lv:Nat,lv=liveN ps sq:=⟨_,rfl⟩
   rw[<- hlv]
   by_cases hl0:(0:Int)<(lv:Int)
   ·have hl1:decide ((0:Int)<(lv:Int))=true:=by simpa using hl0
    have HNO:Hid (spoilNo ps op sq=true):=by show _=_;unfold spoilNo;rw[<- hlv,hl1];simp
    have HF1:Hid (fv=⟨z,qs,ps,op,st⟩):=by show _=_;rw[HFE.out,HNO.out];rfl
    have HE1:Hid (B=false):=by show _=_;rw[HE.out,HNO.out];rfl
    have HX9:=hide (HEND.out false qs A C wX HKM.out HF1.out HE1.out L1.out HB3.out (by have:=HZX.out;omega))
    obtain⟨x0,x1,x2,x3,x4⟩:=five_cells HX.out
    obtain⟨p0,p1,p2,p3,p4⟩:=five_cells L1.out
    have f0:=four_frozen L1.out 0
    have f1:=four_frozen L1.out 1
    have f2:=four_frozen L1.out 2
    have f3:=four_frozen L1.out 3
    have f4:=four_frozen L1.out 4
    go_wp2_with fail
    exact bodyPost_ret (results_ct rfl rfl (run_loadVar_row _ _ _ _ _ _ _ HX9.out.1 Tryz.underlying29 rfl (by kernel_rfl))) rfl ⟨_,by rw[HE1.out];rfl,HX9.out.2⟩
   ·have hl1:decide ((0:Int)<(lv:Int))=false:=by simpa using hl0
    have HNO:Hid (spoilNo ps op sq=false):=by show _=_;unfold spoilNo;rw[<- hlv,hl1,hb2];rfl
    have HF1:Hid (fv=⟨z,doJ z qs (3,sq,ByteArray.empty),ps,op,st⟩):=by show _=_;rw[HFE.out,HNO.out];rfl
    have HE1:Hid (B=canJ z qs (3,sq,ByteArray.empty)):=by show _=_;rw[HE.out,HNO.out];rfl
    have hzX:=HZX.out
    have HDO:=hide (l8Do_at w2.heap.size c w1.heap.size z n qs g A C 3 sq ByteArray.empty wX HKM.out.sq (by omega) HX.out rfl rfl (by omega) HCK.out (by unfold maxLen;decide))
    clear hlv hzX
    have hl2:lv=0:=by omega
    subst hl2
    simp only[show((0:Nat):Int)=0 from rfl]
    go_wp2_with fail
    refine HDO.out.mono ?_
    rintro e w4 ⟨rfl,A',C',hG4,hO4⟩
    have hzX:=HZX.out
    have HK4:=hide (HKM.out.did hG4 hO4 (by omega))
    have X4:=hide (hO4.other w2.heap.size _ _ _ (by omega) (by decide) HX.out)
    have R4:Hid (w4.heap[w.heap.size+1]?=some (.cells #[.int .i64 0,.slice none 0 0,.slice none 0 0,.int .i64 0,.int .i64 0] 29)):=(hO4.below.block _ (by omega)).trans L1.out
    have hs4:=hO4.below.size
    have HB4:=hide (HB3.out.trans (hO4.below.mono (show w.heap.size<=w1.heap.size by omega)))
    have HX9:=hide (HEND.out (canJ z qs (3,sq,ByteArray.empty)) _ A' C' w4 HK4.out HF1.out HE1.out R4.out HB4.out (by omega))
    rw[<- HE1.out]
    clear hG4 hO4 hzX HDO c0 c1 c2 c3 c4
    obtain⟨x0,x1,x2,x3,x4⟩:=five_cells X4.out
    obtain⟨p0,p1,p2,p3,p4⟩:=five_cells R4.out
    have f0:=four_frozen R4.out 0
    have f1:=four_frozen R4.out 1
    have f2:=four_frozen R4.out 2
    have f3:=four_frozen R4.out 3
    have f4:=four_frozen R4.out 4
    go_wp2_with fail
    exact bodyPost_ret (results_ct rfl rfl (run_loadVar_row _ _ _ _ _ _ _ HX9.out.1 Tryz.underlying29 rfl (by kernel_rfl))) rfl ⟨_,rfl,HX9.out.2⟩
end Go.Proofs.YtgjoepdfhadmcaaGreatDoor
end

section
namespace Go.Proofs.YtgjoepdfhadmcaaGreatDoor
open Go.RowKit
set_option linter.unusedVariables false
abbrev zF:Obj:=.cells #[.int .i64 0,.slice none 0 0,.slice none 0 0,.int .i64 0,.int .i64 0] 29
structure VarF (s b lo hi:Nat)(z:Int)(qs:List Sq)(ps:List Pl)(op st:Int)(a:Option Addr)(c:Nat)(am:Option Addr)(cm:Nat)(w:World):Prop where
 var:w.heap[b]?=some (.cells #[.int .i64 z,.slice a qs.length c,.slice am ps.length cm,.int .i64 op,.int .i64 st] 29)
 own:FtlOwn lo hi w a am qs ps
 apart:b<lo∨hi<=b
 atB:s<=b
 atL:s<=lo
section
variable {s b lo hi c cm:Nat}{z op st:Int}{qs:List Sq}{ps:List Pl}{a am:Option Addr}{w w':World}
theorem VarF.lt (h:VarF s b lo hi z qs ps op st a c am cm w):b<w.heap.size:=(Array.getElem?_eq_some_iff.1 h.var).1
theorem VarF.on (h:VarF s b lo hi z qs ps op st a c am cm w)(hb:Below w.heap.size w w'):VarF s b lo hi z qs ps op st a c am cm w':=⟨block_on h.var hb,h.own.later hb h.own.1,h.apart,h.atB,h.atL⟩
theorem VarF.aside (h:VarF s b lo hi z qs ps op st a c am cm w){l r:Nat}(hb:Aside l r w w')(h1:b<l∨r<=b)(h2:r<=lo∨hi<=l):VarF s b lo hi z qs ps op st a c am cm w' :=
 ⟨(hb.block b h.lt h1).trans h.var,h.own.aside hb h2,h.apart,h.atB,h.atL⟩
theorem VarF.cells (h:VarF s b lo hi z qs ps op st a c am cm w):w.cell? ⟨b,0,none⟩=some (.int .i64 z)∧w.cell? ⟨b,1,none⟩=some (.slice a qs.length c)∧w.cell? ⟨b,2,none⟩=some (.slice am ps.length cm)∧w.cell? ⟨b,3,none⟩=some (.int .i64 op)∧w.cell? ⟨b,4,none⟩=some (.int .i64 st):=five_cells h.var
theorem VarF.squares (h:VarF s b lo hi z qs ps op st a c am cm w):Squares lo hi w a qs.length qs:=h.own.squares
theorem VarF.places (h:VarF s b lo hi z qs ps op st a c am cm w):Places lo hi w am ps.length ps:=h.own.places
theorem VarF.hi_le (h:VarF s b lo hi z qs ps op st a c am cm w):hi<=w.heap.size:=h.own.1
theorem varF_new {w1:World}(hq:FtlOwn w1.heap.size w'.heap.size w' a am qs ps)(hs:s<=w1.heap.size)(h1:w1.heap.size<=w'.heap.size) :
  VarF s w'.heap.size w1.heap.size w'.heap.size z qs ps op st a c am cm (w'.alloc (.cells #[.int .i64 z,.slice a qs.length c,.slice am ps.length cm,.int .i64 op,.int .i64 st] 29)) :=
 ⟨heap_new _ _,hq.later ((Below.refl w'.heap.size w').alloc (Nat.le_refl _) _) (Nat.le_refl _),.inr (Nat.le_refl _),Nat.le_trans hs h1,hs⟩
end
theorem squares_wide {lo hi lo' hi' n:Nat}{w:World}{a:Option Addr}{qs:List Sq}(h:Squares lo hi w a n qs)(h1:lo'<=lo)(h2:hi<=hi')(h3:hi'<=w.heap.size):Squares lo' hi' w a n qs:=by
 obtain⟨h4,A,C,h5,h6⟩:=h
 exact⟨h4,A,C,reads_wide h5 h1 h2 h3,fun i hi=>⟨(h6 i hi).1,reads_wide (h6 i hi).2 h1 h2 h3⟩⟩
theorem places_wide {lo hi lo' hi' n:Nat}{w:World}{a:Option Addr}{ps:List Pl}(h:Places lo hi w a n ps)(h1:lo'<=lo)(h2:hi<=hi')(h3:hi'<=w.heap.size):Places lo' hi' w a n ps:=⟨h.1,reads_wide h.2 h1 h2 h3⟩
end Go.Proofs.YtgjoepdfhadmcaaGreatDoor
end

section
namespace Go.Proofs.YtgjoepdfhadmcaaGreatDoor
open Go.RowKit
set_option linter.unusedVariables false
set_option maxRecDepth 20000
set_option maxHeartbeats 1600000 in
theorem l10DrawPage_any (p:Nat)(n:Int)(w:World)(hc:Cur w p)(hn:n<=4294967296) :
  Calls Tryz.prog 122 #[.pointer (some ⟨p,0,none⟩),.int .i64 n] w fun e w'=>∃(k a s:Int) (x:ByteArray),e=.returned (.agg #[.int .i64 k,.int .i64 a,.int .i64 s,.string x])∧Cur w' p∧Aside p (p+1) w w':=by
 have hpl:=hc.lt
 obtain⟨wA,hwA⟩:∃wA,wA=w.alloc (.cells #[.int .i64 0,.int .i64 0,.int .i64 0,.string ⟨#[]⟩] 31):=⟨_,rfl⟩
 have HC:=hide (hc.alloc (.cells #[.int .i64 0,.int .i64 0,.int .i64 0,.string ⟨#[]⟩] 31))
 have HA:=hide ((Aside.refl p (p+1) w).alloc (.cells #[.int .i64 0,.int .i64 0,.int .i64 0,.string ⟨#[]⟩] 31))
 have H1:=hide (heap_new w (.cells #[.int .i64 0,.int .i64 0,.int .i64 0,.string ⟨#[]⟩] 31))
 rw[<- hwA] at HC HA H1
 clear hc
 go_enter Tryz.func122,Tryz.ntmps122
 go_wp2_with fail
 rw[<- hwA]
 clear hwA
 refine(l7Draw_any p wA HC.out).mono ?_
 rintro e w1 ⟨k,a,s,x,rfl,c1,s1⟩
 obtain⟨wB,hwB⟩:∃wB,wB=w1.alloc (.cells #[.int .i64 k,.int .i64 a,.int .i64 s,.string x] 31):=⟨_,rfl⟩
 have h1:=aside_block s1 H1.out (by omega)
 have hwl:w.heap.size<w1.heap.size:=(Array.getElem?_eq_some_iff.1 h1).1
 have HCB:=hide (c1.alloc (.cells #[.int .i64 k,.int .i64 a,.int .i64 s,.string x] 31))
 have HAB:=hide ((HA.out.trans s1).alloc (.cells #[.int .i64 k,.int .i64 a,.int .i64 s,.string x] 31))
 have HR:=hide (heap_old (o:=.cells #[.int .i64 k,.int .i64 a,.int .i64 s,.string x] 31) h1)
 have HP:=hide (heap_new w1 (.cells #[.int .i64 k,.int .i64 a,.int .i64 s,.string x] 31))
 rw[<- hwB] at HCB HAB HR HP
 clear c1 s1 h1 HC HA H1
 go_wp2_with fail
 rw[<- hwB]
 clear hwB
 refine(l1Below_any p n wB HCB.out hn).mono ?_
 rintro e w2 ⟨y,rfl,y0,y1,c2,s2⟩
 have HR2:=hide (aside_block s2 HR.out (by omega))
 have HP2:=hide (aside_block s2 HP.out (by omega))
 have HA2:=hide (HAB.out.trans s2)
 have HC2:=hide c2
 clear c2 s2 HAB HCB HR HP
 have q1:=four_frozen HP2.out 1
 obtain⟨r0,r1,r2,r3⟩:=four_cells HP2.out
 obtain⟨w3,hw3⟩:∃w3,w3=w2.setCell ⟨w1.heap.size,1,none⟩ (.int .i64 y):=⟨_,rfl⟩
 have HP3:Hid (w3.heap[w1.heap.size]?=some (.cells #[.int .i64 k,.int .i64 y,.int .i64 s,.string x] 31)):=by rw[hw3];exact set_block HP2.out 1 _ (by simp)
 have HR3:Hid (w3.heap[w.heap.size]?=some (.cells #[.int .i64 0,.int .i64 0,.int .i64 0,.string ⟨#[]⟩] 31)):=by rw[hw3];exact set_other HR2.out (by omega) _
 have HA3:Hid (Aside p (p+1) w w3):=by rw[hw3];exact HA2.out.set_new (by omega) _
 have HC3:Hid (Cur w3 p):=by rw[hw3];exact HC2.out.set_new (by omega) _
 go_upto_region 3 with fail
 rw[<- hw3]
 clear hw3 r0 r1 r2 r3 q1
 obtain⟨r0,r1,r2,r3⟩:=four_cells HP3.out
 obtain⟨z0,z1,z2,z3⟩:=four_cells HR3.out
 have f0:=four_frozen HR3.out 0
 have f1:=four_frozen HR3.out 1
 have f2:=four_frozen HR3.out 2
 have f3:=four_frozen HR3.out 3
 go_wp2_with fail
 refine bodyPost_ret (results_cell rfl rfl (run_loadVar_row _ _ _ _ _ _ _ (four_set HR3.out _ _ _ _) Tryz.underlying31 rfl (by kernel_rfl))) rfl ⟨_,_,_,_,rfl,?_,?_⟩
 ·exact(((HC3.out.set_new hpl _).set_new hpl _).set_new hpl _).set_new hpl _
 ·exact(((HA3.out.set_new (Nat.le_refl _) _).set_new (Nat.le_refl _) _).set_new (Nat.le_refl _) _).set_new (Nat.le_refl _) _
structure DrAt (w:World)(p bF:Nat)(z:Int)(qs:List Sq)(ps:List Pl)(op st:Int)(a:Option Addr)(c:Nat)(am:Option Addr)(cm lo hi:Nat)(wr:World):Prop where
 var:VarF (w.heap.size+1) bF lo hi z qs ps op st a c am cm wr
 cap:ps.length<=cm
 ok:ftlOk z qs ps op st=true
 cur:Cur wr p
 aside:Aside p (p+1) w wr
section
variable {w:World}{p bF c cm lo hi:Nat}{z op st:Int}{qs:List Sq}{ps:List Pl}{a am:Option Addr}{wr w':World}
theorem DrAt.drawn (h:DrAt w p bF z qs ps op st a c am cm lo hi wr)(hp:p<w.heap.size)(hc:Cur w' p)(ha:Aside p (p+1) wr w'):DrAt w p bF z qs ps op st a c am cm lo hi w' :=
 ⟨h.var.aside ha (.inr (by have:=h.var.atB;omega)) (.inl (by have:=h.var.atL;omega)),h.cap,h.ok,hc,h.aside.trans ha⟩
theorem DrAt.on (h:DrAt w p bF z qs ps op st a c am cm lo hi wr)(hb:Below wr.heap.size wr w'):DrAt w p bF z qs ps op st a c am cm lo hi w' :=
 ⟨h.var.on hb,h.cap,h.ok,h.cur.below hb h.cur.lt,h.aside.trans (aside_new hb)⟩
theorem DrAt.put (h:DrAt w p bF z qs ps op st a c am cm lo hi wr)(hp:p<w.heap.size){z' op' st':Int}{qs':List Sq}{ps':List Pl}{a' am':Option Addr}{c' cm' lo' hi':Nat}(ho:FtlOwn lo' hi' wr a' am' qs' ps')(h1:bF<lo')(h2:w.heap.size+1<=lo')(hcap:ps'.length<=cm')(hok:ftlOk z' qs' ps' op' st'=true) :
  DrAt w p bF z' qs' ps' op' st' a' c' am' cm' lo' hi' (((((wr.setCell ⟨bF,0,none⟩ (.int .i64 z')).setCell ⟨bF,1,none⟩ (.slice a' qs'.length c')).setCell ⟨bF,2,none⟩ (.slice am' ps'.length cm')).setCell ⟨bF,3,none⟩ (.int .i64 op')).setCell ⟨bF,4,none⟩ (.int .i64 st')):=by
 have hA:=five_aside (b:=bF) (Aside.refl bF (bF+1) wr) (Nat.le_refl _) (Nat.lt_succ_self _) (.int .i64 z') (.slice a' qs'.length c') (.slice am' ps'.length cm') (.int .i64 op') (.int .i64 st')
 have hB:=h.var.atB
 exact⟨⟨five_set h.var.var _ _ _ _ _,ho.aside hA (.inl (by omega)),.inl h1,hB,h2⟩,hcap,hok,h.cur.aside hA (by omega),⟨hA.os.trans h.aside.os,hA.tape.trans h.aside.tape,hA.output.trans h.aside.output,Nat.le_trans h.aside.size hA.size,fun k hk hk'=>(hA.block k (Nat.lt_of_lt_of_le hk h.aside.size) (.inl (by omega))).trans (h.aside.block k hk hk')⟩⟩
end
end Go.Proofs.YtgjoepdfhadmcaaGreatDoor
end

section
namespace Go.Proofs.YtgjoepdfhadmcaaGreatDoor
open Go.RowKit
set_option linter.unusedVariables false
def isE (qs:List Sq)(e:Nat):Prop:=e<qs.length∧(sqAt qs e).1.length=0∧(sqAt qs e).2.2=false
theorem isE_mem {qs:List Sq}{e:Nat}:isE qs e↔e∈emptyK qs qs.length:=by
 rw[emptyK_mem]
 unfold isE isEmpty
 simp
theorem empty_two {qs:List Sq}{a b:Nat}(h1:isE qs a)(h2:isE qs b)(hne:a≠b):2<=(emptyK qs qs.length).length:=by
 have m1:=isE_mem.1 h1
 have m2:=isE_mem.1 h2
 generalize emptyK qs qs.length=l at *
 match l,m1,m2 with
 | [],m1,_=>cases m1
 | [x],m1,m2 =>
  simp only[List.mem_singleton] at m1 m2
  exact absurd (m1.trans m2.symm) hne
 | x::y::l,_,_=>simp
structure Rm (z:Int)(qs:List Sq)(ps:List Pl)(op:Int)(k:Nat):Prop where
 good:∀i,i<qs.length->(sqAt qs i).2.2=false
 wipes:∀i,i<qs.length->(sqAt qs i).2.1<=(k:Int)
 one:∃e,isE qs e
 first:op = -1->2<=(emptyK qs qs.length).length
 last:0<=op->0<(sqAt qs op.toNat).1.length∧∃i,i<ps.length∧(plAt ps i).1=op
 spare:(ps.length:Int)<=((qs.length:Int)-2)*z
end Go.Proofs.YtgjoepdfhadmcaaGreatDoor
end

section
namespace Go.Proofs.YtgjoepdfhadmcaaGreatDoor
open Go.RowKit
set_option linter.unusedVariables false
theorem sqAt_rep {N i:Nat}(x:Sq)(h:i<N):sqAt (List.replicate N x) i=x:=by
 unfold sqAt
 rw[List.getD_eq_getElem?_getD,List.getElem?_replicate,if_pos h]
 rfl
theorem plAt_rep {N i:Nat}(x:Pl)(h:i<N):plAt (List.replicate N x) i=x:=by
 unfold plAt
 rw[List.getD_eq_getElem?_getD,List.getElem?_replicate,if_pos h]
 rfl
theorem chip_rep {z:Int}{N:Nat}(hz1:1<=z)(hz8:z<=8)(h1:1<=N)(h12:N<=12):chipOk z (List.replicate N ([],0,false))=true:=by
 unfold chipOk inB
 rw[List.length_replicate,decide_eq_true hz1,decide_eq_true hz8,decide_eq_true h1,decide_eq_true h12]
 simp only[Bool.true_and,List.all_eq_true]
 intro q hq
 have e:=List.eq_of_mem_replicate hq
 rw[e]
 unfold sqOk inB
 simp
 omega
theorem new_room {z:Int}{Q N:Nat}(hz1:1<=z)(hz8:z<=8)(h3:3<=Q)(h12:Q<=12)(h1:1<=N)(h64:N<=64)(hs:(N:Int)<=((Q:Int)-2)*z) :
  ftlOk z (List.replicate Q ([],0,false)) (List.replicate N (-1,0)) (-1) 0=true∧Rm z (List.replicate Q ([],0,false)) (List.replicate N (-1,0)) (-1) 0∧∀j:Nat,j<N->ftlGet z (List.replicate Q ([],0,false)) (List.replicate N (-1,0)) (-1) 0 (j:Int)=(ByteArray.empty,false):=by
 have hE:∀i,i<Q->isE (List.replicate Q (([]:List ByteArray),(0:Int),false)) i:=fun i hi=>by
  refine⟨by rw[List.length_replicate];exact hi,?_,?_⟩<;>rw[sqAt_rep _ hi]
  rfl
 refine⟨?_,⟨fun i hi=>?_,fun i hi=>?_,⟨0,hE 0 (by omega)⟩,fun _=>empty_two (hE 0 (by omega)) (hE 1 (by omega)) (by omega),fun h=>absurd h (by omega),?_⟩,fun j hj=>?_⟩
 ·refine ftlOk_of (js:=[]) ⟨⟨chip_rep hz1 hz8 (by omega) h12,?_,?_,fun i hi=>.inl ?_,fun i j hi hj _ _=>?_⟩,by show(-1:Int)<= -1;omega,by show(-1:Int)<_;omega,?_⟩ (by omega) (by omega) (fun i hi=>?_)
  ·show 1<=(List.replicate N _).length;rw[List.length_replicate];exact h1
  ·show(List.replicate N _).length<=64;rw[List.length_replicate];exact h64
  ·have hi':i<(List.replicate N ((-1:Int),(0:Int))).length:=hi
   rw[List.length_replicate] at hi'
   exact plAt_rep _ hi'
  ·have hi':i<(List.replicate N ((-1:Int),(0:Int))).length:=hi
   rw[List.length_replicate] at hi'
   exact plAt_rep _ hi'
  ·unfold opOk;simp
  ·rw[List.length_replicate] at hi
   rw[fpOk_iff]
   exact .inl (plAt_rep _ hi)
 ·rw[List.length_replicate] at hi
  rw[sqAt_rep _ hi]
 ·rw[List.length_replicate] at hi
  rw[sqAt_rep _ hi]
  simp
 ·rw[List.length_replicate,List.length_replicate];exact hs
 ·unfold ftlGet
  rw[Int.toNat_natCast,plAt_rep _ hj]
  rw[if_neg (by simp)]
def KeptG (z:Int)(qs:List Sq)(ps:List Pl)(op st:Int)(n:Nat)(lst:Nat->ByteArray):Prop:=∀j:Nat,j<n->ftlGet z qs ps op st (j:Int)=(lst j,decide (1<=(lst j).size))
def setL (lst:Nat->ByteArray)(i:Nat)(x:ByteArray)(j:Nat):ByteArray:=if j=i then x else lst j
structure RoomAt (w:World)(bF gL Q n:Nat)(z:Int)(k:Nat)(qs:List Sq)(ps:List Pl)(op:Int)(a:Option Addr)(c:Nat)(am:Option Addr)(cm lo hi:Nat)(lst:Nat->ByteArray)(wr:World):Prop where
 var:VarF w.heap.size bF lo hi z qs ps op (k:Int) a c am cm wr
 cap:ps.length<=cm
 row:Owned gL (gL+1) wr (some ⟨gL,0,none⟩) n (fun j=>.string (lst j))
 rowA:gL<lo∨hi<=gL
 ok:ftlOk z qs ps op (k:Int)=true
 room:Rm z qs ps op k
 len:ps.length=n
 lenQ:qs.length=Q
 kept:KeptG z qs ps op (k:Int) n lst
 below:Below w.heap.size w wr
theorem RoomAt.on {w:World}{bF gL Q n k c cm lo hi:Nat}{z op:Int}{qs:List Sq}{ps:List Pl}{a am:Option Addr}{lst:Nat->ByteArray}{wr w':World}(h:RoomAt w bF gL Q n z k qs ps op a c am cm lo hi lst wr)(hb:Below wr.heap.size wr w'):RoomAt w bF gL Q n z k qs ps op a c am cm lo hi lst w' :=
 ⟨h.var.on hb,h.cap,h.row.later hb h.row.1,h.rowA,h.ok,h.room,h.len,h.lenQ,h.kept,below_here h.below hb⟩
theorem RoomAt.next {w:World}{bF gL Q n k c cm lo hi lo' hi' c' cm' X:Nat}{z op:Int}{qs:List Sq}{ps:List Pl}{a am a' am':Option Addr}{lst:Nat->ByteArray}{wr w5:World}{s:Kp}{tx:ByteArray}(h:RoomAt w bF gL Q n z k qs ps op a c am cm lo hi lst wr)
  (hA:Aside bF (bF+1) wr w5) (hv:w5.heap[bF]?=some (.cells #[.int .i64 z,.slice a' s.qs.length c',.slice am' s.ps.length cm',.int .i64 s.op,.int .i64 ((k:Int)+1)] 29))
  (ho:FtlOwn lo' hi' wr a' am' s.qs s.ps) (h1:bF<lo') (h2:gL<lo') (hne:bF<gL) (hX:X<n) (hcap:s.ps.length<=cm') (hok:ftlOk z s.qs s.ps s.op ((k:Int)+1)=true) (hR:Rm z s.qs s.ps s.op (k+1)) (hl:s.ps.length=n) (hq:s.qs.length=qs.length) (hK:KeptG z s.qs s.ps s.op ((k:Int)+1) n (setL lst X tx)) :
  RoomAt w bF gL Q n z (k+1) s.qs s.ps s.op a' c' am' cm' lo' hi' (setL lst X tx) (w5.setCell ⟨gL,X,none⟩ (.string tx)):=by
 have hwB:=h.var.atB
 have hwl:=h.var.lt
 have hrow:=h.row.aside hA (by omega)
 have hB:=(Aside.refl gL (gL+1) w5).setCell (p:=⟨gL,X,none⟩) (Nat.le_refl _) (Nat.lt_succ_self _) (.string tx)
 have hgl:gL<wr.heap.size:=by have:=h.row.1;omega
 have e1:((k+1:Nat):Int)=(k:Int)+1:=by omega
 have hsz:=hA.size
 refine⟨⟨?_,(ho.aside hA (.inl (by omega))).aside hB (.inl (by omega)),.inl h1,hwB,by omega⟩,hcap,?_,.inl h2,by rw[e1];exact hok,hR,hl,hq.trans h.lenQ,by rw[e1];exact hK,h.below.trans ((hA.below (B:=w.heap.size) hwB (by omega)).trans (hB.below (B:=w.heap.size) (by omega) (by omega)))⟩
 ·rw[e1]
  exact(hB.block bF (by omega) (by omega)).trans hv
 ·exact(hrow.set0 hX (.string tx)).congr (fun j _=>by
   show(if j=X then Value.string tx else Value.string (lst j))=Value.string (setL lst X tx j)
   unfold setL
   split<;>rfl)
end Go.Proofs.YtgjoepdfhadmcaaGreatDoor
end

section
namespace Go.Proofs.YtgjoepdfhadmcaaGreatDoor
open Go.RowKit
set_option linter.unusedVariables false
set_option maxRecDepth 20000
theorem ent_okF {z:Int}{qs:List Sq}{ps:List Pl}{op st kd a:Int}{tx:ByteArray}(h:ftlOk z qs ps op st=true):(entF z qs ps op st kd a tx).z=z∧ftlOk z (entF z qs ps op st kd a tx).qs (entF z qs ps op st kd a tx).ps (entF z qs ps op st kd a tx).op (entF z qs ps op st kd a tx).st=true:=by
 cases hp:planR z qs ps op st kd a tx with
 | none =>
  have e:entF z qs ps op st kd a tx=⟨z,qs,ps,op,st⟩:=by
   unfold planR at hp;rw[h,if_pos rfl] at hp
   unfold entF;rw[h,if_pos rfl,hp]
  rw[e];exact⟨rfl,h⟩
 | some s =>
  have e:entF z qs ps op st kd a tx=⟨z,s.qs,s.ps,s.op,st+1⟩:=by
   have hp':=hp
   unfold planR at hp';rw[h,if_pos rfl] at hp'
   unfold entF;rw[h,if_pos rfl,hp']
  rw[e];exact⟨rfl,(entd_of hp).ok⟩
def OkAns (w:World)(z:Int)(qs:List Sq)(ps:List Pl)(op st:Int)(a:Option Addr)(c:Nat)(am:Option Addr)(cm:Nat)(w':World):Prop:=FtlOwn w.heap.size w'.heap.size w' a am qs ps∧Below w.heap.size w w'∧ps.length<=cm∧ftlOk z qs ps op st=true
section
variable (z:Int)(a:Option Addr)(n cap:Nat)(qs:List Sq)(am:Option Addr)(m cm:Nat)(ps:List Pl)(op st:Int)(w:World){lo hi lo' hi':Nat}
theorem specEnter_ok (kd at_ sp:Int)(tx:ByteArray)(h:Squares lo hi w a n qs)(hhi:hi<=w.heap.size)(hp:Places lo' hi' w am m ps)(hhi':hi'<=w.heap.size)(hok:ftlOk z qs ps op st=true) :
  Calls Tryz.prog 182 #[.agg #[.int .i64 z,.slice a n cap,.slice am m cm,.int .i64 op,.int .i64 st],.agg #[.int .i64 kd,.int .i64 at_,.int .i64 sp,.string tx]] w fun e w'=>∃qs' ps' op' st' a' c' am' cm' b,e=.returned (.tuple #[.agg #[.int .i64 z,.slice a' (List.length (α:=Sq) qs') c',.slice am' (List.length (α:=Pl) ps') cm',.int .i64 op',.int .i64 st'],.bool b])∧OkAns w z qs' ps' op' st' a' c' am' cm' w':=by
 have hc:=mapOk_chip (ftlOk_map hok)
 have hn:n<=1048576:=by have:=(chipOk_parts hc).2.2.2.1;rw[h.1] at this;omega
 have hm:m<=1048576:=by have:=(mapOk_len (ftlOk_map hok)).2;rw[hp.1] at this;omega
 refine(specEnter_any z a n cap qs am m cm ps op st kd at_ sp tx w h hhi hn (chipOk_fits hc) hp hhi' hm).mono ?_
 rintro e w' ⟨v,rfl,a',c',am',cm',rfl,h1,h2,h3⟩
 obtain⟨e1,e2⟩:=ent_okF (kd:=kd) (a:=at_) (tx:=tx) hok
 exact⟨_,_,_,_,a',c',am',cm',_,by unfold fvV;rw[e1],h1,h2,h3,e2⟩
theorem specSpoil_ok (sq:Int)(h:Squares lo hi w a n qs)(hhi:hi<=w.heap.size)(hp:Places lo' hi' w am m ps)(hhi':hi'<=w.heap.size)(hok:ftlOk z qs ps op st=true) :
  Calls Tryz.prog 183 #[.agg #[.int .i64 z,.slice a n cap,.slice am m cm,.int .i64 op,.int .i64 st],.int .i64 sq] w fun e w'=>∃qs' ps' op' st' a' c' am' cm' b,e=.returned (.tuple #[.agg #[.int .i64 z,.slice a' (List.length (α:=Sq) qs') c',.slice am' (List.length (α:=Pl) ps') cm',.int .i64 op',.int .i64 st'],.bool b])∧OkAns w z qs' ps' op' st' a' c' am' cm' w':=by
 have hc:=mapOk_chip (ftlOk_map hok)
 have hn:n<=1048576:=by have:=(chipOk_parts hc).2.2.2.1;rw[h.1] at this;omega
 have hm:m<=1048576:=by have:=(mapOk_len (ftlOk_map hok)).2;rw[hp.1] at this;omega
 refine(specSpoil_any z a n cap qs am m cm ps op st sq w h hhi hn (chipOk_fits hc) hp hhi' hm).mono ?_
 rintro e w' ⟨v,rfl,a',c',am',cm',rfl,h1,h2,h3⟩
 cases hs:spoilNo ps op sq with
 | true =>
  have e:spoilF z qs ps op st sq=⟨z,qs,ps,op,st⟩:=by unfold spoilF;rw[hok,if_pos rfl,hs];rfl
  rw[e] at h1 h3 ⊢
  exact⟨_,_,_,_,a',c',am',cm',_,rfl,h1,h2,h3,hok⟩
 | false =>
  have e:spoilF z qs ps op st sq=⟨z,doJ z qs (3,sq,ByteArray.empty),ps,op,st⟩:=by unfold spoilF;rw[hok,if_pos rfl,hs];rfl
  rw[e] at h1 h3 ⊢
  exact⟨_,_,_,_,a',c',am',cm',_,rfl,h1,h2,h3,spoiled_ok hok hs⟩
theorem specMount_ok (h:Squares lo hi w a n qs)(hhi:hi<=w.heap.size)(hm1:1<=m)(hm64:m<=64)(hc:chipOk z qs=true) :
  Calls Tryz.prog 14 #[.agg #[.int .i64 z,.slice a n cap],.int .i64 (m:Int)] w fun e w'=>∃qs' ps' op' st' a' c' am' cm',e=.returned (.agg #[.int .i64 z,.slice a' (List.length (α:=Sq) qs') c',.slice am' (List.length (α:=Pl) ps') cm',.int .i64 op',.int .i64 st'])∧OkAns w z qs' ps' op' st' a' c' am' cm' w':=by
 have hn:n<=1048576:=by have:=(chipOk_parts hc).2.2.2.1;rw[h.1] at this;omega
 refine(specMount_any z a n cap qs (m:Int) w h hhi hn (chipOk_fits hc)).mono ?_
 rintro e w' ⟨v,rfl,a',c',am',cm',rfl,h1,h2,h3⟩
 have e:mountF z qs (m:Int)=⟨z,qs,(mtAll m qs).ps,-1,(mtAll m qs).S⟩:=by
  have hin:inB (m:Int) 1 64=true:=by unfold inB;simp;omega
  unfold mountF;rw[hc,hin];simp
 rw[e] at h1 h3 ⊢
 exact⟨_,_,_,_,a',c',am',cm',rfl,h1,h2,h3,mounted_ok hc hm1 hm64⟩
end
theorem new_okF {z:Int}{Q N:Nat}(hz1:1<=z)(hz8:z<=8)(h3:1<=Q)(h12:Q<=12)(h1:1<=N)(h64:N<=64):ftlOk z (List.replicate Q ([],0,false)) (List.replicate N (-1,0)) (-1) 0=true:=by
 refine ftlOk_of (js:=[]) ⟨⟨chip_rep hz1 hz8 h3 h12,?_,?_,fun i hi=>.inl ?_,fun i j hi hj _ _=>?_⟩,by show(-1:Int)<= -1;omega,by show(-1:Int)<_;omega,?_⟩ (by omega) (by omega) (fun i hi=>?_)
 ·show 1<=(List.replicate N _).length;rw[List.length_replicate];exact h1
 ·show(List.replicate N _).length<=64;rw[List.length_replicate];exact h64
 ·have hi':i<(List.replicate N ((-1:Int),(0:Int))).length:=hi
  rw[List.length_replicate] at hi'
  exact plAt_rep _ hi'
 ·have hi':i<(List.replicate N ((-1:Int),(0:Int))).length:=hi
  rw[List.length_replicate] at hi'
  exact plAt_rep _ hi'
 ·unfold opOk;simp
 ·rw[List.length_replicate] at hi
  rw[fpOk_iff]
  exact .inl (plAt_rep _ hi)
theorem specNewFtl_ok (Q Z N:Nat)(w:World)(h1:1<=Q)(h2:Q<=12)(h3:1<=Z)(h4:Z<=8)(h5:1<=N)(h6:N<=64) :
  Calls Tryz.prog 25 #[.int .i64 (Q:Int),.int .i64 (Z:Int),.int .i64 (N:Int)] w fun e w'=>∃qs' ps' op' st' a' c' am' cm' b,e=.returned (.tuple #[.agg #[.int .i64 (Z:Int),.slice a' (List.length (α:=Sq) qs') c',.slice am' (List.length (α:=Pl) ps') cm',.int .i64 op',.int .i64 st'],.bool b])∧OkAns w (Z:Int) qs' ps' op' st' a' c' am' cm' w':=by
 have e0:newOk (Q:Int) (Z:Int)=true:=by unfold newOk inB;simp;omega
 have e1:nfOk (Q:Int) (Z:Int) (N:Int)=true:=by unfold nfOk inB;rw[e0];simp;omega
 have e2:newF (Q:Int) (Z:Int) (N:Int)=⟨(Z:Int),List.replicate Q ([],0,false),List.replicate N (-1,0),-1,0⟩:=by unfold newF;rw[e1,if_pos rfl,Int.toNat_natCast];unfold newQ;rw[e0,if_pos rfl,Int.toNat_natCast]
 refine(specNewFtl_any (Q:Int) (Z:Int) (N:Int) w).mono ?_
 rintro e w' ⟨v,rfl,a,c,am,cm,rfl,g1,g2,g3⟩
 rw[e2] at g1 g3 ⊢
 exact⟨_,_,_,_,a,c,am,cm,_,rfl,g1,g2,g3,new_okF (by omega) (by omega) h1 h2 h5 h6⟩
set_option maxHeartbeats 6400000 in
theorem l10Draw_any (p:Nat)(w:World)(hc:Cur w p) :
  Calls Tryz.prog 146 #[.pointer (some ⟨p,0,none⟩)] w fun e w'=>∃(z:Int) (qs:List Sq) (ps:List Pl) (op st:Int) (a:Option Addr) (c:Nat) (am:Option Addr) (cm:Nat),e=.returned (.agg #[.int .i64 z,.slice a qs.length c,.slice am ps.length cm,.int .i64 op,.int .i64 st])∧FtlOwn (w.heap.size+1) w'.heap.size w' a am qs ps∧ps.length<=cm∧ftlOk z qs ps op st=true∧Cur w' p∧Aside p (p+1) w w':=by
 have hpl:=hc.lt
 obtain⟨wA,hwA⟩:∃wA,wA=w.alloc zF:=⟨_,rfl⟩
 have hzA:wA.heap.size=w.heap.size+1:=by rw[hwA];simp
 have HC:=hide (hc.alloc zF)
 have HA:=hide ((Aside.refl p (p+1) w).alloc zF)
 have H1:=hide (heap_new w zF)
 rw[<- hwA] at HC HA H1
 clear hc
 go_enter Tryz.func146,Tryz.ntmps146
 go_wp2_with fail
 rw[<- hwA]
 clear hwA
 refine(l1Below_any p 3 wA HC.out (by omega)).mono ?_
 rintro e w1 ⟨x1,rfl,x10,x11,c1,s1⟩
 have h1:=aside_block s1 H1.out (by omega)
 have HA1:=hide (HA.out.trans s1)
 clear s1 HC HA H1
 go_wp2_with fail
 refine(l1Below_any p 2 w1 c1 (by omega)).mono ?_
 rintro e w2 ⟨x2,rfl,x20,x21,c2,s2⟩
 have h2:=aside_block s2 h1 (by omega)
 have HA2:=hide (HA1.out.trans s2)
 clear s2 c1 h1 HA1
 go_wp2_with fail
 refine(l1Below_any p 3 w2 c2 (by omega)).mono ?_
 rintro e w3 ⟨x3,rfl,x30,x31,c3,s3⟩
 have HR3:=hide (aside_block s3 h2 (by omega))
 have HA3:=hide (HA2.out.trans s3)
 have HC3:=hide c3
 clear s3 c2 h2 HA2 c3
 obtain⟨Q,hQ⟩:∃Q:Nat,3+x1=(Q:Int):=⟨(3+x1).toNat,by omega⟩
 obtain⟨Z,hZ⟩:∃Z:Nat,2+x2=(Z:Int):=⟨(2+x2).toNat,by omega⟩
 obtain⟨N,hN⟩:∃N:Nat,2+x3=(N:Int):=⟨(2+x3).toNat,by omega⟩
 go_wp2_with fail
 refine(specNewFtl_ok Q Z N w3 (by omega) (by omega) (by omega) (by omega) (by omega) (by omega)).mono ?_
 rintro e w4 ⟨qs,ps,op,st,a,c,am,cm,b,rfl,ho,hb,hcap,hok⟩
 obtain⟨wF,hwF⟩:∃wF,wF=w4.alloc (.cells #[.int .i64 (Z:Int),.slice a qs.length c,.slice am ps.length cm,.int .i64 op,.int .i64 st] 29):=⟨_,rfl⟩
 have hw3:w.heap.size+1<=w3.heap.size:=(Array.getElem?_eq_some_iff.1 HR3.out).1
 have hs4:=hb.size
 have HD:Hid (DrAt w p w4.heap.size (Z:Int) qs ps op st a c am cm w3.heap.size w4.heap.size wF):=by
  rw[hwF]
  exact⟨varF_new ho hw3 hb.size,hcap,hok,(HC3.out.below hb HC3.out.lt).alloc _,(HA3.out.trans (aside_new hb)).alloc _⟩
 have HRF:Hid (wF.heap[w.heap.size]?=some zF):=by rw[hwF];exact heap_old (block_on HR3.out hb)
 clear ho hb hcap hok HR3 HA3 HC3
 obtain⟨bF,hbF⟩:∃bF,bF=w4.heap.size:=⟨_,rfl⟩
 have HBF:=hide hbF
 clear hbF
 go_upto_region 2 with fail
 rw[<- hwF]
 clear hwF
 rw[<- HBF.out] at HD ⊢
 have hbw:w.heap.size+1<=bF:=by have:=HBF.out;omega
 clear HBF
 go_wp2_with fail
 refine(l1Below_any p 20 wF HD.out.cur (by omega)).mono ?_
 rintro e w5 ⟨y,rfl,y0,y1,c5,s5⟩
 have HD5:=hide (HD.out.drawn hpl c5 s5)
 have HR5:=hide (aside_block s5 HRF.out (by omega))
 clear c5 s5 HD HRF
 obtain⟨r0,rfl⟩:∃r0:Nat,y=(r0:Int):=⟨y.toNat,by omega⟩
 go_wp2_with fail
 go_loopw [5] (fun t wr=>∃(r:Nat) (z:Int) (qs:List Sq) (ps:List Pl) (op st:Int) (a:Option Addr) (c:Nat) (am:Option Addr) (cm lo hi:Nat),r<=20∧t=.int .i64 (r:Int)∧DrAt w p bF z qs ps op st a c am cm lo hi wr∧wr.heap[w.heap.size]?=some zF) (fun t _=>(intOf t).toNat)
 case atStart=>exact⟨r0,_,_,_,_,_,_,_,_,_,_,_,by omega,rfl,HD5.out,HR5.out⟩
 case round =>
  obtain⟨r,z,qs,ps,op,st,a,c,am,cm,lo,hi,hr20,rfl,hD,hR⟩:=hrel
  have HD:=hide hD
  have HR:=hide hR
  clear hD hR HD5 HR5
  by_cases hr:0<r
  ·have hr2:(0:Int)<(r:Int):=by omega
   obtain⟨c0,c1,c2,c3,c4⟩:=HD.out.var.cells
   have HDd:=hide (HD.out.on (Below.refl wr.heap.size wr).drew)
   have hpm:ps.length<=64:=(mapOk_len (ftlOk_map HD.out.ok)).2
   go_upto_region 5 with fail
   go_cut [34] (fun _ wx=>∃(z:Int) (qs:List Sq) (ps:List Pl) (op st:Int) (a:Option Addr) (c:Nat) (am:Option Addr) (cm lo hi:Nat),DrAt w p bF z qs ps op st a c am cm lo hi wx∧wx.heap[w.heap.size]?=some zF)
   case first =>
    go_region_with (first
     | (go_at_call 122;refine(l10DrawPage_any p (ps.length:Int) _ (by exact HDd.out.cur) (by omega)).mono ?_;rintro e v4 ⟨k1,a1,s1,t1,rfl,c4',s4'⟩;have HD4:=hide (HDd.out.drawn hpl c4' s4');have HR4:=hide (aside_block (w:=wr.drew) s4' HR.out (by omega));obtain⟨e0,e1,e2,e3,e4⟩:=HD4.out.var.cells;clear c4' s4')
     | (go_at_call 182;refine(specEnter_ok z a qs.length c qs am ps.length cm ps op st _ k1 a1 s1 t1 (by exact HD4.out.var.squares) (by exact HD4.out.var.hi_le) (by exact HD4.out.var.places) (by exact HD4.out.var.hi_le) HD4.out.ok).mono ?_;rintro e v5 ⟨qs',ps',op',st',a',c',am',cm',b',rfl,ho5,hb5,hcap5,hok5⟩;have HD5:=hide (HD4.out.on hb5);have HR5:=hide (block_on HR4.out hb5);have HO5:=hide ho5;have HCP5:=hide hcap5;have HOK5:=hide hok5;obtain⟨g0,g1,g2,g3,g4⟩:=HD5.out.var.cells;have f0:=four_frozen HD5.out.var.var 0;have f1:=four_frozen HD5.out.var.var 1;have f2:=four_frozen HD5.out.var.var 2;have f3:=four_frozen HD5.out.var.var 3;have f4:=four_frozen HD5.out.var.var 4;have hs5:=hb5.size;clear ho5 hb5 hcap5 hok5))
    all_goals
     have hb4:=HD4.out.var.lt
     have hw4:=HD4.out.var.atB
     have HPT:=hide (HD5.out.put hpl (z':=z) (op':=op') (st':=st') (c':=c') HO5.out hb4 (by omega) HCP5.out HOK5.out)
     have HRT:=hide (five_other HR5.out (show bF≠w.heap.size by omega) (.int .i64 z) (.slice a' qs'.length c') (.slice am' ps'.length cm') (.int .i64 op') (.int .i64 st'))
     go_wp2_with fail
     go_meet
     exact⟨_,_,_,_,_,_,_,_,_,_,_,HPT.out,HRT.out⟩
   clear c0 c1 c2 c3 c4 HDd HD HR hpm
   obtain⟨z2,qs2,ps2,op2,st2,a2,k2,am2,cm2,lo2,hi2,hD,hR⟩:=hcut
   obtain⟨v6,hv6⟩:∃v6,v6=wc:=⟨_,rfl⟩
   subst hv6
   have HD6:=hide hD
   have HR6:=hide hR
   clear hD hR
   go_wp2_with fail
   refine(l1Once_any p 12 v6 HD6.out.cur (by omega)).mono ?_
   rintro e v7 ⟨b7,rfl,c7,s7⟩
   have HD7:=hide (HD6.out.drawn hpl c7 s7)
   have HR7:=hide (aside_block s7 HR6.out (by omega))
   clear c7 s7 HD6 HR6
   cases b7 with
   | false =>
    go_wp2_with fail
    refine(l1Once_any p 24 v7 HD7.out.cur (by omega)).mono ?_
    rintro e va ⟨ba,rfl,ca,sa⟩
    have HDa:=hide (HD7.out.drawn hpl ca sa)
    have HRa:=hide (aside_block sa HR7.out (by omega))
    clear ca sa HD7 HR7
    cases ba with
    | false =>
     go_wp2_with fail
     exact⟨⟨r-1,_,_,_,_,_,_,_,_,_,_,_,by omega,by rw[show((r-1:Nat):Int)=(r:Int)-1 by omega],HDa.out,HRa.out⟩,by simp[intOf];omega⟩
    | true =>
     obtain⟨g0,g1,g2,g3,g4⟩:=HDa.out.var.cells
     have hq12:qs2.length<=12:=(chipOk_parts (mapOk_chip (ftlOk_map HDa.out.ok))).2.2.2.1
     have HDd:=hide (HDa.out.on (Below.refl va.heap.size va).drew)
     go_upto_region 9 with fail
     go_region_with (first
      | (go_at_call 56;refine(l1Below_any p (qs2.length:Int) _ (by exact HDd.out.cur) (by omega)).mono ?_;rintro e v4 ⟨x4,rfl,x40,x41,c4',s4'⟩;have HD4:=hide (HDd.out.drawn hpl c4' s4');have HR4:=hide (aside_block (w:=va.drew) s4' HRa.out (by omega));obtain⟨e0,e1,e2,e3,e4⟩:=HD4.out.var.cells;clear c4' s4')
      | (go_at_call 183;refine(specSpoil_ok z2 a2 qs2.length k2 qs2 am2 ps2.length cm2 ps2 op2 st2 _ x4 (by exact HD4.out.var.squares) (by exact HD4.out.var.hi_le) (by exact HD4.out.var.places) (by exact HD4.out.var.hi_le) HD4.out.ok).mono ?_;rintro e v5 ⟨qs',ps',op',st',a',c',am',cm',b',rfl,ho5,hb5,hcap5,hok5⟩;have HD5:=hide (HD4.out.on hb5);have HR5:=hide (block_on HR4.out hb5);have HO5:=hide ho5;have HCP5:=hide hcap5;have HOK5:=hide hok5;obtain⟨h0,h1,h2,h3,h4⟩:=HD5.out.var.cells;have f0:=four_frozen HD5.out.var.var 0;have f1:=four_frozen HD5.out.var.var 1;have f2:=four_frozen HD5.out.var.var 2;have f3:=four_frozen HD5.out.var.var 3;have f4:=four_frozen HD5.out.var.var 4;have hs5:=hb5.size;clear ho5 hb5 hcap5 hok5))
     all_goals
      have hb4:=HD4.out.var.lt
      have hw4:=HD4.out.var.atB
      have HPT:=hide (HD5.out.put hpl (z':=z2) (op':=op') (st':=st') (c':=c') HO5.out hb4 (by omega) HCP5.out HOK5.out)
      have HRT:=hide (five_other HR5.out (show bF≠w.heap.size by omega) (.int .i64 z2) (.slice a' qs'.length c') (.slice am' ps'.length cm') (.int .i64 op') (.int .i64 st'))
      go_wp2_with fail
      exact⟨⟨r-1,_,_,_,_,_,_,_,_,_,_,_,by omega,by rw[show((r-1:Nat):Int)=(r:Int)-1 by omega],HPT.out,HRT.out⟩,by simp[intOf];omega⟩
   | true =>
    obtain⟨g0,g1,g2,g3,g4⟩:=HD7.out.var.cells
    have hmo:=ftlOk_map HD7.out.ok
    have hpm:=mapOk_len hmo
    go_wp2_with fail
    refine(specMount_ok z2 a2 qs2.length k2 qs2 ps2.length v7 HD7.out.var.squares HD7.out.var.hi_le hpm.1 hpm.2 (mapOk_chip hmo)).mono ?_
    rintro e v8 ⟨qs3,ps3,op3,st3,a3,k3,am3,cm3,rfl,ho5,hb5,hcap5,hok5⟩
    have HD8:=hide (HD7.out.on hb5)
    have HR8:=hide (block_on HR7.out hb5)
    have HPT:=hide (HD8.out.put hpl (z':=z2) (op':=op3) (st':=st3) (c':=k3) ho5 HD7.out.var.lt (by have:=HD7.out.var.lt;omega) hcap5 hok5)
    have HRT:=hide (five_other HR8.out (show bF≠w.heap.size by omega) (.int .i64 z2) (.slice a3 qs3.length k3) (.slice am3 ps3.length cm3) (.int .i64 op3) (.int .i64 st3))
    clear ho5 hb5 hcap5 hok5 g0 g1 g2 g3 g4 hmo hpm
    obtain⟨g0,g1,g2,g3,g4⟩:=HD8.out.var.cells
    have f0:=four_frozen HD8.out.var.var 0
    have f1:=four_frozen HD8.out.var.var 1
    have f2:=four_frozen HD8.out.var.var 2
    have f3:=four_frozen HD8.out.var.var 3
    have f4:=four_frozen HD8.out.var.var 4
    obtain⟨v9,hv9⟩:∃v9,v9=(((((v8.setCell ⟨bF,0,none⟩ (.int .i64 z2)).setCell ⟨bF,1,none⟩ (.slice a3 qs3.length k3)).setCell ⟨bF,2,none⟩ (.slice am3 ps3.length cm3)).setCell ⟨bF,3,none⟩ (.int .i64 op3)).setCell ⟨bF,4,none⟩ (.int .i64 st3)):=⟨_,rfl⟩
    rw[<- hv9] at HPT HRT
    go_upto_region 8 with fail
    rw[<- hv9]
    clear hv9 g0 g1 g2 g3 g4 f0 f1 f2 f3 f4 HD8 HR8
    go_wp2_with fail
    refine(l1Once_any p 24 v9 HPT.out.cur (by omega)).mono ?_
    rintro e va ⟨ba,rfl,ca,sa⟩
    have HDa:=hide (HPT.out.drawn hpl ca sa)
    have HRa:=hide (aside_block sa HRT.out (by omega))
    clear ca sa HPT HRT
    cases ba with
    | false =>
     go_wp2_with fail
     exact⟨⟨r-1,_,_,_,_,_,_,_,_,_,_,_,by omega,by rw[show((r-1:Nat):Int)=(r:Int)-1 by omega],HDa.out,HRa.out⟩,by simp[intOf];omega⟩
    | true =>
     obtain⟨g0,g1,g2,g3,g4⟩:=HDa.out.var.cells
     have hq12:qs3.length<=12:=(chipOk_parts (mapOk_chip (ftlOk_map HDa.out.ok))).2.2.2.1
     have HDd:=hide (HDa.out.on (Below.refl va.heap.size va).drew)
     go_upto_region 9 with fail
     go_region_with (first
      | (go_at_call 56;refine(l1Below_any p (qs3.length:Int) _ (by exact HDd.out.cur) (by omega)).mono ?_;rintro e v4 ⟨x4,rfl,x40,x41,c4',s4'⟩;have HD4:=hide (HDd.out.drawn hpl c4' s4');have HR4:=hide (aside_block (w:=va.drew) s4' HRa.out (by omega));obtain⟨e0,e1,e2,e3,e4⟩:=HD4.out.var.cells;clear c4' s4')
      | (go_at_call 183;refine(specSpoil_ok z2 a3 qs3.length k3 qs3 am3 ps3.length cm3 ps3 op3 st3 _ x4 (by exact HD4.out.var.squares) (by exact HD4.out.var.hi_le) (by exact HD4.out.var.places) (by exact HD4.out.var.hi_le) HD4.out.ok).mono ?_;rintro e v5 ⟨qs',ps',op',st',a',c',am',cm',b',rfl,ho5,hb5,hcap5,hok5⟩;have HD5:=hide (HD4.out.on hb5);have HR5:=hide (block_on HR4.out hb5);have HO5:=hide ho5;have HCP5:=hide hcap5;have HOK5:=hide hok5;obtain⟨h0,h1,h2,h3,h4⟩:=HD5.out.var.cells;have f0:=four_frozen HD5.out.var.var 0;have f1:=four_frozen HD5.out.var.var 1;have f2:=four_frozen HD5.out.var.var 2;have f3:=four_frozen HD5.out.var.var 3;have f4:=four_frozen HD5.out.var.var 4;have hs5:=hb5.size;clear ho5 hb5 hcap5 hok5))
     all_goals
      have hb4:=HD4.out.var.lt
      have hw4:=HD4.out.var.atB
      have HPT:=hide (HD5.out.put hpl (z':=z2) (op':=op') (st':=st') (c':=c') HO5.out hb4 (by omega) HCP5.out HOK5.out)
      have HRT:=hide (five_other HR5.out (show bF≠w.heap.size by omega) (.int .i64 z2) (.slice a' qs'.length c') (.slice am' ps'.length cm') (.int .i64 op') (.int .i64 st'))
      go_wp2_with fail
      exact⟨⟨r-1,_,_,_,_,_,_,_,_,_,_,_,by omega,by rw[show((r-1:Nat):Int)=(r:Int)-1 by omega],HPT.out,HRT.out⟩,by simp[intOf];omega⟩
  ·obtain rfl:r=0:=by omega
   simp only[show((0:Nat):Int)=0 from rfl]
   obtain⟨c0,c1,c2,c3,c4⟩:=HD.out.var.cells
   obtain⟨p0,p1,p2,p3,p4⟩:=five_cells HR.out
   have f0:=four_frozen HR.out 0
   have f1:=four_frozen HR.out 1
   have f2:=four_frozen HR.out 2
   have f3:=four_frozen HR.out 3
   have f4:=four_frozen HR.out 4
   have HRS:=hide (five_set HR.out (.int .i64 z) (.slice a qs.length c) (.slice am ps.length cm) (.int .i64 op) (.int .i64 st))
   have HAS:=hide (five_aside (b:=w.heap.size) (Aside.refl w.heap.size (w.heap.size+1) wr) (Nat.le_refl _) (Nat.lt_succ_self _) (.int .i64 z) (.slice a qs.length c) (.slice am ps.length cm) (.int .i64 op) (.int .i64 st))
   have hlo:=HD.out.var.atL
   have HOF:=hide ((HD.out.var.own.aside HAS.out (.inl (by omega))).wide hlo (Nat.le_trans HD.out.var.hi_le HAS.out.size) (Nat.le_refl _))
   have HCF:=hide (HD.out.cur.aside HAS.out (by omega))
   have HAF:Hid (Aside p (p+1) w _):=((((HD.out.aside.set_new (g:=w.heap.size) (q:=0) (Nat.le_refl _) (.int .i64 z)).set_new (g:=w.heap.size) (q:=1) (Nat.le_refl _) (.slice a qs.length c)).set_new (g:=w.heap.size) (q:=2) (Nat.le_refl _) (.slice am ps.length cm)).set_new (g:=w.heap.size) (q:=3) (Nat.le_refl _) (.int .i64 op)).set_new (g:=w.heap.size) (q:=4) (Nat.le_refl _) (.int .i64 st)
   go_wp2_with fail
   exact bodyPost_ret (results_cell rfl rfl (run_loadVar_row _ _ _ _ _ _ _ HRS.out Tryz.underlying29 rfl (by kernel_rfl))) rfl ⟨z,qs,ps,op,st,a,c,am,cm,rfl,HOF.out,HD.out.cap,HD.out.ok,HCF.out,HAF.out⟩
end Go.Proofs.YtgjoepdfhadmcaaGreatDoor
end

