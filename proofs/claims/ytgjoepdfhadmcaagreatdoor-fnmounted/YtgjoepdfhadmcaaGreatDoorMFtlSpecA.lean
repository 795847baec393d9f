/- . -/
import Derived.Test.YtgjoepdfhadmcaaGreatDoorMFtlMath
import Derived.Test.YtgjoepdfhadmcaaGreatDoorMChipOwn2
import Derived.Test.YtgjoepdfhadmcaaGreatDoorMLySpec
import Derived.Test.YtgjoepdfhadmcaaGreatDoorMChipGrow
import Derived.Deep.RegionHeld3
import Derived.Deep.DeepCutAuto
namespace Go.Proofs.YtgjoepdfhadmcaaGreatDoor
open Go.RowKit
set_option linter.unusedVariables false
set_option maxRecDepth 20000
set_option maxHeartbeats 400000 in
theorem l7Well_any (k:Int)(w:World):Calls Tryz.prog 71 #[.int .i64 k] w fun e w'=>e=.returned (.bool (lyWell k))∧w=w':=by
 by_cases h:k=1
 ·subst h
  go_enter Tryz.func71,Tryz.ntmps71
  go_wp2_with fail
  go_ret
  exact⟨rfl,rfl⟩
 ·have g:(k==1)=false:=by simpa using h
  go_enter Tryz.func71,Tryz.ntmps71
  go_wp2_with fail
  go_ret
  exact⟨ret_bool (by unfold lyWell;rw[g];rfl),rfl⟩
set_option maxHeartbeats 1600000 in
theorem l10Page_any (z:Int)(a:Option Addr)(n cap:Nat)(qs:List Sq)(p q:Int)(w:World){lo hi:Nat}(h:Squares lo hi w a n qs)(hhi:hi<=w.heap.size)(hn:n<=1048576)(hf:∀x∈qs,sqFits x)(hok:chipOk z qs=true) :
  Calls Tryz.prog 70 #[.agg #[.int .i64 z,.slice a n cap],.agg #[.int .i64 p,.int .i64 q]] w fun e w'=>e=.returned (lyV (pgOf z qs (p,q)))∧Below w.heap.size w w':=by
 obtain⟨wA,hwA⟩:∃wA,wA=((w.alloc (.cells #[.int .i64 z,.slice a n cap] 26)).alloc (.cells #[.int .i64 p,.int .i64 q] 39)).alloc (.cells #[.int .i64 0,.int .i64 0,.int .i64 0,.string ⟨#[]⟩] 31):=⟨_,rfl⟩
 have hzA:wA.heap.size=w.heap.size+1+1+1:=by rw[hwA];simp
 have HBA:Hid (Below w.heap.size w wA):=by rw[hwA];exact((((Below.refl _ _).alloc (Nat.le_refl _) _).alloc (by simp) _).alloc (by simp;omega) _)
 have H0:Hid (wA.heap[w.heap.size]?=some (.cells #[.int .i64 z,.slice a n cap] 26)):=by rw[hwA];exact heap_old (heap_old (heap_new _ _))
 have H1:Hid (wA.heap[w.heap.size+1]?=some (.cells #[.int .i64 p,.int .i64 q] 39)):=by rw[hwA];exact heap_old (heap_at (by simp))
 have H2:Hid (wA.heap[w.heap.size+1+1]?=some (.cells #[.int .i64 0,.int .i64 0,.int .i64 0,.string ⟨#[]⟩] 31)):=by rw[hwA];exact heap_at (by simp)
 have HS:=hide (h.later HBA.out hhi)
 have HF:=hide hf
 have hpz:=pageAt_size (s:=p) (p:=q) hok
 have HE:Hid (pgOf z qs (p,q)=lyP (pageAt z qs p q)):=rfl
 clear h hf
 obtain⟨c0,c1⟩:=two_cells H0.out
 obtain⟨d0,d1⟩:=two_cells H1.out
 go_enter Tryz.func70,Tryz.ntmps70
 go_wp2_with fail
 rw[<- hwA]
 clear hwA
 refine(specPageAt_any z a n cap qs p q wA HS.out (by omega) hn HF.out).mono ?_
 rintro e w1 ⟨rfl,b1⟩
 have K2:=hide (block_on H2.out b1)
 have HB1:=hide (below_here HBA.out b1)
 have hs1:=b1.size
 clear b1 c0 c1 d0 d1
 go_wp2_with fail
 refine(specLying_any (pageAt z qs p q) w1 (by omega)).mono ?_
 rintro e w2 ⟨rfl,b2⟩
 have E2:=hide (block_on K2.out b2)
 have HB2:=hide (below_here HB1.out b2)
 have hs2:=b2.size
 rw[<- HE.out]
 clear b2
 obtain⟨r,hr⟩:∃r,r=pgOf z qs (p,q):=⟨_,rfl⟩
 have HR:=hide hr
 rw[<- hr]
 clear hr
 obtain⟨r0,r1,r2,r3,r4⟩:=r
 obtain⟨e0,e1,e2,e3⟩:=four_cells E2.out
 have f0:=four_frozen E2.out 0
 have f1:=four_frozen E2.out 1
 have f2:=four_frozen E2.out 2
 have f3:=four_frozen E2.out 3
 have HRS:=hide (four_set E2.out (.int .i64 r0) (.int .i64 r1) (.int .i64 r2) (.string r3))
 have HBS:=hide (four_below (b:=w.heap.size+1+1) HB2.out (by omega) (.int .i64 r0) (.int .i64 r1) (.int .i64 r2) (.string r3))
 unfold lyV
 go_wp2_with fail
 refine bodyPost_ret (results_ct rfl rfl (run_loadVar_row _ _ _ _ _ _ _ HRS.out Tryz.underlying31 rfl (by kernel_rfl))) rfl ⟨by rw[<- HR.out];rfl,HBS.out⟩
set_option maxHeartbeats 3200000 in
theorem specFtlOk_any (z:Int)(a:Option Addr)(n cap:Nat)(qs:List Sq)(am:Option Addr)(m cm:Nat)(ps:List Pl)(op st:Int)(w:World){lo hi lo' hi':Nat}(h:Squares lo hi w a n qs)(hhi:hi<=w.heap.size)(hn:n<=1048576)(hf:∀x∈qs,sqFits x)(hp:Places lo' hi' w am m ps)(hhi':hi'<=w.heap.size)(hm:m<=1048576) :
  Calls Tryz.prog 13 #[.agg #[.int .i64 z,.slice a n cap,.slice am m cm,.int .i64 op,.int .i64 st]] w fun e w'=>e=.returned (.bool (ftlOk z qs ps op st))∧Below w.heap.size w w':=by
 obtain⟨wA,hwA⟩:∃wA,wA=w.alloc (.cells #[.int .i64 z,.slice a n cap,.slice am m cm,.int .i64 op,.int .i64 st] 29):=⟨_,rfl⟩
 have hzA:wA.heap.size=w.heap.size+1:=by rw[hwA];simp
 have HBA:Hid (Below w.heap.size w wA):=by rw[hwA];exact(Below.refl _ _).alloc (Nat.le_refl _) _
 have H1:Hid (wA.heap[w.heap.size]?=some (.cells #[.int .i64 z,.slice a n cap,.slice am m cm,.int .i64 op,.int .i64 st] 29)):=by rw[hwA];exact heap_new _ _
 have HSQ:=hide (h.later HBA.out hhi)
 have HPL:=hide (hp.later HBA.out hhi')
 have HL:=hide h.1
 have HLP:=hide hp.1
 have HF:=hide hf
 clear h hf hp
 obtain⟨c0,c1,c2,c3,c4⟩:=five_cells H1.out
 go_enter Tryz.func13,Tryz.ntmps13
 go_wp2_with fail
 rw[<- hwA]
 clear hwA
 refine(specMapOk_any z a n cap qs am m cm ps wA HSQ.out (by omega) hn HF.out HPL.out (by omega) hm).mono ?_
 rintro e w1 ⟨rfl,b1⟩
 have K1:=hide (block_on H1.out b1)
 have HS1:=hide (HSQ.out.later b1 (by omega))
 have HP1:=hide (HPL.out.later b1 (by omega))
 have HB1:=hide (below_here HBA.out b1)
 have hs1:=b1.size
 clear b1 H1 HSQ HPL HBA c0 c1 c2 c3 c4
 obtain⟨c0,c1,c2,c3,c4⟩:=five_cells K1.out
 cases hok:mapOk z qs ps with
 | false =>
  have HE:Hid (ftlOk z qs ps op st=false):=by show _=_;unfold ftlOk;rw[hok];rfl
  go_wp2_with fail
  go_ret
  exact⟨ret_bool HE.out.symm,HB1.out⟩
 | true =>
  have HCK:=hide (mapOk_chip hok)
  have hn12:n<=12:=by have:=(chipOk_parts (mapOk_chip hok)).2.2.2.1;rw[HL.out] at this;exact this
  have hm64:m<=64:=by have:=(mapOk_len hok).2;rw[HLP.out] at this;exact this
  go_wp2_with fail
  refine(l1In_any op (-1) ((n:Int)-1) w1).mono ?_
  rintro e w2 ⟨rfl,rfl⟩
  cases hin:inB op (-1) ((n:Int)-1) with
  | false =>
   have HE:Hid (ftlOk z qs ps op st=false):=by show _=_;unfold ftlOk;rw[HL.out,hin];simp
   go_wp2_with fail
   go_ret
   exact⟨ret_bool HE.out.symm,HB1.out⟩
  | true =>
   go_wp2_with fail
   refine(l1In_any st 0 1000000 w1).mono ?_
   rintro e w2 ⟨rfl,rfl⟩
   cases hst:inB st 0 1000000 with
   | false =>
    have HE:Hid (ftlOk z qs ps op st=false):=by show _=_;unfold ftlOk;rw[hst];simp
    go_wp2_with fail
    go_ret
    exact⟨ret_bool HE.out.symm,HB1.out⟩
   | true =>
    have hin2:=hin
    unfold inB at hin2
    simp only[Bool.and_eq_true,decide_eq_true_eq] at hin2
    have HFT:Hid (ftlOk z qs ps op st=(opOk qs op&&(List.range ps.length).all (fpOk z qs ps st))):=by show _=_;unfold ftlOk;rw[hok,HL.out,hin,hst];rfl
    clear hok hst hin
    go_upto_region 3 with fail
    go_cut [41] (fun c wx=>c=.bool (!(opOk qs op))∧Below w1.heap.size w1 wx)
    case first =>
     by_cases h0:0<=op
     ·obtain⟨i,rfl⟩:∃i:Nat,op=(i:Int):=⟨op.toNat,by omega⟩
      have hlt:i<n:=by omega
      have hlt2:(i:Int)<(n:Int):=by omega
      obtain⟨_,A,C,hx,ht⟩:=HS1.out
      obtain⟨b,off,rfl,_,hb,hc⟩:=hx.2 (by omega)
      obtain⟨y0,y1,y2⟩:=sq_cells hc (Below.refl w1.heap.size w1) (show b<w1.heap.size by have:=hx.1;omega) hlt
      have HO:Hid ((!(opOk qs (i:Int)))=(sqAt qs i).2.2):=by show _=_;unfold opOk;simp
      have g0:decide ((i:Int)>=0)=true:=by simp
      generalize (sqAt qs i).2.2=bd at *
      clear hc hx ht
      go_wp2_with fail
      go_meet
      exact⟨by rw[HO.out],Below.refl _ _⟩
     ·have g0:decide (op>=0)=false:=by simpa using h0
      have HO:Hid ((!(opOk qs op))=false):=by show _=_;unfold opOk;rw[g0];rfl
      go_wp2_with fail
      go_meet
      exact⟨by rw[HO.out],Below.refl _ _⟩
    case rest =>
     obtain⟨rfl,hb3⟩:=hcut
     obtain⟨w3,hw3⟩:∃w3,w3=wc:=⟨_,rfl⟩
     subst hw3
     have K3:=hide (block_on K1.out hb3)
     have HS3:=hide (HS1.out.later hb3 (by omega))
     have HP3:=hide (HP1.out.later hb3 (by omega))
     have HB3:=hide (below_here HB1.out hb3)
     have hs3:=hb3.size
     clear hb3 K1 HS1 HP1 HB1 c0 c1 c2 c3 c4
     cases hop:opOk qs op with
     | false =>
      have HE:Hid (ftlOk z qs ps op st=false):=by show _=_;rw[HFT.out,hop];rfl
      go_wp2_with fail
      go_ret
      exact⟨ret_bool HE.out.symm,HB3.out⟩
     | true =>
      have HE:Hid (ftlOk z qs ps op st=(List.range ps.length).all (fpOk z qs ps st)):=by show _=_;rw[HFT.out,hop];rfl
      simp only[Bool.not_true]
      go_wp2_with fail
      go_loopw [3] (fun i wr=>∃k:Nat,k<=m∧i=.int .i64 (k:Int)∧(List.range k).all (fpOk z qs ps st)=true∧Below w3.heap.size w3 wr) (fun i _=>m-(intOf i).toNat)
      case atStart=>exact⟨0,Nat.zero_le _,rfl,rfl,Below.refl _ _⟩
      case round =>
       obtain⟨k,hk,rfl,hall,hbel⟩:=hrel
       have HAL:=hide hall
       have HBB:=hide hbel
       clear hall
       have KR:=hide (block_on K3.out hbel)
       obtain⟨a0,a1,a2,a3,a4⟩:=five_cells KR.out
       by_cases hlt:k<m
       ·have hpl:k<ps.length:=by rw[HLP.out];exact hlt
        obtain⟨b,off,rfl,_,hb,hc⟩:=HP3.out.2.2 (by omega)
        have hbs:b<w3.heap.size:=by have:=HP3.out.2.1;omega
        obtain⟨c0,c1⟩:=pl_cells hc hbel hbs hlt
        have HFA:Hid (fpOk z qs ps st k=false->ftlOk z qs ps op st=false):=fun hh=>ftlOk_fall hpl hh
        have HST:Hid (fpOk z qs ps st k=true->(List.range (k+1)).all (fpOk z qs ps st)=true):=fun hh=>all_range_step HAL.out hh
        have HPO:Hid (fpOk z qs ps st k=((((plAt ps k).1== -1)&&((plAt ps k).2==0))||(lyWell (pgOf z qs (plAt ps k)).2.2.2.2&&(((pgOf z qs (plAt ps k)).2.1==(k:Int))&&!(decide ((pgOf z qs (plAt ps k)).2.2.1 > st)))))):=by
         show _=_
         unfold fpOk
         rw[pl_eq]
        have HC:=hide hc
        clear hc
        have hszr:=hbel.size
        clear hbel
        obtain⟨y,hy⟩:∃y,y=plAt ps k:=⟨_,rfl⟩
        have HY:=hide hy
        rw[<- hy] at c0 c1 HPO
        clear hy
        obtain⟨p,q⟩:=y
        dsimp only at c0 c1 HPO
        have cN:∀d os,Calls Tryz.prog 69 #[] (Go.Sort.grow (redrawn wr d) os) fun e w''=>e=.returned (.agg #[.int .i64 (-1),.int .i64 0])∧∃p:Regrown,w''=Go.Sort.grow (redrawn wr p.d) p.os:=fun d os=>Calls.regrown_of (l9None_any _)
        have k0:=cell_regrown c0
        have k1:=cell_regrown c1
        have k2:=cell_regrown a2
        have q1:=Tryz.eqPl p q (-1) 0
        have q2:=Tryz.guardPl
        go_upto_region 8 with fail
        go_cut [55] (fun c wx=>c=.bool ((p== -1)&&(q==0))∧Below wr.heap.size wr wx)
        case first =>
         refine wp_region_quiet_below (by kernel_rfl) (by kernel_rfl) ?_
         repeat (go_big_quiet_step ((go_at_call 69;exact cN _ _)))
         refine wpQuiet_nil ?_
         intro _ hw'
         obtain⟨⟨dq,osq⟩,hw''⟩:=hw'
         subst hw''
         have HBQ:=hide (below_regrown wr dq osq)
         go_wp2_with fail
         go_meet
         exact⟨rfl,HBQ.out⟩
        case rest =>
         obtain⟨rfl,hb2⟩:=hcut
         obtain⟨w4,hw4⟩:∃w4,w4=wc:=⟨_,rfl⟩
         subst hw4
         have HB4:=hide (below_here HBB.out hb2)
         have K4:=hide (block_on KR.out hb2)
         clear hb2 k0 k1 k2 cN q1 c0 c1 a0 a1 a2 a3 a4 KR
         cases hnone:((p== -1)&&(q==0)) with
         | true =>
          have HOK:=hide (HST.out (by rw[HPO.out,hnone];rfl))
          go_wp2_with fail
          exact⟨⟨k+1,by omega,by go_num,HOK.out,HB4.out⟩,by simp[intOf];omega⟩
         | false =>
          obtain⟨r,hr⟩:∃r,r=pgOf z qs (p,q):=⟨_,rfl⟩
          have hs4:=HB4.out.size
          have HCL:∀w',Hid (Below w4.heap.size w4 w'->Calls Tryz.prog 70 #[.agg #[.int .i64 z,.slice a n cap],.agg #[.int .i64 p,.int .i64 q]] w' fun e w''=>e=.returned (lyV r)∧Below w'.heap.size w' w''):=fun w' hb'=>by
           rw[hr]
           have hs':=hb'.size
           exact l10Page_any z a n cap qs p q w' (HS3.out.later (below_here HB4.out hb') (by omega)) (by omega) hn HF.out HCK.out
          have HPO2:Hid (fpOk z qs ps st k=(lyWell r.2.2.2.2&&((r.2.1==(k:Int))&&!(decide (r.2.2.1 > st))))):=by show _=_;rw[HPO.out,hnone,hr];rfl
          clear hr hnone HPO
          obtain⟨r0,r1,r2,r3,r4⟩:=r
          unfold lyV at HCL
          dsimp only at HCL HPO2
          obtain⟨a0,a1,a2,a3,a4⟩:=five_cells K4.out
          obtain⟨c0,c1⟩:=pl_cells HC.out HB4.out hbs hlt
          rw[<- HY.out] at c0 c1
          dsimp only at c0 c1
          have hwz:w.heap.size<w4.heap.size:=by omega
          have HK:∀w',Hid (Below w4.heap.size w4 w'->w'.cell? ⟨w.heap.size,0,none⟩=some (.int .i64 z)∧w'.cell? ⟨w.heap.size,1,none⟩=some (.slice a n cap)∧w'.cell? ⟨w.heap.size,2,none⟩=some (.slice (some ⟨b,off,none⟩) m cm)∧w'.cell? ⟨b,off+k*2,none⟩=some (.int .i64 p)∧w'.cell? ⟨b,off+k*2+1,none⟩=some (.int .i64 q)):=fun w' hb'=>⟨(hb'.cell (p:=⟨_,_,none⟩) hwz).trans a0,(hb'.cell (p:=⟨_,_,none⟩) hwz).trans a1,(hb'.cell (p:=⟨_,_,none⟩) hwz).trans a2,(hb'.cell (p:=⟨_,_,none⟩) (by show b<_;omega)).trans c0,(hb'.cell (p:=⟨_,_,none⟩) (by show b<_;omega)).trans c1⟩
          go_upto_region 9 with fail
          have HB0:Hid (Below w4.heap.size w4 w4.drew):=(Below.refl w4.heap.size w4).drew
          have HBa:Hid (Below w4.heap.size w4 (w4.alloc (.cells #[.int .i64 0,.int .i64 0,.int .i64 0,.string ⟨#[]⟩] 31)).drew):=((Below.refl w4.heap.size w4).alloc (Nat.le_refl _) _).drew
          have HEa:Hid ((w4.alloc (.cells #[.int .i64 0,.int .i64 0,.int .i64 0,.string ⟨#[]⟩] 31)).drew.heap[w4.heap.size]?=some (.cells #[.int .i64 0,.int .i64 0,.int .i64 0,.string ⟨#[]⟩] 31)):=heap_new w4 _
          go_region_held3 (fun w'=>w'.cell? ⟨w.heap.size,0,none⟩=some (.int .i64 z)∧w'.cell? ⟨w.heap.size,1,none⟩=some (.slice a n cap)∧w'.cell? ⟨w.heap.size,2,none⟩=some (.slice (some ⟨b,off,none⟩) m cm)∧w'.cell? ⟨b,off+k*2,none⟩=some (.int .i64 p)∧w'.cell? ⟨b,off+k*2+1,none⟩=some (.int .i64 q))
           (first|exact(HK _).out HB0.out|exact(HK _).out HBa.out|exact(HK _).out HB5.out|exact(HK _).out HBS.out|exact(HK _).out HB6.out|exact⟨a0,a1,a2,c0,c1⟩|fail)
           (first
            | (go_at_call 70;refine((HCL _).out HB0.out).mono ?_;rintro e w5 ⟨rfl,b5⟩;have HB5:=hide (below_here HB0.out b5);have hs5:=b5.size;have HB6:=hide (HB5.out.alloc HB5.out.size (.cells #[.int .i64 0,.int .i64 0,.int .i64 0,.string ⟨#[]⟩] 31));have HBS:=hide (HB5.out.alloc HB5.out.size (.cells #[.int .i64 r0,.int .i64 r1,.int .i64 r2,.string r3] 31));have HRS:=hide (heap_new w5 (.cells #[.int .i64 r0,.int .i64 r1,.int .i64 r2,.string r3] 31)))
            | (go_at_call 70;refine((HCL _).out HBa.out).mono ?_;rintro e w5 ⟨rfl,b5⟩;have HB5:=hide (below_here HBa.out b5);have hs5:=b5.size;have E5:=hide (block_on HEa.out b5);obtain⟨e0,e1,e2,e3⟩:=four_cells E5.out;have f0:=four_frozen E5.out 0;have f1:=four_frozen E5.out 1;have f2:=four_frozen E5.out 2;have f3:=four_frozen E5.out 3;have HRS:=hide (four_set E5.out (.int .i64 r0) (.int .i64 r1) (.int .i64 r2) (.string r3));have HBS:=hide (four_below (b:=w4.heap.size) HB5.out (Nat.le_refl _) (.int .i64 r0) (.int .i64 r1) (.int .i64 r2) (.string r3))))
          all_goals
           clear HB0 HBa HEa HK HCL a0 a1 a2 a3 a4 c0 c1 b5 HB5 hs5
           have HB7:=hide (below_here HB4.out HBS.out)
           have HB8:=hide (below_here HB3.out HB7.out)
           obtain⟨d0,d1,d2,d3⟩:=four_cells HRS.out
           obtain⟨a0,a1,a2,a3,a4⟩:=five_cells (block_on K4.out HBS.out)
           go_wp2_with fail
           refine(l7Well_any r4 _).mono ?_
           rintro e wx ⟨rfl,rfl⟩
           cases hw:lyWell r4 with
           | false =>
            have HNO:=hide (HFA.out (by rw[HPO2.out,hw];rfl))
            go_wp2_with fail
            go_ret
            exact⟨ret_bool HNO.out.symm,HB8.out⟩
           | true =>
            by_cases h1:r1=(k:Int)
            ·have g1:(r1 != (k:Int))=false:=by simpa using h1
             have g3:(r1==(k:Int))=true:=by simpa using h1
             cases h2:decide (r2 > st) with
             | true =>
              have HNO:=hide (HFA.out (by rw[HPO2.out,hw,g3,h2];rfl))
              clear h1 g3
              go_wp2_with fail
              go_ret
              exact⟨ret_bool HNO.out.symm,HB8.out⟩
             | false =>
              have HOK:=hide (HST.out (by rw[HPO2.out,hw,g3,h2];rfl))
              clear h1 g3
              go_wp2_with fail
              exact⟨⟨k+1,by omega,by go_num,HOK.out,HB7.out⟩,by simp[intOf];omega⟩
            ·have g1:(r1 != (k:Int))=true:=by simpa using h1
             have g3:(r1==(k:Int))=false:=by simpa using h1
             have HNO:=hide (HFA.out (by rw[HPO2.out,hw,g3];rfl))
             clear h1 g3
             go_wp2_with fail
             go_ret
             exact⟨ret_bool HNO.out.symm,HB8.out⟩
       ·obtain rfl:k=m:=by omega
        have HYE:Hid (ftlOk z qs ps op st=true):=by show _=_;rw[HE.out,HLP.out];exact HAL.out
        have HB8:=hide (below_here HB3.out HBB.out)
        go_wp2_with fail
        go_ret
        exact⟨ret_bool HYE.out.symm,HB8.out⟩
end Go.Proofs.YtgjoepdfhadmcaaGreatDoor
