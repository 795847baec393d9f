/- Several texts in one: Draw9, Draw9b, FtlSpecB. -/
import Derived.Test.YtgjoepdfhadmcaaGreatDoorMFtlSpecC
import Derived.Test.YtgjoepdfhadmcaaGreatDoorMChipGrow
import Derived.Deep.DeepCutAuto
import Derived.Test.YtgjoepdfhadmcaaGreatDoorMDrawBase
import Derived.Deep.RegionWith
import Derived.Deep.RegionHeld3
import Derived.Test.YtgjoepdfhadmcaaGreatDoorMFtlSpecA
section
namespace Go.Proofs.YtgjoepdfhadmcaaGreatDoor
open Go.RowKit
set_option linter.unusedVariables false
set_option linter.unusedSimpArgs false
set_option maxRecDepth 20000
structure MapAt (w0:World)(B p:Nat)(w:World)(v:Value)(ps:List Pl):Prop where
 own:PlOwn B w v ps
 cur:Cur w p
 aside:Aside p (p+1) w0 w
 size:B<=w.heap.size
theorem MapAt.next {w0 w w':World}{B p:Nat}{v:Value}{ps:List Pl}(h:MapAt w0 B p w v ps)(hp:p<B)(hc:Cur w' p)(hs:Aside p (p+1) w w'):MapAt w0 B p w' v ps :=
 ⟨own_aside2 h.own hs (by omega),hc,h.aside.trans hs,Nat.le_trans h.size hs.size⟩
theorem MapAt.added {w0 w w':World}{B p:Nat}{v v':Value}{ps:List Pl}(h:MapAt w0 B p w v ps)(hp:p<B)(h0:w0.heap.size<=B)(o:Obj)(hg:(w.alloc o).grownBy w' v.ownBlock){qs:List Pl}(ho:PlOwn B w' v' qs):MapAt w0 B p w' v' qs:=by
 have hs:=hg.size
 have hz:(w.alloc o).heap.size=w.heap.size+1:=by simp
 have hB:=h.size
 have hb:Below B (w.alloc o) w':=⟨hg.os,hg.tape,hg.output,hg.size,fun k hk=>hg.block k (by omega) (fun e=>by have:=(h.own.lt k e.symm).1;omega)⟩
 exact⟨ho,(h.cur.alloc o).below hb hp,(h.aside.alloc o).trans_below hb h0,by omega⟩
set_option maxHeartbeats 6400000 in
theorem l9DrawMap_any (p:Nat)(z:Int)(a:Option Addr)(n cap:Nat)(qs:List Sq)(w:World){lo hi:Nat}(hc:Cur w p)(h:Squares lo hi w a n qs)(hlo:p<lo)(hhi:hi<=w.heap.size)(hn:n<=13)(hl:∀x∈qs,x.1.length<=9) :
  Calls Tryz.prog 147 #[.pointer (some ⟨p,0,none⟩),.agg #[.int .i64 z,.slice a n cap]] w fun e w'=>∃a' m c ps,e=.returned (.slice a' m c)∧m<=c∧m<=200∧Places w.heap.size w'.heap.size w' a' m ps∧Cur w' p∧Aside p (p+1) w w':=by
 have hpl:=hc.lt
 obtain⟨w0,hw0⟩:∃w0,w0=w:=⟨_,rfl⟩
 obtain⟨wA,hwA⟩:∃wA,wA=(w.alloc (.cells #[.int .i64 z,.slice a n cap] 26)).alloc (.cells #[] 39):=⟨_,rfl⟩
 obtain⟨B,hB⟩:∃B,B=w.heap.size+1:=⟨_,rfl⟩
 have hzA:wA.heap.size=w.heap.size+2:=by rw[hwA];simp
 have HBA:Hid (Below w.heap.size w wA):=by rw[hwA];exact((Below.refl _ _).alloc (Nat.le_refl _) _).alloc (by simp) _
 have HK:Hid (wA.heap[w.heap.size]?=some (.cells #[.int .i64 z,.slice a n cap] 26)):=by rw[hwA];exact heap_old (heap_new _ _)
 have HM:Hid (MapAt w0 B p wA (.slice (some ⟨w.heap.size+1,0,none⟩) 0 0) []):=by
  have hz:(w.alloc (.cells #[.int .i64 z,.slice a n cap] 26)).heap.size=w.heap.size+1:=by simp
  have h9:=pl_made0 (w.alloc (.cells #[.int .i64 z,.slice a n cap] 26))
  rw[hz] at h9
  rw[hw0,hB,hwA]
  exact⟨h9,(hc.alloc _).alloc _,((Aside.refl p (p+1) w).alloc _).alloc _,by simp⟩
 have HSQ:=hide h
 have HLQ:=hide hl
 have hpB:p<B:=by omega
 have hwB:w0.heap.size<=B:=by rw[hw0];omega
 have hBw:w.heap.size<B:=by omega
 obtain⟨i0,hi0,hzz0,hzz1,hzz2⟩:=info_parts Tryz.infoPl9
 have HSL:Hid (qs.length=n):=h.1
 have HKP:∀wr v ps,Hid (MapAt w0 B p wr v ps->Aside p (p+1) w wr):=fun wr v ps hh=>by rw[<- hw0];exact hh.aside
 clear h hl hc hw0 hB
 go_enter Tryz.func147,Tryz.ntmps147
 go_wp2_with fail
 rw[<- hwA]
 clear hwA
 go_loopw [5,6] (fun o i wr=>∃(k:Nat) (ps:List Pl),k<=n∧i=.int .i64 (k:Int)∧ps.length<=9*k∧MapAt w0 B p wr o ps∧wr.heap[w.heap.size]?=some (.cells #[.int .i64 z,.slice a n cap] 26)) (fun _ i _=>n-(intOf i).toNat)
 case atStart=>exact⟨0,[],Nat.zero_le _,rfl,Nat.le_refl _,HM.out,HK.out⟩
 case round =>
  obtain⟨k,ps,hk,rfl,hps,hM,hK⟩:=hrel
  have HMM:=hide hM
  have HKK:=hide hK
  obtain⟨a0,a1⟩:=two_cells hK
  clear hM hK HM HK
  by_cases hlt:k<n
  ·have hql:k<qs.length:=by rw[HSL.out];exact hlt
   have hl9:(sqAt qs k).1.length<=9:=HLQ.out _ (by unfold sqAt;rw[List.getD_eq_getElem?_getD,List.getElem?_eq_getElem hql];exact List.getElem_mem hql)
   obtain⟨_,A,C,hx,ht⟩:=HSQ.out
   obtain⟨b,off,rfl,hb0,hb,hcc⟩:=hx.2 (by omega)
   have HCC:=hide hcc
   clear hcc hx ht
   go_wp2_with fail
   clear a0 a1
   obtain⟨wo,hwo⟩:∃wo,wo=wr:=⟨_,rfl⟩
   subst hwo
   obtain⟨L,hL⟩:∃L,L=(sqAt qs k).1.length:=⟨_,rfl⟩
   go_loopw [5,7] (fun o j wr=>∃(m:Nat) (ps':List Pl),m<=L∧j=.int .i64 (m:Int)∧ps'.length<=9*k+m∧MapAt w0 B p wr o ps'∧wr.heap[w.heap.size]?=some (.cells #[.int .i64 z,.slice (some ⟨b,off,none⟩) n cap] 26)) (fun _ j _=>L-(intOf j).toNat)
   case atStart=>exact⟨0,ps,Nat.zero_le _,rfl,by omega,HMM.out,HKK.out⟩
   case round =>
    obtain⟨m,ps',hm,rfl,hps',hM',hK'⟩:=hrel
    have HM2:=hide hM'
    have HK2:=hide hK'
    obtain⟨a0,a1⟩:=two_cells hK'
    have hA2:=(HKP wr _ _).out hM'
    have hc0:wr.cell? ⟨b,off+k*3,none⟩=some (.slice (A k) L (C k)):=by
     have h9:=HCC.out (3*k) (by omega)
     rw[cellQ0] at h9
     rw[World.cell?_of_block (a:=⟨b,off+k*3,none⟩) (hA2.block b (by omega) (.inr (by omega))),show off+k*3=off+3*k by omega,h9,hL]
    have hcu:=hM'.cur
    clear hM' hK' hA2
    obtain⟨ps,hps0⟩:∃ps,ps=ps':=⟨_,rfl⟩
    subst hps0
    obtain⟨ao,co,ho,hco⟩:=pl_form HM2.out.own
    subst ho
    by_cases hlm:m<L
    ·have hmL:(m:Int)<(L:Int):=by omega
     go_wp2_with fail
     refine(l1Once_any p 2 wr hcu (by omega)).mono ?_
     rintro e w4 ⟨b4,rfl,c4,s4⟩
     have HM4:=hide (HM2.out.next hpB c4 s4)
     have HK4:=hide (aside_block s4 HK2.out (by omega))
     have hs4:=s4.size
     clear s4 HM2 HK2 hcu hc0 a0 a1
     cases b4 with
     | true =>
      go_wp2_with (at_builtin;(refine wpList_append_own_at _ rfl (.tmp 29) (.tmp 33) 27 rfl B 39 i0 (.agg #[.int .i64 0,.int .i64 0]) 2 16 Tryz.underlying27 hi0 hzz0 hzz1 hzz2 rfl (by decide) _ ps.length (plL ps) rfl ((HM4.out.own).alloc (.cells #[.int .i64 (k:Int),.int .i64 (m:Int)] 39)) ⟨w4.heap.size,0,none⟩ 1 1 [.int .i64 (k:Int),.int .i64 (m:Int)] rfl rfl (two_news _ _ _ _) (two_oneI _ _) (by unfold maxLen;omega) (by omega) (by have:=HM4.out.size;simp;omega) ?_);intro v2 w9 hown9 hgr9 hnil9 hat9;have HO9:=hide hown9;have HG9:=hide hgr9;clear hown9 hgr9 hnil9 hat9)
      have HM9:Hid (MapAt w0 B p w9 v2 (ps++[((k:Int),(m:Int))])):=HM4.out.added hpB hwB _ HG9.out (by have h9:=HO9.out;rw[plL_snoc ps ((k:Int),(m:Int))] at h9;show World.ownsRow _ _ _ _ _ _ _;rw[List.length_append];exact h9)
      have HK9:Hid (w9.heap[w.heap.size]?=some (.cells #[.int .i64 z,.slice (some ⟨b,off,none⟩) n cap] 26)):=(HG9.out.block _ (by have:=(Array.getElem?_eq_some_iff.1 HK4.out).1;simp;omega) (by intro e;have:=(HM4.out.own.lt _ e.symm).1;omega)).trans (heap_old HK4.out)
      exact⟨⟨m+1,_,by omega,by go_num,by simp;omega,HM9.out,HK9.out⟩,by simp[intOf];omega⟩
     | false =>
      go_wp2_with fail
      refine(l1Once_any p 3 w4 c4 (by omega)).mono ?_
      rintro e w5 ⟨b5,rfl,c5,s5⟩
      have HM5:=hide (HM4.out.next hpB c5 s5)
      have HK5:=hide (aside_block s5 HK4.out (by omega))
      clear s5 HM4 HK4 c4
      cases b5 with
      | true =>
       go_wp2_with fail
       refine(l9None_any w5).mono ?_
       rintro e w6 ⟨rfl,b6⟩
       have HM6:=hide (HM5.out.next hpB (c5.below b6 c5.lt) (aside_of_below b6))
       have HK6:=hide (block_on HK5.out b6)
       clear b6 HM5 HK5 c5
       go_wp2_with (at_builtin;(refine wpList_append_own_at _ rfl (.tmp 37) (.tmp 39) 27 rfl B 39 i0 (.agg #[.int .i64 0,.int .i64 0]) 2 16 Tryz.underlying27 hi0 hzz0 hzz1 hzz2 rfl (by decide) _ ps.length (plL ps) rfl ((HM6.out.own).alloc (.cells #[.int .i64 (-1),.int .i64 0] 39)) ⟨w6.heap.size,0,none⟩ 1 1 [.int .i64 (-1),.int .i64 0] rfl rfl (two_news _ _ _ _) (two_oneI _ _) (by unfold maxLen;omega) (by omega) (by have:=HM6.out.size;simp;omega) ?_);intro v2 w9 hown9 hgr9 hnil9 hat9;have HO9:=hide hown9;have HG9:=hide hgr9;clear hown9 hgr9 hnil9 hat9)
       have HM9:Hid (MapAt w0 B p w9 v2 (ps++[((-1),0)])):=HM6.out.added hpB hwB _ HG9.out (by have h9:=HO9.out;rw[plL_snoc ps ((-1),0)] at h9;show World.ownsRow _ _ _ _ _ _ _;rw[List.length_append];exact h9)
       have HK9:Hid (w9.heap[w.heap.size]?=some (.cells #[.int .i64 z,.slice (some ⟨b,off,none⟩) n cap] 26)):=(HG9.out.block _ (by have:=(Array.getElem?_eq_some_iff.1 HK6.out).1;simp;omega) (by intro e;have:=(HM6.out.own.lt _ e.symm).1;omega)).trans (heap_old HK6.out)
       exact⟨⟨m+1,_,by omega,by go_num,by simp;omega,HM9.out,HK9.out⟩,by simp[intOf];omega⟩
      | false =>
       go_wp2_with fail
       exact⟨⟨m+1,ps,by omega,by go_num,by omega,HM5.out,HK5.out⟩,by simp[intOf];omega⟩
    ·obtain rfl:m=L:=by omega
     go_wp2_with fail
     exact⟨⟨k+1,ps,by omega,by go_num,by omega,HM2.out,HK2.out⟩,by simp[intOf];omega⟩
  ·obtain rfl:k=n:=by omega
   obtain⟨ao,co,ho,hco⟩:=pl_form HMM.out.own
   subst ho
   go_upto_if 43 with fail
   clear a0 a1
   go_cut [5,43] (fun o _ wx=>∃ps:List Pl,1<=ps.length∧ps.length<=118∧MapAt w0 B p wx o ps)
   case first =>
    by_cases h0:ps.length=0
    ·have g0:((ps.length:Int)==0)=true:=by simp;exact List.eq_nil_of_length_eq_zero h0
     have H0:=hide h0
     clear h0
     go_wp2_with fail
     clear g0
     refine(l9None_any wr).mono ?_
     rintro e w6 ⟨rfl,b6⟩
     have HM6:=hide (HMM.out.next hpB (HMM.out.cur.below b6 HMM.out.cur.lt) (aside_of_below b6))
     clear b6
     go_wp2_with (at_builtin;(refine wpList_append_own_at _ rfl (.tmp 44) (.tmp 46) 27 rfl B 39 i0 (.agg #[.int .i64 0,.int .i64 0]) 2 16 Tryz.underlying27 hi0 hzz0 hzz1 hzz2 rfl (by decide) _ ps.length (plL ps) rfl ((HM6.out.own).alloc (.cells #[.int .i64 (-1),.int .i64 0] 39)) ⟨w6.heap.size,0,none⟩ 1 1 [.int .i64 (-1),.int .i64 0] rfl rfl (two_news _ _ _ _) (two_oneI _ _) (by unfold maxLen;omega) (by omega) (by have:=HM6.out.size;simp;omega) ?_);intro v2 w9 hown9 hgr9 hnil9 hat9;have HO9:=hide hown9;have HG9:=hide hgr9;clear hown9 hgr9 hnil9 hat9)
     have HM9:Hid (MapAt w0 B p w9 v2 (ps++[((-1),0)])):=HM6.out.added hpB hwB _ HG9.out (by have h9:=HO9.out;rw[plL_snoc ps ((-1),0)] at h9;show World.ownsRow _ _ _ _ _ _ _;rw[List.length_append];exact h9)
     go_meet
     exact⟨_,by simp,by have:=H0.out;simp;omega,HM9.out⟩
    ·have g0:((ps.length:Int)==0)=false:=by simp;intro e;rw[e] at h0;exact h0 rfl
     have g1:¬((ps.length:Int)=0):=by omega
     go_wp2_with fail
     go_meet
     exact⟨ps,by omega,by omega,HMM.out⟩
   case rest =>
    obtain⟨ps,hp1,hp2,hM⟩:=hcut
    obtain⟨wX,hwX⟩:∃wX,wX=wc:=⟨_,rfl⟩
    subst hwX
    have HMX:=hide hM
    have hcX:=hM.cur
    clear hM HMM
    go_wp2_with fail
    refine(l1Once_any p 12 wX hcX (by omega)).mono ?_
    rintro e w4 ⟨b4,rfl,c4,s4⟩
    have HM4:=hide (HMX.out.next hpB c4 s4)
    clear s4 HMX hcX
    cases b4 with
    | false =>
     obtain⟨av,cv,hv,hcv⟩:=pl_form HM4.out.own
     subst hv
     have HPV:=hide ((pl_places HM4.out.own).wide (show w.heap.size<=B by omega))
     go_wp2_with fail
     go_ret
     exact⟨_,_,_,_,rfl,hcv,by omega,HPV.out,HM4.out.cur,(HKP _ _ _).out HM4.out⟩
    | true =>
     go_wp2_with fail
     refine(l1Below_any p 3 w4 c4 (by omega)).mono ?_
     rintro e w5 ⟨y,rfl,y0,y1,c5,s5⟩
     have HM5:=hide (HM4.out.next hpB c5 s5)
     clear s5 HM4 c4
     rcases(show y=0∨y=1∨y=2 by omega) with rfl|rfl|rfl
     ·obtain⟨gv,cv,hv,hcv⟩:=pl_some HM5.out.own hp1
      subst hv
      have k0:=HM5.out.own.cellAt 0 (by omega)
      have k1:=HM5.out.own.cellAt 1 (by omega)
      rw[plL_at ps (by omega),cellP_0] at k0
      rw[plL_at ps (by omega),cellP_1] at k1
      have hp3:(0:Int)<(ps.length:Int):=by omega
      obtain⟨x0,hx0⟩:∃x0,x0=(plAt ps 0).1:=⟨_,rfl⟩
      obtain⟨x1,hx1⟩:∃x1,x1=(plAt ps 0).2:=⟨_,rfl⟩
      rw[<- hx0] at k0
      rw[<- hx1] at k1
      clear hx0 hx1
      go_wp2_with (at_builtin;(refine wpList_append_own_at _ rfl (.tmp 54) (.tmp 58) 27 rfl B 39 i0 (.agg #[.int .i64 0,.int .i64 0]) 2 16 Tryz.underlying27 hi0 hzz0 hzz1 hzz2 rfl (by decide) _ ps.length (plL ps) rfl ((HM5.out.own).alloc (.cells #[.int .i64 x0,.int .i64 x1] 39)) ⟨w5.heap.size,0,none⟩ 1 1 [.int .i64 x0,.int .i64 x1] rfl rfl (two_news _ _ _ _) (two_oneI _ _) (by unfold maxLen;omega) (by omega) (by have:=HM5.out.size;simp;omega) ?_);intro v2 w9 hown9 hgr9 hnil9 hat9;have HO9:=hide hown9;have HG9:=hide hgr9;clear hown9 hgr9 hnil9 hat9)
      have HM9:Hid (MapAt w0 B p w9 v2 (ps++[(x0,x1)])):=HM5.out.added hpB hwB _ HG9.out (by have h9:=HO9.out;rw[plL_snoc ps (x0,x1)] at h9;show World.ownsRow _ _ _ _ _ _ _;rw[List.length_append];exact h9)
      obtain⟨av,cv,hv,hcv⟩:=pl_form HM9.out.own
      subst hv
      have HPV:=hide ((pl_places HM9.out.own).wide (show w.heap.size<=B by omega))
      go_wp2_with fail
      go_ret
      exact⟨_,_,_,_,rfl,hcv,by simp;omega,HPV.out,HM9.out.cur,(HKP _ _ _).out HM9.out⟩
     ·go_wp2_with fail
      refine(l1From_any p (-2) 6 w5 c5 (by omega) (by omega) (by omega) (by omega)).mono ?_
      rintro e w6 ⟨x0,rfl,_,_,c6,s6⟩
      have HM6:=hide (HM5.out.next hpB c6 s6)
      clear s6 HM5 c5
      go_wp2_with fail
      refine(l1From_any p (-1) 4 w6 c6 (by omega) (by omega) (by omega) (by omega)).mono ?_
      rintro e w7 ⟨x1,rfl,_,_,c7,s7⟩
      have HM7:=hide (HM6.out.next hpB c7 s7)
      clear s7 HM6 c6
      go_wp2_with (at_builtin;(refine wpList_append_own_at _ rfl (.tmp 62) (.tmp 68) 27 rfl B 39 i0 (.agg #[.int .i64 0,.int .i64 0]) 2 16 Tryz.underlying27 hi0 hzz0 hzz1 hzz2 rfl (by decide) _ ps.length (plL ps) rfl ((HM7.out.own).alloc (.cells #[.int .i64 x0,.int .i64 x1] 39)) ⟨w7.heap.size,0,none⟩ 1 1 [.int .i64 x0,.int .i64 x1] rfl rfl (two_news _ _ _ _) (two_oneI _ _) (by unfold maxLen;omega) (by omega) (by have:=HM7.out.size;simp;omega) ?_);intro v2 w9 hown9 hgr9 hnil9 hat9;have HO9:=hide hown9;have HG9:=hide hgr9;clear hown9 hgr9 hnil9 hat9)
      have HM9:Hid (MapAt w0 B p w9 v2 (ps++[(x0,x1)])):=HM7.out.added hpB hwB _ HG9.out (by have h9:=HO9.out;rw[plL_snoc ps (x0,x1)] at h9;show World.ownsRow _ _ _ _ _ _ _;rw[List.length_append];exact h9)
      obtain⟨av,cv,hv,hcv⟩:=pl_form HM9.out.own
      subst hv
      have HPV:=hide ((pl_places HM9.out.own).wide (show w.heap.size<=B by omega))
      go_wp2_with fail
      go_ret
      exact⟨_,_,_,_,rfl,hcv,by simp;omega,HPV.out,HM9.out.cur,(HKP _ _ _).out HM9.out⟩
     ·have HC9:=hide (HM5.out.cur.alloc (.cells #[] 39))
      have HA9:=hide (((HKP _ _ _).out HM5.out).alloc (.cells #[] 39))
      go_wp2_with fail
      go_ret
      exact⟨_,_,_,[],rfl,Nat.le_refl _,by omega,⟨rfl,Nat.le_refl _,fun h=>absurd h (Nat.lt_irrefl _)⟩,HC9.out,HA9.out⟩
end Go.Proofs.YtgjoepdfhadmcaaGreatDoor
end

section
namespace Go.Proofs.YtgjoepdfhadmcaaGreatDoor
open Go.RowKit
set_option linter.unusedVariables false
set_option linter.unusedSimpArgs false
set_option maxRecDepth 20000
theorem Squares.wideLo {lo lo' hi n:Nat}{w:World}{a:Option Addr}{qs:List Sq}(h:Squares lo hi w a n qs)(h1:lo'<=lo)(h2:hi<=w.heap.size):Squares lo' w.heap.size w a n qs:=by
 obtain⟨hl,A,C,hx,ht⟩:=h
 exact⟨hl,A,C,reads_wide hx h1 h2 (Nat.le_refl _),fun i hi=>⟨(ht i hi).1,reads_wide (ht i hi).2 h1 h2 (Nat.le_refl _)⟩⟩
structure Drawn9 (B:Nat)(w:World)(a:Option Addr)(n c:Nat)(qs:List Sq)(am:Option Addr)(m cm:Nat)(ps:List Pl):Prop where
 n13:n<=13
 nc:n<=c
 fits:∀x∈qs,sqFits x
 len9:∀x∈qs,x.1.length<=9
 sq:Squares B w.heap.size w a n qs
 m200:m<=200
 mc:m<=cm
 pl:Places B w.heap.size w am m ps
theorem Places.asideP {lo hi n:Nat}{w w':World}{a:Option Addr}{ps:List Pl}(h:Places lo hi w a n ps){l r:Nat}(hb:Aside l r w w')(hB:hi<=l∨r<=lo):Places lo hi w' a n ps:=⟨h.1,h.2.aside hb hB⟩
theorem Places.wide2 {lo lo' hi n:Nat}{w:World}{a:Option Addr}{ps:List Pl}(h:Places lo hi w a n ps)(h1:lo'<=lo)(h2:hi<=w.heap.size):Places lo' w.heap.size w a n ps:=⟨h.1,reads_wide h.2 h1 h2 (Nat.le_refl _)⟩
theorem Drawn9.set {B:Nat}{w w':World}{a:Option Addr}{n c:Nat}{qs:List Sq}{am:Option Addr}{m cm:Nat}{ps:List Pl}(h:Drawn9 B w a n c qs am m cm ps){l r B':Nat}(hb:Aside l r w w')(hr:r<=B)(h1:B'<=B):Drawn9 B' w' a n c qs am m cm ps :=
 ⟨h.n13,h.nc,h.fits,h.len9,(h.sq.aside hb (.inr hr)).wideLo h1 hb.size,h.m200,h.mc,(h.pl.asideP hb (.inr hr)).wide2 h1 hb.size⟩
theorem Drawn9.later {B:Nat}{w w':World}{a:Option Addr}{n c:Nat}{qs:List Sq}{am:Option Addr}{m cm:Nat}{ps:List Pl}(h:Drawn9 B w a n c qs am m cm ps)(hb:Below w.heap.size w w'):Drawn9 B w' a n c qs am m cm ps :=
 ⟨h.n13,h.nc,h.fits,h.len9,(h.sq.later hb (Nat.le_refl _)).wideLo (Nat.le_refl _) hb.size,h.m200,h.mc,(h.pl.later hb (Nat.le_refl _)).wide2 (Nat.le_refl _) hb.size⟩
end Go.Proofs.YtgjoepdfhadmcaaGreatDoor
end

section
namespace Go.Proofs.YtgjoepdfhadmcaaGreatDoor
open Go.RowKit
set_option linter.unusedVariables false
set_option maxRecDepth 20000
set_option maxHeartbeats 3200000 in
theorem l10Get_any (z:Int)(a:Option Addr)(n cap:Nat)(qs:List Sq)(am:Option Addr)(m cm:Nat)(ps:List Pl)(op st:Int)(k:Nat)(w:World){lo hi lo' hi':Nat}(h:Squares lo hi w a n qs)(hhi:hi<=w.heap.size)(hn:n<=1048576)(hf:∀x∈qs,sqFits x)(hp:Places lo' hi' w am m ps)(hhi':hi'<=w.heap.size)(hm:m<=64)(hlt:k<m)(hok:chipOk z qs=true) :
  Calls Tryz.prog 83 #[.agg #[.int .i64 z,.slice a n cap,.slice am m cm,.int .i64 op,.int .i64 st],.int .i64 (k:Int)] w fun e w'=>e=.returned (.tuple #[.string (if plAt ps k==(-1,0) then ByteArray.empty else(pgOf z qs (plAt ps k)).2.2.2.1),.bool (!(plAt ps k==(-1,0))&&((pgOf z qs (plAt ps k)).1==1))])∧Below w.heap.size w w':=by
 obtain⟨wr,hwA⟩:∃wA,wA=w.alloc (.cells #[.int .i64 z,.slice a n cap,.slice am m cm,.int .i64 op,.int .i64 st] 29):=⟨_,rfl⟩
 have hzA:wr.heap.size=w.heap.size+1:=by rw[hwA];simp
 have HBA:Hid (Below w.heap.size w wr):=by rw[hwA];exact(Below.refl _ _).alloc (Nat.le_refl _) _
 have KR:Hid (wr.heap[w.heap.size]?=some (.cells #[.int .i64 z,.slice a n cap,.slice am m cm,.int .i64 op,.int .i64 st] 29)):=by rw[hwA];exact heap_new _ _
 have HS3:=hide (h.later HBA.out hhi)
 have HP3:=hide (hp.later HBA.out hhi')
 have HF:=hide hf
 have HCK:=hide hok
 clear h hf hp hok
 obtain⟨a0,a1,a2,a3,a4⟩:=five_cells KR.out
 obtain⟨b,off,rfl,_,hb,hc⟩:=HP3.out.2.2 (by omega)
 have hbs:b<wr.heap.size:=by have:=HP3.out.2.1;omega
 obtain⟨c0,c1⟩:=pl_cells hc (Below.refl wr.heap.size wr) hbs hlt
 have HC:=hide hc
 clear hc
 obtain⟨y,hy⟩:∃y,y=plAt ps k:=⟨_,rfl⟩
 have HY:=hide hy
 rw[<- hy] at c0 c1
 rw[<- hy,pl_eq]
 clear hy
 obtain⟨p,q⟩:=y
 dsimp only at c0 c1
 dsimp only
 obtain⟨tx,htx⟩:∃t,t=(if(p== -1&&q==0)=true then ByteArray.empty else(pgOf z qs (p,q)).2.2.2.1):=⟨_,rfl⟩
 obtain⟨bx,hbx⟩:∃t,t=(!(p== -1&&q==0)&&(pgOf z qs (p,q)).1==1):=⟨_,rfl⟩
 rw[<- htx,<- hbx]
 have HTX:=hide htx
 have HBX:=hide hbx
 clear htx hbx
 go_enter Tryz.func83,Tryz.ntmps83
 go_upto_region 1 with fail
 rw[<- hwA]
 clear hwA
 have cN:∀d os,Calls Tryz.prog 69 #[] (Go.Sort.grow (redrawn wr d) os) fun e w''=>e=.returned (.agg #[.int .i64 (-1),.int .i64 0])∧∃p:Regrown,w''=Go.Sort.grow (redrawn wr p.d) p.os:=fun d os=>Calls.regrown_of (l9None_any _)
 have k0:=cell_regrown c0
 have k1:=cell_regrown c1
 have k2:=cell_regrown a2
 have q1:=Tryz.eqPl p q (-1) 0
 have q2:=Tryz.guardPl
 go_cut [14] (fun c wx=>c=.bool ((p== -1)&&(q==0))∧Below wr.heap.size wr wx)
 case first =>
  refine wp_region_quiet_below (by kernel_rfl) (by kernel_rfl) ?_
  repeat (go_big_quiet_step ((go_at_call 69;exact cN _ _)))
  refine wpQuiet_nil ?_
  intro _ hw'
  obtain⟨⟨dq,osq⟩,hw''⟩:=hw'
  subst hw''
  have HBQ:=hide (below_regrown wr dq osq)
  go_wp2_with fail
  go_meet
  exact⟨rfl,HBQ.out⟩
 case rest =>
  obtain⟨rfl,hb2⟩:=hcut
  obtain⟨w4,hw4⟩:∃w4,w4=wc:=⟨_,rfl⟩
  subst hw4
  have HB4:=hide hb2
  have K4:=hide (block_on KR.out hb2)
  clear hb2 k0 k1 k2 cN q1 c0 c1 a0 a1 a2 a3 a4 KR
  cases hnone:((p== -1)&&(q==0)) with
  | true =>
   have HB5:=hide (below_here HBA.out HB4.out)
   go_wp2_with fail
   have HT2:Hid (tx=ByteArray.empty):=by show _=_;rw[HTX.out,hnone];rfl
   have HX2:Hid (bx=false):=by show _=_;rw[HBX.out,hnone];rfl
   go_ret2
   exact⟨by rw[HT2.out,HX2.out];rfl,HB5.out⟩
  | false =>
   obtain⟨r,hr⟩:∃r,r=pgOf z qs (p,q):=⟨_,rfl⟩
   have hs4:=HB4.out.size
   have HCL:∀w',Hid (Below w4.heap.size w4 w'->Calls Tryz.prog 70 #[.agg #[.int .i64 z,.slice a n cap],.agg #[.int .i64 p,.int .i64 q]] w' fun e w''=>e=.returned (lyV r)∧Below w'.heap.size w' w''):=fun w' hb'=>by
    rw[hr]
    have hs':=hb'.size
    exact l10Page_any z a n cap qs p q w' (HS3.out.later (below_here HB4.out hb') (by omega)) (by omega) hn HF.out HCK.out
   have HR:=hide hr
   have HT2:Hid (tx=r.2.2.2.1):=by show _=_;rw[HTX.out,hnone,hr];rfl
   have HX2:Hid (bx=(r.1==1)):=by show _=_;rw[HBX.out,hnone,hr];rfl
   clear hr hnone HTX HBX
   obtain⟨r0,r1,r2,r3,r4⟩:=r
   unfold lyV at HCL
   dsimp only at HCL
   obtain⟨a0,a1,a2,a3,a4⟩:=five_cells K4.out
   obtain⟨c0,c1⟩:=pl_cells HC.out HB4.out hbs hlt
   rw[<- HY.out] at c0 c1
   dsimp only at c0 c1
   have hwz:w.heap.size<w4.heap.size:=by omega
   have HK:∀w',Hid (Below w4.heap.size w4 w'->w'.cell? ⟨w.heap.size,0,none⟩=some (.int .i64 z)∧w'.cell? ⟨w.heap.size,1,none⟩=some (.slice a n cap)∧w'.cell? ⟨w.heap.size,2,none⟩=some (.slice (some ⟨b,off,none⟩) m cm)∧w'.cell? ⟨b,off+k*2,none⟩=some (.int .i64 p)∧w'.cell? ⟨b,off+k*2+1,none⟩=some (.int .i64 q)):=fun w' hb'=>⟨(hb'.cell (p:=⟨_,_,none⟩) hwz).trans a0,(hb'.cell (p:=⟨_,_,none⟩) hwz).trans a1,(hb'.cell (p:=⟨_,_,none⟩) hwz).trans a2,(hb'.cell (p:=⟨_,_,none⟩) (by show b<_;omega)).trans c0,(hb'.cell (p:=⟨_,_,none⟩) (by show b<_;omega)).trans c1⟩
   go_upto_region 3 with fail
   go_cut [6] (fun v wx=>∃g,v=.pointer (some ⟨g,0,none⟩)∧wx.heap[g]?=some (.cells #[.int .i64 r0,.int .i64 r1,.int .i64 r2,.string r3] 31)∧Below w4.heap.size w4 wx)
   case first =>
    have HB0:Hid (Below w4.heap.size w4 w4.drew):=(Below.refl w4.heap.size w4).drew
    have HBa:Hid (Below w4.heap.size w4 (w4.alloc (.cells #[.int .i64 0,.int .i64 0,.int .i64 0,.string ⟨#[]⟩] 31)).drew):=((Below.refl w4.heap.size w4).alloc (Nat.le_refl _) _).drew
    have HEa:Hid ((w4.alloc (.cells #[.int .i64 0,.int .i64 0,.int .i64 0,.string ⟨#[]⟩] 31)).drew.heap[w4.heap.size]?=some (.cells #[.int .i64 0,.int .i64 0,.int .i64 0,.string ⟨#[]⟩] 31)):=heap_new w4 _
    go_region_held3 (fun w'=>w'.cell? ⟨w.heap.size,0,none⟩=some (.int .i64 z)∧w'.cell? ⟨w.heap.size,1,none⟩=some (.slice a n cap)∧w'.cell? ⟨w.heap.size,2,none⟩=some (.slice (some ⟨b,off,none⟩) m cm)∧w'.cell? ⟨b,off+k*2,none⟩=some (.int .i64 p)∧w'.cell? ⟨b,off+k*2+1,none⟩=some (.int .i64 q))
     (first|exact(HK _).out HB0.out|exact(HK _).out HBa.out|exact(HK _).out HB5.out|exact(HK _).out HBS.out|exact(HK _).out HB6.out|exact⟨a0,a1,a2,c0,c1⟩|fail)
     (first
      | (go_at_call 70;refine((HCL _).out HB0.out).mono ?_;rintro e w5 ⟨rfl,b5⟩;have HB5:=hide (below_here HB0.out b5);have hs5:=b5.size;have HB6:=hide (HB5.out.alloc HB5.out.size (.cells #[.int .i64 0,.int .i64 0,.int .i64 0,.string ⟨#[]⟩] 31));have HBS:=hide (HB5.out.alloc HB5.out.size (.cells #[.int .i64 r0,.int .i64 r1,.int .i64 r2,.string r3] 31));have HRS:=hide (heap_new w5 (.cells #[.int .i64 r0,.int .i64 r1,.int .i64 r2,.string r3] 31)))
      | (go_at_call 70;refine((HCL _).out HBa.out).mono ?_;rintro e w5 ⟨rfl,b5⟩;have HB5:=hide (below_here HBa.out b5);have hs5:=b5.size;have E5:=hide (block_on HEa.out b5);obtain⟨e0,e1,e2,e3⟩:=four_cells E5.out;have f0:=four_frozen E5.out 0;have f1:=four_frozen E5.out 1;have f2:=four_frozen E5.out 2;have f3:=four_frozen E5.out 3;have HRS:=hide (four_set E5.out (.int .i64 r0) (.int .i64 r1) (.int .i64 r2) (.string r3));have HBS:=hide (four_below (b:=w4.heap.size) HB5.out (Nat.le_refl _) (.int .i64 r0) (.int .i64 r1) (.int .i64 r2) (.string r3))))
    all_goals
     clear HB0 HBa HEa HK HCL a0 a1 a2 a3 a4 c0 c1 b5 HB5 hs5
     go_wp2_with fail
     go_meet
     exact⟨_,rfl,HRS.out,HBS.out⟩
   case rest =>
    obtain⟨g,rfl,hrs,hb5⟩:=hcut
    obtain⟨w5,hw5⟩:∃w5,w5=wc:=⟨_,rfl⟩
    subst hw5
    have HB7:=hide (below_here HB4.out hb5)
    have HB8:=hide (below_here HBA.out HB7.out)
    clear hb5 HK HCL a0 a1 a2 a3 a4 c0 c1
    obtain⟨d0,d1,d2,d3⟩:=four_cells hrs
    go_wp2_with fail
    have HB9:Hid (Below w.heap.size w w5.drew):=HB8.out.drew
    go_region_held3 (fun w'=>w'.cell? ⟨g,0,none⟩=some (.int .i64 r0)∧w'.cell? ⟨g,3,none⟩=some (.string r3)) (exact⟨d0,d3⟩) (fail)
    all_goals
     go_wp2_with fail
     go_ret2
     exact⟨by rw[HT2.out,HX2.out];rfl,HB9.out⟩
end Go.Proofs.YtgjoepdfhadmcaaGreatDoor
end

