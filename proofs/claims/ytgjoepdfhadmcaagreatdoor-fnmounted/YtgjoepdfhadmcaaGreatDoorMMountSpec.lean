/- . -/
import Derived.Test.YtgjoepdfhadmcaaGreatDoorMFtlOwnP
import Derived.Test.YtgjoepdfhadmcaaGreatDoorMFtlSpecA
import Derived.Test.YtgjoepdfhadmcaaGreatDoorMChipCutS
import Derived.Test.YtgjoepdfhadmcaaGreatDoorMInfo
import Derived.BigRegion
namespace Go.Proofs.YtgjoepdfhadmcaaGreatDoor
open Go.RowKit
set_option linter.unusedVariables false
set_option maxRecDepth 20000
theorem cellP_setM (ps:List Pl){T:Nat}(x y:Int)(h:T<ps.length)(j:Nat):(if j=T*2+1 then Value.int .i64 y else if j=T*2 then .int .i64 x else cellP ps j)=cellP (ps.set T (x,y)) j:=by
 unfold cellP
 rw[plAt_set ps _ h]
 by_cases e1:j=T*2+1
 ·subst e1
  rw[if_pos rfl,if_neg (show ¬(T*2+1) % 2=0 by omega),if_pos (show(T*2+1) / 2=T by omega)]
 ·rw[if_neg e1]
  by_cases e0:j=T*2
  ·subst e0
   rw[if_pos rfl,if_pos (show T*2 % 2=0 by omega),if_pos (show T*2 / 2=T by omega)]
  ·rw[if_neg e0,if_neg (show ¬j / 2=T by omega)]
structure MtAt (wF:World)(X G gm n N c cm:Nat)(z:Int)(aq:Option Addr)(s:Mt)(wr:World):Prop where
 ftl:wr.heap[X]?=some (.cells #[.int .i64 z,.slice aq n c,.slice (some ⟨gm,0,none⟩) N cm,.int .i64 (-1),.int .i64 s.S] 29)
 stamps:Owned G (G+1) wr (some ⟨G,0,none⟩) N (fun j=>.int .i64 (stAt s.st j))
 map:OwnPlaces gm (gm+1) wr (some ⟨gm,0,none⟩) N s.ps
 len:s.st.length=N
 below:Below X wF wr
section
variable {wF:World}{X G gm n N c cm:Nat}{z:Int}{aq:Option Addr}{s:Mt}{wr w':World}
theorem MtAt.on (h:MtAt wF X G gm n N c cm z aq s wr)(hb:Below wr.heap.size wr w'):MtAt wF X G gm n N c cm z aq s w' :=
 ⟨block_on h.ftl hb,h.stamps.later hb h.stamps.1,h.map.later hb h.map.2.1,h.len,h.below.trans (hb.mono (Nat.le_of_lt (Array.getElem?_eq_some_iff.1 h.ftl).1))⟩
theorem MtAt.hit (h:MtAt wF X G gm n N c cm z aq s wr)(h1:X<G)(h2:G<gm){T:Nat}(hT:T<N)(sp x y:Int) :
  MtAt wF X G gm n N c cm z aq ⟨s.st.set T sp,s.ps.set T (x,y),s.S⟩ (((wr.setCell ⟨G,T,none⟩ (.int .i64 sp)).setCell ⟨gm,T*2,none⟩ (.int .i64 x)).setCell ⟨gm,T*2+1,none⟩ (.int .i64 y)):=by
 have hA1:=(Aside.refl G (G+1) wr).setCell (p:=⟨G,T,none⟩) (Nat.le_refl _) (Nat.lt_succ_self _) (.int .i64 sp)
 have hs1:=(h.stamps.set0 hT (.int .i64 sp)).congr (g:=fun j=>.int .i64 (stAt (s.st.set T sp) j)) (fun j _=>by
  show(if j=T then Value.int .i64 sp else .int .i64 (stAt s.st j))=_
  rw[stAt_set s.st sp (by rw[h.len];exact hT)]
  split<;>rfl)
 have hm1:=h.map.2.aside hA1 (by omega)
 have hx1:=(hA1.block X (Array.getElem?_eq_some_iff.1 h.ftl).1 (by omega)).trans h.ftl
 have hb1:=h.below.trans (hA1.below (B:=X) (by omega) (Nat.le_of_lt (Array.getElem?_eq_some_iff.1 h.ftl).1))
 generalize wr.setCell ⟨G,T,none⟩ (.int .i64 sp)=w1 at *
 have hA2:=((Aside.refl gm (gm+1) w1).setCell (p:=⟨gm,T*2,none⟩) (Nat.le_refl _) (Nat.lt_succ_self _) (.int .i64 x)).setCell (p:=⟨gm,T*2+1,none⟩) (Nat.le_refl _) (Nat.lt_succ_self _) (.int .i64 y)
 have hm2:=((hm1.set0 (show T*2<2*N by omega) (.int .i64 x)).set0 (show T*2+1<2*N by omega) (.int .i64 y)).congr (g:=cellP (s.ps.set T (x,y))) (fun j _=>cellP_setM s.ps x y (by rw[h.map.1];exact hT) j)
 exact⟨(hA2.block X (Array.getElem?_eq_some_iff.1 hx1).1 (by omega)).trans hx1,hs1.aside hA2 (by omega),⟨by rw[List.length_set];exact h.map.1,hm2⟩,by rw[List.length_set];exact h.len,hb1.trans (hA2.below (B:=X) (by omega) (Nat.le_of_lt (Array.getElem?_eq_some_iff.1 hx1).1))⟩
theorem MtAt.top (h:MtAt wF X G gm n N c cm z aq s wr)(h1:X<G)(h2:X<gm)(v:Int):MtAt wF X G gm n N c cm z aq ⟨s.st,s.ps,v⟩ (wr.setCell ⟨X,4,none⟩ (.int .i64 v)):=by
 have hA:=(Aside.refl X (X+1) wr).setCell (p:=⟨X,4,none⟩) (Nat.le_refl _) (Nat.lt_succ_self _) (.int .i64 v)
 exact⟨set_block h.ftl 4 _ (by simp),h.stamps.aside hA (by omega),⟨h.map.1,h.map.2.aside hA (by omega)⟩,h.len,h.below.trans (hA.below (B:=X) (Nat.le_refl _) (Nat.le_of_lt (Array.getElem?_eq_some_iff.1 h.ftl).1))⟩
end
set_option maxHeartbeats 6400000 in
theorem l11Mount_any (z:Int)(a:Option Addr)(n cap:Nat)(qs:List Sq)(N:Nat)(w:World){lo hi:Nat}(h:Squares lo hi w a n qs)(hhi:hi<=w.heap.size)(hok:chipOk z qs=true)(hN1:1<=N)(hN64:N<=64) :
  Calls Tryz.prog 73 #[.agg #[.int .i64 z,.slice a n cap],.int .i64 (N:Int)] w fun e w'=>∃v,e=.returned v∧FtlAns w ⟨z,qs,(mtAll N qs).ps,-1,(mtAll N qs).S⟩ v w':=by
 obtain⟨fv,hfv⟩:∃fv:Fv,fv=⟨z,qs,(mtAll N qs).ps,-1,(mtAll N qs).S⟩:=⟨_,rfl⟩
 have HFV:=hide hfv
 rw[<- hfv]
 clear hfv
 have HLQ:=hide h.1
 have hn1:1<=n:=by have:=(chipOk_parts hok).2.2.1;rw[h.1] at this;exact this
 have hn12:n<=12:=by have:=(chipOk_parts hok).2.2.2.1;rw[h.1] at this;exact this
 obtain⟨wA,hwA⟩:∃wA,wA=(w.alloc (.cells #[.int .i64 z,.slice a n cap] 26)).alloc (.cells #[.int .i64 0,.slice none 0 0,.slice none 0 0,.int .i64 0,.int .i64 0] 29):=⟨_,rfl⟩
 have hzA:wA.heap.size=w.heap.size+1+1:=by rw[hwA];simp
 have HBA:Hid (Below w.heap.size w wA):=by rw[hwA];exact((Below.refl _ _).alloc (Nat.le_refl _) _).alloc (by simp) _
 have H0:Hid (wA.heap[w.heap.size]?=some (.cells #[.int .i64 z,.slice a n cap] 26)):=by rw[hwA];exact heap_old (heap_new _ _)
 have H1:Hid (wA.heap[w.heap.size+1]?=some (.cells #[.int .i64 0,.slice none 0 0,.slice none 0 0,.int .i64 0,.int .i64 0] 29)):=by rw[hwA];exact heap_at (by simp)
 have HSQ:=hide h
 have HOK:=hide hok
 clear h hok
 obtain⟨d0,d1⟩:=two_cells H0.out
 go_enter Tryz.func73,Tryz.ntmps73
 go_wp2_with fail
 rw[<- hwA]
 clear hwA
 refine(l8Copy_any z a n cap qs wA (HSQ.out.later HBA.out hhi) (by omega) HOK.out).mono ?_
 rintro e w1 ⟨g,c,A,C,rfl,hG,b1⟩
 obtain⟨wF,hwF⟩:∃wF,wF=w1.alloc (.cells #[.int .i64 z,.slice (some ⟨g,0,none⟩) n c,.slice none 0 0,.int .i64 (-1),.int .i64 0] 29):=⟨_,rfl⟩
 have HZF:Hid (wF.heap.size=w1.heap.size+1):=by show _=_;rw[hwF];simp
 have HBF:Hid (Below w1.heap.size w1 wF):=by rw[hwF];exact(Below.refl _ _).alloc (Nat.le_refl _) _
 have HF:Hid (wF.heap[w1.heap.size]?=some (.cells #[.int .i64 z,.slice (some ⟨g,0,none⟩) n c,.slice none 0 0,.int .i64 (-1),.int .i64 0] 29)):=by rw[hwF];exact heap_new _ _
 have K0:=hide (block_on (block_on H0.out b1) HBF.out)
 have K1:=hide (block_on (block_on H1.out b1) HBF.out)
 have HOW:=hide (hG.own.later HBF.out (Nat.le_refl _))
 have HB1:=hide (below_here (below_here HBA.out b1) HBF.out)
 have hs1:=b1.size
 have hg1:=hG.atG
 have hg2:g<w1.heap.size:=by have:=hG.row.1;omega
 clear hG b1 HBF H0 H1 HBA d0 d1
 have hmk:=run_make_row' (P:=Tryz.prog) 58 2 (.int .i64 0) 8 Tryz.underlying58 Tryz.infoI64 rfl .i64 .i64 N (by omega) (by omega)
 obtain⟨wS,hwS⟩:∃wS,wS=wF.alloc (.cells (madeCells #[.int .i64 0] N) 2):=⟨_,rfl⟩
 have HBS:Hid (Below wF.heap.size wF wS):=by rw[hwS];exact(Below.refl _ _).alloc (Nat.le_refl _) _
 have HSS:Hid (Owned wF.heap.size (wF.heap.size+1) wS (some ⟨wF.heap.size,0,none⟩) N (fun _=>.int .i64 0)):=by
  rw[hwS]
  have hr:=World.rowIs_made wF (.int .i64 0) N 2
  refine⟨by simp,fun _=>⟨wF.heap.size,0,rfl,Nat.le_refl _,Nat.lt_succ_self _,fun j hj=>⟨?_,?_⟩⟩⟩
  ·rw[Nat.zero_add];exact hr.cell hj
  ·rw[Nat.zero_add];exact hr.frozen j
 have HFS:=hide (block_on HF.out HBS.out)
 go_upto_region 3 with fail
 rw[<- hwF]
 rw[<- hwS]
 have hzF:=HZF.out
 rw[<- hzF]
 obtain⟨X,hX⟩:∃X,X=w1.heap.size:=⟨_,rfl⟩
 obtain⟨G,hG⟩:∃G,G=wF.heap.size:=⟨_,rfl⟩
 have hXG:X<G:=by omega
 have hXG2:G<=X+1:=by omega
 have hXw:w.heap.size+2<=X:=by omega
 have HXE:=hide hX
 have HGE:=hide hG
 rw[<- hX,<- hG]
 rw[<- hX] at HFS hg2 HOW
 rw[<- hG] at HSS HBS
 have hBS:=HBS.out
 clear hwF hwS hmk hX hG hzF HF HBS
 have HBX:Hid (Below X wF wS):=hBS.mono (by omega)
 clear hBS
 go_wp2_with fail
 go_loopw [7] (fun t wr=>∃k:Nat,k<=N∧t=.int .i64 (k:Int)∧∃am cm,PlOwn (G+1) wr (.slice am k cm) (List.replicate k (-1,0))∧wr.heap[X]?=some (.cells #[.int .i64 z,.slice (some ⟨g,0,none⟩) n c,.slice am k cm,.int .i64 (-1),.int .i64 0] 29)∧Owned G (G+1) wr (some ⟨G,0,none⟩) N (fun _=>.int .i64 0)∧Below X wF wr) (fun t _=>N-(intOf t).toNat)
 case atStart=>exact⟨0,Nat.zero_le _,rfl,none,0,⟨rfl,.inl ⟨rfl,rfl⟩⟩,HFS.out,HSS.out,HBX.out⟩
 case round =>
  obtain⟨k,hk,rfl,am,cm,hown,hf,hst,hbel⟩:=hrel
  have HO:=hide hown
  have HV:=hide hf
  have HST:=hide hst
  have HBL:=hide hbel
  have hXl:X<wr.heap.size:=(Array.getElem?_eq_some_iff.1 hf).1
  have hGl:G+1<=wr.heap.size:=hst.1
  clear hown hf hst hbel HFS HSS HBX
  by_cases hlt:k<N
  ·have hlt2:(k:Int)<(N:Int):=by omega
   obtain⟨i0,hi0,hzz0,hzz1,hzz2⟩:=info_parts Tryz.infoPl9
   obtain⟨y0,y1,y2,y3,y4⟩:=five_cells HV.out
   have HNX:Hid (some X≠(Value.slice am k cm).ownBlock):=fun e=>by
    have:=(World.ownsRow.lt HO.out X e.symm).1
    omega
   have HNG:Hid (some G≠(Value.slice am k cm).ownBlock):=fun e=>by
    have:=(World.ownsRow.lt HO.out G e.symm).1
    omega
   go_wp2_with fail
   go_region_law (first
    | (refine step_append_lies _ (by rfl) _ _ _ (by rfl) (G+1) 39 i0 (.agg #[.int .i64 0,.int .i64 0]) 2 16 Tryz.underlying27 hi0 hzz0 hzz1 hzz2 rfl (by decide) (.slice am k cm) k (plL (List.replicate k (-1,0))) (by rfl) HO5.out ⟨w4.heap.size,0,none⟩ 1 1 [.int .i64 (-1),.int .i64 0] (by rfl) rfl (two_news _ _ _ _) (two_oneI _ _) (by omega) (by unfold maxLen;omega) (by omega) (by simp;omega) (w4.heap.size+1) (by simp) ?_;intro g' c' w6 hown6 hgr6 hat6 hlt6;have c6:=(hgr6.cell_far ⟨X,2,none⟩ (by simp;omega) HNX.out).trans z2;have f6:=(hgr6.frozen_far ⟨X,2,none⟩ (by simp;omega) HNX.out).trans l2;have HO6:=hide hown6;have HR6:=hide hgr6;clear hown6 hgr6 hat6)
    | (go_simp;go_at_call 69;refine(l9None_any _).mono ?_;rintro e w4 ⟨rfl,b4⟩;have B4:Hid (Below wr.heap.size wr w4):=⟨b4.os,b4.tape,b4.output,b4.size,b4.block⟩;have hs4:=B4.out.size;have V4:=hide (block_on HV.out B4.out);obtain⟨x0,x1,x2,x3,x4⟩:=five_cells V4.out;have HBA4:=hide ((Below.refl w4.heap.size w4).alloc (Nat.le_refl _) (.cells #[.int .i64 (-1),.int .i64 0] 39));have V5:=hide (block_on V4.out HBA4.out);obtain⟨z0,z1,z2,z3,z4⟩:=five_cells V5.out;have l2:=four_frozen V5.out 2;have HO5:Hid (World.ownsRow (w4.alloc (.cells #[.int .i64 (-1),.int .i64 0] 39)) (G+1) 39 2 (.slice am k cm) k (plL (List.replicate k (-1,0)))):=(by have h9:=own_keepBy (own_keepBy HO.out (grown_below B4.out none) (fun k e=>by cases e)) (grown_below HBA4.out none) (fun k e=>by cases e);rw[List.length_replicate] at h9;exact h9);dsimp only))
   all_goals
    have HA1:=hide ((Aside.refl X (X+1) w6).setCell (p:=⟨X,2,none⟩) (Nat.le_refl _) (Nat.lt_succ_self _) (.slice (some ⟨g',0,none⟩) (k+1) c'))
    have HON:Hid (PlOwn (G+1) (w6.setCell ⟨X,2,none⟩ (.slice (some ⟨g',0,none⟩) (k+1) c')) (.slice (some ⟨g',0,none⟩) (k+1) c') (List.replicate (k+1) (-1,0))):=by
     have h9:=HO6.out
     rw[plL_snoc (List.replicate k (-1,0)) (-1,0),rep_snoc] at h9
     have h8:=own_aside2 h9 HA1.out (by omega)
     show World.ownsRow _ _ _ _ _ _ _
     rw[List.length_replicate]
     exact h8
    have HXN:Hid ((w6.setCell ⟨X,2,none⟩ (.slice (some ⟨g',0,none⟩) (k+1) c')).heap[X]?=some (.cells #[.int .i64 z,.slice (some ⟨g,0,none⟩) n c,.slice (some ⟨g',0,none⟩) (k+1) c',.int .i64 (-1),.int .i64 0] 29)) :=
     set_block ((HR6.out.block X (by simp;omega) HNX.out).trans V5.out) 2 _ (by simp)
    have HSN:Hid (Owned G (G+1) (w6.setCell ⟨X,2,none⟩ (.slice (some ⟨g',0,none⟩) (k+1) c')) (some ⟨G,0,none⟩) N (fun _=>.int .i64 0)) :=
     ((((HST.out.later B4.out hGl).later HBA4.out (by omega)).of HR6.out.size (fun j j1 j2=>HR6.out.block j (by simp;omega) (by rw[show j=G by omega];exact HNG.out))).aside HA1.out (by omega))
    have HBN:Hid (Below X wF (w6.setCell ⟨X,2,none⟩ (.slice (some ⟨g',0,none⟩) (k+1) c'))):=by
     have hbg:Below X (w4.alloc (.cells #[.int .i64 (-1),.int .i64 0] 39)) w6:=⟨HR6.out.os,HR6.out.tape,HR6.out.output,HR6.out.size,fun q hq=>HR6.out.block q (by simp;omega) (fun e=>by have:=(World.ownsRow.lt HO5.out q e.symm).1;omega)⟩
     exact(((HBL.out.trans (B4.out.mono (Nat.le_of_lt hXl))).trans (HBA4.out.mono (by omega))).trans hbg).setCell (p:=⟨X,2,none⟩) (Nat.le_refl _) _
    go_wp2_with fail
    exact⟨⟨k+1,by omega,by go_num,some ⟨g',0,none⟩,c',HON.out,HXN.out,HSN.out,HBN.out⟩,by simp[intOf];omega⟩
  ·obtain rfl:k=N:=by omega
   obtain⟨gm,cm',e9,_⟩:=pl_some HO.out (by rw[List.length_replicate];omega)
   simp only[Value.slice.injEq] at e9
   obtain⟨rfl,e8,rfl⟩:=e9
   clear e8
   obtain⟨hop,hm1,hm2⟩:=own_places_of HO.out
   have hcap:=pl_cap HO.out
   rw[List.length_replicate] at hop hcap
   have HMA:Hid (MtAt wF X G gm n k c cm z (some ⟨g,0,none⟩) (mtSqs k qs 0) wr):=⟨HV.out,HST.out.congr (fun j _=>by
    show Value.int .i64 0=.int .i64 (stAt (List.replicate k 0) j)
    unfold stAt
    rw[List.getD_eq_getElem?_getD,List.getElem?_replicate]
    split<;>rfl),hop,List.length_replicate,HBL.out⟩
   have hGm:G<gm:=by omega
   have HCAP:=hide hcap
   clear hop hcap HO HV HST HBL hm1
   have HAL:Hid (fv=⟨z,qs,(mtSqs k qs n).ps,-1,(mtSqs k qs n).S⟩):=by show _=_;rw[HFV.out];unfold mtAll;rw[HLQ.out]
   clear HFV
   obtain⟨hlq0,AQ,CQ,hx0,ht0⟩:=HSQ.out
   obtain⟨bq,off,ha0,hb1',hb2',hcq⟩:=hx0.2 (by omega)
   have hbq:bq<w.heap.size:=by have:=hx0.1;omega
   have HCQ:∀i w',Hid (i<n->Below w.heap.size w w'->w'.cell? ⟨bq,off+i*3,none⟩=some (.slice (AQ i) (sqAt qs i).1.length (CQ i))):=fun i w' hi hb=>(sq_cells hcq hb hbq hi).1
   have HTQ:∀i,Hid (i<n->Texts lo hi w (AQ i) (sqAt qs i).1.length (sqAt qs i).1):=fun i hi=>ht0 i hi
   have HWB:∀wr,Hid (Below X wF wr->Below w.heap.size w wr):=fun wr hb=>HB1.out.trans (hb.mono (by omega))
   clear hx0 ht0 hcq hb1' hb2' hlq0
   subst ha0
   go_wp2_with fail
   go_loopw [8] (fun t wq=>∃i:Nat,i<=n∧t=.int .i64 (i:Int)∧MtAt wF X G gm n k c cm z (some ⟨g,0,none⟩) (mtSqs k qs i) wq) (fun t _=>n-(intOf t).toNat)
   case atStart=>exact⟨0,Nat.zero_le _,rfl,HMA.out⟩
   case round =>
    obtain⟨i,hi,rfl,hM⟩:=hrel
    have HM:=hide hM
    clear hM HMA
    obtain⟨d0,d1⟩:=two_cells ((HM.out.below.block _ (by omega)).trans K0.out)
    by_cases hil:i<n
    ·have hil2:(i:Int)<(n:Int):=by omega
     have hql:i<qs.length:=by rw[HLQ.out];exact hil
     have hl8:(sqAt qs i).1.length<=8:=by
      have h1:=(sqOk_parts (chipOk_at HOK.out hql)).1
      have h2:=(chipOk_parts HOK.out).2.1
      omega
     have HTS:Hid (∀s∈(sqAt qs i).1,1<=s.size∧s.size<=200):=(sqOk_parts (chipOk_at HOK.out hql)).2.2.2
     obtain⟨L,hL⟩:∃L,L=(sqAt qs i).1.length:=⟨_,rfl⟩
     have HL:=hide hL
     rw[<- hL] at hl8
     have HNX:Hid (mtSqs k qs (i+1)=mtPages k qs i (mtSqs k qs i) L):=by show _=_;rw[hL];rfl
     obtain⟨s0,hs0⟩:∃s0,s0=mtSqs k qs i:=⟨_,rfl⟩
     rw[<- hs0] at HM HNX
     clear hs0 hL
     go_wp2_with fail
     go_loopw [9] (fun t wq=>∃j:Nat,j<=L∧t=.int .i64 (j:Int)∧MtAt wF X G gm n k c cm z (some ⟨g,0,none⟩) (mtPages k qs i s0 j) wq) (fun t _=>L-(intOf t).toNat)
     case atStart=>exact⟨0,Nat.zero_le _,rfl,HM.out⟩
     case round =>
      obtain⟨j,hj,rfl,hM⟩:=hrel
      have HP:=hide hM
      clear hM HM d0 d1
      obtain⟨d0,d1⟩:=two_cells ((HP.out.below.block _ (by omega)).trans K0.out)
      have hwb:=(HWB wr).out HP.out.below
      have cq:=(HCQ i wr).out hil hwb
      rw[<- HL.out] at cq
      by_cases hjl:j<L
      ·have hjl2:(j:Int)<(L:Int):=by omega
       have HTL:=hide ((HTQ i).out hil)
       rw[<- HL.out] at HTL
       obtain⟨pb,po,hap,hp1,hp2,hpc⟩:=HTL.out.2.2 (by omega)
       have cp:wr.cell? ⟨pb,po+j,none⟩=some (.string (txAt qs i j)):=by
        rw[hwb.cell (p:=⟨pb,po+j,none⟩) (show pb<w.heap.size by omega),hpc j hjl]
        rfl
       rw[hap] at cq
       have htz:(txAt qs i j).size<=200:=by
        refine(HTS.out (txAt qs i j) ?_).2
        have:=HL.out
        unfold txAt
        rw[List.getD_eq_getElem?_getD,List.getElem?_eq_getElem (by omega)]
        exact List.getElem_mem _
       have HNJ:Hid (mtPages k qs i s0 (j+1)=mtOne k i j (lyP (txAt qs i j)) (mtPages k qs i s0 j)):=rfl
       have HLW:=hide (fun h=>lyP_well (s:=txAt qs i j) h)
       obtain⟨tx,htx⟩:∃tx,tx=txAt qs i j:=⟨_,rfl⟩
       rw[<- htx] at cp htz HNJ HLW
       obtain⟨r,hr⟩:∃r,r=lyP tx:=⟨_,rfl⟩
       have HLY:=hide (specLying_any tx wr (by omega))
       rw[<- hr] at HNJ HLY HLW
       obtain⟨kd,at_,sp,xx,how⟩:=r
       unfold lyV at HLY
       dsimp only at HLY HLW
       obtain⟨s1,hs1'⟩:∃s1,s1=mtPages k qs i s0 j:=⟨_,rfl⟩
       rw[<- hs1'] at HP HNJ
       clear htx hr hap hp1 hp2 hpc HTL hs1'
       go_wp2_with fail
       refine HLY.out.mono ?_
       rintro e w2 ⟨rfl,b2⟩
       have HP2:=hide (HP.out.on b2)
       clear b2 HP HLY cp cq d0 d1 hwb
       obtain⟨wP,hwP⟩:∃wP,wP=w2.alloc (.cells #[.int .i64 kd,.int .i64 at_,.int .i64 sp,.string xx] 31):=⟨_,rfl⟩
       have HBP:Hid (Below w2.heap.size w2 wP):=by rw[hwP];exact(Below.refl _ _).alloc (Nat.le_refl _) _
       have HPG:Hid (wP.heap[w2.heap.size]?=some (.cells #[.int .i64 kd,.int .i64 at_,.int .i64 sp,.string xx] 31)):=by rw[hwP];exact heap_new _ _
       have HPP:=hide (HP2.out.on HBP.out)
       have hX2:gm<w2.heap.size:=by have:=HP2.out.map.2.1;omega
       clear HP2 HBP
       go_upto_region 14 with fail
       rw[<- hwP]
       clear hwP
       obtain⟨p0,p1,p2,p3⟩:=four_cells HPG.out
       go_wp2_with fail
       refine(l7Well_any how wP).mono ?_
       rintro e w3 ⟨rfl,rfl⟩
       cases hwl:lyWell how with
       | false =>
        have HE:Hid (mtOne k i j (kd,at_,sp,xx,how) s1=s1):=by show _=_;unfold mtOne mtHit;dsimp only;rw[hwl];rfl
        go_wp2_with fail
        exact⟨⟨j+1,by omega,by go_num,by rw[HNJ.out,HE.out];exact HPP.out⟩,by simp[intOf];omega⟩
       | true =>
        obtain⟨q1,q2,q3,q4⟩:=HLW.out hwl
        obtain⟨T,rfl⟩:∃T:Nat,at_=(T:Int):=⟨at_.toNat,by omega⟩
        by_cases hTk:T<k
        ·have hge:decide ((k:Int)<=(T:Int))=false:=by simp;omega
         have HHT:Hid (mtHit k (kd,(T:Int),sp,xx,how)=true):=by show _=_;unfold mtHit;dsimp only;rw[hwl];simp;omega
         obtain⟨t1,_,_,_⟩:=HPP.out.stamps.place hTk
         rw[Nat.zero_add] at t1
         obtain⟨v,hv⟩:∃v,v=stAt s1.st T:=⟨_,rfl⟩
         rw[<- hv] at t1
         have hTk2:(T:Int)<(k:Int):=by omega
         have HVE:=hide hv
         clear hv
         go_upto_region 15 with fail
         go_cut [75] (fun d wx=>d=.bool (decide (v<sp))∧Below wP.heap.size wP wx)
         case first =>
          go_region
          go_wp2_with fail
          go_meet
          exact⟨rfl,(Below.refl _ _).drew⟩
         case rest =>
          obtain⟨rfl,hbw⟩:=hcut
          obtain⟨w4,hw4⟩:∃w4,w4=wc:=⟨_,rfl⟩
          subst hw4
          have HP4:=hide (HPP.out.on hbw)
          have PG4:=hide (block_on HPG.out hbw)
          have hs4:=hbw.size
          have hX4:w2.heap.size<w4.heap.size:=(Array.getElem?_eq_some_iff.1 PG4.out).1
          clear hbw HPP HPG p0 p1 p2 p3 t1
          by_cases hsv:v<sp
          ·have hsd:decide (v<sp)=true:=by simpa using hsv
           have HE:Hid (mtOne k i j (kd,(T:Int),sp,xx,how) s1=⟨s1.st.set T sp,s1.ps.set T ((i:Int),(j:Int)),if sp<s1.S then s1.S else sp⟩):=by
            show _=_
            unfold mtOne
            rw[HHT.out,if_pos rfl]
            dsimp only
            rw[Int.toNat_natCast,<- HVE.out,if_pos hsv]
            rfl
           obtain⟨t1,tf1,_,_⟩:=HP4.out.stamps.place hTk
           rw[Nat.zero_add] at t1 tf1
           obtain⟨p0,p1,p2,p3⟩:=four_cells PG4.out
           obtain⟨w5,hw5⟩:∃w5,w5=w4.setCell ⟨G,T,none⟩ (.int .i64 sp):=⟨_,rfl⟩
           have HA5:Hid (Aside G (G+1) w4 w5):=by rw[hw5];exact(Aside.refl G (G+1) w4).setCell (p:=⟨G,T,none⟩) (Nat.le_refl _) (Nat.lt_succ_self _) _
           go_upto_region 17 with fail
           rw[<- hw5]
           have HH:=hide (HP4.out.hit hXG hGm hTk sp (i:Int) (j:Int))
           rw[<- hw5] at HH
           have PG5:Hid (w5.heap[w2.heap.size]?=some (.cells #[.int .i64 kd,.int .i64 (T:Int),.int .i64 sp,.string xx] 31)):=(HA5.out.block _ hX4 (by omega)).trans PG4.out
           have FT5:Hid (w5.heap[X]?=some (.cells #[.int .i64 z,.slice (some ⟨g,0,none⟩) n c,.slice (some ⟨gm,0,none⟩) k cm,.int .i64 (-1),.int .i64 s1.S] 29)):=(HA5.out.block _ (Array.getElem?_eq_some_iff.1 HP4.out.ftl).1 (by omega)).trans HP4.out.ftl
           obtain⟨m1,n1,_,_⟩:=(HP4.out.map.2.aside HA5.out (by omega)).place (show T*2<2*k by omega)
           obtain⟨m2,n2,_,_⟩:=(HP4.out.map.2.aside HA5.out (by omega)).place (show T*2+1<2*k by omega)
           rw[Nat.zero_add] at m1 n1 m2 n2
           clear p0 p1 p2 p3 t1 tf1 hw5
           obtain⟨p0,p1,p2,p3⟩:=four_cells PG5.out
           obtain⟨x0,x1,x2,x3,x4⟩:=five_cells FT5.out
           have PG6:Hid (((w5.setCell ⟨gm,T*2,none⟩ (.int .i64 (i:Int))).setCell ⟨gm,T*2+1,none⟩ (.int .i64 (j:Int))).heap[w2.heap.size]?=some (.cells #[.int .i64 kd,.int .i64 (T:Int),.int .i64 sp,.string xx] 31)):=set_other (set_other PG5.out (by omega) _) (by omega) _
           obtain⟨w6,hw6⟩:∃w6,w6=(w5.setCell ⟨gm,T*2,none⟩ (.int .i64 (i:Int))).setCell ⟨gm,T*2+1,none⟩ (.int .i64 (j:Int)):=⟨_,rfl⟩
           go_upto_region 18 with fail
           rw[<- hw6]
           rw[<- hw6] at HH PG6
           clear hw6 p0 p1 p2 p3 x0 x1 x2 x3 x4 m1 n1 m2 n2
           obtain⟨p0,p1,p2,p3⟩:=four_cells PG6.out
           obtain⟨x0,x1,x2,x3,x4⟩:=five_cells HH.out.ftl
           have xf:=four_frozen HH.out.ftl 4
           dsimp only at x4
           go_wp2_with fail
           refine(l1Max_any s1.S sp w6).mono ?_
           rintro e w7 ⟨rfl,rfl⟩
           have HTP:=hide (HH.out.top hXG (by omega) (if sp<s1.S then s1.S else sp))
           obtain⟨mx,hmx⟩:∃mx,mx=(if sp<s1.S then s1.S else sp):=⟨_,rfl⟩
           rw[<- hmx]
           rw[<- hmx] at HTP HE
           clear hmx
           go_wp2_with fail
           exact⟨⟨j+1,by omega,by go_num,by rw[HNJ.out,HE.out];exact HTP.out⟩,by simp[intOf];omega⟩
          ·have hsd:decide (v<sp)=false:=by simpa using hsv
           have HE:Hid (mtOne k i j (kd,(T:Int),sp,xx,how) s1=⟨s1.st,s1.ps,if sp<s1.S then s1.S else sp⟩):=by
            show _=_
            unfold mtOne
            rw[HHT.out,if_pos rfl]
            dsimp only
            rw[Int.toNat_natCast,<- HVE.out,if_neg hsv]
            rfl
           obtain⟨p0,p1,p2,p3⟩:=four_cells PG4.out
           obtain⟨x0,x1,x2,x3,x4⟩:=five_cells HP4.out.ftl
           have xf:=four_frozen HP4.out.ftl 4
           go_wp2_with fail
           refine(l1Max_any s1.S sp w4).mono ?_
           rintro e w7 ⟨rfl,rfl⟩
           have HTP:=hide (HP4.out.top hXG (by omega) (if sp<s1.S then s1.S else sp))
           obtain⟨mx,hmx⟩:∃mx,mx=(if sp<s1.S then s1.S else sp):=⟨_,rfl⟩
           rw[<- hmx]
           rw[<- hmx] at HTP HE
           clear hmx
           go_wp2_with fail
           exact⟨⟨j+1,by omega,by go_num,by rw[HNJ.out,HE.out];exact HTP.out⟩,by simp[intOf];omega⟩
        ·have hge:(k:Int)<=(T:Int):=by omega
         have HE:Hid (mtOne k i j (kd,(T:Int),sp,xx,how) s1=s1):=by show _=_;unfold mtOne mtHit;dsimp only;rw[hwl];simp;omega
         go_wp2_with fail
         exact⟨⟨j+1,by omega,by go_num,by rw[HNJ.out,HE.out];exact HPP.out⟩,by simp[intOf];omega⟩
      ·obtain rfl:j=L:=by omega
       go_wp2_with fail
       exact⟨⟨i+1,by omega,by go_num,by rw[HNX.out];exact HP.out⟩,by simp[intOf];omega⟩
    ·obtain rfl:i=n:=by omega
     have KR:Hid (wr.heap[w.heap.size+1]?=some (.cells #[.int .i64 0,.slice none 0 0,.slice none 0 0,.int .i64 0,.int .i64 0] 29)):=(HM.out.below.block _ (by omega)).trans K1.out
     have HMO:=hide (mtSqs_ok (n:=k) (qs:=qs) i (by rw[HLQ.out];exact Nat.le_refl _))
     have HPL:=hide HM.out.map
     obtain⟨s2,hs2⟩:∃s2,s2=mtSqs k qs i:=⟨_,rfl⟩
     rw[<- hs2] at HM HAL HPL HMO
     clear hs2
     have hXr:X<wr.heap.size:=(Array.getElem?_eq_some_iff.1 HM.out.ftl).1
     have HRS:=hide (five_set KR.out (.int .i64 z) (.slice (some ⟨g,0,none⟩) i c) (.slice (some ⟨gm,0,none⟩) k cm) (.int .i64 (-1)) (.int .i64 s2.S))
     have HAS:=hide (five_aside (b:=w.heap.size+1) (Aside.refl (w.heap.size+1) (w.heap.size+1+1) wr) (Nat.le_refl _) (Nat.lt_succ_self _) (.int .i64 z) (.slice (some ⟨g,0,none⟩) i c) (.slice (some ⟨gm,0,none⟩) k cm) (.int .i64 (-1)) (.int .i64 s2.S))
     have HBE:=hide (((HWB wr).out HM.out.below).trans (HAS.out.below (B:=w.heap.size) (by omega) (by omega)))
     have HOF:Hid (FtlOwn wA.heap.size wr.heap.size wr (some ⟨g,0,none⟩) (some ⟨gm,0,none⟩) qs s2.ps):=by
      have hq:=HLQ.out
      have hp:=HPL.out.1
      have hgr:=HOW.out.later HM.out.below (Nat.le_refl _)
      refine⟨Nat.le_refl _,.inr ⟨g,0,A,C,fun i=>(oB (A i)).getD g,gm,?_,by rw[hp];exact HPL.out,by omega,by have:=HPL.out.2.1;omega,by omega,fun q hq' h0 e=>?_⟩⟩
      ·rw[hq];exact hgr.wide (Nat.le_refl _) (by omega) (Nat.le_refl _)
      ·have h9:=(hgr.atP q (by omega)).2
       dsimp only at h9 e
       omega
     obtain⟨p0,p1,p2,p3,p4⟩:=five_cells KR.out
     have f0:=four_frozen KR.out 0
     have f1:=four_frozen KR.out 1
     have f2:=four_frozen KR.out 2
     have f3:=four_frozen KR.out 3
     have f4:=four_frozen KR.out 4
     obtain⟨x0,x1,x2,x3,x4⟩:=five_cells HM.out.ftl
     go_wp2_with fail
     refine bodyPost_ret (results_cell rfl rfl (run_loadVar_row _ _ _ _ _ _ _ HRS.out Tryz.underlying29 rfl (by kernel_rfl))) rfl ⟨_,rfl,some ⟨g,0,none⟩,c,some ⟨gm,0,none⟩,cm,?_,?_,HBE.out,?_⟩
     ·rw[HAL.out];unfold fvV;dsimp only;rw[HLQ.out,HPL.out.1]
     ·rw[HAL.out]
      exact(HOF.out.aside HAS.out (.inl (by omega))).wide (by omega) HAS.out.size (Nat.le_refl _)
     ·rw[HAL.out];show s2.ps.length<=cm;rw[HPL.out.1];exact HCAP.out
end Go.Proofs.YtgjoepdfhadmcaaGreatDoor
