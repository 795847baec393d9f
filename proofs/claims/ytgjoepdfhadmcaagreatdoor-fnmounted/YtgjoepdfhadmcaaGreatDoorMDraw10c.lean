/- . -/
import Derived.Test.YtgjoepdfhadmcaaGreatDoorMFtlSpecH
import Derived.Test.YtgjoepdfhadmcaaGreatDoorMFtlSpecC
import Derived.Test.YtgjoepdfhadmcaaGreatDoorMDraw9
import Derived.Test.YtgjoepdfhadmcaaGreatDoorMWalkB1
import Derived.Deep.RegionHeld3
namespace Go.Proofs.YtgjoepdfhadmcaaGreatDoor
open Go.RowKit
set_option linter.unusedVariables false
set_option maxRecDepth 20000
def FtlDrawn (w:World)(p:Nat)(e:Ending)(w':World):Prop:=∃(z:Int) (qs:List Sq) (ps:List Pl) (op st:Int) (a:Option Addr) (n c:Nat) (am:Option Addr) (m cm:Nat),e=.returned (.agg #[.int .i64 z,.slice a n c,.slice am m cm,.int .i64 op,.int .i64 st])∧n<=13∧(∀x∈qs,sqFits x)∧Squares (w.heap.size+1) w'.heap.size w' a n qs∧Places (w.heap.size+1) w'.heap.size w' am m ps∧m<=200∧m<=cm∧Cur w' p∧Aside p (p+1) w w'
theorem squares_apart {lo hi n l r:Nat}{w w':World}{a:Option Addr}{qs:List Sq}(h:Squares lo hi w a n qs)(hb:Aside l r w w')(hB:r<=lo):Squares lo hi w' a n qs:=by
 obtain⟨h1,A,C,h2,h3⟩:=h
 exact⟨h1,A,C,h2.aside hb (.inr hB),fun i hi=>⟨(h3 i hi).1,(h3 i hi).2.aside hb (.inr hB)⟩⟩
theorem drawnF_end {w wr:World}{p n c m cm:Nat}{z op st:Int}{qs:List Sq}{ps:List Pl}{a am:Option Addr}(hR:wr.heap[w.heap.size]?=some zF)(hS:Squares (w.heap.size+1) wr.heap.size wr a n qs)(hP:Places (w.heap.size+1) wr.heap.size wr am m ps)(hc:Cur wr p)(hA:Aside p (p+1) w wr)(hpl:p<w.heap.size)(hn:n<=13)(hf:∀x∈qs,sqFits x)(hm:m<=200)(hcm:m<=cm) :
  (((((wr.setCell ⟨w.heap.size,0,none⟩ (.int .i64 z)).setCell ⟨w.heap.size,1,none⟩ (.slice a n c)).setCell ⟨w.heap.size,2,none⟩ (.slice am m cm)).setCell ⟨w.heap.size,3,none⟩ (.int .i64 op)).setCell ⟨w.heap.size,4,none⟩ (.int .i64 st)).heap[w.heap.size]?=some (.cells #[.int .i64 z,.slice a n c,.slice am m cm,.int .i64 op,.int .i64 st] 29) ∧
  FtlDrawn w p (.returned (.agg #[.int .i64 z,.slice a n c,.slice am m cm,.int .i64 op,.int .i64 st])) (((((wr.setCell ⟨w.heap.size,0,none⟩ (.int .i64 z)).setCell ⟨w.heap.size,1,none⟩ (.slice a n c)).setCell ⟨w.heap.size,2,none⟩ (.slice am m cm)).setCell ⟨w.heap.size,3,none⟩ (.int .i64 op)).setCell ⟨w.heap.size,4,none⟩ (.int .i64 st)):=by
 have hAS:=five_aside (b:=w.heap.size) (Aside.refl w.heap.size (w.heap.size+1) wr) (Nat.le_refl _) (Nat.lt_succ_self _) (.int .i64 z) (.slice a n c) (.slice am m cm) (.int .i64 op) (.int .i64 st)
 have hv:=five_set hR (.int .i64 z) (.slice a n c) (.slice am m cm) (.int .i64 op) (.int .i64 st)
 have hAF:=((((hA.set_new (g:=w.heap.size) (q:=0) (Nat.le_refl _) (.int .i64 z)).set_new (g:=w.heap.size) (q:=1) (Nat.le_refl _) (.slice a n c)).set_new (g:=w.heap.size) (q:=2) (Nat.le_refl _) (.slice am m cm)).set_new (g:=w.heap.size) (q:=3) (Nat.le_refl _) (.int .i64 op)).set_new (g:=w.heap.size) (q:=4) (Nat.le_refl _) (.int .i64 st)
 refine⟨hv,z,qs,ps,op,st,a,n,c,am,m,cm,rfl,hn,hf,?_,?_,hm,hcm,hc.aside hAS (by omega),hAF⟩
 ·exact squares_wide (squares_apart hS hAS (Nat.le_refl _)) (Nat.le_refl _) hAS.size (Nat.le_refl _)
 ·exact places_wide ⟨hP.1,hP.2.aside hAS (.inr (Nat.le_refl _))⟩ (Nat.le_refl _) hAS.size (Nat.le_refl _)
theorem texts_same {P0:Nat}{w w':World}{a:Option Addr}{n:Nat}{ts:List ByteArray}(h:OwnTexts P0 (P0+1) w a n ts){l:Nat}(hA:Aside l (l+1) w w')(hne:0<n->P0≠l):OwnTexts P0 (P0+1) w' a n ts:=by
 refine⟨h.1,Nat.le_trans h.2.1 hA.size,fun hn=>?_⟩
 have hne':=hne hn
 exact(h.2.aside hA (by omega)).2 hn
theorem turned_squares {lo hi n g off pb po:Nat}{w:World}{qs:List Sq}{A:Nat->Option Addr}{C P:Nat->Nat}{a:Option Addr}(h:OwnSqs lo hi w a n qs g off A C P)(hn:0<n)(hL:0<(sqAt qs 0).1.length)(hA0:A 0=some ⟨pb,po,none⟩)(hP0:pb=P 0)(t:ByteArray) :
  Squares lo (w.setCell ⟨pb,po,none⟩ (.string t)).heap.size (w.setCell ⟨pb,po,none⟩ (.string t)) a n (qs.set 0 ((sqAt qs 0).1.set 0 t,(sqAt qs 0).2.1,(sqAt qs 0).2.2)):=by
 have hA:=(Aside.refl pb (pb+1) w).setCell (p:=⟨pb,po,none⟩) (Nat.le_refl _) (Nat.lt_succ_self _) (.string t)
 have hq:0<qs.length:=by rw[h.len];exact hn
 have hsq:∀q,sqAt (qs.set 0 ((sqAt qs 0).1.set 0 t,(sqAt qs 0).2.1,(sqAt qs 0).2.2)) q=if q=0 then((sqAt qs 0).1.set 0 t,(sqAt qs 0).2.1,(sqAt qs 0).2.2) else sqAt qs q:=fun q=>sqAt_set qs _ hq q
 have hP:=h.atP 0 hn
 have hgP:=h.apartG 0 hn hL
 have hsz:=hA.size
 have htop:=h.top
 refine⟨by rw[List.length_set];exact h.len,A,C,reads_wide (((h.row.aside hA (by omega)).congr (g:=cellQ A C (qs.set 0 ((sqAt qs 0).1.set 0 t,(sqAt qs 0).2.1,(sqAt qs 0).2.2))) (fun j _=>?_)).reads) h.atG.1 (by have:=h.atG.2;omega) (Nat.le_refl _),fun i hi=>?_⟩
 ·unfold cellQ
  rw[hsq]
  by_cases e:j / 3=0
  ·rw[if_pos e,e];simp
  ·rw[if_neg e]
 ·rw[hsq]
  by_cases e:i=0
  ·subst e
   rw[if_pos rfl]
   have h0:=h.pages 0 hn
   obtain⟨hl0,ho0⟩:=h0
   rw[hA0] at ho0
   have hs0:=(ho0.set (show 0<(sqAt qs 0).1.length from hL) (.string t))
   rw[Nat.add_zero] at hs0
   refine⟨rfl,?_⟩
   dsimp only
   rw[List.length_set,hA0]
   refine reads_wide ((hs0.congr (g:=cellT ((sqAt qs 0).1.set 0 t)) (fun j _=>?_)).reads) hP.1 (by omega) (Nat.le_refl _)
   unfold cellT
   simp only[List.getD_eq_getElem?_getD,List.getElem?_set]
   by_cases e2:j=0
   ·subst e2;simp[hL]
   ·rw[if_neg e2,if_neg (Ne.symm e2)]
  ·rw[if_neg e]
   have hi':=texts_same (h.pages i hi) hA (fun h0=>by rw[hP0];exact h.apartP i 0 hi hn e h0 hL)
   exact⟨hi'.1,reads_wide hi'.2.reads (h.atP i hi).1 (by have:=(h.atP i hi).2;omega) (Nat.le_refl _)⟩
set_option maxHeartbeats 6400000 in
theorem l10DrawAny_any (hd:JobDraws)(p:Nat)(w:World)(hc:Cur w p) :
  Calls Tryz.prog 93 #[.pointer (some ⟨p,0,none⟩)] w (FtlDrawn w p):=by
 have hpl:=hc.lt
 obtain⟨wA,hwA⟩:∃wA,wA=w.alloc zF:=⟨_,rfl⟩
 have hzA:wA.heap.size=w.heap.size+1:=by rw[hwA];simp
 have HC:=hide (hc.alloc zF)
 have HA:=hide ((Aside.refl p (p+1) w).alloc zF)
 have H1:=hide (heap_new w zF)
 rw[<- hwA] at HC HA H1
 have HJD:=hide hd
 clear hc hd
 go_enter Tryz.func93,Tryz.ntmps93
 go_wp2_with fail
 rw[<- hwA]
 clear hwA
 refine(l10Draw_any p wA HC.out).mono ?_
 rintro e w1 ⟨z,qs,ps,op,st,a,c,am,cm,rfl,ho,hcap,hok,c1,s1⟩
 obtain⟨wF,hwF⟩:∃wF,wF=w1.alloc (.cells #[.int .i64 z,.slice a qs.length c,.slice am ps.length cm,.int .i64 op,.int .i64 st] 29):=⟨_,rfl⟩
 have HBF:Hid (Below w1.heap.size w1 wF):=by rw[hwF];exact(Below.refl _ _).alloc (Nat.le_refl _) _
 have HV0:Hid (wF.heap[w1.heap.size]?=some (.cells #[.int .i64 z,.slice a qs.length c,.slice am ps.length cm,.int .i64 op,.int .i64 st] 29)):=by rw[hwF];exact heap_new _ _
 have HR0:=hide (block_on (aside_block s1 H1.out (by omega)) HBF.out)
 have HO0:=hide (ho.later HBF.out (Nat.le_refl _))
 have HC0:=hide (c1.below HBF.out c1.lt)
 have HA0:=hide ((HA.out.trans s1).trans (aside_new HBF.out))
 have hs1:=s1.size
 have HCAP:=hide hcap
 have HFI:=hide (chipOk_fits (mapOk_chip (ftlOk_map hok)))
 have HOK:=hide (mapOk_chip (ftlOk_map hok))
 have hq1:1<=qs.length:=(chipOk_parts (mapOk_chip (ftlOk_map hok))).2.2.1
 have hq12:qs.length<=12:=(chipOk_parts (mapOk_chip (ftlOk_map hok))).2.2.2.1
 have hp64:ps.length<=64:=(mapOk_len (ftlOk_map hok)).2
 clear ho hcap hok c1 s1 HBF H1 HA HC
 obtain⟨bF,hbF⟩:∃bF,bF=w1.heap.size:=⟨_,rfl⟩
 have HBE:=hide hbF
 clear hbF
 go_upto_region 2 with fail
 rw[<- hwF]
 clear hwF
 rw[<- HBE.out]
 rw[<- HBE.out] at HV0 HO0
 have hbw:w.heap.size+1<=bF:=by have:=HBE.out;omega
 clear HBE
 go_wp2_with fail
 refine(l1Once_any p 12 wF HC0.out (by omega)).mono ?_
 rintro e w2 ⟨b2,rfl,c2',s2⟩
 have HV:=hide (aside_block s2 HV0.out (by omega))
 have HR:=hide (aside_block s2 HR0.out (by omega))
 have HO:=hide (HO0.out.aside s2 (.inl (by omega)))
 have HA2:=hide (HA0.out.trans s2)
 have HC2:=hide c2'
 clear c2' s2 HV0 HR0 HO0 HC0 HA0
 have hS:Squares (w.heap.size+1) w2.heap.size w2 a qs.length qs:=squares_wide HO.out.squares (by omega) HO.out.1 (Nat.le_refl _)
 have hP:Places (w.heap.size+1) w2.heap.size w2 am ps.length ps:=places_wide HO.out.places (by omega) HO.out.1 (Nat.le_refl _)
 have HS:=hide hS
 have HP:=hide hP
 clear hS hP
 cases b2 with
 | false =>
  have HEN:=hide (drawnF_end (z:=z) (op:=op) (st:=st) (c:=c) HR.out HS.out HP.out HC2.out HA2.out hpl (by omega) HFI.out (by omega) HCAP.out)
  obtain⟨c0,c1,c2,c3,c4⟩:=five_cells HV.out
  obtain⟨p0,p1,p2,p3,p4⟩:=five_cells HR.out
  have f0:=four_frozen HR.out 0
  have f1:=four_frozen HR.out 1
  have f2:=four_frozen HR.out 2
  have f3:=four_frozen HR.out 3
  have f4:=four_frozen HR.out 4
  go_wp2_with fail
  exact bodyPost_ret (results_cell rfl rfl (run_loadVar_row _ _ _ _ _ _ _ HEN.out.1 Tryz.underlying29 rfl (by kernel_rfl))) rfl HEN.out.2
 | true =>
  go_wp2_with fail
  refine(l1Below_any p 5 w2 HC2.out (by omega)).mono ?_
  rintro e w3 ⟨x,rfl,x0,x1,c3',s3⟩
  have HN:=hide (aside_block s3 HV.out (by omega))
  clear HV
  have HV:=HN
  clear HN
  have HN:=hide (aside_block s3 HR.out (by omega))
  clear HR
  have HR:=HN
  clear HN
  have HN:=hide (HO.out.aside s3 (.inl (by omega)))
  clear HO
  have HO:=HN
  clear HN
  have HA3:=hide (HA2.out.trans s3)
  have HC3:=hide c3'
  clear c3' s3 HS HP HC2 HA2
  have hS:Squares (w.heap.size+1) w3.heap.size w3 a qs.length qs:=squares_wide HO.out.squares (by omega) HO.out.1 (Nat.le_refl _)
  have hP:Places (w.heap.size+1) w3.heap.size w3 am ps.length ps:=places_wide HO.out.places (by omega) HO.out.1 (Nat.le_refl _)
  have HS:=hide hS
  have HP:=hide hP
  clear hS hP
  rcases(show x=0∨x=1∨x=2∨x=3∨x=4 by omega) with rfl|rfl|rfl|rfl|rfl
  ·go_wp2_with fail
   refine(l1From_any p (-2) 7 w3 HC3.out (by omega) (by omega) (by omega) (by omega)).mono ?_
   rintro e w4 ⟨y,rfl,y0,y1,c4',s4⟩
   have HV4:=hide (aside_block s4 HV.out (by omega))
   have HR4:=hide (aside_block s4 HR.out (by omega))
   have HO4:=hide (HO.out.aside s4 (.inl (by omega)))
   have HA4:=hide (HA3.out.trans s4)
   have HC4:=hide c4'
   have hb4:bF<w4.heap.size:=(Array.getElem?_eq_some_iff.1 HV4.out).1
   have hs4:=s4.size
   have hb3:bF<w3.heap.size:=(Array.getElem?_eq_some_iff.1 HV.out).1
   clear c4' s4
   obtain⟨d0,d1,d2,d3,d4⟩:=five_cells HV4.out
   have df:=four_frozen HV4.out 3
   obtain⟨w5,hw5⟩:∃w5,w5=(w4.setCell ⟨bF,3,none⟩ (.int .i64 y)):=⟨_,rfl⟩
   have HV5:Hid (w5.heap[bF]?=some (.cells #[.int .i64 z,.slice a qs.length c,.slice am ps.length cm,.int .i64 y,.int .i64 st] 29)):=by rw[hw5];exact(set_block HV4.out 3 (.int .i64 y) (by simp))
   have HAS:Hid (Aside bF (bF+1) w4 w5):=by rw[hw5];exact((Aside.refl bF (bF+1) w4).setCell (p:=⟨bF,3,none⟩) (Nat.le_refl _) (Nat.lt_succ_self _) (.int .i64 y))
   have HR5:=hide (aside_block HAS.out HR4.out (.inl (by omega)))
   have HO5:=hide (HO4.out.aside HAS.out (.inr (Nat.le_refl _)))
   have HC5:=hide (HC4.out.aside HAS.out (by omega))
   have HA5:Hid (Aside p (p+1) w w5):=⟨HAS.out.os.trans HA4.out.os,HAS.out.tape.trans HA4.out.tape,HAS.out.output.trans HA4.out.output,Nat.le_trans HA4.out.size HAS.out.size,fun k hk hk'=>(HAS.out.block k (Nat.lt_of_lt_of_le hk HA4.out.size) (.inl (by omega))).trans (HA4.out.block k hk hk')⟩
   have hs5:=HAS.out.size
   have HEN:=hide (drawnF_end (z:=z) (op:=y) (st:=st) (c:=c) HR5.out (squares_wide HO5.out.squares (by omega) HO5.out.1 (Nat.le_refl _)) (places_wide HO5.out.places (by omega) HO5.out.1 (Nat.le_refl _)) HC5.out HA5.out hpl (by omega) HFI.out (by omega) HCAP.out)
   go_upto_region 16 with fail
   rw[<- hw5]
   clear hw5 d0 d1 d2 d3 d4 df
   obtain⟨c0,c1,c2,c3,c4⟩:=five_cells HV5.out
   obtain⟨p0,p1,p2,p3,p4⟩:=five_cells HR5.out
   have f0:=four_frozen HR5.out 0
   have f1:=four_frozen HR5.out 1
   have f2:=four_frozen HR5.out 2
   have f3:=four_frozen HR5.out 3
   have f4:=four_frozen HR5.out 4
   go_wp2_with fail
   exact bodyPost_ret (results_cell rfl rfl (run_loadVar_row _ _ _ _ _ _ _ HEN.out.1 Tryz.underlying29 rfl (by kernel_rfl))) rfl HEN.out.2
  ·obtain⟨wB,hwB⟩:∃wB,wB=w3.alloc (.cells #[.int .i64 (-1),.int .i64 0,.int .i64 1000000,.int .i64 1000001] 2):=⟨_,rfl⟩
   have HBB:Hid (Below w3.heap.size w3 wB):=by rw[hwB];exact(Below.refl _ _).alloc (Nat.le_refl _) _
   have HL4:Hid (wB.heap[w3.heap.size]?=some (.cells #[.int .i64 (-1),.int .i64 0,.int .i64 1000000,.int .i64 1000001] 2)):=by rw[hwB];exact heap_new _ _
   have hb3:bF<w3.heap.size:=(Array.getElem?_eq_some_iff.1 HV.out).1
   go_wp2_with fail
   rw[<- hwB]
   clear hwB
   refine(l1Below_any p 4 wB (HC3.out.below HBB.out HC3.out.lt) (by omega)).mono ?_
   rintro e w4 ⟨y,rfl,y0,y1,c4',s4⟩
   have HV4:=hide (aside_block s4 (block_on HV.out HBB.out) (by omega))
   have HR4:=hide (aside_block s4 (block_on HR.out HBB.out) (by omega))
   have HL5:=hide (aside_block s4 HL4.out (.inr (by have:=HC3.out.lt;omega)))
   have HO4:=hide ((HO.out.later HBB.out HO.out.1).aside s4 (.inl (by omega)))
   have HA4:=hide ((HA3.out.trans (aside_new HBB.out)).trans s4)
   have HC4:=hide c4'
   have hb4:bF<w4.heap.size:=(Array.getElem?_eq_some_iff.1 HV4.out).1
   have hs4:=s4.size
   clear c4' s4 HL4 HBB
   obtain⟨q0,q1,q2,q3⟩:=four_cells HL5.out
   obtain⟨J,rfl⟩:∃J:Nat,y=(J:Int):=⟨y.toNat,by omega⟩
   have hJ:J<4:=by omega
   have hJ2:(J:Int)<4:=by omega
   obtain⟨v,hv⟩:∃v:Int,w4.cell? ⟨w3.heap.size,J,none⟩=some (.int .i64 v):=by
    rcases(show J=0∨J=1∨J=2∨J=3 by omega) with rfl|rfl|rfl|rfl
    ·exact⟨_,q0⟩
    ·exact⟨_,q1⟩
    ·exact⟨_,q2⟩
    ·exact⟨_,q3⟩
   clear q0 q1 q2 q3
   obtain⟨d0,d1,d2,d3,d4⟩:=five_cells HV4.out
   have df:=four_frozen HV4.out 4
   obtain⟨w5,hw5⟩:∃w5,w5=(w4.setCell ⟨bF,4,none⟩ (.int .i64 v)):=⟨_,rfl⟩
   have HV5:Hid (w5.heap[bF]?=some (.cells #[.int .i64 z,.slice a qs.length c,.slice am ps.length cm,.int .i64 op,.int .i64 v] 29)):=by rw[hw5];exact(set_block HV4.out 4 (.int .i64 v) (by simp))
   have HAS:Hid (Aside bF (bF+1) w4 w5):=by rw[hw5];exact((Aside.refl bF (bF+1) w4).setCell (p:=⟨bF,4,none⟩) (Nat.le_refl _) (Nat.lt_succ_self _) (.int .i64 v))
   have HR5:=hide (aside_block HAS.out HR4.out (.inl (by omega)))
   have HO5:=hide (HO4.out.aside HAS.out (.inr (Nat.le_refl _)))
   have HC5:=hide (HC4.out.aside HAS.out (by omega))
   have HA5:Hid (Aside p (p+1) w w5):=⟨HAS.out.os.trans HA4.out.os,HAS.out.tape.trans HA4.out.tape,HAS.out.output.trans HA4.out.output,Nat.le_trans HA4.out.size HAS.out.size,fun k hk hk'=>(HAS.out.block k (Nat.lt_of_lt_of_le hk HA4.out.size) (.inl (by omega))).trans (HA4.out.block k hk hk')⟩
   have hs5:=HAS.out.size
   have HEN:=hide (drawnF_end (z:=z) (op:=op) (st:=v) (c:=c) HR5.out (squares_wide HO5.out.squares (by omega) HO5.out.1 (Nat.le_refl _)) (places_wide HO5.out.places (by omega) HO5.out.1 (Nat.le_refl _)) HC5.out HA5.out hpl (by omega) HFI.out (by omega) HCAP.out)
   go_upto_region 16 with fail
   rw[<- hw5]
   clear hw5 d0 d1 d2 d3 d4 df hv
   obtain⟨c0,c1,c2,c3,c4⟩:=five_cells HV5.out
   obtain⟨p0,p1,p2,p3,p4⟩:=five_cells HR5.out
   have f0:=four_frozen HR5.out 0
   have f1:=four_frozen HR5.out 1
   have f2:=four_frozen HR5.out 2
   have f3:=four_frozen HR5.out 3
   have f4:=four_frozen HR5.out 4
   go_wp2_with fail
   exact bodyPost_ret (results_cell rfl rfl (run_loadVar_row _ _ _ _ _ _ _ HEN.out.1 Tryz.underlying29 rfl (by kernel_rfl))) rfl HEN.out.2
  ·obtain⟨c0,c1,c2,c3,c4⟩:=five_cells HV.out
   have hb3':bF<w3.heap.size:=(Array.getElem?_eq_some_iff.1 HV.out).1
   go_wp2_with fail
   refine(l9DrawMap_any p z a qs.length c qs w3 HC3.out HS.out (by omega) (Nat.le_refl _) (by omega) (fun x hx=>by have:=chip_lens HOK.out x hx;omega)).mono ?_
   rintro e w4 ⟨a',m',k',ps',rfl,hmk,hm2,hP',c4',s4⟩
   have HPN:=hide hP'
   clear hP' c0 c1 c2 c3 c4
   have HV4:=hide (aside_block s4 HV.out (by omega))
   have HR4:=hide (aside_block s4 HR.out (by omega))
   have HO4:=hide (HO.out.aside s4 (.inl (by omega)))
   have HA4:=hide (HA3.out.trans s4)
   have HC4:=hide c4'
   have hb4:bF<w4.heap.size:=(Array.getElem?_eq_some_iff.1 HV4.out).1
   have hs4:=s4.size
   have hb3:bF<w3.heap.size:=(Array.getElem?_eq_some_iff.1 HV.out).1
   clear c4' s4
   obtain⟨d0,d1,d2,d3,d4⟩:=five_cells HV4.out
   have df:=four_frozen HV4.out 2
   obtain⟨w5,hw5⟩:∃w5,w5=(w4.setCell ⟨bF,2,none⟩ (.slice a' m' k')):=⟨_,rfl⟩
   have HV5:Hid (w5.heap[bF]?=some (.cells #[.int .i64 z,.slice a qs.length c,.slice a' m' k',.int .i64 op,.int .i64 st] 29)):=by rw[hw5];exact(set_block HV4.out 2 (.slice a' m' k') (by simp))
   have HAS:Hid (Aside bF (bF+1) w4 w5):=by rw[hw5];exact((Aside.refl bF (bF+1) w4).setCell (p:=⟨bF,2,none⟩) (Nat.le_refl _) (Nat.lt_succ_self _) (.slice a' m' k'))
   have HR5:=hide (aside_block HAS.out HR4.out (.inl (by omega)))
   have HO5:=hide (HO4.out.aside HAS.out (.inr (Nat.le_refl _)))
   have HC5:=hide (HC4.out.aside HAS.out (by omega))
   have HA5:Hid (Aside p (p+1) w w5):=⟨HAS.out.os.trans HA4.out.os,HAS.out.tape.trans HA4.out.tape,HAS.out.output.trans HA4.out.output,Nat.le_trans HA4.out.size HAS.out.size,fun k hk hk'=>(HAS.out.block k (Nat.lt_of_lt_of_le hk HA4.out.size) (.inl (by omega))).trans (HA4.out.block k hk hk')⟩
   have hs5:=HAS.out.size
   have HP5:Hid (Places (w.heap.size+1) w5.heap.size w5 a' m' ps'):=places_wide (⟨HPN.out.1,HPN.out.2.aside HAS.out (.inr (by omega))⟩:Places w3.heap.size w4.heap.size w5 a' m' ps') (by omega) hs5 (Nat.le_refl _)
   have HEN:=hide (drawnF_end (z:=z) (op:=op) (st:=st) (c:=c) HR5.out (squares_wide HO5.out.squares (by omega) HO5.out.1 (Nat.le_refl _)) HP5.out HC5.out HA5.out hpl (by omega) HFI.out (by omega) hmk)
   go_upto_region 16 with fail
   rw[<- hw5]
   clear hw5 d0 d1 d2 d3 d4 df
   obtain⟨c0,c1,c2,c3,c4⟩:=five_cells HV5.out
   obtain⟨p0,p1,p2,p3,p4⟩:=five_cells HR5.out
   have f0:=four_frozen HR5.out 0
   have f1:=four_frozen HR5.out 1
   have f2:=four_frozen HR5.out 2
   have f3:=four_frozen HR5.out 3
   have f4:=four_frozen HR5.out 4
   go_wp2_with fail
   exact bodyPost_ret (results_cell rfl rfl (run_loadVar_row _ _ _ _ _ _ _ HEN.out.1 Tryz.underlying29 rfl (by kernel_rfl))) rfl HEN.out.2
  ·go_wp2_with fail
   refine(l8DrawAny_any HJD.out p w3 HC3.out).mono ?_
   rintro e w4 ⟨z',a',n',k',qs',rfl,hn',hnk,hf',hl',hS',c4',s4⟩
   have HSN:=hide hS'
   have HFN:=hide hf'
   clear hS' hf' hl'
   have HV4:=hide (aside_block s4 HV.out (by omega))
   have HR4:=hide (aside_block s4 HR.out (by omega))
   have HO4:=hide (HO.out.aside s4 (.inl (by omega)))
   have HA4:=hide (HA3.out.trans s4)
   have HC4:=hide c4'
   have hb4:bF<w4.heap.size:=(Array.getElem?_eq_some_iff.1 HV4.out).1
   have hs4:=s4.size
   have hb3:bF<w3.heap.size:=(Array.getElem?_eq_some_iff.1 HV.out).1
   clear c4' s4
   obtain⟨d0,d1,d2,d3,d4⟩:=five_cells HV4.out
   have df:=four_frozen HV4.out 0
   have dg:=four_frozen HV4.out 1
   obtain⟨w5,hw5⟩:∃w5,w5=((w4.setCell ⟨bF,0,none⟩ (.int .i64 z')).setCell ⟨bF,1,none⟩ (.slice a' n' k')):=⟨_,rfl⟩
   have HV5:Hid (w5.heap[bF]?=some (.cells #[.int .i64 z',.slice a' n' k',.slice am ps.length cm,.int .i64 op,.int .i64 st] 29)):=by rw[hw5];exact(set_block (set_block HV4.out 0 (.int .i64 z') (by simp)) 1 (.slice a' n' k') (by simp))
   have HAS:Hid (Aside bF (bF+1) w4 w5):=by rw[hw5];exact(((Aside.refl bF (bF+1) w4).setCell (p:=⟨bF,0,none⟩) (Nat.le_refl _) (Nat.lt_succ_self _) (.int .i64 z')).setCell (p:=⟨bF,1,none⟩) (Nat.le_refl _) (Nat.lt_succ_self _) (.slice a' n' k'))
   have HR5:=hide (aside_block HAS.out HR4.out (.inl (by omega)))
   have HO5:=hide (HO4.out.aside HAS.out (.inr (Nat.le_refl _)))
   have HC5:=hide (HC4.out.aside HAS.out (by omega))
   have HA5:Hid (Aside p (p+1) w w5):=⟨HAS.out.os.trans HA4.out.os,HAS.out.tape.trans HA4.out.tape,HAS.out.output.trans HA4.out.output,Nat.le_trans HA4.out.size HAS.out.size,fun k hk hk'=>(HAS.out.block k (Nat.lt_of_lt_of_le hk HA4.out.size) (.inl (by omega))).trans (HA4.out.block k hk hk')⟩
   have hs5:=HAS.out.size
   have HS5:Hid (Squares (w.heap.size+1) w5.heap.size w5 a' n' qs'):=squares_wide (squares_apart HSN.out HAS.out (by omega)) (by omega) hs5 (Nat.le_refl _)
   have HEN:=hide (drawnF_end (z:=z') (op:=op) (st:=st) (c:=k') HR5.out HS5.out (places_wide HO5.out.places (by omega) HO5.out.1 (Nat.le_refl _)) HC5.out HA5.out hpl (by omega) HFN.out (by omega) HCAP.out)
   go_upto_region 16 with fail
   rw[<- hw5]
   clear hw5 d0 d1 d2 d3 d4 df dg
   obtain⟨c0,c1,c2,c3,c4⟩:=five_cells HV5.out
   obtain⟨p0,p1,p2,p3,p4⟩:=five_cells HR5.out
   have f0:=four_frozen HR5.out 0
   have f1:=four_frozen HR5.out 1
   have f2:=four_frozen HR5.out 2
   have f3:=four_frozen HR5.out 3
   have f4:=four_frozen HR5.out 4
   go_wp2_with fail
   exact bodyPost_ret (results_cell rfl rfl (run_loadVar_row _ _ _ _ _ _ _ HEN.out.1 Tryz.underlying29 rfl (by kernel_rfl))) rfl HEN.out.2
  ·have hOw:=HO.out
   obtain⟨hoh,⟨e1,_⟩|⟨g,off,A,C,P,gm,hOS,hOP,hgm1,hgm2,hgm3,hgm4⟩⟩:=hOw
   ·rw[e1] at hq1;simp at hq1
   obtain rfl:=hOS.addr (by omega)
   obtain⟨L,hL⟩:∃L,L=(sqAt qs 0).1.length:=⟨_,rfl⟩
   have q0:w3.cell? ⟨g,off,none⟩=some (.slice (A 0) L (C 0)):=by
    have h9:=(hOS.row.place (show 0<3*qs.length by omega)).1
    have h8:=cellQ0 A C qs 0
    rw[Nat.mul_zero] at h8
    rw[h8,<- hL] at h9
    exact h9
   have hg3:g<bF:=hOS.atG.2
   have hb3':bF<w3.heap.size:=(Array.getElem?_eq_some_iff.1 HV.out).1
   have hqn:(0:Int)<(qs.length:Int):=by omega
   obtain⟨c0,c1,c2,c3,c4⟩:=five_cells HV.out
   by_cases hL0:L=0
   ·subst hL0
    have HEN:=hide (drawnF_end (z:=z) (op:=op) (st:=st) (c:=c) HR.out HS.out HP.out HC3.out HA3.out hpl (by omega) HFI.out (by omega) HCAP.out)
    clear hL
    obtain⟨p0,p1,p2,p3,p4⟩:=five_cells HR.out
    have f0:=four_frozen HR.out 0
    have f1:=four_frozen HR.out 1
    have f2:=four_frozen HR.out 2
    have f3:=four_frozen HR.out 3
    have f4:=four_frozen HR.out 4
    go_wp2_with fail
    exact bodyPost_ret (results_cell rfl rfl (run_loadVar_row _ _ _ _ _ _ _ HEN.out.1 Tryz.underlying29 rfl (by kernel_rfl))) rfl HEN.out.2
   ·have hLp:0<(L:Int):=by omega
    have hpg:=hOS.pages 0 (by omega)
    obtain⟨pb,po,hA0,hb1,hb2,hpc⟩:=hpg.2.2 (by omega)
    have hpbP:pb=P 0:=by omega
    rw[hA0] at q0
    obtain⟨tx,htx⟩:∃tx,tx=(sqAt qs 0).1.getD 0 ByteArray.empty:=⟨_,rfl⟩
    have t0:w3.cell? ⟨pb,po,none⟩=some (.string tx):=by have h9:=(hpc 0 (by omega)).1;rw[Nat.add_zero] at h9;rw[h9,htx];rfl
    have tf:w3.frozen? ⟨pb,po,none⟩=false:=by have h9:=(hpc 0 (by omega)).2;rw[Nat.add_zero] at h9;exact h9
    have hpb3:pb<bF:=by have:=(hOS.atP 0 (by omega)).2;omega
    have hpbl:wA.heap.size+1<=pb:=by have:=(hOS.atP 0 (by omega)).1;omega
    have hgl:wA.heap.size+1<=g:=hOS.atG.1
    have htz:tx.size<=65536:=by
     have h8:=(sqOk_parts (chipOk_at HOK.out (show 0<qs.length by omega))).2.2.2 tx (by rw[htx,List.getD_eq_getElem?_getD,List.getElem?_eq_getElem (by omega)];exact List.getElem_mem _)
     omega
    have HOS:=hide hOS
    have HC3d:Hid (Cur w3.drew p):=HC3.out.below (Below.refl w3.heap.size w3).drew HC3.out.lt
    have hL0':0<(sqAt qs 0).1.length:=by omega
    have HLL:=hide hL
    have HOPP:=hide hOP
    have hgpb:gm≠pb:=by rw[hpbP];exact hgm4 0 (by omega) hL0'
    clear hOS hpc hpg hoh hOP hgm3 hgm4 hL htx
    go_upto_region 15 with fail
    have HPB:=hide hpbP
    clear hpbP
    go_region_with (go_at_call 148;refine(drawTurned_any p tx _ (by exact HC3d.out) htz).mono ?_;rintro e w4 ⟨t,rfl,htt,c4',s4'⟩;have s4:Aside p (p+1) w3 w4:=⟨s4'.os,s4'.tape,s4'.output,s4'.size,s4'.block⟩;have q4:=(World.cell?_of_block (a:=⟨g,off,none⟩) (s4.block g (by omega) (.inr (by omega)))).trans q0;have t4:=(World.cell?_of_block (a:=⟨pb,po,none⟩) (s4.block pb (by omega) (.inr (by omega)))).trans t0;have tf4:=(World.frozen?_of_block (a:=⟨pb,po,none⟩) (s4.block pb (by omega) (.inr (by omega)))).trans tf;have HS4:=hide s4;have HC4:=hide c4';clear s4' c4' s4)
    all_goals
     have HOS4:=hide (HOS.out.aside HS4.out (.inl (by omega)))
     have hs4:=HS4.out.size
     have HSQ:=hide (turned_squares HOS4.out (by omega) hL0' hA0 HPB.out t)
     have HAT:=hide ((Aside.refl pb (pb+1) w4).setCell (p:=⟨pb,po,none⟩) (Nat.le_refl _) (Nat.lt_succ_self _) (.string t))
     have HV5:=hide (aside_block HAT.out (aside_block HS4.out HV.out (by omega)) (.inr (by omega)))
     have HR5:=hide (aside_block HAT.out (aside_block HS4.out HR.out (by omega)) (.inl (by omega)))
     have HO4:=hide (HO.out.aside HS4.out (.inl (by omega)))
     have hs5:=HAT.out.size
     have HA5:Hid (Aside p (p+1) w (w4.setCell ⟨pb,po,none⟩ (.string t))):=(HA3.out.trans HS4.out).set_new (by omega) _
     have HC5:=hide (HC4.out.aside HAT.out (by omega))
     have HP5:Hid (Places (w.heap.size+1) (w4.setCell ⟨pb,po,none⟩ (.string t)).heap.size (w4.setCell ⟨pb,po,none⟩ (.string t)) am ps.length ps):=by
      have h9:OwnPlaces gm (gm+1) (w4.setCell ⟨pb,po,none⟩ (.string t)) am ps.length ps:=⟨HOPP.out.1,(HOPP.out.2.aside HS4.out (by omega)).aside HAT.out (by omega)⟩
      exact places_wide h9.places (by omega) (by omega) (Nat.le_refl _)
     have HFN:Hid (∀x∈qs.set 0 ((sqAt qs 0).1.set 0 t,(sqAt qs 0).2.1,(sqAt qs 0).2.2),sqFits x):=by
      intro x hx
      rcases List.mem_or_eq_of_mem_set hx with h' | h'
      ·exact HFI.out x h'
      ·rw[h']
       have h9:=sq_fits HFI.out (k:=0) (by omega)
       refine⟨fun s hs=>?_,by show((sqAt qs 0).1.set 0 t).length<=maxLen;rw[List.length_set];exact h9.2.1,h9.2.2⟩
       rcases List.mem_or_eq_of_mem_set hs with h8|h8
       ·exact h9.1 s h8
       ·rw[h8];unfold maxLen;omega
     have HEN:=hide (drawnF_end (z:=z) (op:=op) (st:=st) (c:=c) HR5.out (squares_wide HSQ.out (by omega) (Nat.le_refl _) (Nat.le_refl _)) HP5.out HC5.out HA5.out hpl (by omega) HFN.out (by omega) HCAP.out)
     obtain⟨w5,hw5⟩:∃w5,w5=w4.setCell ⟨pb,po,none⟩ (.string t):=⟨_,rfl⟩
     rw[<- hw5]
     rw[<- hw5] at HEN HV5 HR5
     clear hw5 q4 t4 tf4 c0 c1 c2 c3 c4 HSQ HAT HA5 HC5 HP5 q0 t0 tf
     obtain⟨c0,c1,c2,c3,c4⟩:=five_cells HV5.out
     obtain⟨p0,p1,p2,p3,p4⟩:=five_cells HR5.out
     have f0:=four_frozen HR5.out 0
     have f1:=four_frozen HR5.out 1
     have f2:=four_frozen HR5.out 2
     have f3:=four_frozen HR5.out 3
     have f4:=four_frozen HR5.out 4
     go_wp2_with fail
     exact bodyPost_ret (results_cell rfl rfl (run_loadVar_row _ _ _ _ _ _ _ HEN.out.1 Tryz.underlying29 rfl (by kernel_rfl))) rfl HEN.out.2
end Go.Proofs.YtgjoepdfhadmcaaGreatDoor
