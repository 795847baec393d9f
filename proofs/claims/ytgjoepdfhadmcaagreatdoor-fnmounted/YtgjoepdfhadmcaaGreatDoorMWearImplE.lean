/- Several texts in one: WearImplE, ChipImplC, LikeFtl. -/
import Derived.Test.YtgjoepdfhadmcaaGreatDoorMWearImplD
import Derived.Test.YtgjoepdfhadmcaaGreatDoorMChipImplF
import Derived.Deep.RegionWith
import Derived.Test.YtgjoepdfhadmcaaGreatDoorMChipGrow
import Derived.Test.YtgjoepdfhadmcaaGreatDoorMCloneW
import Derived.Test.YtgjoepdfhadmcaaGreatDoorMTextWalk
import Derived.Test.YtgjoepdfhadmcaaGreatDoorMChipOwn2
import Derived.Test.YtgjoepdfhadmcaaGreatDoorMChipAns
section
namespace Go.Proofs.YtgjoepdfhadmcaaGreatDoor
open Go.RowKit
set_option linter.unusedVariables false
set_option maxRecDepth 20000
set_option maxHeartbeats 3200000 in
theorem implVictim_any (z:Int)(a:Option Addr)(n cap:Nat)(qs:List Sq)(al:Option Addr)(nl capl:Nat)(ps:List Pl)(op:Int)(w:World){lo hi lo' hi':Nat}(h:Squares lo hi w a n qs)(hhi:hi<=w.heap.size)(hn:n<=1048576)(hf:∀x∈qs,sqFits x)(hp:Places lo' hi' w al nl ps)(hhi':hi'<=w.heap.size)(hm:nl<=1048576)(hcl:nl<=capl) :
  Calls Tryz.prog 213 #[.agg #[.int .i64 z,.slice a n cap],.slice al nl capl,.int .i64 op] w fun e w'=>e=.returned (.int .i64 (victim z qs ps op))∧Below w.heap.size w w':=by
 obtain⟨wA,hwA⟩:∃wA,wA=w.alloc (.cells #[.int .i64 z,.slice a n cap] 26):=⟨_,rfl⟩
 have hzA:wA.heap.size=w.heap.size+1:=by rw[hwA];simp
 have HBA:Hid (Below w.heap.size w wA):=by rw[hwA];exact(Below.refl _ _).alloc (Nat.le_refl _) _
 have H1:Hid (wA.heap[w.heap.size]?=some (.cells #[.int .i64 z,.slice a n cap] 26)):=by rw[hwA];exact heap_new _ _
 have HSQ:=hide (h.later HBA.out hhi)
 have HPL:=hide (hp.later HBA.out hhi')
 have HL:=hide h.1
 have HF:=hide hf
 clear h hf hp
 obtain⟨a0,a1⟩:=two_cells H1.out
 go_enter Tryz.func213,Tryz.ntmps213
 go_wp2_with fail
 rw[<- hwA]
 clear hwA
 refine(implMapOk_any z a n cap qs al nl capl ps wA HSQ.out (by omega) hn HF.out HPL.out (by omega) hm hcl).mono ?_
 rintro e w1 ⟨rfl,b1⟩
 have K1:=hide (block_on H1.out b1)
 have HS1:=hide (HSQ.out.later b1 (by omega))
 have HP1:=hide (HPL.out.later b1 (by omega))
 have HB1:=hide (below_here HBA.out b1)
 have hs1:=b1.size
 clear b1 H1 HSQ HPL HBA a0 a1
 cases hok:mapOk z qs ps with
 | false =>
  have HE:Hid (victim z qs ps op = -1):=by show _=_;unfold victim;rw[hok];rfl
  go_wp2_with fail
  go_ret
  exact⟨by rw[HE.out];rfl,HB1.out⟩
 | true =>
  have HE:Hid (victim z qs ps op=victimV z qs ps op):=by show _=_;unfold victim;rw[hok];rfl
  have hn12:n<=12:=by have:=(chipOk_parts (mapOk_chip hok)).2.2.2.1;rw[HL.out] at this;exact this
  clear hok
  obtain⟨wP,hwP⟩:∃wP,wP=(w1.alloc (.cells #[] 287)).alloc (.cells #[.slice (some ⟨w1.heap.size,0,none⟩) 0 0] 284):=⟨_,rfl⟩
  have hzP:wP.heap.size=w1.heap.size+2:=by rw[hwP];simp
  have HBP:Hid (Below w1.heap.size w1 wP):=by rw[hwP];exact((Below.refl _ _).alloc (Nat.le_refl _) _).alloc (by simp) _
  have HRP:Hid (Rkg w1.heap.size wP (w1.heap.size+1) w1.heap.size 0 0 (fun _=>(0,0,0))):=by rw[hwP];exact rkg_made0 w1 _
  obtain⟨a0,a1⟩:=two_cells (block_on K1.out HBP.out)
  rw[hwP] at a0 a1
  go_wp2_with fail
  rw[<- hwP]
  clear hwP a0 a1
  go_loopw [21] (fun i wr=>∃(k m g c:Nat) (f:Nat->Rk),k<=n∧i=.int .i64 (k:Int)∧Rkg w1.heap.size wr (w1.heap.size+1) g m c f∧HeapR m f∧Gath (mayV qs op) (rkV9 qs ps) k m f∧Below w1.heap.size w1 wr) (fun i _=>n-(intOf i).toNat)
  case atStart=>exact⟨0,0,_,_,_,Nat.zero_le _,rfl,HRP.out,HeapR.none _,Gath.nil _ _ _,HBP.out⟩
  case round =>
   obtain⟨k,m,g,c,f,hk,rfl,hR,hH,hG,hbel⟩:=hrel
   have HRR:=hide hR
   have HHH:=hide hH
   have HGG:=hide hG
   have HBB:=hide hbel
   clear hR hH hG HRP HBP
   by_cases hlt:k<n
   ·have hql:k<qs.length:=by rw[HL.out];exact hlt
    obtain⟨_,A,C,hx,ht⟩:=HS1.out
    obtain⟨b,off,rfl,_,hb,hc⟩:=hx.2 (by omega)
    obtain⟨c0,c1,c2⟩:=sq_cells hc hbel (show b<w1.heap.size by omega) hlt
    have hl9:=(sq_fits HF.out hql).2.1
    unfold maxLen at hl9
    have HMV:Hid (mayV qs op k=(!((sqAt qs k).1.length==0)&&(!(sqAt qs k).2.2&&!((k:Int)==op)))):=rfl
    have HSK:Hid (mayV qs op k=false->Gath (mayV qs op) (rkV9 qs ps) (k+1) m f):=fun hh=>HGG.out.skip hh
    have HPU:Hid (mayV qs op k=true->∀f',SameR (m+1) (upd f m (rkV9 qs ps k)) f'->Gath (mayV qs op) (rkV9 qs ps) (k+1) (m+1) f'):=fun hh f' hs=>HGG.out.push (rkV9_inj qs ps) hh hs
    have HER:Hid (rkV9 qs ps k=((liveN ps (k:Int):Int),(sqAt qs k).2.1,(k:Int))):=rfl
    have hmk:=HGG.out.le
    have HPR:=hide (HP1.out.later hbel HP1.out.2.1)
    clear hc hx ht
    generalize sqAt qs k=y at *
    obtain⟨ts,zw,bd⟩:=y
    dsimp only at c0 c1 c2 hl9 HMV HER
    obtain⟨wX,hwX⟩:∃wX,wX=wr.alloc (.cells #[.slice (A k) ts.length (C k),.int .i64 zw,.bool bd] 42):=⟨_,rfl⟩
    have hzX:wX.heap.size=wr.heap.size+1:=by rw[hwX];simp
    have HBX:Hid (Below wr.heap.size wr wX):=by rw[hwX];exact(Below.refl _ _).alloc (Nat.le_refl _) _
    have HXX:Hid (wX.heap[wr.heap.size]?=some (.cells #[.slice (A k) ts.length (C k),.int .i64 zw,.bool bd] 42)):=by rw[hwX];exact heap_new _ _
    have HRX:=hide (HRR.out.later HBX.out)
    have HBF:=hide (below_here HBB.out HBX.out)
    have HPX:=hide (HPR.out.later HBX.out HPR.out.2.1)
    have hsr:=hbel.size
    clear hbel
    cases bd with
    | true =>
     have HG2:=hide (HSK.out (by rw[HMV.out];simp))
     go_wp2_with fail
     rw[<- hwX]
     exact⟨⟨k+1,m,g,c,f,by omega,by go_num,HRX.out,HHH.out,HG2.out,HBF.out⟩,by simp[intOf];omega⟩
    | false =>
     by_cases h0:ts.length=0
     ·have HG2:=hide (HSK.out (by rw[HMV.out,h0];rfl))
      rw[h0] at c0 hwX
      go_wp2_with fail
      rw[<- hwX]
      exact⟨⟨k+1,m,g,c,f,by omega,by go_num,HRX.out,HHH.out,HG2.out,HBF.out⟩,by simp[intOf];omega⟩
     ·have g0:decide ((ts.length:Int) > 0)=true:=by simp;omega
      have g1:(ts.length==0)=false:=by simpa using h0
      by_cases hop:(k:Int)=op
      ·have HG2:=hide (HSK.out (by rw[HMV.out,g1];simp[hop]))
       subst hop
       go_wp2_with fail
       rw[<- hwX]
       exact⟨⟨k+1,m,g,c,f,by omega,by go_num,HRX.out,HHH.out,HG2.out,HBF.out⟩,by simp[intOf];omega⟩
      ·have HG2:=hide (HPU.out (by rw[HMV.out,g1];simp[hop]))
       obtain⟨x0,x1,x2⟩:=three_cells HXX.out
       rw[hwX] at x0 x1 x2
       go_upto_region 9 with fail
       rw[<- hwX] at x0 x1 x2
       rw[<- hwX]
       clear hwX c0 c1 c2
       go_region_with (first
        | (go_at_call 214;refine(placesIn_any al nl capl ps (k:Int) _ (by exact HPX.out) hm).mono ?_;rintro e w8 ⟨rfl,b8⟩;have B8:=hide ((Below.refl wX.heap.size wX).drew.trans b8);clear b8;obtain⟨y0,y1,y2⟩:=three_cells (block_on HXX.out B8.out);have HR8:=hide (HRX.out.later B8.out);have hs8:=B8.out.size)
        | (go_at_call 227;refine(heapPush_any w1.heap.size (w1.heap.size+1) g m c f ((liveN ps (k:Int):Int),zw,(k:Int)) w8 HR8.out HHH.out (by omega) (by omega)).mono ?_;rintro e w2 ⟨rfl,g',c',f',r2,h2,s2,b2⟩;have HR2:=hide r2;have HH2:=hide h2;have HG3:=hide (HG2.out f' (by rw[HER.out];exact s2));have HB2:=hide ((below_here HBF.out B8.out).trans b2);clear r2 h2 s2 b2))
       all_goals
        go_wp2_with fail
        exact⟨⟨k+1,m+1,g',c',f',by omega,by go_num,HR2.out,HH2.out,HG3.out,HB2.out⟩,by simp[intOf];omega⟩
   ·obtain rfl:k=n:=by omega
    have hmk:=HGG.out.le
    have hcell:=rk_cell1 HRR.out.cell
    have hsr:=hbel.size
    clear hbel
    cases m with
    | zero =>
     have HE2:Hid (victim z qs ps op = -1):=by show _=_;rw[HE.out];unfold victimV;rw[HL.out,HGG.out.none]
     go_wp2_with fail
     refine(rkLen_any _ 0 c wr (by omega)).mono ?_
     rintro e w2 ⟨rfl,rfl⟩
     simp only[show((0:Nat):Int)=0 from rfl]
     go_wp2_with fail
     go_ret
     exact⟨by rw[HE2.out];rfl,below_here HB1.out HBB.out⟩
    | succ q =>
     obtain⟨b,hb,hfb⟩:=HGG.out.best HHH.out
     have HE2:Hid (victim z qs ps op=if(liveN ps (b:Int):Int)=z then -1 else(b:Int)):=by show _=_;rw[HE.out];unfold victimV;rw[HL.out,hb]
     have HFB:=hide hfb
     have g9:¬((q:Int)+1=0):=by omega
     clear hb hfb
     go_wp2_with fail
     refine(rkLen_any _ (q+1) c wr (by omega)).mono ?_
     rintro e w2 ⟨rfl,rfl⟩
     clear hcell
     go_wp2_with fail
     refine(takeNext_any w1.heap.size (w1.heap.size+1) g q c f wr.heap.size wr HRR.out HHH.out (by omega) HRR.out.ltP (rk_lt HRR.out.row).2).mono ?_
     rintro e w3 ⟨rfl,f'',r3,h3,s3,a3⟩
     have HB3:=hide (HBB.out.trans (a3.below (Nat.le_refl _) hsr))
     clear r3 h3 s3 a3
     rw[HFB.out]
     unfold rkV rkV9
     dsimp only
     obtain⟨wX,hwX⟩:∃wX,wX=w3.alloc (.cells #[.int .i64 (liveN ps (b:Int):Int),.int .i64 (sqAt qs b).2.1,.int .i64 (b:Int)] 287):=⟨_,rfl⟩
     have HBX:Hid (Below w1.heap.size w1 wX):=by rw[hwX];exact HB3.out.alloc HB3.out.size _
     obtain⟨a0,a1⟩:=two_cells (block_on K1.out HBX.out)
     rw[hwX] at a0
     clear a1
     by_cases hz:(liveN ps (b:Int):Int)=z
     ·have HE3:Hid (victim z qs ps op = -1):=by show _=_;rw[HE2.out,if_pos hz]
      subst hz
      go_wp2_with fail
      rw[<- hwX]
      go_ret
      exact⟨by rw[HE3.out];rfl,below_here HB1.out HBX.out⟩
     ·have HE3:Hid (victim z qs ps op=(b:Int)):=by show _=_;rw[HE2.out,if_neg hz]
      go_wp2_with fail
      rw[<- hwX]
      go_ret
      exact⟨by rw[HE3.out];rfl,below_here HB1.out HBX.out⟩
end Go.Proofs.YtgjoepdfhadmcaaGreatDoor
end

section
namespace Go.Proofs.YtgjoepdfhadmcaaGreatDoor
open Go.RowKit
set_option linter.unusedVariables false
set_option maxRecDepth 20000
theorem take_pgV {ts:List ByteArray}{k:Nat}(h:k<ts.length):pgV (ts.take k)++[.string (ts.getD k ByteArray.empty)]=pgV (ts.take (k+1)):=by
 rw[pgV_snoc,List.take_succ_eq_append_getElem h,List.getD_eq_getElem?_getD,List.getElem?_eq_getElem h]
 rfl
set_option maxHeartbeats 1600000 in
theorem copyOfSquare_any (a:Option Addr)(cap:Nat)(ts:List ByteArray)(zw:Int)(bd:Bool)(w:World){lo hi:Nat}(h:Texts lo hi w a ts.length ts)(hhi:hi<=w.heap.size)(h8:ts.length<=8)(hts:∀s∈ts,s.size<=200) :
  Calls Tryz.prog 136 #[.agg #[.slice a ts.length cap,.int .i64 zw,.bool bd]] w fun e w'=>∃a' c',e=.returned (.agg #[.slice a' ts.length c',.int .i64 zw,.bool bd])∧PgOwn (w.heap.size+2) w' a' c' ts∧Below w.heap.size w w':=by
 obtain⟨wA,hwA⟩:∃wA,wA=(w.alloc (.cells #[.slice a ts.length cap,.int .i64 zw,.bool bd] 42)).alloc (.cells #[.slice none 0 0,.int .i64 0,.bool false] 42):=⟨_,rfl⟩
 have hzA:wA.heap.size=w.heap.size+1+1:=by rw[hwA];simp
 have HBA:Hid (Below w.heap.size w wA):=by rw[hwA];exact(((Below.refl _ _).alloc (Nat.le_refl _) _).alloc (by simp) _)
 have H0:Hid (wA.heap[w.heap.size]?=some (.cells #[.slice a ts.length cap,.int .i64 zw,.bool bd] 42)):=by rw[hwA];exact heap_old (heap_new _ _)
 have H1:Hid (wA.heap[w.heap.size+1]?=some (.cells #[.slice none 0 0,.int .i64 0,.bool false] 42)):=by rw[hwA];exact heap_at (by simp)
 have HT:=hide h
 have HTS:=hide hts
 clear h hts
 obtain⟨i0,hi0,hzz0,hzz1,hzz2⟩:=info_parts Tryz.infoStrC
 obtain⟨a0,a1,a2⟩:=three_cells H0.out
 have fa0:=four_frozen H0.out 0
 have H02:=hide (set_block H0.out 0 (.slice none 0 0) (by simp))
 have H12:=hide (set_other H1.out (show w.heap.size≠w.heap.size+1 by omega) (o:=0) (.slice none 0 0))
 have HB2:=hide (HBA.out.setCell (p:=⟨w.heap.size,0,none⟩) (Nat.le_refl _) (.slice none 0 0))
 have hz2:wA.heap.size=(wA.setCell ⟨w.heap.size,0,none⟩ (.slice none 0 0)).heap.size:=(Go.Deep.nblk_setCell _ _ _).symm
 go_enter Tryz.func136,Tryz.ntmps136
 go_upto_region 1 with fail
 rw[<- hwA]
 clear hwA
 go_wp2_with fail
 clear H0 H1 HBA a0 a1 a2 fa0
 generalize wA.setCell ⟨w.heap.size,0,none⟩ (.slice none 0 0)=wS at *
 go_loopw [11] (fun i wr=>∃(k:Nat) (V:Value),k<=ts.length∧i=.int .i64 (k:Int)∧wr.heap[w.heap.size]?=some (.cells #[V,.int .i64 zw,.bool bd] 42)∧wr.heap[w.heap.size+1]?=some (.cells #[.slice none 0 0,.int .i64 0,.bool false] 42)∧wr.ownsRow (w.heap.size+2) 9 1 V k (pgV (ts.take k))∧w.heap.size+2<=wr.heap.size∧Below w.heap.size w wr) (fun i _=>ts.length-(intOf i).toNat)
 case atStart=>exact⟨0,.slice none 0 0,Nat.zero_le _,rfl,H02.out,H12.out,World.ownsRow_nil _ _ _ _,by omega,HB2.out⟩
 case round =>
  obtain⟨k,V,hk,rfl,hb0,hb1,hown,hsz,hbel⟩:=hrel
  clear H02 H12 HB2
  have K0:=hide hb0
  have K1:=hide hb1
  have HOW:=hide hown
  have HBB:=hide hbel
  clear hb0 hb1 hown
  by_cases hlt:k<ts.length
  ·obtain⟨b,off,rfl,_,hb,hc⟩:=HT.out.2.2 (by omega)
   have hck:wr.cell? ⟨b,off+k,none⟩=some (.string (ts.getD k ByteArray.empty)):=(hbel.cell (p:=⟨b,off+k,none⟩) (by show b<_;omega)).trans (hc k hlt)
   have hx2:(ts.getD k ByteArray.empty).size<=200:=HTS.out _ (by rw[List.getD_eq_getElem?_getD,List.getElem?_eq_getElem hlt];exact List.getElem_mem hlt)
   have HTP:=hide (take_pgV hlt)
   clear hc hbel
   generalize ts.getD k ByteArray.empty=x at *
   obtain⟨q0,q1,q2⟩:=three_cells K0.out
   have HCL:∀w9,Hid (Calls Tryz.prog 112 #[.string x] w9 fun e w'=>e=.returned (.string x)∧Below w9.heap.size w9 w'):=fun w9=>cloneT_any x w9 (by omega)
   have hV:∀m,V.ownBlock=some m->w.heap.size+2<=m:=fun m hm=>(HOW.out.lt m hm).1
   go_upto_region 6 with fail
   go_region_law (first
    | (refine step_append_lies _ (by rfl) _ _ _ (by rfl) (w.heap.size+2) 9 i0 (.string ByteArray.empty) 1 16 Tryz.underlying40 hi0 hzz0 hzz1 hzz2 rfl (by decide) V k (pgV (ts.take k)) (by rfl) HO9.out ⟨w9.heap.size,0,none⟩ 1 1 [.string x] (by rfl) rfl (cell_one_new _ _ _) (by simp[Value.oneCell']) (by omega) (by unfold maxLen;omega) (by omega) (by simp;omega) (w9.heap.size+1) (by simp) ?_;intro g' c' w5 hown5 hgr5 hat5 hlt5;have K5:Hid (w5.heap[w.heap.size]?=some (.cells #[V,.int .i64 zw,.bool bd] 42)):=(hgr5.block _ (by simp;omega) (fun e=>by have:=hV _ e.symm;omega)).trans KA.out;obtain⟨r0,r1,r2⟩:=three_cells K5.out;have r3:=four_frozen K5.out 0;have HO5:=hide hown5;have HR5:=hide hgr5;clear hown5 hgr5 hat5)
    | (go_simp;go_at_call 112;refine(HCL _).out.mono ?_;rintro e w9 ⟨rfl,b9⟩;have K9:=hide (block_on (w:=wr.drew) K0.out b9);have hs9:wr.heap.size<=w9.heap.size:=b9.size;have KA:=hide (heap_old (o:=.cells #[.string x] 9) K9.out);have HO9:=hide ((HOW.out.drew.kept (grown_below b9 none) (by cases hv:V.ownBlock with|none=>exact .inl rfl|some q=>exact .inr (by simp))).alloc (.cells #[.string x] 9));obtain⟨s0,s1,s2⟩:=three_cells K9.out;obtain⟨t0,t1,t2⟩:=three_cells KA.out;have B9:=hide ((Below.refl wr.heap.size wr).drew.trans b9);clear b9;dsimp only))
   all_goals
    have hs5:=HR5.out.size
    have hzz:(w9.alloc (.cells #[.string x] 9)).heap.size=w9.heap.size+1:=by simp
    rw[HTP.out] at HO5
    have HBA2:=hide ((below_here HBB.out B9.out).alloc (o:=.cells #[.string x] 9) (by omega))
    have K1F:Hid (w5.heap[w.heap.size+1]?=some (.cells #[.slice none 0 0,.int .i64 0,.bool false] 42)):=(HR5.out.block _ (by omega) (fun e=>by have:=hV _ e.symm;omega)).trans (heap_old (block_on K1.out B9.out))
    have HK0F:=hide (set_block K5.out 0 (.slice (some ⟨g',0,none⟩) (k+1) c') (by simp))
    have HK1F:=hide (set_other K1F.out (show w.heap.size≠w.heap.size+1 by omega) (o:=0) (.slice (some ⟨g',0,none⟩) (k+1) c'))
    have HOF:=hide (ownsRow_setCell_below HO5.out (a:=⟨w.heap.size,0,none⟩) (by show w.heap.size<_;omega) (.slice (some ⟨g',0,none⟩) (k+1) c'))
    have HBF:=hide ((HBA2.out.grown HR5.out (by omega) (fun m hm=>by have:=hV m hm;omega)).setCell (p:=⟨w.heap.size,0,none⟩) (Nat.le_refl _) (.slice (some ⟨g',0,none⟩) (k+1) c'))
    have hsF:w.heap.size+2<=(w5.setCell ⟨w.heap.size,0,none⟩ (.slice (some ⟨g',0,none⟩) (k+1) c')).heap.size:=by rw[Go.Deep.nblk_setCell];omega
    go_wp2_with fail
    exact⟨⟨k+1,.slice (some ⟨g',0,none⟩) (k+1) c',by omega,by go_num,HK0F.out,HK1F.out,HOF.out,hsF,HBF.out⟩,by simp[intOf];omega⟩
  ·obtain rfl:k=ts.length:=by omega
   have HTK:Hid (ts.take ts.length=ts):=List.take_length
   rw[HTK.out] at HOW
   obtain⟨a',c',rfl⟩:∃a' c',V=.slice a' ts.length c':=by
    rcases Go.Joins.ownsRow_forms HOW.out with⟨rfl,h0⟩|⟨g',c',rfl⟩
    ·exact⟨none,0,by rw[h0]⟩
    ·exact⟨_,c',rfl⟩
   obtain⟨q0,q1,q2⟩:=three_cells K0.out
   obtain⟨p0,p1,p2⟩:=three_cells K1.out
   have f0:=four_frozen K1.out 0
   have f1:=four_frozen K1.out 1
   have f2:=four_frozen K1.out 2
   have HRS:=hide (three_set K1.out (.slice a' ts.length c') (.int .i64 zw) (.bool bd))
   have HAS:=hide (three_aside (b:=w.heap.size+1) (Aside.refl (w.heap.size+1) (w.heap.size+2) wr) (by omega) (by omega) (.slice a' ts.length c') (.int .i64 zw) (.bool bd))
   have HOF:Hid (PgOwn (w.heap.size+2) (((wr.setCell ⟨w.heap.size+1,0,none⟩ (.slice a' ts.length c')).setCell ⟨w.heap.size+1,1,none⟩ (.int .i64 zw)).setCell ⟨w.heap.size+1,2,none⟩ (.bool bd)) a' c' ts):=ownsRow_setCell_below (ownsRow_setCell_below (ownsRow_setCell_below HOW.out (a:=⟨w.heap.size+1,0,none⟩) (by show w.heap.size+1<_;omega) _) (a:=⟨w.heap.size+1,1,none⟩) (by show w.heap.size+1<_;omega) _) (a:=⟨w.heap.size+1,2,none⟩) (by show w.heap.size+1<_;omega) _
   have HBF:=hide (HBB.out.trans (HAS.out.below (B:=w.heap.size) (by omega) (by omega)))
   go_wp2_with fail
   refine bodyPost_ret (results_cell rfl rfl (run_loadVar_row _ _ _ _ _ _ _ HRS.out Tryz.underlying42 rfl (by kernel_rfl))) rfl ⟨a',c',rfl,HOF.out,HBF.out⟩
theorem rowU_step (A:Nat->Option Addr)(C:Nat->Nat)(qs:List Sq)(k:Nat)(a':Option Addr)(c':Nat)(j:Nat) :
  (if j=k*3+2 then Value.bool (sqAt qs k).2.2 else if j=k*3+1 then .int .i64 (sqAt qs k).2.1 else if j=k*3 then .slice a' (sqAt qs k).1.length c' else if j<3*k then cellQ A C qs j else zero3 j)=(if j<3*(k+1) then cellQ (upd A k a') (upd C k c') qs j else zero3 j):=by
 by_cases e2:j=k*3+2
 ·rw[if_pos e2,if_pos (by omega),e2,show k*3+2=3*k+2 by omega,cellQ2]
 ·rw[if_neg e2]
  by_cases e1:j=k*3+1
  ·rw[if_pos e1,if_pos (by omega),e1,show k*3+1=3*k+1 by omega,cellQ1]
  ·rw[if_neg e1]
   by_cases e0:j=k*3
   ·rw[if_pos e0,if_pos (by omega),e0,show k*3=3*k by omega,cellQ0,upd_same,upd_same]
   ·rw[if_neg e0]
    by_cases h:j<3*k
    ·rw[if_pos h,if_pos (by omega),cellQ_cell3,cellQ_cell3,upd_other _ _ (show j / 3≠k by omega),upd_other _ _ (show j / 3≠k by omega)]
    ·rw[if_neg h,if_neg (by omega)]
set_option maxHeartbeats 1600000 in
theorem copyOfChip_any (z:Int)(a:Option Addr)(n cap:Nat)(qs:List Sq)(w:World){lo hi:Nat}(h:Squares lo hi w a n qs)(hhi:hi<=w.heap.size)(hok:chipOk z qs=true) :
  Calls Tryz.prog 76 #[.agg #[.int .i64 z,.slice a n cap]] w fun e w'=>∃g c A C,e=.returned (.agg #[.int .i64 z,.slice (some ⟨g,0,none⟩) n c])∧GrowSqs w.heap.size w' n qs g A C∧Below w.heap.size w w':=by
 obtain⟨hz1,hz8,hn1,hn12,_⟩:=chipOk_parts hok
 have HL:=hide h.1
 have hnl:=h.1
 rw[hnl] at hn1 hn12
 obtain⟨wB,hwB⟩:∃wB,wB=(w.alloc (.cells #[.int .i64 z,.slice a n cap] 26)).alloc (.cells #[.int .i64 0,.slice none 0 0] 26):=⟨_,rfl⟩
 have hzB:wB.heap.size=w.heap.size+1+1:=by rw[hwB];simp
 have HBB:Hid (Below w.heap.size w wB):=by rw[hwB];exact(((Below.refl _ _).alloc (Nat.le_refl _) _).alloc (by simp) _)
 have H0:Hid (wB.heap[w.heap.size]?=some (.cells #[.int .i64 z,.slice a n cap] 26)):=by rw[hwB];exact heap_old (heap_new _ _)
 have H1:Hid (wB.heap[w.heap.size+1]?=some (.cells #[.int .i64 0,.slice none 0 0] 26)):=by rw[hwB];exact heap_at (by simp)
 have hmk:=make3 (P:=Tryz.prog) 24 42 (.slice none 0 0) (.int .i64 0) (.bool false) 40 Tryz.underlying24 Tryz.infoSq n (by omega) (by omega) wB
 have HM:=hide (made3 wB n 42)
 rw[hzB] at hmk HM
 obtain⟨wA,hwA⟩:∃wA,wA=wB.alloc (.cells (madeCells #[.slice none 0 0,.int .i64 0,.bool false] (n*3)) 42):=⟨_,rfl⟩
 rw[<- hwA] at hmk HM
 have hzA:wA.heap.size=w.heap.size+1+1+1:=by rw[hwA];simp[hzB]
 have HBM:Hid (Below wB.heap.size wB wA):=by rw[hwA];exact(Below.refl _ _).alloc (Nat.le_refl _) _
 have HBA:=hide (below_here HBB.out HBM.out)
 have H0A:=hide (block_on H0.out HBM.out)
 have H1A:=hide (block_on H1.out HBM.out)
 have HSQ:=hide h
 have HOK:=hide hok
 clear h hok hnl hwA HBM
 obtain⟨x0,x1⟩:=two_cells H0.out
 obtain⟨y0,y1⟩:=two_cells H0A.out
 go_enter Tryz.func76,Tryz.ntmps76
 go_upto_region 1 with fail
 rw[<- hwB]
 clear hwB
 go_wp2_with fail
 clear x0 x1 y0 y1 hmk H0 H1
 go_loopw [13] (fun i wr=>∃(k:Nat) (A:Nat->Option Addr) (C:Nat->Nat),k<=n∧i=.int .i64 (k:Int)∧wr.heap[w.heap.size]?=some (.cells #[.int .i64 z,.slice a n cap] 26)∧wr.heap[w.heap.size+1]?=some (.cells #[.int .i64 0,.slice none 0 0] 26) ∧
  Owned (w.heap.size+1+1) (w.heap.size+1+1+1) wr (some ⟨w.heap.size+1+1,0,none⟩) (3*n) (fun j=>if j<3*k then cellQ A C qs j else zero3 j)∧Pgs (w.heap.size+3) wr k qs A C∧Below w.heap.size w wr) (fun i _=>n-(intOf i).toNat)
 case atStart=>exact⟨0,fun _=>none,fun _=>0,Nat.zero_le _,rfl,H0A.out,H1A.out,HM.out.congr (fun j _=>by simp),Pgs.nil _ _ _ _ _,HBA.out⟩
 case round =>
  obtain⟨k,A,C,hk,rfl,hb0,hb1,hrow,hpg,hbel⟩:=hrel
  clear HM H0A H1A HBA
  have K0:=hide hb0
  have K1:=hide hb1
  have HRW:=hide hrow
  have HPG:=hide hpg
  have HBW:=hide hbel
  have hsr:=hrow.1
  clear hb0 hb1 hrow hpg
  by_cases hlt:k<n
  ·have hql:k<qs.length:=by rw[HL.out];exact hlt
   obtain⟨_,A0,C0,hx,ht⟩:=HSQ.out
   obtain⟨b,off,rfl,_,hb,hc⟩:=hx.2 (by omega)
   obtain⟨d0,d1,d2⟩:=sq_cells hc hbel (show b<w.heap.size by omega) hlt
   have HTX:=hide ((ht k hlt).later hbel (by omega))
   have hsq:=sqOk_parts (chipOk_at HOK.out hql)
   have hl8:(sqAt qs k).1.length<=8:=by have:=hsq.1;omega
   have HTS:Hid (∀s∈(sqAt qs k).1,s.size<=200):=fun s hs=>(hsq.2.2.2 s hs).2
   have HST:=hide (fun a' c' j=>rowU_step A C qs k a' c' j)
   have HPS:=hide (fun (a':Option Addr) (c':Nat) (w':World) (hb:Below wr.heap.size wr w') (ho:PgOwn (w.heap.size+3) w' a' c' (sqAt qs k).1) (hf:∀m,oB a'=some m->wr.heap.size<=m)=>HPG.out.snoc hb ho hf)
   clear hc hx ht hbel HPG hsq
   generalize sqAt qs k=y at *
   obtain⟨ts,zw,bd⟩:=y
   dsimp only at d0 d1 d2 hl8 HTX HST HPS HTS
   obtain⟨wV,hwV⟩:∃wV,wV=wr.alloc (.cells #[.slice (A0 k) ts.length (C0 k),.int .i64 zw,.bool bd] 42):=⟨_,rfl⟩
   have hzV:wV.heap.size=wr.heap.size+1:=by rw[hwV];simp
   have HBV:Hid (Below wr.heap.size wr wV):=by rw[hwV];exact(Below.refl _ _).alloc (Nat.le_refl _) _
   have HTV:=hide (HTX.out.later HBV.out HTX.out.2.1)
   go_wp2_with fail
   rw[<- hwV]
   clear hwV d0 d1 d2
   refine(copyOfSquare_any (A0 k) (C0 k) ts zw bd wV HTV.out (by have:=HTX.out.2.1;omega) hl8 HTS.out).mono ?_
   rintro e w2 ⟨a',c',rfl,hpo,b2⟩
   have hs2:=b2.size
   have HB2:=hide (below_here HBV.out b2)
   have hro:=HRW.out.later HB2.out (by omega)
   obtain⟨e0,f0,_,_⟩:=hro.at0 (show k*3<3*n by omega)
   obtain⟨e1,f1,_,_⟩:=hro.at0 (show k*3+1<3*n by omega)
   obtain⟨e2,f2,_,_⟩:=hro.at0 (show k*3+2<3*n by omega)
   have HAS:=hide ((((Aside.refl (w.heap.size+1+1) (w.heap.size+1+1+1) w2).setCell (p:=⟨w.heap.size+1+1,k*3,none⟩) (Nat.le_refl _) (Nat.lt_succ_self _) (.slice a' ts.length c')).setCell (p:=⟨w.heap.size+1+1,k*3+1,none⟩) (Nat.le_refl _) (Nat.lt_succ_self _) (.int .i64 zw)).setCell (p:=⟨w.heap.size+1+1,k*3+2,none⟩) (Nat.le_refl _) (Nat.lt_succ_self _) (.bool bd))
   have HNR:=hide ((((hro.set0 (show k*3<3*n by omega) (.slice a' ts.length c')).set0 (show k*3+1<3*n by omega) (.int .i64 zw)).set0 (show k*3+2<3*n by omega) (.bool bd)).congr (fun j _=>HST.out a' c' j))
   have HP2:=hide (HPS.out a' c' w2 HB2.out (hpo.mono (by omega)) (fun m hm=>by have:=(pg_lt hpo m hm).1;omega))
   have hlow:∀i m,i<k+1->oB (upd A k a' i)=some m->w.heap.size+3<=m:=fun i m hi hm=>(pg_lt (HP2.out.own i hi) m hm).1
   have HP5:=hide (((HP2.out.keep (grown_set w2 ⟨w.heap.size+1+1,k*3,none⟩ (.slice a' ts.length c')) (fun i m hi hm e=>by have:=hlow i m hi hm;simp only[Option.some.injEq] at e;omega)).keep (grown_set _ ⟨w.heap.size+1+1,k*3+1,none⟩ (.int .i64 zw)) (fun i m hi hm e=>by have:=hlow i m hi hm;simp only[Option.some.injEq] at e;omega)).keep (grown_set _ ⟨w.heap.size+1+1,k*3+2,none⟩ (.bool bd)) (fun i m hi hm e=>by have:=hlow i m hi hm;simp only[Option.some.injEq] at e;omega))
   have HBF:=hide ((HBW.out.trans (HB2.out.mono (by omega))).trans (HAS.out.below (B:=w.heap.size) (by omega) (by omega)))
   have K0F:Hid _:=(HAS.out.block w.heap.size (by omega) (.inl (by omega))).trans (block_on K0.out HB2.out)
   have K1F:Hid _:=(HAS.out.block (w.heap.size+1) (by omega) (.inl (by omega))).trans (block_on K1.out HB2.out)
   clear hpo b2 hro hlow HP2 HST HPS
   go_wp2_with fail
   exact⟨⟨k+1,upd A k a',upd C k c',by omega,by go_num,K0F.out,K1F.out,HNR.out,HP5.out,HBF.out⟩,by simp[intOf];omega⟩
  ·obtain rfl:k=n:=by omega
   obtain⟨x0,x1⟩:=two_cells K0.out
   obtain⟨p0,p1⟩:=two_cells K1.out
   have f0:=four_frozen K1.out 0
   have f1:=four_frozen K1.out 1
   have HG:Hid (GrowSqs (w.heap.size+2) wr k qs (w.heap.size+1+1) A C):=⟨HL.out,HRW.out.congr (fun j hj=>if_pos hj),⟨fun i hi=>(HPG.out.own i hi).mono (by omega),HPG.out.apart⟩,Nat.le_refl _,fun i hi e=>by have:=(pg_lt (HPG.out.own i hi) _ e).1;omega⟩
   have HRS:=hide (two_set K1.out (.int .i64 z) (.slice (some ⟨w.heap.size+1+1,0,none⟩) k k))
   have HAS:=hide (two_aside (b:=w.heap.size+1) (Aside.refl (w.heap.size+1) (w.heap.size+2) wr) (by omega) (by omega) (.int .i64 z) (.slice (some ⟨w.heap.size+1+1,0,none⟩) k k))
   have HGG:=hide ((HG.out.aside HAS.out (.inl (Nat.le_refl _))).mono (show w.heap.size<=w.heap.size+2 by omega))
   have HBF:=hide (HBW.out.trans (HAS.out.below (B:=w.heap.size) (by omega) (by omega)))
   go_wp2_with fail
   refine bodyPost_ret (results_cell rfl rfl (run_loadVar_row _ _ _ _ _ _ _ HRS.out Tryz.underlying26 rfl (by kernel_rfl))) rfl ⟨_,_,A,C,rfl,HGG.out,HBF.out⟩
end Go.Proofs.YtgjoepdfhadmcaaGreatDoor
end

section
namespace Go.Proofs.YtgjoepdfhadmcaaGreatDoor
open Go.RowKit
set_option linter.unusedVariables false
set_option maxRecDepth 20000
set_option maxHeartbeats 400000 in
theorem likeTexts_any (a:Option Addr)(n cap:Nat)(xs:List ByteArray)(a':Option Addr)(n' cap':Nat)(ys:List ByteArray)(w:World){lo hi lo' hi':Nat}(h:Texts lo hi w a n xs)(h':Texts lo' hi' w a' n' ys)(hn:n<=9223372036854775807)(hn':n'<=9223372036854775807) :
  Calls Tryz.prog 60 #[.slice a n cap,.slice a' n' cap'] w fun e w'=>e=.returned (.bool (decide (xs=ys)))∧Below w.heap.size w w':=by
 obtain⟨hl,hsz,hx⟩:=h
 obtain⟨hl',hsz',hx'⟩:=h'
 have HL:Hid (xs.length=n):=hl
 have HL':Hid (ys.length=n'):=hl'
 clear hl hl'
 by_cases he:n=n'
 ·subst he
  go_enter Tryz.func60,Tryz.ntmps60
  go_wp2
  go_loopw [5] (fun i wr=>∃k:Nat,k<=n∧i=.int .i64 k∧xs.take k=ys.take k∧Below w.heap.size w wr) (fun i _=>n-(intOf i).toNat)
  case atStart=>exact⟨0,Nat.zero_le _,rfl,rfl,Below.refl _ _⟩
  case round =>
   obtain⟨k,hk,rfl,hall,hbel⟩:=hrel
   have HA:Hid (xs.take k=ys.take k):=hall
   clear hall
   by_cases hlt:k<n
   ·obtain⟨b,off,rfl,_,hb,hc⟩:=hx (by omega)
    obtain⟨b',off',rfl,_,hb',hc'⟩:=hx' (by omega)
    have hck:wr.cell? ⟨b,off+k,none⟩=some (.string (xs.getD k ByteArray.empty)):=(hbel.cell (p:=⟨b,off+k,none⟩) (by show b<_;omega)).trans (hc k hlt)
    have hck':wr.cell? ⟨b',off'+k,none⟩=some (.string (ys.getD k ByteArray.empty)):=(hbel.cell (p:=⟨b',off'+k,none⟩) (by show b'<_;omega)).trans (hc' k hlt)
    clear hc hx hc' hx'
    obtain⟨z,hz⟩:∃z,z=xs.getD k ByteArray.empty:=⟨_,rfl⟩
    rw[<- hz] at hck
    have HZ:Hid (z=xs.getD k ByteArray.empty):=hz
    clear hz
    obtain⟨y,hy⟩:∃z,z=ys.getD k ByteArray.empty:=⟨_,rfl⟩
    rw[<- hy] at hck'
    have HY:Hid (y=ys.getD k ByteArray.empty):=hy
    clear hy
    by_cases h0:z=y
    ·subst h0
     have e0:=text_same z
     go_wp2
     go_quiet (fail)
     go_wp2
     go_roundw
     case rel=>exact⟨k+1,by omega,by go_num,takeT_step HL.out HL'.out hlt HA.out (HZ.out.symm.trans HY.out),below_drewN hbel _⟩
     case measure=>simp[intOf];omega
    ·have e0:=text_other h0
     go_wp2
     go_quiet (fail)
     go_wp2
     go_ret
     exact⟨ret_bool (takeT_fall (k:=k) (by rw[<- HZ.out,<- HY.out];exact h0)).symm,below_drewN hbel _⟩
   ·go_wp2
    go_ret
    exact⟨ret_bool (takeT_whole HL.out HL'.out (by omega) HA.out).symm,hbel⟩
 ·have e0:((n:Int)==(n':Int))=false:=by simp;omega
  have e1:((n:Int) != (n':Int))=true:=by simp;omega
  go_enter Tryz.func60,Tryz.ntmps60
  go_wp2
  go_ret
  exact⟨ret_bool (by simp;intro e;subst e;exact he (HL.out.symm.trans HL'.out)),Below.refl _ _⟩
theorem takeA_step {α:Type}{xs ys:List α}(d:α){n k:Nat}(hx:xs.length=n)(hy:ys.length=n)(hk:k<n)(ht:xs.take k=ys.take k)(he:xs.getD k d=ys.getD k d):xs.take (k+1)=ys.take (k+1):=by
 rw[List.getD_eq_getElem?_getD,List.getD_eq_getElem?_getD,List.getElem?_eq_getElem (by omega),List.getElem?_eq_getElem (by omega)] at he
 simp only[Option.getD_some] at he
 rw[List.take_succ_eq_append_getElem (by omega),List.take_succ_eq_append_getElem (by omega),ht,he]
theorem takeA_fall {α:Type}[DecidableEq α]{xs ys:List α}(d:α){k:Nat}(he:xs.getD k d≠ys.getD k d):decide (xs=ys)=false:=by
 simp;intro e;subst e;exact he rfl
theorem takeA_whole {α:Type}[DecidableEq α]{xs ys:List α}{n k:Nat}(hx:xs.length=n)(hy:ys.length=n)(hk:n<=k)(ht:xs.take k=ys.take k):decide (xs=ys)=true:=by
 rw[List.take_of_length_le (by omega),List.take_of_length_le (by omega)] at ht
 simpa using ht
theorem neqI {x y:Int}(h:x≠y):(x==y)=false∧(x != y)=true:=by constructor<;>simp[h]
def likeC (z:Int)(qs:List Sq)(z':Int)(qs':List Sq):Bool:=decide (z=z')&&decide (qs=qs')
set_option maxHeartbeats 3200000 in
theorem likeChip_any (z z':Int)(a a':Option Addr)(n cap n' cap':Nat)(qs qs':List Sq)(w:World){lo hi lo' hi':Nat}(h:Squares lo hi w a n qs)(h':Squares lo' hi' w a' n' qs')(hhi:hi<=w.heap.size)(hhi':hi'<=w.heap.size)(hn:n<=1048576)(hn':n'<=1048576)(hf:∀x∈qs,sqFits x)(hf':∀x∈qs',sqFits x) :
  Calls Tryz.prog 11 #[.agg #[.int .i64 z,.slice a n cap],.agg #[.int .i64 z',.slice a' n' cap']] w fun e w'=>e=.returned (.bool (likeC z qs z' qs'))∧Below w.heap.size w w':=by
 obtain⟨wA,hwA⟩:∃wA,wA=(w.alloc (.cells #[.int .i64 z,.slice a n cap] 26)).alloc (.cells #[.int .i64 z',.slice a' n' cap'] 26):=⟨_,rfl⟩
 have hzA:wA.heap.size=w.heap.size+1+1:=by rw[hwA];simp
 have HBA:Hid (Below w.heap.size w wA):=by rw[hwA];exact(((Below.refl _ _).alloc (Nat.le_refl _) _).alloc (by simp) _)
 have H1:Hid (wA.heap[w.heap.size]?=some (.cells #[.int .i64 z,.slice a n cap] 26)):=by rw[hwA];exact heap_old (heap_new _ _)
 have H2:Hid (wA.heap[w.heap.size+1]?=some (.cells #[.int .i64 z',.slice a' n' cap'] 26)):=by rw[hwA];exact heap_at (by simp)
 have HTA:=hide (h.later HBA.out hhi)
 have HTB:=hide (h'.later HBA.out hhi')
 have HL:=hide h.1
 have HL':=hide h'.1
 have HF:=hide hf
 have HF':=hide hf'
 clear h h' hf hf'
 obtain⟨c0,c1⟩:=two_cells H1.out
 obtain⟨d0,d1⟩:=two_cells H2.out
 by_cases hz:z=z'
 case neg =>
  obtain⟨e0,e1⟩:=neqI hz
  have hlk:likeC z qs z' qs'=false:=by unfold likeC;simp[hz]
  rw[hlk]
  go_enter Tryz.func11,Tryz.ntmps11
  go_wp2_with fail
  rw[<- hwA]
  go_ret
  exact⟨rfl,HBA.out⟩
 subst hz
 by_cases he:n=n'
 case neg =>
  obtain⟨e0,e1⟩:=neqI (show(n:Int)≠(n':Int) by omega)
  have hlk:likeC z qs z qs'=false:=by unfold likeC;simp;intro e;subst e;exact he (HL.out.symm.trans HL'.out)
  rw[hlk]
  go_enter Tryz.func11,Tryz.ntmps11
  go_wp2_with fail
  rw[<- hwA]
  go_ret
  exact⟨rfl,HBA.out⟩
 subst he
 have hlk:likeC z qs z qs'=decide (qs=qs'):=by unfold likeC;simp
 rw[hlk]
 clear hlk
 obtain⟨_,A,C,hx,ht⟩:=HTA.out
 obtain⟨_,A',C',hx',ht'⟩:=HTB.out
 have HX:=hide hx
 have HX':=hide hx'
 have HT:=hide ht
 have HT':=hide ht'
 clear hx hx' ht ht' HTA HTB
 go_enter Tryz.func11,Tryz.ntmps11
 go_wp2_with fail
 rw[<- hwA]
 clear hwA
 go_loopw [5,6,7] (fun i _ _ wr=>∃k:Nat,k<=n∧i=.int .i64 k∧qs.take k=qs'.take k∧Below wA.heap.size wA wr) (fun i _ _ _=>n-(intOf i).toNat)
 case atStart=>exact⟨0,Nat.zero_le _,rfl,rfl,Below.refl _ _⟩
 case round =>
  obtain⟨k,hk,rfl,hall,hbel⟩:=hrel
  have HA:Hid (qs.take k=qs'.take k):=hall
  clear hall
  have K1:=hide (block_on H1.out hbel)
  have K2:=hide (block_on H2.out hbel)
  have HBB:=hide hbel
  clear c0 c1 d0 d1
  obtain⟨c0,c1⟩:=two_cells K1.out
  obtain⟨d0,d1⟩:=two_cells K2.out
  by_cases hlt:k<n
  ·obtain⟨b,off,rfl,_,hb,hc⟩:=HX.out.2 (by omega)
   obtain⟨b',off',rfl,_,hb',hc'⟩:=HX'.out.2 (by omega)
   obtain⟨q0,q1,q2⟩:=sq_cells hc hbel (show b<wA.heap.size by omega) hlt
   obtain⟨r0,r1,r2⟩:=sq_cells hc' hbel (show b'<wA.heap.size by omega) hlt
   have HI:=hide ((HT.out k hlt).later hbel (by omega))
   have HI':=hide ((HT'.out k hlt).later hbel (by omega))
   have hs1:=hbel.size
   clear hc hc' hbel
   have hl9:(sqAt qs k).1.length<=9223372036854775807:=(sq_fits HF.out (by rw[HL.out];exact hlt)).2.1
   have hl9':(sqAt qs' k).1.length<=9223372036854775807:=(sq_fits HF'.out (by rw[HL'.out];exact hlt)).2.1
   have HST:Hid (sqAt qs k=sqAt qs' k->qs.take (k+1)=qs'.take (k+1)):=fun e=>takeA_step _ HL.out HL'.out hlt HA.out e
   have HSF:Hid (sqAt qs k≠sqAt qs' k->decide (qs=qs')=false):=fun e=>takeA_fall _ e
   generalize sqAt qs k=y at *
   generalize sqAt qs' k=y' at *
   obtain⟨ts,zw,bd⟩:=y
   obtain⟨ts',zw',bd'⟩:=y'
   generalize A k=p at q0 HI
   generalize A' k=p' at r0 HI'
   generalize C k=cp at q0
   generalize C' k=cp' at r0
   dsimp only at q0 q1 q2 r0 r1 r2 HI HI' hl9 hl9'
   have bx:Below wr.heap.size wr (wr.alloc (Obj.cells #[Value.slice p ts.length cp,.int .i64 zw,.bool bd] 42)):=(Below.refl _ _).alloc (Nat.le_refl _) _
   have D1:=(bx.cell (p:=⟨w.heap.size+1,1,none⟩) (by show w.heap.size+1<_;omega)).trans d1
   have R0:=(bx.cell (p:=⟨b',off'+k*3,none⟩) (by show b'<_;omega)).trans r0
   have R1:=(bx.cell (p:=⟨b',off'+k*3+1,none⟩) (by show b'<_;omega)).trans r1
   have R2:=(bx.cell (p:=⟨b',off'+k*3+2,none⟩) (by show b'<_;omega)).trans r2
   obtain⟨wy,hwy⟩:∃wy,wy=(wr.alloc (Obj.cells #[Value.slice p ts.length cp,.int .i64 zw,.bool bd] 42)).alloc (.cells #[Value.slice p' ts'.length cp',.int .i64 zw',.bool bd'] 42):=⟨_,rfl⟩
   have HBY:Hid (Below wr.heap.size wr wy):=by rw[hwy];exact(((Below.refl _ _).alloc (Nat.le_refl _) _).alloc (by simp) _)
   have HX1:Hid (wy.heap[wr.heap.size]?=some (.cells #[Value.slice p ts.length cp,.int .i64 zw,.bool bd] 42)):=by rw[hwy];exact heap_old (heap_new _ _)
   have HX2:Hid (wy.heap[wr.heap.size+1]?=some (.cells #[Value.slice p' ts'.length cp',.int .i64 zw',.bool bd'] 42)):=by rw[hwy];exact heap_at (by simp)
   have HIY:=hide (HI.out.later HBY.out HI.out.2.1)
   have HIY':=hide (HI'.out.later HBY.out HI'.out.2.1)
   clear HI HI' bx
   have x0:=(three_cells HX1.out).1
   have y0:=(three_cells HX2.out).1
   rw[hwy] at x0 y0
   go_wp2_with fail
   rw[<- hwy]
   clear x0 y0 hwy D1 R0 R1 R2
   refine(likeTexts_any p ts.length cp ts p' ts'.length cp' ts' wy HIY.out HIY'.out hl9 hl9').mono ?_
   rintro e w1 ⟨rfl,b1⟩
   have HB1:=hide (below_here HBB.out (below_here HBY.out b1))
   obtain⟨x0,x1,x2⟩:=three_cells (block_on HX1.out b1)
   obtain⟨y0,y1,y2⟩:=three_cells (block_on HX2.out b1)
   clear b1 HX1 HX2 HIY HIY'
   by_cases et:ts=ts'
   case neg =>
    have e0:decide (ts=ts')=false:=by simp[et]
    rw[e0]
    have e9:=HSF.out (by intro e;exact et (congrArg (·.1) e))
    go_wp2_with fail
    go_ret
    exact⟨ret_bool e9.symm,below_here HBA.out HB1.out⟩
   have e0:decide (ts=ts')=true:=by simp[et]
   rw[e0]
   clear e0
   by_cases ez:zw=zw'
   case neg =>
    obtain⟨e0,e1⟩:=neqI ez
    have e9:=HSF.out (by intro e;exact ez (congrArg (·.2.1) e))
    go_wp2_with fail
    go_ret
    exact⟨ret_bool e9.symm,below_here HBA.out HB1.out⟩
   subst et ez
   by_cases eb:bd=bd'
   case neg =>
    have e9:=HSF.out (by intro e;exact eb (congrArg (·.2.2) e))
    cases bd<;>cases bd'<;>first
     | exact absurd rfl eb
     | (go_wp2_with fail;go_ret;exact⟨ret_bool e9.symm,below_here HBA.out HB1.out⟩)
   subst eb
   cases bd
   all_goals go_wp2_with fail
   all_goals exact⟨⟨k+1,by omega,by go_num,HST.out trivial,HB1.out⟩,by simp[intOf];omega⟩
  ·go_wp2_with fail
   go_ret
   exact⟨ret_bool (takeA_whole HL.out HL'.out (by omega) HA.out).symm,below_here HBA.out HBB.out⟩
def likeF (f g:Fv):Bool:=likeC f.z f.qs g.z g.qs&&(decide (f.ps=g.ps)&&(decide (f.op=g.op)&&decide (f.st=g.st)))
theorem likeF_same (f:Fv):likeF f f=true:=by unfold likeF likeC;simp
set_option maxHeartbeats 3200000 in
theorem likeFtl_any (f g:Fv)(a a':Option Addr)(n cap n' cap':Nat)(am am':Option Addr)(m cm m' cm':Nat)(w:World){lo hi lo' hi' lp hp lp' hp':Nat}(h:Squares lo hi w a n f.qs)(h':Squares lo' hi' w a' n' g.qs)(hhi:hi<=w.heap.size)(hhi':hi'<=w.heap.size)(hn:n<=1048576)(hn':n'<=1048576)(hf:∀x∈f.qs,sqFits x)(hf':∀x∈g.qs,sqFits x)(hpl:Places lp hp w am m f.ps)(hpl':Places lp' hp' w am' m' g.ps)(hhp:hp<=w.heap.size)(hhp':hp'<=w.heap.size)(hm:m<=1048576)(hm':m'<=1048576) :
  Calls Tryz.prog 22 #[.agg #[.int .i64 f.z,.slice a n cap,.slice am m cm,.int .i64 f.op,.int .i64 f.st],.agg #[.int .i64 g.z,.slice a' n' cap',.slice am' m' cm',.int .i64 g.op,.int .i64 g.st]] w fun e w'=>e=.returned (.bool (likeF f g))∧Below w.heap.size w w':=by
 have HUF:Hid (likeF f g=(likeC f.z f.qs g.z g.qs&&(decide (f.ps=g.ps)&&(decide (f.op=g.op)&&decide (f.st=g.st))))):=rfl
 generalize likeF f g=lk at *
 obtain⟨z,qs,ps,op,st⟩:=f
 obtain⟨z',qs',ps',op',st'⟩:=g
 dsimp only at h h' hf hf' hpl hpl' HUF ⊢
 obtain⟨wA,hwA⟩:∃wA,wA=(w.alloc (.cells #[.int .i64 z,.slice a n cap,.slice am m cm,.int .i64 op,.int .i64 st] 29)).alloc (.cells #[.int .i64 z',.slice a' n' cap',.slice am' m' cm',.int .i64 op',.int .i64 st'] 29):=⟨_,rfl⟩
 have hzA:wA.heap.size=w.heap.size+1+1:=by rw[hwA];simp
 have HBA:Hid (Below w.heap.size w wA):=by rw[hwA];exact(((Below.refl _ _).alloc (Nat.le_refl _) _).alloc (by simp) _)
 have H1:Hid (wA.heap[w.heap.size]?=some (.cells #[.int .i64 z,.slice a n cap,.slice am m cm,.int .i64 op,.int .i64 st] 29)):=by rw[hwA];exact heap_old (heap_new _ _)
 have H2:Hid (wA.heap[w.heap.size+1]?=some (.cells #[.int .i64 z',.slice a' n' cap',.slice am' m' cm',.int .i64 op',.int .i64 st'] 29)):=by rw[hwA];exact heap_at (by simp)
 have HTA:=hide (h.later HBA.out hhi)
 have HTB:=hide (h'.later HBA.out hhi')
 have HPA:=hide (hpl.later HBA.out hhp)
 have HPB:=hide (hpl'.later HBA.out hhp')
 have HL:=hide hpl.1
 have HL':=hide hpl'.1
 have HF:=hide hf
 have HF':=hide hf'
 clear h h' hf hf' hpl hpl'
 obtain⟨c0,c1,c2,c3,c4⟩:=five_cells H1.out
 obtain⟨d0,d1,d2,d3,d4⟩:=five_cells H2.out
 go_enter Tryz.func22,Tryz.ntmps22
 go_wp2_with fail
 rw[<- hwA]
 clear hwA c0 c1 c2 c3 c4 d0 d1 d2 d3 d4
 refine(likeChip_any z z' a a' n cap n' cap' qs qs' wA HTA.out HTB.out (by omega) (by omega) hn hn' HF.out HF'.out).mono ?_
 rintro e w1 ⟨rfl,b1⟩
 have hs1:=b1.size
 have HB1:=hide (below_here HBA.out b1)
 have K1:=hide (block_on H1.out b1)
 have K2:=hide (block_on H2.out b1)
 have HP1:=hide (HPA.out.later b1 (by omega))
 have HP1':=hide (HPB.out.later b1 (by omega))
 clear b1 H1 H2 HTA HTB HPA HPB HF HF'
 obtain⟨c0,c1,c2,c3,c4⟩:=five_cells K1.out
 obtain⟨d0,d1,d2,d3,d4⟩:=five_cells K2.out
 cases hc:likeC z qs z' qs' with
 | false =>
  rw[hc] at HUF
  have e9:lk=false:=by rw[HUF.out];rfl
  go_wp2_with fail
  go_ret
  exact⟨ret_bool e9.symm,HB1.out⟩
 | true =>
  rw[hc] at HUF
  clear hc
  by_cases he:m=m'
  case neg =>
   obtain⟨e0,e1⟩:=neqI (show(m:Int)≠(m':Int) by omega)
   have e9:lk=false:=by
    rw[HUF.out]
    have:ps≠ps':=by intro e;subst e;exact he (HL.out.symm.trans HL'.out)
    simp[this]
   go_wp2_with fail
   go_ret
   exact⟨ret_bool e9.symm,HB1.out⟩
  subst he
  by_cases ho:op=op'
  case neg =>
   obtain⟨e0,e1⟩:=neqI ho
   have e9:lk=false:=by rw[HUF.out];simp[ho]
   go_wp2_with fail
   go_ret
   exact⟨ret_bool e9.symm,HB1.out⟩
  subst ho
  by_cases ht:st=st'
  case neg =>
   obtain⟨e0,e1⟩:=neqI ht
   have e9:lk=false:=by rw[HUF.out];simp[ht]
   go_wp2_with fail
   go_ret
   exact⟨ret_bool e9.symm,HB1.out⟩
  subst ht
  have HLK:Hid (lk=decide (ps=ps')):=by show _=_;rw[HUF.out];simp
  clear HUF
  have HX:=hide HP1.out.2
  have HX':=hide HP1'.out.2
  clear HP1 HP1'
  go_wp2_with fail
  go_loopw [5] (fun i wr=>∃k:Nat,k<=m∧i=.int .i64 k∧ps.take k=ps'.take k∧Below w1.heap.size w1 wr) (fun i _=>m-(intOf i).toNat)
  case atStart=>exact⟨0,Nat.zero_le _,rfl,rfl,Below.refl _ _⟩
  case round =>
   obtain⟨k,hk,rfl,hall,hbel⟩:=hrel
   have HA:Hid (ps.take k=ps'.take k):=hall
   clear hall c0 c1 c2 c3 c4 d0 d1 d2 d3 d4
   have HBB:=hide hbel
   obtain⟨c0,c1,c2,c3,c4⟩:=five_cells (block_on K1.out hbel)
   obtain⟨d0,d1,d2,d3,d4⟩:=five_cells (block_on K2.out hbel)
   clear c0 c1 c3 c4 d0 d1 d3 d4
   by_cases hlt:k<m
   ·obtain⟨b,off,rfl,_,hb,hc⟩:=HX.out.2 (by omega)
    obtain⟨b',off',rfl,_,hb',hc'⟩:=HX'.out.2 (by omega)
    obtain⟨q0,q1⟩:=pl_cells hc hbel (show b<w1.heap.size by omega) hlt
    obtain⟨r0,r1⟩:=pl_cells hc' hbel (show b'<w1.heap.size by omega) hlt
    clear hc hc' hbel
    have HST:Hid (plAt ps k=plAt ps' k->ps.take (k+1)=ps'.take (k+1)):=fun e=>takeA_step _ HL.out HL'.out hlt HA.out e
    have HSF:Hid (plAt ps k≠plAt ps' k->decide (ps=ps')=false):=fun e=>takeA_fall _ e
    generalize plAt ps k=y at *
    generalize plAt ps' k=y' at *
    obtain⟨p,q⟩:=y
    obtain⟨r,t⟩:=y'
    dsimp only at q0 q1 r0 r1
    have x1:=Tryz.eqPl p q r t
    cases heq:((p==r)&&(q==t)) with
    | true =>
     simp only[Bool.and_eq_true,beq_iff_eq] at heq
     obtain⟨rfl,rfl⟩:=heq
     have HOK:=hide (HST.out rfl)
     rw[show((p==p)&&(q==q))=true by simp] at x1
     go_wp2_with fail
     go_quiet (fail)
     go_wp2_with fail
     go_roundw
     case rel=>exact⟨k+1,by omega,by go_num,HOK.out,below_drewN HBB.out _⟩
     case measure=>simp[intOf];omega
    | false =>
     have e9:=HSF.out (by intro e;simp only[Prod.mk.injEq] at e;obtain⟨rfl,rfl⟩:=e;simp at heq)
     rw[heq] at x1
     go_wp2_with fail
     go_quiet (fail)
     go_wp2_with fail
     go_ret
     exact⟨ret_bool (HLK.out.trans e9).symm,below_drewN (below_here HB1.out HBB.out) _⟩
   ·go_wp2_with fail
    go_ret
    exact⟨ret_bool (HLK.out.trans (takeA_whole HL.out HL'.out (by omega) HA.out)).symm,below_here HB1.out HBB.out⟩
end Go.Proofs.YtgjoepdfhadmcaaGreatDoor
end

