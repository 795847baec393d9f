/- . -/
import Derived.Test.YtgjoepdfhadmcaaGreatDoorMChipCutS
import Derived.Test.YtgjoepdfhadmcaaGreatDoorMChipGrow
import Derived.Test.YtgjoepdfhadmcaaGreatDoorMChipOwn2
namespace Go.Proofs.YtgjoepdfhadmcaaGreatDoor
open Go.RowKit
set_option linter.unusedVariables false
set_option maxRecDepth 20000
theorem rk_made0 (w:World)(f:Nat->Rk):RkRow w.heap.size (w.alloc (.cells #[] 287)) w.heap.size 0 0 f:=by
 have hb:(w.alloc (.cells #[] 287)).heap[w.heap.size]?=some (.cells #[] 287 (0,0)):=heap_new _ _
 exact⟨rfl,.inr ⟨w.heap.size,0,#[],rfl,Nat.le_refl _,hb,Nat.le_refl _,Nat.zero_le _,rfl,rfl⟩⟩
theorem rkg_made0 (w:World)(f:Nat->Rk):Rkg w.heap.size ((w.alloc (.cells #[] 287)).alloc (.cells #[.slice (some ⟨w.heap.size,0,none⟩) 0 0] 284)) (w.heap.size+1) w.heap.size 0 0 f:=by
 refine⟨rk_keep (rk_made0 w f) (Go.Deep.blk_alloc_lt _ _ _ (by simp)),heap_at (by simp),by omega⟩
theorem Tryz.fieldRk (a b c:Int)(w:World):(Instr.field 287 (.agg #[.int .i64 a,.int .i64 b,.int .i64 c]) 2).run Tryz.prog w=.ok (.int .i64 c) w:=by kernel_rfl
def lenV:Value->Nat
 | .slice _ n _=>n
 | _=>0
theorem own_keep {w w':World}{base e n:Nat}{v:Value}{xs:List Value}(h:w.ownsRow base e 1 v n xs){l r:Nat}(hb:Aside l r w w')(hr:r<=base):w'.ownsRow base e 1 v n xs:=by
 obtain⟨h1,h2⟩:=h
 refine⟨h1,?_⟩
 rcases h2 with hn|⟨g,cap,cur,rfl,hbg,hgg,rest⟩
 ·exact .inl hn
 ·exact .inr ⟨g,cap,cur,rfl,hbg,(hb.block g (Array.getElem?_eq_some_iff.1 hgg).1 (.inr (by omega))).trans hgg,rest⟩
set_option maxHeartbeats 3200000 in
theorem implEmpty_any (z:Int)(a:Option Addr)(n cap:Nat)(qs:List Sq)(w:World){lo hi:Nat}(h:Squares lo hi w a n qs)(hhi:hi<=w.heap.size)(hn:n<=1048576)(hf:∀x∈qs,sqFits x) :
  Calls Tryz.prog 212 #[.agg #[.int .i64 z,.slice a n cap]] w fun e w'=>∃a' n' cap',e=.returned (.slice a' n' cap')∧n'<=cap'∧n'<=12∧OwnInts w.heap.size w'.heap.size w' a' n' (emptyL z qs)∧Below w.heap.size w w':=by
 obtain⟨wA,hwA⟩:∃wA,wA=w.alloc (.cells #[.int .i64 z,.slice a n cap] 26):=⟨_,rfl⟩
 have hzA:wA.heap.size=w.heap.size+1:=by rw[hwA];simp
 have HBA:Hid (Below w.heap.size w wA):=by rw[hwA];exact(Below.refl _ _).alloc (Nat.le_refl _) _
 have H1:Hid (wA.heap[w.heap.size]?=some (.cells #[.int .i64 z,.slice a n cap] 26)):=by rw[hwA];exact heap_new _ _
 have HSQ:=hide (h.later HBA.out hhi)
 have HL:=hide h.1
 have HF:=hide hf
 clear h hf
 obtain⟨a0,a1⟩:=two_cells H1.out
 go_enter Tryz.func212,Tryz.ntmps212
 go_wp2_with fail
 rw[<- hwA]
 clear hwA
 refine(implChipOk_any z a n cap qs wA HSQ.out (by omega) hn HF.out).mono ?_
 rintro e w1 ⟨rfl,b1⟩
 have K1:=hide (block_on H1.out b1)
 have HS1:=hide (HSQ.out.later b1 (by omega))
 have HB1:=hide (below_here HBA.out b1)
 have hs1:=b1.size
 clear b1 H1 HSQ HBA a0 a1
 cases hok:chipOk z qs with
 | false =>
  have HE:Hid (emptyL z qs=[]):=by show _=_;unfold emptyL;rw[hok];rfl
  have HB2:=hide (HB1.out.alloc (by omega) (.cells #[] 2))
  go_wp2_with fail
  go_ret
  exact⟨_,_,_,rfl,Nat.le_refl _,by omega,by rw[HE.out];exact⟨rfl,Nat.le_refl _,fun h=>absurd h (Nat.lt_irrefl _)⟩,HB2.out⟩
 | true =>
  have HE:Hid (emptyL z qs=(emptyK qs qs.length).map (fun (i:Nat)=>(i:Int))):=by show _=_;unfold emptyL;rw[hok];rfl
  have HOK:=hide hok
  have hn12:n<=12:=by have:=(chipOk_parts hok).2.2.2.1;rw[HL.out] at this;exact this
  clear hok
  obtain⟨wP,hwP⟩:∃wP,wP=(w1.alloc (.cells #[] 287)).alloc (.cells #[.slice (some ⟨w1.heap.size,0,none⟩) 0 0] 284):=⟨_,rfl⟩
  have hzP:wP.heap.size=w1.heap.size+2:=by rw[hwP];simp
  have HBP:Hid (Below w1.heap.size w1 wP):=by rw[hwP];exact((Below.refl _ _).alloc (Nat.le_refl _) _).alloc (by simp) _
  have HRP:Hid (Rkg w1.heap.size wP (w1.heap.size+1) w1.heap.size 0 0 (fun _=>(0,0,0))):=by rw[hwP];exact rkg_made0 w1 _
  obtain⟨a0,a1⟩:=two_cells (block_on K1.out HBP.out)
  rw[hwP] at a0 a1
  go_wp2_with fail
  rw[<- hwP]
  clear hwP a0 a1
  go_loopw [16] (fun i wr=>∃(k m g c:Nat) (f:Nat->Rk),k<=n∧i=.int .i64 (k:Int)∧Rkg w1.heap.size wr (w1.heap.size+1) g m c f∧HeapR m f∧Gath (fun j=>isEmpty (sqAt qs j)) (rkE qs) k m f∧Below w1.heap.size w1 wr) (fun i _=>n-(intOf i).toNat)
  case atStart=>exact⟨0,0,_,_,_,Nat.zero_le _,rfl,HRP.out,HeapR.none _,Gath.nil _ _ _,HBP.out⟩
  case round =>
   obtain⟨k,m,g,c,f,hk,rfl,hR,hH,hG,hbel⟩:=hrel
   have HRR:=hide hR
   have HHH:=hide hH
   have HGG:=hide hG
   have HBB:=hide hbel
   clear hR hH hG HRP HBP
   by_cases hlt:k<n
   ·have hql:k<qs.length:=by rw[HL.out];exact hlt
    obtain⟨_,A,C,hx,ht⟩:=HS1.out
    obtain⟨b,off,rfl,_,hb,hc⟩:=hx.2 (by omega)
    obtain⟨c0,c1,c2⟩:=sq_cells hc hbel (show b<w1.heap.size by omega) hlt
    have hl9:=(sq_fits HF.out hql).2.1
    unfold maxLen at hl9
    have HSK:Hid (isEmpty (sqAt qs k)=false->Gath (fun j=>isEmpty (sqAt qs j)) (rkE qs) (k+1) m f):=fun hh=>HGG.out.skip hh
    have HPU:Hid (isEmpty (sqAt qs k)=true->∀f',SameR (m+1) (upd f m (rkE qs k)) f'->Gath (fun j=>isEmpty (sqAt qs j)) (rkE qs) (k+1) (m+1) f'):=fun hh f' hs=>HGG.out.push (rkE_inj qs) hh hs
    have HER:Hid (rkE qs k=(0,(sqAt qs k).2.1,(k:Int))):=rfl
    have hmk:=HGG.out.le
    clear hc hx ht
    generalize sqAt qs k=y at *
    obtain⟨ts,zw,bd⟩:=y
    dsimp only at c0 c1 c2 hl9 HSK HPU HER
    obtain⟨wX,hwX⟩:∃wX,wX=wr.alloc (.cells #[.slice (A k) ts.length (C k),.int .i64 zw,.bool bd] 42):=⟨_,rfl⟩
    have hzX:wX.heap.size=wr.heap.size+1:=by rw[hwX];simp
    have HBX:Hid (Below wr.heap.size wr wX):=by rw[hwX];exact(Below.refl _ _).alloc (Nat.le_refl _) _
    have HRX:=hide (HRR.out.later HBX.out)
    have HBF:=hide (below_here HBB.out HBX.out)
    have hsr:=hbel.size
    clear hbel
    cases bd with
    | true =>
     have HG2:=hide (HSK.out (by simp[isEmpty]))
     go_wp2_with fail
     rw[<- hwX]
     exact⟨⟨k+1,m,g,c,f,by omega,by go_num,HRX.out,HHH.out,HG2.out,HBF.out⟩,by simp[intOf];omega⟩
    | false =>
     by_cases h0:ts.length=0
     ·have HG2:=hide (HPU.out (by simp[isEmpty,h0]))
      have g0:((ts.length:Int)==0)=true:=by simp;exact List.eq_nil_of_length_eq_zero h0
      rw[h0] at c0 hwX
      go_wp2_with fail
      rw[<- hwX]
      clear hwX
      refine(heapPush_any w1.heap.size (w1.heap.size+1) g m c f (0,zw,(k:Int)) wX HRX.out HHH.out (by omega) (by omega)).mono ?_
      rintro e w2 ⟨rfl,g',c',f',r2,h2,s2,b2⟩
      have HR2:=hide r2
      have HH2:=hide h2
      have HG3:=hide (HG2.out f' (by rw[HER.out];exact s2))
      have HB2:=hide (HBF.out.trans b2)
      clear r2 h2 s2 b2
      go_wp2_with fail
      exact⟨⟨k+1,m+1,g',c',f',by omega,by go_num,HR2.out,HH2.out,HG3.out,HB2.out⟩,by simp[intOf];omega⟩
     ·have HG2:=hide (HSK.out (by simp[isEmpty];intro e;rw[e] at h0;exact h0 rfl))
      have g0:((ts.length:Int)==0)=false:=by simp;intro e;rw[e] at h0;exact h0 rfl
      have g1:¬((ts.length:Int)=0):=by omega
      go_wp2_with fail
      rw[<- hwX]
      exact⟨⟨k+1,m,g,c,f,by omega,by go_num,HRX.out,HHH.out,HG2.out,HBF.out⟩,by simp[intOf];omega⟩
   ·obtain rfl:k=n:=by omega
    have hmk:=HGG.out.le
    have hcell:=rk_cell1 HRR.out.cell
    have hmake:=make_row (P:=Tryz.prog) 58 2 (.int .i64 0) 8 Tryz.underlying58 Tryz.infoI64e rfl 0 (m:Int) 0 m rfl rfl (by omega) (by omega) (by omega)
    have HT0:=hide (Taken.start HGG.out (rkE_inj qs))
    go_wp2_with fail
    refine(rkLen_any _ m c wr (by omega)).mono ?_
    rintro e w2 ⟨rfl,rfl⟩
    obtain⟨wM,hwM⟩:∃wM,wM=wr.alloc (.cells (madeCells #[.int .i64 0] m) 2):=⟨_,rfl⟩
    have hzM:wM.heap.size=wr.heap.size+1:=by rw[hwM];simp
    have HBM:Hid (Below wr.heap.size wr wM):=by rw[hwM];exact(Below.refl _ _).alloc (Nat.le_refl _) _
    have HRM:=hide (HRR.out.later HBM.out)
    have HOM:Hid (wM.ownsRow wr.heap.size 2 1 (.slice (some ⟨wr.heap.size,0,none⟩) 0 m) 0 (valN [])):=by
     rw[hwM]
     exact⟨rfl,.inr ⟨wr.heap.size,m,madeCells #[.int .i64 0] m,rfl,Nat.le_refl _,heap_new _ _,Nat.zero_le _,by unfold maxLen;omega,by simp[madeCells],rfl⟩⟩
    have HPW:=hide HRR.out.ltP
    have HGW:=hide (rk_lt HRR.out.row).2
    have HBM1:=hide (below_here HBB.out HBM.out)
    obtain⟨wo,hwo⟩:∃wo,wo=wr:=⟨_,rfl⟩
    subst hwo
    go_wp2_with fail
    rw[<- hwM]
    clear hwM hmake hcell
    have HMN:Hid (m<=12):=by show _<=_;omega
    obtain⟨i0,hi0,hzz0,hzz1,hzz2⟩:=info_parts Tryz.infoI64e
    go_loopw [6] (fun v wr=>∃(l:List Nat) (m':Nat) (f':Nat->Rk) (a9:Option Addr) (c9:Nat),v=.slice a9 l.length c9∧l.length<=c9∧l.length+m'=m∧wo.heap.size<=wr.heap.size∧wr.ownsRow wo.heap.size 2 1 (.slice a9 l.length c9) l.length (valN l)∧Rkg w1.heap.size wr (w1.heap.size+1) g m' c f'∧HeapR m' f'∧Taken (fun j=>isEmpty (sqAt qs j)) (rkE qs) k l m' f'∧Below w1.heap.size w1 wr) (fun v _=>m-lenV v)
    case atStart=>exact⟨[],m,f,_,_,rfl,Nat.zero_le _,by simp,by omega,HOM.out,HRM.out,HHH.out,HT0.out,HBM1.out⟩
    case round =>
     obtain⟨l,m',f',a9,c9,rfl,hlc,hlm,hso,hO,hR,hH,hT,hbel⟩:=hrel
     have HO:=hide hO
     have HR:=hide hR
     have HH:=hide hH
     have HT:=hide hT
     have HB:=hide hbel
     have hcell:=rk_cell1 hR.cell
     have hsr:=hbel.size
     clear hO hR hH hT hbel
     cases m' with
     | zero =>
      have HLE:=hide HT.out.empty
      obtain⟨a',cap',e9,hc',ho⟩:=own_valN HO.out
      simp only[Value.slice.injEq] at e9
      have HOI:Hid (OwnInts wo.heap.size wr.heap.size wr a9 l.length (l.map (fun (i:Nat)=>(i:Int)))):=by rw[e9.1];exact ho
      clear e9 ho
      go_wp2_with fail
      refine(rkLen_any _ 0 c wr (by omega)).mono ?_
      rintro e w2 ⟨rfl,rfl⟩
      simp only[show((0:Nat):Int)=0 from rfl]
      go_wp2_with fail
      go_ret
      refine⟨_,_,_,rfl,hlc,by have:=HMN.out;omega,?_,below_here HB1.out HB.out⟩
      rw[HE.out,HL.out,<- HLE.out]
      exact⟨HOI.out.1,HOI.out.2.1,fun h=>by obtain⟨b,off,h1,h2,h3,h4⟩:=HOI.out.2.2 h;exact⟨b,off,h1,by have:=HPW.out;omega,h3,h4⟩⟩
     | succ q =>
      obtain⟨j,hj1,hj2,hj3⟩:=HT.out.of 0 (by omega)
      have HJ:Hid (f' 0=rkE qs j):=hj3.symm
      have HTN:Hid (∀f'',SameR q (swp f' 0 q) f''->Taken (fun j=>isEmpty (sqAt qs j)) (rkE qs) k (l++[j]) q f''):=fun f'' hs=>HT.out.next (rkE_inj qs) HH.out HJ.out hs
      have hq12:=HMN.out
      clear hj1 hj2 hj3
      go_wp2_with fail
      refine(rkLen_any _ (q+1) c wr (by omega)).mono ?_
      rintro e w2 ⟨rfl,rfl⟩
      clear hcell
      go_wp2_with fail
      refine(takeNext_any w1.heap.size (w1.heap.size+1) g q c f' wo.heap.size wr HR.out HH.out (by omega) HPW.out HGW.out).mono ?_
      rintro e w3 ⟨rfl,f'',r3,h3,s3,a3⟩
      have HR3:=hide r3
      have HH3:=hide h3
      have HT3:=hide (HTN.out f'' s3)
      have HO3:=hide (own_keep HO.out a3 (Nat.le_refl _))
      have HB3:=hide (HB.out.trans (a3.below (Nat.le_refl _) hsr))
      have hs3:=a3.size
      clear r3 h3 s3 a3
      rw[HJ.out]
      have HOA:=hide (HO3.out.alloc (.cells #[.int .i64 (j:Int)] 2))
      have HBA:=hide ((Below.refl w3.heap.size w3).alloc (Nat.le_refl _) (.cells #[.int .i64 (j:Int)] 2))
      have HRA:=hide (HR3.out.later HBA.out)
      have hzA:(w3.alloc (.cells #[.int .i64 (j:Int)] 2)).heap.size=w3.heap.size+1:=by simp
      unfold rkV rkE
      dsimp only
      have q9:=Tryz.fieldRk 0 (sqAt qs j).2.1 (j:Int)
      go_wp2_with (at_builtin;(refine wpList_append_own_at _ rfl (.tmp 49) (.tmp 53) 58 rfl wo.heap.size 2 i0 (.int .i64 0) 1 8 Tryz.underlying58 hi0 hzz0 hzz1 hzz2 rfl (by decide) _ l.length (valN l) rfl HOA.out ⟨w3.heap.size,0,none⟩ 1 1 [.int .i64 (j:Int)] rfl rfl (cell_one_new _ _ _) (by simp[Value.oneCell']) (by unfold maxLen;omega) (by omega) (by rw[hzA];omega) ?_);intro v2 w6 hown6 hgr6 hnil6 hat6;obtain⟨g2,c2,rfl,hc2⟩:=some_form hown6 (fun e=>by have h9:=(hnil6.1 e).2;cases h9);have HO6:=hide hown6;have HG6:=hide hgr6;clear hown6 hgr6 hnil6 hat6)
      have HON:Hid (w6.ownsRow wo.heap.size 2 1 (.slice (some ⟨g2,0,none⟩) (l++[j]).length c2) (l++[j]).length (valN (l++[j]))):=by
       show World.ownsRow _ _ _ _ _ _ _
       rw[valN_append,List.length_append]
       exact HO6.out
      have hap9:∀x,x<wo.heap.size->some x≠(Value.slice a9 l.length c9).ownBlock:=fun x hx e=>by
       have:=(HO3.out.lt x e.symm).1
       omega
      have HR6:=hide (HRA.out.keep (w':=w6) (HG6.out.block _ HRA.out.ltP (hap9 _ HPW.out)) (HG6.out.block _ (rk_lt HRA.out.row).2 (hap9 _ HGW.out)))
      have HB6:=hide ((HB3.out.trans (HBA.out.mono (by omega))).grown HG6.out (by rw[hzA];omega) (fun x hx=>by have:=(HO3.out.lt x hx).1;have:=HPW.out;omega))
      have hs6:wo.heap.size<=w6.heap.size:=by have:=HG6.out.size;rw[hzA] at this;omega
      have hln:(l++[j]).length=l.length+1:=by simp
      exact⟨⟨l++[j],q,f'',some ⟨g2,0,none⟩,c2,by rw[hln],by rw[hln];exact hc2,by rw[hln];omega,hs6,HON.out,HR6.out,HH3.out,HT3.out,HB6.out⟩,by simp[lenV];omega⟩
end Go.Proofs.YtgjoepdfhadmcaaGreatDoor
