/- Several texts in one: ChipImplF, WearImplB. -/
import Derived.Test.YtgjoepdfhadmcaaGreatDoorMChipCutS
import Derived.Test.YtgjoepdfhadmcaaGreatDoorMCloneW
import Derived.Test.YtgjoepdfhadmcaaGreatDoorMChipImplB
section
namespace Go.Proofs.YtgjoepdfhadmcaaGreatDoor
open Go.RowKit
set_option linter.unusedVariables false
set_option maxRecDepth 20000
def sqWork (q:Sq):Sh->Sq
 | .write s=>(q.1++[s],q.2.1,q.2.2)
 | .wipe=>([],q.2.1+1,q.2.2)
 | .half b=>(q.1.map (part · b),q.2.1+1,q.2.2)
 | .spoil=>(q.1,q.2.1,true)
 | .none=>q
set_option maxHeartbeats 1600000 in
theorem work_at (B:Nat)(n:Nat)(qs:List Sq)(g:Nat)(A:Nat->Option Addr)(C:Nat->Nat)(i:Nat)(sh:Sh)(w:World)(hG:GrowSqs B w n qs g A C)(hB:B<=w.heap.size)(hin:i<n)(hl:(sqAt qs i).1.length<=8)(hzw:0<=(sqAt qs i).2.1∧(sqAt qs i).2.1<=1000000)
  (hts:∀s∈(sqAt qs i).1,1<=s.size∧s.size<=200) (hs:∀s,sh=.write s->s.size<=200) :
  Calls Tryz.prog 127 #[.pointer (some ⟨g,i*3,none⟩),shV sh] w fun e w'=>e=.returned (.tuple #[])∧∃A' C',GrowSqs B w' n (qs.set i (sqWork (sqAt qs i) sh)) g A' C'∧Only B g w w'∧∀j,j≠i->A' j=A j:=by
 have hgl:g<w.heap.size:=by have:=hG.row.1;omega
 have HG:=hide hG
 have hil:i<qs.length:=by rw[hG.len];exact hin
 have HTS:=hide hts
 clear hG hts
 cases sh with
 | none =>
  have q0:=Tryz.asNoWr
  have q1:=Tryz.asNoWi
  have q2:=Tryz.asNoHa
  have q3:=Tryz.asNoSp
  have HE:Hid (qs.set i (sqWork (sqAt qs i) .none)=qs):=set_sqAt qs hil
  go_enter Tryz.func127,Tryz.ntmps127
  unfold shV
  go_wp2_with fail
  go_end0
  first|exact⟨rfl,A,C,by rw[HE.out];exact HG.out,Only.refl _ _ _,fun _ _=>rfl⟩|exact⟨rfl,⟨A,C,by rw[HE.out];exact HG.out,fun _ _=>rfl⟩,Only.refl _ _ _⟩|exact⟨rfl,Only.refl _ _ _,A,C,by rw[HE.out];exact HG.out,fun _ _=>rfl⟩
 | write s =>
  have q0:=Tryz.asWrWr (.agg #[.string s])
  have hs':=hs s rfl
  obtain⟨wA,hwA⟩:∃wA,wA=w.alloc (.cells #[.string s] 210):=⟨_,rfl⟩
  have hzA:wA.heap.size=w.heap.size+1:=by rw[hwA];simp
  have HBA:Hid (Below w.heap.size w wA):=by rw[hwA];exact(Below.refl _ _).alloc (Nat.le_refl _) _
  have H1:Hid (wA.heap[w.heap.size]?=some (.cells #[.string s] 210)):=by rw[hwA];exact heap_new _ _
  have HGA:=hide (HG.out.later HBA.out)
  obtain⟨c0,c1,c2⟩:=HGA.out.cells hin
  have s0:wA.cell? ⟨w.heap.size,0,none⟩=some (.string s):=by simp[World.cell?,H1.out]
  obtain⟨i0,hi0,hzz0,hzz1,hzz2⟩:=info_parts Tryz.infoStrC
  have HCL:∀w9,Hid (Calls Tryz.prog 112 #[.string s] w9 fun e w'=>e=.returned (.string s)∧Below w9.heap.size w9 w'):=fun w9=>cloneT_any s w9 (by omega)
  have HNE:Hid (some g≠(Value.slice (A i) (sqAt qs i).1.length (C i)).ownBlock):=by show _≠_;rw[ownBlock_slice];exact fun e=>HG.out.apartG i hin e.symm
  have HSQ:Hid (sqWork (sqAt qs i) (.write s)=((sqAt qs i).1++[s],(sqAt qs i).2.1,(sqAt qs i).2.2)):=rfl
  clear c1 c2
  rw[show shV (.write s)=.iface 210 (.agg #[.string s]) from rfl]
  go_enter Tryz.func127,Tryz.ntmps127
  go_upto_region 3 with fail
  rw[<- hwA]
  clear hwA
  go_region_law (first
   | (refine step_append_lies _ (by rfl) _ _ _ (by rfl) B 9 i0 (.string ByteArray.empty) 1 16 Tryz.underlying40 hi0 hzz0 hzz1 hzz2 rfl (by decide) (.slice (A i) (sqAt qs i).1.length (C i)) (sqAt qs i).1.length (pgV (sqAt qs i).1) (by rfl) HPB.out ⟨w9.heap.size,0,none⟩ 1 1 [.string s] (by rfl) rfl (cell_one_new _ _ _) (by simp[Value.oneCell']) (by omega) (by unfold maxLen;omega) (by omega) (by simp;omega) (w9.heap.size+1) (by simp) ?_;intro g' c' w5 hown5 hgr5 hat5 hlt5;have c5:=(hgr5.cell_far ⟨g,i*3,none⟩ (by simp;omega) HNE.out).trans t0;have f5:=(hgr5.frozen_far ⟨g,i*3,none⟩ (by simp;omega) HNE.out).trans t1;have HO5:=hide hown5;have HR5:=hide hgr5;have HA5:=hide hat5;clear hown5 hgr5 hat5)
   | (go_simp;go_at_call 112;refine(HCL _).out.mono ?_;rintro e w9 ⟨rfl,b9⟩;have B9:=hide ((Below.refl wA.heap.size wA).drew.trans b9);have hs9:wA.heap.size<=w9.heap.size:=b9.size;have HG9:=hide (HGA.out.later B9.out);obtain⟨u0,_,_⟩:=HG9.out.cells hin;have HBB:=hide ((Below.refl w9.heap.size w9).alloc (Nat.le_refl _) (.cells #[.string s] 9));have HGB:=hide (HG9.out.later HBB.out);have HPB:=hide (HGB.out.pages.own i hin);obtain⟨t0,_,_⟩:=HGB.out.cells hin;have t1:=HGB.out.open_ (show i*3<3*n by omega);clear b9;dsimp only))
  all_goals
   have hzB:(w9.alloc (.cells #[.string s] 9)).heap.size=w9.heap.size+1:=by simp
   have HR6:Hid ((w9.alloc (.cells #[.string s] 9)).grownBy w5 (oB (A i))):=⟨HR5.out.os,HR5.out.tape,HR5.out.output,HR5.out.size,fun k hk hne=>HR5.out.block k hk (by rw[ownBlock_slice];exact hne)⟩
   have HGF:=hide (HGB.out.wrote hin HR6.out HO5.out (HA5.out.imp (fun e=>by rw[ownBlock_slice] at e;exact e) (fun e=>by omega)))
   have HON:=hide ((((only_of_below (B:=B) (g:=g) (below_here HBA.out B9.out) hB).on HBB.out (by omega)).grown HPB.out HR6.out (by omega)).set HG.out.atG (i*3) (.slice (some ⟨g',0,none⟩) ((sqAt qs i).1.length+1) c'))
   go_wp2_with fail
   go_end0
   first|exact⟨rfl,_,_,by rw[HSQ.out];exact HGF.out,HON.out,fun j hj=>upd_other _ _ hj⟩|exact⟨rfl,⟨_,_,by rw[HSQ.out];exact HGF.out,fun j hj=>upd_other _ _ hj⟩,HON.out⟩|exact⟨rfl,HON.out,_,_,by rw[HSQ.out];exact HGF.out,fun j hj=>upd_other _ _ hj⟩
 | wipe =>
  have q0:=Tryz.asWiWr (.agg #[])
  have q1:=Tryz.asWiWi (.agg #[])
  obtain⟨wA,hwA⟩:∃wA,wA=w.alloc (.cells #[] 212):=⟨_,rfl⟩
  have hzA:wA.heap.size=w.heap.size+1:=by rw[hwA];simp
  have HBA:Hid (Below w.heap.size w wA):=by rw[hwA];exact(Below.refl _ _).alloc (Nat.le_refl _) _
  have HGA:=hide (HG.out.later HBA.out)
  obtain⟨c0,c1,c2⟩:=HGA.out.cells hin
  have f0:=HGA.out.open_ (show i*3<3*n by omega)
  have f1:=HGA.out.open_ (show i*3+1<3*n by omega)
  have HSQ:Hid (sqWork (sqAt qs i) .wipe=([],(sqAt qs i).2.1+1,(sqAt qs i).2.2)):=rfl
  have HG2:=hide (HGA.out.setPages hin (w1:=wA) (a':=none) (c':=0) (ts':=[]) ⟨rfl,rfl,rfl,Nat.le_refl _,fun _ _ _=>rfl⟩ (World.ownsRow_nil _ _ _ _) (fun m hm=>by cases hm))
  have HG3:=hide (HG2.out.setWipes hin ((sqAt qs i).2.1+1))
  have HON:=hide (((only_of_below (B:=B) (g:=g) HBA.out hB).set HG.out.atG (i*3) (.slice none 0 0)).set HG.out.atG (i*3+1) (.int .i64 ((sqAt qs i).2.1+1)))
  have HSS:Hid ((qs.set i ([],(sqAt qs i).2.1,(sqAt qs i).2.2)).set i ((sqAt (qs.set i ([],(sqAt qs i).2.1,(sqAt qs i).2.2)) i).1,(sqAt qs i).2.1+1,(sqAt (qs.set i ([],(sqAt qs i).2.1,(sqAt qs i).2.2)) i).2.2)=qs.set i ([],(sqAt qs i).2.1+1,(sqAt qs i).2.2)):=by
   show _=_
   rw[List.set_set,sqAt_set qs _ hil,if_pos rfl]
  have hz0:=hzw.1
  have hz1:=hzw.2
  clear hzw
  generalize (sqAt qs i).2.1=zw at *
  rw[show shV .wipe=.iface 212 (.agg #[]) from rfl]
  go_enter Tryz.func127,Tryz.ntmps127
  go_upto_region 6 with fail
  rw[<- hwA]
  clear hwA
  go_wp2_with fail
  go_end0
  first|exact⟨rfl,upd A i none,upd C i 0,by rw[HSQ.out,<- HSS.out];exact HG3.out,HON.out,fun j hj=>upd_other _ _ hj⟩|exact⟨rfl,⟨upd A i none,upd C i 0,by rw[HSQ.out,<- HSS.out];exact HG3.out,fun j hj=>upd_other _ _ hj⟩,HON.out⟩|exact⟨rfl,HON.out,upd A i none,upd C i 0,by rw[HSQ.out,<- HSS.out];exact HG3.out,fun j hj=>upd_other _ _ hj⟩
 | half b =>
  have q0:=Tryz.asHaWr (.agg #[.int .i64 b])
  have q1:=Tryz.asHaWi (.agg #[.int .i64 b])
  have q2:=Tryz.asHaHa (.agg #[.int .i64 b])
  obtain⟨wA,hwA⟩:∃wA,wA=w.alloc (.cells #[.int .i64 b] 214):=⟨_,rfl⟩
  have hzA:wA.heap.size=w.heap.size+1:=by rw[hwA];simp
  have HBA:Hid (Below w.heap.size w wA):=by rw[hwA];exact(Below.refl _ _).alloc (Nat.le_refl _) _
  have H1:Hid (wA.heap[w.heap.size]?=some (.cells #[.int .i64 b] 214)):=by rw[hwA];exact heap_new _ _
  have HGA:=hide (HG.out.later HBA.out)
  obtain⟨c0,c1,c2⟩:=HGA.out.cells hin
  have HON0:=hide (only_of_below (B:=B) (g:=g) HBA.out hB)
  obtain⟨av,hav⟩:∃av,av=A i:=⟨_,rfl⟩
  rw[<- hav] at c0
  have HAV:=hide hav
  clear hav
  have HSQ:Hid (sqWork (sqAt qs i) (.half b)=((sqAt qs i).1.map (part · b),(sqAt qs i).2.1+1,(sqAt qs i).2.2)):=rfl
  clear c1 c2
  obtain⟨ts,hts⟩:∃ts,ts=(sqAt qs i).1:=⟨_,rfl⟩
  have HTE:=hide hts
  rw[<- hts] at hl HTS HSQ c0
  clear hts
  obtain⟨q9,hq9⟩:∃q9,q9=sqAt qs i:=⟨_,rfl⟩
  rw[<- hq9] at HSQ hzw HTE
  have HQ0:=hide hq9
  clear hq9
  have HG0:Hid (GrowSqs B wA n (qs.set i (mixL (part · b) ts 0,q9.2.1,q9.2.2)) g A C):=by
   have e:qs.set i (mixL (part · b) ts 0,q9.2.1,q9.2.2)=qs:=by
    have e1:(mixL (part · b) ts 0,q9.2.1,q9.2.2)=sqAt qs i:=by rw[mixL_zero,HTE.out,<- HQ0.out]
    rw[e1]
    exact set_sqAt qs hil
   rw[e];exact HGA.out
  have hz0:=hzw.1
  have hz1:=hzw.2
  clear hzw
  rw[show shV (.half b)=.iface 214 (.agg #[.int .i64 b]) from rfl]
  go_enter Tryz.func127,Tryz.ntmps127
  go_upto_region 10 with fail
  rw[<- hwA]
  clear hwA
  go_wp2_with fail
  go_loopw [47] (fun t wr=>∃k:Nat,k<=ts.length∧t=.int .i64 (k:Int)∧GrowSqs B wr n (qs.set i (mixL (part · b) ts k,q9.2.1,q9.2.2)) g A C∧Only B g w wr∧wr.cell? ⟨w.heap.size,0,none⟩=some (.int .i64 b)) (fun t _=>ts.length-(intOf t).toNat)
  case atStart=>exact⟨0,Nat.zero_le _,rfl,HG0.out,HON0.out,by simp[World.cell?,H1.out]⟩
  case round =>
   obtain⟨k,hk,rfl,hGk,hOk,hbc⟩:=hrel
   clear c0
   have HGK:=hide hGk
   have HOK2:=hide hOk
   have HBC:=hide hbc
   obtain⟨c0,c1,c2⟩:=hGk.cells hin
   have f1:=hGk.open_ (show i*3+1<3*n by omega)
   have HPO:=hide (hGk.pages.own i hin)
   have hgr:g<wr.heap.size:=by have:=hGk.row.1;omega
   rw[sqAt_set qs _ hil,if_pos rfl] at c0 c1 c2 HPO
   dsimp only at c0 c1 c2 HPO
   rw[mixL_length,<- HAV.out] at c0
   clear hGk hOk c2
   by_cases hlt:k<ts.length
   ·rcases pg_form HPO.out with⟨_,e,_⟩|⟨pb,hA,hB1,hB2,_⟩
    ·exact absurd (congrArg List.length e) (by rw[mixL_length,List.length_nil];omega)
    ·have HPO2:Hid (PgOwn B wr (some ⟨pb,0,none⟩) (C i) (mixL (part · b) ts k)):=by rw[<- hA];exact HPO.out
     have hav2:av=some ⟨pb,0,none⟩:=HAV.out.trans hA
     subst hav2
     have hck:wr.cell? ⟨pb,k,none⟩=some (.string (ts.getD k ByteArray.empty)):=by
      rw[HPO2.out.cellAt k (by rw[mixL_length];omega)]
      unfold pgV
      rw[List.getElem?_map,mixL_at (part · b) hlt]
      rfl
     have hfk:wr.frozen? ⟨pb,k,none⟩=false:=HPO2.out.frozenAt k
     have htk:=HTS.out _ (getD_memT hlt)
     have HLP:∀w9,Hid (Calls Tryz.prog 172 #[.string (ts.getD k ByteArray.empty),.int .i64 b] w9 fun e w'=>e=.returned (.string (part (ts.getD k ByteArray.empty) b))∧w9=w'):=fun w9=>firstBytes_any _ b w9 htk.1 htk.2
     have HGN:=hide (HGK.out.setText (k:=k) hin hA (part (ts.getD k ByteArray.empty) b))
     have HON:=hide (HOK2.out.setPg HPO2.out k (.string (part (ts.getD k ByteArray.empty) b)))
     have hpw:pb≠w.heap.size:=fun e=>by
      have h9:=pg_ne (HGA.out.pages.own i hin) H1.out (by decide)
      rw[hA,e] at h9
      exact h9 rfl
     have HBC2:Hid ((wr.setCell ⟨pb,k,none⟩ (.string (part (ts.getD k ByteArray.empty) b))).cell? ⟨w.heap.size,0,none⟩=some (.int .i64 b)):=(World.cell?_setCell_other _ _ _ _ (by intro e;simp only[Addr.mk.injEq] at e;exact hpw e.1)).trans hbc
     have HSS:Hid ((qs.set i (mixL (part · b) ts k,q9.2.1,q9.2.2)).set i ((sqAt (qs.set i (mixL (part · b) ts k,q9.2.1,q9.2.2)) i).1.set k (part (ts.getD k ByteArray.empty) b),(sqAt (qs.set i (mixL (part · b) ts k,q9.2.1,q9.2.2)) i).2.1,(sqAt (qs.set i (mixL (part · b) ts k,q9.2.1,q9.2.2)) i).2.2)=qs.set i (mixL (part · b) ts (k+1),q9.2.1,q9.2.2)):=by
      show _=_
      rw[List.set_set,sqAt_set qs _ hil,if_pos rfl,mixL_step (part · b) hlt]
     clear HPO HPO2 htk c1 f1
     generalize hpx:part (ts.getD k ByteArray.empty) b=px at *
     generalize ts.getD k ByteArray.empty=x at *
     clear hpx
     go_wp2_with fail
     refine wp_region_quiet_tail 9 (by kernel_rfl) (by kernel_rfl) ?_
     simp only[List.take_succ_cons,List.take_zero,List.drop_succ_cons,List.drop_zero]
     repeat (go_big_quiet_step ((go_at_call 172;exact Calls.quiet_of_same ((HLP _).out.mono fun e w' hh=>⟨hh.1,hh.2.symm⟩))))
     refine wpQuiet_nil ?_
     rintro _ ⟨nq,rfl⟩
     go_wp2_with fail
     rw[HSS.out] at HGN
     go_roundw
     case rel=>exact⟨k+1,by omega,by go_num,HGN.out.later ⟨rfl,rfl,rfl,Nat.le_refl _,fun _ _=>rfl⟩,HON.out.on ⟨rfl,rfl,rfl,Nat.le_refl _,fun _ _=>rfl⟩ (by rw[Go.Deep.nblk_setCell];omega),HBC2.out⟩
     case measure=>simp[intOf];omega
   ·obtain rfl:k=ts.length:=by omega
    have HGN:=hide (HGK.out.setWipes hin (q9.2.1+1))
    have HON:=hide (HOK2.out.set HGK.out.atG (i*3+1) (.int .i64 (q9.2.1+1)))
    have HSS:Hid ((qs.set i (mixL (part · b) ts ts.length,q9.2.1,q9.2.2)).set i ((sqAt (qs.set i (mixL (part · b) ts ts.length,q9.2.1,q9.2.2)) i).1,q9.2.1+1,(sqAt (qs.set i (mixL (part · b) ts ts.length,q9.2.1,q9.2.2)) i).2.2)=qs.set i (ts.map (part · b),q9.2.1+1,q9.2.2)):=by
     show _=_
     rw[List.set_set,sqAt_set qs _ hil,if_pos rfl,mixL_all]
    generalize q9.2.1=zw at *
    go_wp2_with fail
    go_end0
    first|exact⟨rfl,A,C,by rw[<- HQ0.out,HSQ.out,<- HSS.out];exact HGN.out,HON.out,fun _ _=>rfl⟩|exact⟨rfl,⟨A,C,by rw[<- HQ0.out,HSQ.out,<- HSS.out];exact HGN.out,fun _ _=>rfl⟩,HON.out⟩|exact⟨rfl,HON.out,A,C,by rw[<- HQ0.out,HSQ.out,<- HSS.out];exact HGN.out,fun _ _=>rfl⟩|exact⟨rfl,A,⟨C,by rw[<- HQ0.out,HSQ.out,<- HSS.out];exact HGN.out⟩,HON.out,fun _ _=>rfl⟩|exact⟨rfl,⟨A,⟨C,by rw[<- HQ0.out,HSQ.out,<- HSS.out];exact HGN.out⟩,fun _ _=>rfl⟩,HON.out⟩
 | spoil =>
  have q0:=Tryz.asSpWr (.agg #[])
  have q1:=Tryz.asSpWi (.agg #[])
  have q2:=Tryz.asSpHa (.agg #[])
  have q3:=Tryz.asSpSp (.agg #[])
  obtain⟨wA,hwA⟩:∃wA,wA=w.alloc (.cells #[] 215):=⟨_,rfl⟩
  have hzA:wA.heap.size=w.heap.size+1:=by rw[hwA];simp
  have HBA:Hid (Below w.heap.size w wA):=by rw[hwA];exact(Below.refl _ _).alloc (Nat.le_refl _) _
  have HGA:=hide (HG.out.later HBA.out)
  obtain⟨c0,c1,c2⟩:=HGA.out.cells hin
  have f2:=HGA.out.open_ (show i*3+2<3*n by omega)
  have HGF:=hide (HGA.out.setBad hin true)
  have HON:=hide ((only_of_below (B:=B) (g:=g) HBA.out hB).set HG.out.atG (i*3+2) (.bool true))
  have HSQ:Hid (sqWork (sqAt qs i) .spoil=((sqAt qs i).1,(sqAt qs i).2.1,true)):=rfl
  rw[show shV .spoil=.iface 215 (.agg #[]) from rfl]
  go_enter Tryz.func127,Tryz.ntmps127
  go_upto_region 18 with fail
  rw[<- hwA]
  clear hwA
  go_wp2_with fail
  go_end0
  first|exact⟨rfl,A,C,by rw[HSQ.out];exact HGF.out,HON.out,fun _ _=>rfl⟩|exact⟨rfl,⟨A,C,by rw[HSQ.out];exact HGF.out,fun _ _=>rfl⟩,HON.out⟩|exact⟨rfl,HON.out,A,C,by rw[HSQ.out];exact HGF.out,fun _ _=>rfl⟩
theorem sqWork_of (q:Sq){kd:Int}{tx:ByteArray}(h:kd=1∨kd=2∨kd=3):sqWork q (shOf kd tx)=sqDo q kd tx:=by
 rcases h with rfl|rfl|rfl<;>rfl
theorem shT_yes {qs:List Sq}{kd:Int}{i:Nat}{tx:ByteArray}(h:i<qs.length):shT qs (kd,(i:Int),tx)=shOf kd tx:=by
 have e:inB (i:Int) 0 ((qs.length:Int)-1)=true:=by unfold inB;simp;omega
 unfold shT;dsimp only;rw[e];rfl
theorem canK_three {z:Int}{q:Sq}{kd:Int}{tx:ByteArray}(h:canK z q kd tx=true):kd=1∨kd=2∨kd=3:=by
 rcases canK_kind h with h|h|h
 ·exact .inl h.1
 ·exact .inr (.inl h.1)
 ·exact .inr (.inr h)
theorem shOf_write {z:Int}{q:Sq}{kd:Int}{tx s:ByteArray}(hk:canK z q kd tx=true)(e:shOf kd tx=.write s):1<=s.size∧s.size<=200:=by
 rcases canK_kind hk with⟨rfl,_,h1,h2⟩|⟨rfl,_⟩|rfl
 ·have e':Sh.write tx=.write s:=e
  cases e'
  exact⟨h1,h2⟩
 ·cases e
 ·cases e
set_option maxHeartbeats 1600000 in
theorem alter_at (c B:Nat)(z:Int)(n:Nat)(qs:List Sq)(g:Nat)(A:Nat->Option Addr)(C:Nat->Nat)(kd sq:Int)(tx:ByteArray)(w:World)(hG:GrowSqs B w n qs g A C)(hB:B<=w.heap.size)(hok:chipOk z qs=true)(htx:tx.size<=maxLen) :
  Calls Tryz.prog 125 #[.agg #[.int .i64 z,.slice (some ⟨g,0,none⟩) n c],.agg #[.int .i64 kd,.int .i64 sq,.string tx]] w fun e w'=>e=.returned (.bool (canJ z qs (kd,sq,tx)))∧∃A' C',GrowSqs B w' n (doJ z qs (kd,sq,tx)) g A' C'∧Only B g w w'∧∀j:Nat,(j:Int)≠sq->A' j=A j:=by
 obtain⟨wA,hwA⟩:∃wA,wA=(w.alloc (.cells #[.int .i64 z,.slice (some ⟨g,0,none⟩) n c] 26)).alloc (.cells #[.int .i64 kd,.int .i64 sq,.string tx] 98):=⟨_,rfl⟩
 have hzA:wA.heap.size=w.heap.size+1+1:=by rw[hwA];simp
 have HBA:Hid (Below w.heap.size w wA):=by rw[hwA];exact((Below.refl _ _).alloc (Nat.le_refl _) _).alloc (by simp) _
 have H1:Hid (wA.heap[w.heap.size]?=some (.cells #[.int .i64 z,.slice (some ⟨g,0,none⟩) n c] 26)):=by rw[hwA];exact heap_old (heap_new _ _)
 have H2:Hid (wA.heap[w.heap.size+1]?=some (.cells #[.int .i64 kd,.int .i64 sq,.string tx] 98)):=by rw[hwA];exact heap_at (by simp)
 have HGA:=hide (hG.later HBA.out)
 have HOK:=hide hok
 have HL:=hide hG.len
 have hn12:n<=12:=by have:=(chipOk_parts hok).2.2.2.1;rw[hG.len] at this;exact this
 have hz8:=(chipOk_parts hok).2.1
 have HL8:Hid (∀q∈qs,q.1.length<=8):=fun q hq=>by have:=(sqOk_parts ((chipOk_parts HOK.out).2.2.2.2 q hq)).1;omega
 clear hG hok
 obtain⟨a0,a1⟩:=two_cells H1.out
 obtain⟨b0,b1,b2⟩:=three_cells H2.out
 go_enter Tryz.func125,Tryz.ntmps125
 go_upto_region 1 with fail
 rw[<- hwA]
 clear hwA
 go_wp2_with fail
 refine(takenShape_any z (some ⟨g,0,none⟩) n c qs kd sq tx wA HGA.out.ownS.squares (Nat.le_refl _) hn12 HL8.out htx).mono ?_
 rintro e w1 ⟨rfl,hb1⟩
 have hs1:=hb1.size
 have K1:=hide (block_on H1.out hb1)
 have K2:=hide (block_on H2.out hb1)
 have HG1:=hide (HGA.out.later hb1)
 have HB1:=hide (below_here HBA.out hb1)
 clear hb1 H1 H2 HGA HBA a0 a1 b0 b1 b2
 cases hcan:canJ z qs (kd,sq,tx) with
 | false =>
  have HC:=hide hcan
  clear hcan
  generalize shV (shT qs (kd,sq,tx))=sv
  go_wp2_with fail
  go_ret
  exact⟨ret_bool HC.out.symm,A,C,by rw[doJ_no HC.out];exact HG1.out,only_of_below HB1.out hB,fun _ _=>rfl⟩
 | true =>
  obtain⟨i,hi,hil,hbad,hkk⟩:=canJ_parts hcan
  dsimp only at hi hkk
  subst hi
  have hin:i<n:=by rw[<- HL.out];exact hil
  have HDO:=hide (doJ_yes hcan)
  have HC:=hide hcan
  have hsq:=sqOk_parts (chipOk_at HOK.out hil)
  have HSW:=hide (sqWork_of (sqAt qs i) (tx:=tx) (canK_three hkk))
  have HWK:∀w9,Hid (GrowSqs B w9 n qs g A C->B<=w9.heap.size->Calls Tryz.prog 127 #[.pointer (some ⟨g,i*3,none⟩),shV (shOf kd tx)] w9 fun e w'=>e=.returned (.tuple #[])∧∃A' C',GrowSqs B w' n (qs.set i (sqWork (sqAt qs i) (shOf kd tx))) g A' C'∧Only B g w9 w'∧∀j,j≠i->A' j=A j):=fun w9 h9 hb9=>work_at B n qs g A C i (shOf kd tx) w9 h9 hb9 hin (HL8.out _ (sqAt_mem hil)) ⟨hsq.2.1,hsq.2.2.1⟩ hsq.2.2.2 (fun s e=>(shOf_write hkk e).2)
  rw[shT_yes hil]
  clear hcan hkk hsq
  obtain⟨a0,a1⟩:=two_cells K1.out
  obtain⟨b0,b1,b2⟩:=three_cells K2.out
  generalize shV (shOf kd tx)=sv at *
  go_wp2_with fail
  refine((HWK w1).out HG1.out (by omega)).mono ?_
  rintro e w2 ⟨rfl,A',C',hG2,hO2,hJ2⟩
  have HG2:=hide hG2
  have HO2:=hide ((only_of_below (B:=B) (g:=g) HB1.out hB).trans hO2)
  have HJ2:Hid (∀j:Nat,(j:Int)≠(i:Int)->A' j=A j):=fun j hj=>hJ2 j (by omega)
  clear hG2 hO2 hJ2
  go_wp2_with fail
  go_ret
  exact⟨ret_bool HC.out.symm,A',C',by rw[HDO.out,<- HSW.out];exact HG2.out,HO2.out,HJ2.out⟩
end Go.Proofs.YtgjoepdfhadmcaaGreatDoor
end

section
namespace Go.Proofs.YtgjoepdfhadmcaaGreatDoor
open Go.RowKit
set_option linter.unusedVariables false
set_option maxRecDepth 20000
theorem plAt_take (ps:List Pl)(k:Nat){j:Nat}(h:j<k):plAt (ps.take k) j=plAt ps j:=by
 unfold plAt
 rw[List.getD_eq_getElem?_getD,List.getD_eq_getElem?_getD,List.getElem?_take,if_pos h]
theorem noneOf_take (ps:List Pl)(k:Nat)(v:Pl):noneOf (ps.take k) k v=noneOf ps k v:=by
 unfold noneOf
 rw[Bool.eq_iff_iff,List.all_eq_true,List.all_eq_true]
 constructor
 ·intro h j hj
  have:=h j hj
  rwa [plAt_take ps k (List.mem_range.1 hj)] at this
 ·intro h j hj
  rw[plAt_take ps k (List.mem_range.1 hj)]
  exact h j hj
theorem Places.take {lo hi n:Nat}{w:World}{a:Option Addr}{ps:List Pl}(h:Places lo hi w a n ps){k:Nat}(hk:k<=n):Places lo hi w a k (ps.take k):=by
 obtain⟨hl,hz,hx⟩:=h
 refine⟨by rw[List.length_take];omega,hz,fun h0=>?_⟩
 obtain⟨b,off,e,h1,h2,h3⟩:=hx (by omega)
 refine⟨b,off,e,h1,h2,fun i hi=>?_⟩
 rw[h3 i (by omega)]
 unfold cellP
 rw[plAt_take ps k (show i / 2<k by omega)]
set_option maxHeartbeats 3200000 in
theorem implMapOk_any (z:Int)(a:Option Addr)(n cap:Nat)(qs:List Sq)(al:Option Addr)(m capl:Nat)(ps:List Pl)(w:World){lo hi lo' hi':Nat}(h:Squares lo hi w a n qs)(hhi:hi<=w.heap.size)(hn:n<=1048576)(hf:∀x∈qs,sqFits x)(hp:Places lo' hi' w al m ps)(hhi':hi'<=w.heap.size)(hm:m<=1048576)(hcl:m<=capl) :
  Calls Tryz.prog 86 #[.agg #[.int .i64 z,.slice a n cap],.slice al m capl] w fun e w'=>e=.returned (.bool (mapOk z qs ps))∧Below w.heap.size w w':=by
 obtain⟨wA,hwA⟩:∃wA,wA=w.alloc (.cells #[.int .i64 z,.slice a n cap] 26):=⟨_,rfl⟩
 have hzA:wA.heap.size=w.heap.size+1:=by rw[hwA];simp
 have HBA:Hid (Below w.heap.size w wA):=by rw[hwA];exact(Below.refl _ _).alloc (Nat.le_refl _) _
 have H1:Hid (wA.heap[w.heap.size]?=some (.cells #[.int .i64 z,.slice a n cap] 26)):=by rw[hwA];exact heap_new _ _
 have HSQ:=hide (h.later HBA.out hhi)
 have HPL:=hide (hp.later HBA.out hhi')
 have HL:=hide h.1
 have HLP:=hide hp.1
 have HF:=hide hf
 clear h hf hp
 obtain⟨a0,a1⟩:=two_cells H1.out
 go_enter Tryz.func86,Tryz.ntmps86
 go_wp2_with fail
 rw[<- hwA]
 clear hwA
 refine(implChipOk_any z a n cap qs wA HSQ.out (by omega) hn HF.out).mono ?_
 rintro e w1 ⟨rfl,b1⟩
 have K1:=hide (block_on H1.out b1)
 have HS1:=hide (HSQ.out.later b1 (by omega))
 have HP1:=hide (HPL.out.later b1 (by omega))
 have HB1:=hide (below_here HBA.out b1)
 have hs1:=b1.size
 clear b1 H1 HSQ HPL HBA a0 a1
 cases hok:chipOk z qs with
 | false =>
  have HE:Hid (mapOk z qs ps=false):=by show _=_;unfold mapOk;rw[hok];rfl
  go_wp2_with fail
  go_ret
  exact⟨ret_bool HE.out.symm,HB1.out⟩
 | true =>
  by_cases h1:1<=m
  ·have g1:decide ((m:Int)<1)=false:=by simp;omega
   by_cases h64:m<=64
   ·have g2:decide ((m:Int) > 64)=false:=by simp;omega
    have HE:Hid (mapOk z qs ps=(List.range ps.length).all (plOk qs ps)):=by
     show _=_
     unfold mapOk
     rw[hok,HLP.out,decide_eq_true h1,decide_eq_true h64]
     rfl
    clear hok
    go_wp2_with fail
    clear g1 g2
    go_loopw [22,5] (fun i _ wr=>∃k:Nat,k<=m∧i=.int .i64 (k:Int)∧(List.range k).all (plOk qs ps)=true∧Below w1.heap.size w1 wr) (fun i _ _=>m-(intOf i).toNat)
    case atStart=>exact⟨0,Nat.zero_le _,rfl,rfl,Below.refl _ _⟩
    case round =>
     obtain⟨k,hk,rfl,hall,hbel⟩:=hrel
     have HAL:=hide hall
     have HBB:=hide hbel
     clear hall
     by_cases hlt:k<m
     ·have hpl:k<ps.length:=by rw[HLP.out];exact hlt
      obtain⟨b,off,rfl,_,hb,hc⟩:=HP1.out.2.2 (by omega)
      obtain⟨c0,c1⟩:=pl_cells hc hbel (show b<w1.heap.size by have:=HP1.out.2.1;omega) hlt
      have HFA:Hid (plOk qs ps k=false->mapOk z qs ps=false):=fun hh=>mapOk_fall hpl hh
      have HST:Hid (plOk qs ps k=true->(List.range (k+1)).all (plOk qs ps)=true):=fun hh=>all_range_step HAL.out hh
      have HPO:Hid (plOk qs ps k=((((plAt ps k).1== -1)&&((plAt ps k).2==0))||(plThere qs (plAt ps k)&&noneOf ps k (plAt ps k)))):=by
       show _=_
       unfold plOk
       rw[pl_eq]
       rfl
      have HTK:=hide (HP1.out.take (show k<=m by omega))
      clear hc
      generalize plAt ps k=y at *
      obtain⟨p,q⟩:=y
      dsimp only at c0 c1 HPO
      obtain⟨wX,hwX⟩:∃wX,wX=wr.alloc (.cells #[.int .i64 p,.int .i64 q] 39):=⟨_,rfl⟩
      have hzX:wX.heap.size=wr.heap.size+1:=by rw[hwX];simp
      have HBX:Hid (Below wr.heap.size wr wX):=by rw[hwX];exact(Below.refl _ _).alloc (Nat.le_refl _) _
      have HX1:Hid (wX.heap[wr.heap.size]?=some (.cells #[.int .i64 p,.int .i64 q] 39)):=by rw[hwX];exact heap_new _ _
      have hsr:=hbel.size
      go_wp2_with fail
      rw[<- hwX]
      clear hwX c0 c1 hbel
      refine(isNone_any p q wX).mono ?_
      rintro e w2 ⟨rfl,b2⟩
      have HX2:=hide (block_on HX1.out b2)
      have HB2:=hide (below_here (below_here HBB.out HBX.out) b2)
      have hs2:=b2.size
      clear b2 HBX HX1
      cases hnone:((p== -1)&&(q==0)) with
      | true =>
       have HOK:=hide (HST.out (by rw[HPO.out,hnone];rfl))
       go_wp2_with fail
       exact⟨⟨k+1,by omega,by go_num,HOK.out,HB2.out⟩,by simp[intOf];omega⟩
      | false =>
       have HPO2:Hid (plOk qs ps k=(plThere qs (p,q)&&noneOf ps k (p,q))):=by show _=_;rw[HPO.out,hnone];rfl
       obtain⟨c0,c1⟩:=two_cells HX2.out
       obtain⟨a0,a1⟩:=two_cells (block_on K1.out HB2.out)
       have cT:∀d os,Calls Tryz.prog 142 #[.agg #[.int .i64 z,.slice a n cap],.int .i64 p,.int .i64 q] (Go.Sort.grow (redrawn w2 d) os) fun e w''=>e=.returned (.bool (plThere qs (p,q)))∧∃p:Regrown,w''=Go.Sort.grow (redrawn w2 p.d) p.os:=fun d os=>Calls.regrown_of ((hasPage_any z a n cap qs p q _ (HS1.out.later (below_here HB2.out (below_regrown w2 d os)) (by omega)) (by have:=(below_regrown w2 d os).size;omega) hn HF.out).mono (fun e w' hh=>⟨by rw[hh.1];unfold plThere;rw[HL.out],hh.2⟩))
       have cC:∀d os,Calls Tryz.prog 143 #[.slice (some ⟨b,off,none⟩) k capl,.agg #[.int .i64 p,.int .i64 q]] (Go.Sort.grow (redrawn w2 d) os) fun e w''=>e=.returned (.bool (!(noneOf ps k (p,q))))∧∃p:Regrown,w''=Go.Sort.grow (redrawn w2 p.d) p.os:=fun d os=>Calls.regrown_of ((containsPl_any (some ⟨b,off,none⟩) k capl (ps.take k) p q _ (HTK.out.later (below_here HB2.out (below_regrown w2 d os)) (by have:=HP1.out.2.1;omega)) (by have:=(below_regrown w2 d os).size;have:=HP1.out.2.1;omega) (by omega)).mono (fun e w' hh=>⟨by rw[hh.1,noneOf_take],hh.2⟩))
       have k0:=cell_regrown a0
       have k1:=cell_regrown a1
       have k2:=cell_regrown c0
       have k3:=cell_regrown c1
       have hkm:(k:Int)<=(m:Int):=by omega
       have hkc:(k:Int)<=(capl:Int):=by omega
       clear hnone
       cases hth:plThere qs (p,q) with
       | false =>
        have HNO:=hide (HFA.out (by rw[HPO2.out,hth];rfl))
        rw[hth] at cT
        go_upto_region 7 with fail
        go_cut [42] (fun c wx=>c=.bool true∧Below w2.heap.size w2 wx)
        case first =>
         refine wp_region_quiet_below (by kernel_rfl) (by kernel_rfl) ?_
         repeat (go_big_quiet_step ((go_at_call 142;exact cT _ _)))
         refine wpQuiet_nil ?_
         intro _ hw'
         obtain⟨⟨dq,osq⟩,hw''⟩:=hw'
         subst hw''
         have HBQ:=hide (below_regrown w2 dq osq)
         go_wp2_with fail
         go_meet
         exact⟨rfl,HBQ.out⟩
        case rest =>
         obtain⟨rfl,hb3⟩:=hcut
         have HB3:=hide (below_here HB2.out hb3)
         clear hb3 k0 k1 k2 k3 cT cC c0 c1 a0 a1
         go_wp2_with fail
         go_ret
         exact⟨ret_bool HNO.out.symm,below_here HB1.out HB3.out⟩
       | true =>
        have HPO3:Hid (plOk qs ps k=noneOf ps k (p,q)):=by show _=_;rw[HPO2.out,hth];rfl
        rw[hth] at cT
        go_upto_region 7 with fail
        go_cut [42] (fun c wx=>c=.bool (!(noneOf ps k (p,q)))∧Below w2.heap.size w2 wx)
        case first =>
         refine wp_region_quiet_below (by kernel_rfl) (by kernel_rfl) ?_
         repeat (go_big_quiet_step ((first|(go_at_call 142;exact cT _ _)|(go_at_call 143;exact cC _ _))))
         refine wpQuiet_nil ?_
         intro _ hw'
         obtain⟨⟨dq,osq⟩,hw''⟩:=hw'
         subst hw''
         have HBQ:=hide (below_regrown w2 dq osq)
         go_wp2_with fail
         go_meet
         exact⟨rfl,HBQ.out⟩
        case rest =>
         obtain⟨rfl,hb3⟩:=hcut
         have HB3:=hide (below_here HB2.out hb3)
         clear hb3 k0 k1 k2 k3 cT cC c0 c1 a0 a1
         cases hno:noneOf ps k (p,q) with
         | false =>
          have HNO:=hide (HFA.out (by rw[HPO3.out,hno]))
          go_wp2_with fail
          go_ret
          exact⟨ret_bool HNO.out.symm,below_here HB1.out HB3.out⟩
         | true =>
          have HOK:=hide (HST.out (by rw[HPO3.out,hno]))
          go_wp2_with fail
          exact⟨⟨k+1,by omega,by go_num,HOK.out,HB3.out⟩,by simp[intOf];omega⟩
     ·obtain rfl:k=m:=by omega
      have HE2:Hid (mapOk z qs ps=true):=by show _=_;rw[HE.out,HLP.out];exact HAL.out
      go_wp2_with fail
      go_ret
      exact⟨ret_bool HE2.out.symm,below_here HB1.out HBB.out⟩
   ·have g2:decide ((m:Int) > 64)=true:=by simp;omega
    have HE:Hid (mapOk z qs ps=false):=by show _=_;unfold mapOk;rw[HLP.out,decide_eq_false h64];simp
    go_wp2_with fail
    go_ret
    exact⟨ret_bool HE.out.symm,HB1.out⟩
  ·have g1:decide ((m:Int)<1)=true:=by simp;omega
   have HE:Hid (mapOk z qs ps=false):=by show _=_;unfold mapOk;rw[HLP.out,decide_eq_false h1];simp
   go_wp2_with fail
   go_ret
   exact⟨ret_bool HE.out.symm,HB1.out⟩
end Go.Proofs.YtgjoepdfhadmcaaGreatDoor
end

