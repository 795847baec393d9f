/- . -/
import Derived.Test.YtgjoepdfhadmcaaGreatDoorMWalkB1
import Derived.Test.YtgjoepdfhadmcaaGreatDoorMBase
import Derived.Laws.ResultCell
import Derived.RegionTactic
import Derived.BigRegion
namespace Go.Proofs.YtgjoepdfhadmcaaGreatDoor
open Go.RowKit
set_option linter.unusedVariables false
set_option maxRecDepth 20000
def woven (s:ByteArray)(d:Int):ByteArray:=if woveOk s d=true then str (Wv.wovenL s.data.toList d.toNat) else⟨#[]⟩
def unwoven (s:ByteArray)(d:Int):ByteArray:=if woveOk s d=true then str (Wv.unwovenL s.data.toList d.toNat) else⟨#[]⟩
theorem woven_no {s:ByteArray}{d:Int}(h:woveOk s d=false):woven s d=⟨#[]⟩:=by simp[woven,h]
theorem unwoven_no {s:ByteArray}{d:Int}(h:woveOk s d=false):unwoven s d=⟨#[]⟩:=by simp[unwoven,h]
theorem woven_yes {s:ByteArray}{D:Nat}(h:woveOk s (D:Int)=true):woven s (D:Int)=str (Wv.wovenL s.data.toList D):=by simp[woven,h]
theorem unwoven_yes {s:ByteArray}{D:Nat}(h:woveOk s (D:Int)=true):unwoven s (D:Int)=str (Wv.unwovenL s.data.toList D):=by simp[unwoven,h]
theorem index_at' {P:Program}(t:TypeId)(ht:P.underlying t=some .string)(s:ByteArray)(k:Nat)(h:k<s.size)(A:Nat)(hA:A=s[k].toNat) :
  ∀w,(Instr.index t (.string s) (.int .i64 (k:Int))).run P w=.ok (.int .u8 (A:Int)) w:=by
 intro w
 rw[run_index_string (P:=P) w t s .i64 (k:Int) ht]
 simp[h,hA]
theorem order_cells {w:World}{base n d:Nat}{v:Value}(h:w.ownsRow base 2 1 v n ((Wv.order n d).map natV))(hd:0<d) :
  ∃a cap,v=.slice a n cap∧n<=cap∧Owned base w.heap.size w a n (fun i=>.int .i64 (Wv.num n d i:Int)):=by
 obtain⟨a,cap,rfl,hcap,hlen,_,how⟩:=owned_of_own h
 refine⟨a,cap,rfl,hcap,how.congr (fun i hi=>?_)⟩
 have hl:=Wv.order_length (n:=n) hd
 unfold Wv.num
 rw[List.getD_eq_getElem?_getD,List.getD_eq_getElem?_getD,List.getElem?_map,List.getElem?_eq_getElem (by omega)]
 rfl
theorem own_other {w w':World}{base e n base' e' n':Nat}{v v':Value}{xs xs':List Value}(h:w.ownsRow base e 1 v n xs)(h':w.ownsRow base' e' 1 v' n' xs')(hg:w.grownBy w' v'.ownBlock)(he:e≠e'):w'.ownsRow base e 1 v n xs:=by
 obtain⟨h1,h2⟩:=h
 refine⟨h1,?_⟩
 rcases h2 with hn|⟨g,cap,cur,rfl,hbg,hgg,rest⟩
 ·exact .inl hn
 ·refine .inr ⟨g,cap,cur,rfl,hbg,(hg.block g (Array.getElem?_eq_some_iff.1 hgg).1 fun ek=>?_).trans hgg,rest⟩
  rcases h'.2 with⟨rfl,_⟩|⟨g',cap',cur',rfl,_,hgg',_⟩
  ·simp[Value.ownBlock] at ek
  ·simp only[Value.ownBlock,Option.some.injEq] at ek
   subst ek
   rw[hgg] at hgg'
   simp only[Option.some.injEq,Obj.cells.injEq] at hgg'
   exact he hgg'.2.1
theorem below_drewN {B:Nat}{a w:World}(h:Below B a w)(k:Nat):Below B a (w.drewN k):=⟨h.os,h.tape,h.output,h.size,h.block⟩
set_option maxHeartbeats 1600000 in
theorem specWoven_any (s:ByteArray)(d:Int)(w:World)(hs:s.size<=1048576) :
  Calls Tryz.prog 203 #[.string s,.int .i64 d] w fun e w'=>e=.returned (.string (woven s d))∧Below w.heap.size w w':=by
 cases hb:woveOk s d
 ·have HE:=hide (woven_no hb)
  go_enter Tryz.func203,Tryz.ntmps203
  go_wp2_with fail
  refine(l5Told_any _ _ _ hs).mono ?_
  rw[hb]
  rintro e w1 ⟨rfl,rfl⟩
  go_wp2_with fail
  go_ret
  exact⟨ret_str HE.out.symm,Below.refl _ _⟩
 ·have HB0:=hide hb
  obtain⟨D,rfl,hD1,hD16,hs6⟩:=woveOk_yes hb
  have HE:=hide (woven_yes hb)
  clear hb
  obtain⟨i0,hi0,hz0,hz1,hz2⟩:=info_parts Tryz.infoU8d
  have HO:=hide (own_made0 w 5)
  go_enter Tryz.func203,Tryz.ntmps203
  go_wp2_with fail
  refine(l5Told_any _ _ _ hs).mono ?_
  rw[HB0.out]
  rintro e w1 ⟨rfl,rfl⟩
  go_wp2_with fail
  refine(l5Order_own s.size D _ hs6 hD1 hD16).mono ?_
  rintro e w2 ⟨v,rfl,hown,hbel⟩
  have HO2:=hide (own_aside HO.out (aside_of_below (lo:=0) (hi:=0) hbel) (by omega))
  have HB:=hide ((((Below.refl w.heap.size w).alloc (Nat.le_refl _) (.cells #[] 5)).trans (hbel.mono (by simp))))
  obtain⟨ao,co,rfl,hco,_⟩:=order_cells hown hD1
  have HOR:=hide hown
  clear hown hbel HO
  go_wp2_with fail
  go_loopw [5,7] (fun v i wr=>∃k:Nat,k<=s.size∧i=.int .i64 (k:Int)∧wr.ownsRow w.heap.size 5 1 v k (((Wv.wovenL s.data.toList D).take k).map byteV)∧wr.ownsRow (w.alloc (.cells #[] 5)).heap.size 2 1 (.slice ao s.size co) s.size ((Wv.order s.size D).map natV)∧Below w.heap.size w wr) (fun _ i _=>s.size-(intOf i).toNat)
  case atStart=>exact⟨0,Nat.zero_le _,rfl,HO2.out,HOR.out,HB.out⟩
  case round =>
   obtain⟨k,hk,rfl,hown,hor,hbel⟩:=hrel
   clear HO2 HOR HB
   by_cases hlt:k<s.size
   ·obtain⟨_,_,e0,_,hcs⟩:=order_cells hor hD1
    simp only[Value.slice.injEq] at e0
    obtain⟨rfl,_,rfl⟩:=e0
    obtain⟨b,off,rfl,_,_,hcell⟩:=hcs.2 (by omega)
    have hck:wr.cell? ⟨b,off+k,none⟩=some (.int .i64 (Wv.num s.size D k:Int)):=(hcell k hlt).1
    have hnl:=Wv.num_lt (n:=s.size) (d:=D) hD1 hlt
    obtain⟨q,hq⟩:∃q,q=Wv.num s.size D k:=⟨_,rfl⟩
    rw[<- hq] at hck hnl
    obtain⟨u,hu⟩:∃u,u=s[q]:=⟨_,rfl⟩
    have HU:Hid ((Wv.wovenL s.data.toList D).take (k+1)=(Wv.wovenL s.data.toList D).take k++[u]):=by
     show _=_
     have hl:(Wv.wovenL s.data.toList D).length=s.size:=by rw[Wv.wovenL_length];simp
     rw[List.take_succ_eq_append_getElem (by omega)]
     congr 2
     have h1:=Wv.wovenL_at s.data.toList D k (by simp;omega)
     rw[List.getD_eq_getElem?_getD,List.getElem?_eq_getElem (by omega)] at h1
     simp only[Option.getD_some] at h1
     rw[h1,hu,show s.data.toList.length=s.size by simp,<- hq,byte_at s q hnl]
    have hx:=index_at' (P:=Tryz.prog) 9 Tryz.underlying9 s q hnl u.toNat (by rw[hu])
    have hu8:=UInt8.toNat_lt u
    have HO1:=hide (hown.alloc (.cells #[.int .u8 (u.toNat:Int)] 5))
    have HR1:=hide (hor.alloc (.cells #[.int .u8 (u.toNat:Int)] 5))
    have HB1:=hide (hbel.alloc hbel.size (.cells #[.int .u8 (u.toNat:Int)] 5))
    have HQ:=hide hq
    clear hown hor hbel hcell hcs hq hu
    go_wp2_with (at_builtin;(refine wpList_append_own _ rfl (.tmp 23) (.tmp 30) 22 rfl w.heap.size 5 i0 (.int .u8 0) 1 1 Tryz.underlying22 hi0 hz0 hz1 hz2 rfl (by decide) _ _ _ rfl HO1.out ⟨wr.heap.size,0,none⟩ 1 1 [.int .u8 (u.toNat:Int)] rfl rfl (cell_one_new _ _ _) (byteV_one u) (by unfold maxLen;omega) (by omega) HB1.out.size ?_);intro v' w3 hown2 hgrow2 _;have HO3:=hide hown2;have HR3:=hide (own_other HR1.out HO1.out hgrow2 (by decide));have HB3:=hide (HB1.out.grown hgrow2 HB1.out.size (fun k hk=>(HO1.out.lt k hk).1));clear hown2 hgrow2)
    go_roundw
    case rel=>exact⟨k+1,by omega,by go_num,by rw[HU.out,List.map_append];exact HO3.out,HR3.out,HB3.out⟩
    case measure=>simp[intOf];omega
   ·obtain⟨a,cp,rfl,hcp,hown⟩:=ownBytes_of hown (Nat.le_refl _)
    have hst:=string_of (P:=Tryz.prog) ⟨hown.1,hown.2.reads⟩ 22 9 5 cp Tryz.underlying22 Tryz.underlying5 Tryz.underlying9
    have HB1:=hide hbel
    clear hown hor hbel
    go_wp2_with fail
    go_ret
    exact⟨ret_str (by rw[HE.out,List.take_of_length_le (by rw[Wv.wovenL_length];simp;omega)];rfl),HB1.out⟩
set_option maxHeartbeats 1600000 in
theorem specUnwoven_any (s:ByteArray)(d:Int)(w:World)(hs:s.size<=1048576) :
  Calls Tryz.prog 80 #[.string s,.int .i64 d] w fun e w'=>e=.returned (.string (unwoven s d))∧Below w.heap.size w w':=by
 cases hb:woveOk s d
 ·have HE:=hide (unwoven_no hb)
  go_enter Tryz.func80,Tryz.ntmps80
  go_wp2_with fail
  refine(l5Told_any _ _ _ hs).mono ?_
  rw[hb]
  rintro e w1 ⟨rfl,rfl⟩
  go_wp2_with fail
  go_ret
  exact⟨ret_str HE.out.symm,Below.refl _ _⟩
 ·have HB0:=hide hb
  obtain⟨D,rfl,hD1,hD16,hs6⟩:=woveOk_yes hb
  have HE:=hide (unwoven_yes hb)
  clear hb
  have hmk:=make_row (P:=Tryz.prog) 22 5 (.int .u8 0) 1 Tryz.underlying22 Tryz.infoU8d rfl (s.size:Int) (s.size:Int) s.size s.size rfl rfl (Nat.le_refl _) (by omega) (by omega) w
  have HRW:=hide (World.rowIs_made w (.int .u8 0) s.size 5)
  go_enter Tryz.func80,Tryz.ntmps80
  go_wp2_with fail
  refine(l5Told_any _ _ _ hs).mono ?_
  rw[HB0.out]
  rintro e w1 ⟨rfl,rfl⟩
  go_wp2_with fail
  refine(l5Order_own s.size D _ hs6 hD1 hD16).mono ?_
  rintro e w2 ⟨v,rfl,hown,hbel⟩
  have hsz:(w.alloc (.cells (madeCells #[.int .u8 0] s.size) 5)).heap.size=w.heap.size+1:=by simp
  rw[hsz] at hown
  have HR2:=hide (HRW.out.of_block (hbel.block w.heap.size (by rw[hsz];omega)))
  have HB:=hide ((((Below.refl w.heap.size w).alloc (Nat.le_refl _) (.cells (madeCells #[.int .u8 0] s.size) 5)).trans (hbel.mono (by simp))))
  obtain⟨ao,co,rfl,hco,_⟩:=order_cells hown hD1
  have HOR:=hide hown
  clear hown hbel HRW hmk hsz
  go_wp2_with fail
  go_loopw [7] (fun i wr=>∃k:Nat,k<=s.size∧i=.int .i64 (k:Int)∧wr.rowIs w.heap.size 5 s.size (fun x=>if Wv.pos s.size D x<k then .int .u8 ((s.data.toList.getD (Wv.pos s.size D x) 0).toNat:Int) else .int .u8 0)∧wr.ownsRow (w.heap.size+1) 2 1 (.slice ao s.size co) s.size ((Wv.order s.size D).map natV)∧Below w.heap.size w wr) (fun i _=>s.size-(intOf i).toNat)
  case atStart=>exact⟨0,Nat.zero_le _,rfl,HR2.out.congr (fun i hi=>by simp),HOR.out,HB.out⟩
  case round =>
   obtain⟨k,hk,rfl,hrow,hor,hbel⟩:=hrel
   clear HR2 HOR HB
   by_cases hlt:k<s.size
   ·obtain⟨_,_,e0,_,hcs⟩:=order_cells hor hD1
    simp only[Value.slice.injEq] at e0
    obtain⟨rfl,_,rfl⟩:=e0
    obtain⟨b,off,rfl,_,_,hcell⟩:=hcs.2 (by omega)
    have hck:wr.cell? ⟨b,off+k,none⟩=some (.int .i64 (Wv.num s.size D k:Int)):=(hcell k hlt).1
    have hnl:=Wv.num_lt (n:=s.size) (d:=D) hD1 hlt
    have HP:=hide (Wv.pos_num (n:=s.size) (d:=D) hD1 hlt)
    have HNP:=hide (fun x (hx:x<s.size)=>Wv.num_of_pos (n:=s.size) (d:=D) hD1 hx)
    obtain⟨q,hq⟩:∃q,q=Wv.num s.size D k:=⟨_,rfl⟩
    rw[<- hq] at hck hnl HP
    obtain⟨u,hu⟩:∃u,u=s[k]:=⟨_,rfl⟩
    have hx:=index_at' (P:=Tryz.prog) 9 Tryz.underlying9 s k hlt u.toNat (by rw[hu])
    have hu8:=UInt8.toNat_lt u
    have HU:Hid (u=s.data.toList.getD k 0):=by show _=_;rw[hu,byte_at s k hlt]
    have hcq:=hrow.cell (i:=q) hnl
    have hfq:=hrow.frozen q
    have HR1:=hide (hrow.set q (.int .u8 (u.toNat:Int)))
    have HA1:=hide (own_aside hor ((Aside.refl w.heap.size (w.heap.size+1) wr).setCell (p:=⟨w.heap.size,q,none⟩) (Nat.le_refl _) (Nat.lt_succ_self _) (.int .u8 (u.toNat:Int))) (Nat.le_refl _))
    have HB1:=hide (hbel.trans (((Aside.refl w.heap.size (w.heap.size+1) wr).setCell (p:=⟨w.heap.size,q,none⟩) (Nat.le_refl _) (Nat.lt_succ_self _) (.int .u8 (u.toNat:Int))).below (Nat.le_refl _) hbel.size))
    have HQ:=hide hq
    clear hrow hor hbel hcell hcs hq hu
    go_wp2_with fail
    go_region
    go_wp2_with fail
    go_roundw
    case rel=>exact⟨k+1,by omega,by go_num,HR1.out.congr (fun x hx=>by
     by_cases e:x=q
     ·subst e;rw[if_pos rfl,if_pos (by rw[HP.out];omega),HP.out,<- HU.out]
     ·rw[if_neg e]
      have hne:Wv.pos s.size D x≠k:=fun h=>e (by rw[HQ.out,<- h,HNP.out x hx])
      by_cases h:Wv.pos s.size D x<k
      ·rw[if_pos h,if_pos (by omega)]
      ·rw[if_neg h,if_neg (by omega)]),HA1.out,HB1.out.drew⟩
    case measure=>simp[intOf];omega
   ·have hB:Bytes w.heap.size (w.heap.size+1) wr (some ⟨w.heap.size,0,none⟩) s.size (Wv.unwovenL s.data.toList D):=by
     have hl:s.data.toList.length=s.size:=by simp
     refine⟨by rw[Wv.unwovenL_length,hl],((owned_of_row hrow (Nat.le_refl _) (Nat.lt_succ_self _) (Nat.succ_le_of_lt hrow.lt)).congr (fun x hx=>?_)).reads⟩
     rw[if_pos (Nat.lt_of_lt_of_le (Wv.pos_lt hD1 hx) (by omega))]
     unfold cellB
     rw[Wv.unwovenL_at _ _ _ (by rw[hl];exact hx),hl]
    have hst:=string_of (P:=Tryz.prog) hB 22 9 5 s.size Tryz.underlying22 Tryz.underlying5 Tryz.underlying9
    have HB1:=hide hbel
    clear hB hrow hor hbel
    go_wp2_with fail
    go_ret
    exact⟨ret_str (by rw[HE.out];rfl),HB1.out⟩
end Go.Proofs.YtgjoepdfhadmcaaGreatDoor
