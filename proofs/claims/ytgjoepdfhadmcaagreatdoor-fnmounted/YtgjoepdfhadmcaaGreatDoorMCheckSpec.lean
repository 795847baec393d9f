/- Several texts in one: CheckSpec, CheckImpl. -/
import Derived.Test.YtgjoepdfhadmcaaGreatDoorMWalkB1
import Derived.Test.YtgjoepdfhadmcaaGreatDoorMAppendZ
import Derived.Test.YtgjoepdfhadmcaaGreatDoorMBase
import Derived.Laws.Strings
import Derived.Test.YtgjoepdfhadmcaaGreatDoorMPageBase
section
namespace Go.Proofs.YtgjoepdfhadmcaaGreatDoor
open Go.RowKit
set_option linter.unusedVariables false
set_option maxRecDepth 20000
def bitsZ (l:List UInt8):List Int:=bitsL l++List.replicate 16 0
def natL (xs:List Int):List Nat:=xs.map Int.toNat
def checkN (s:ByteArray):Nat:=Crc.crc (natL (bitsL s.data.toList))
theorem bitsZ_length (l:List UInt8):(bitsZ l).length=8*l.length+16:=by simp[bitsZ,bitsL_length]
theorem natL_bitsZ (l:List UInt8):natL (bitsZ l)=natL (bitsL l)++List.replicate 16 0:=by simp[natL,bitsZ]
theorem bits8_01 (n:Nat):∀b∈bits8 n,0<=b∧b<=1:=by
 intro b hb
 simp only[bits8,List.mem_cons,List.not_mem_nil,or_false] at hb
 rcases hb with rfl|rfl|rfl|rfl|rfl|rfl|rfl|rfl<;>exact bitOf_bd _ _
theorem bitsL_01 (l:List UInt8):∀b∈bitsL l,0<=b∧b<=1:=by
 intro b hb
 simp only[bitsL,List.mem_flatMap] at hb
 obtain⟨c,_,hb⟩:=hb
 exact bits8_01 _ b hb
theorem bitsZ_01 (l:List UInt8):∀b∈bitsZ l,0<=b∧b<=1:=by
 intro b hb
 rcases List.mem_append.1 hb with h|h
 ·exact bitsL_01 l b h
 ·rw[(List.mem_replicate.1 h).2];omega
theorem natL_bit {xs:List Int}(h:∀b∈xs,0<=b∧b<=1):Crc.bitL (natL xs):=by
 intro b hb
 obtain⟨c,hc,rfl⟩:=List.mem_map.1 hb
 have:=h c hc
 omega
theorem bitZ_at (l:List UInt8)(k:Nat)(hk:k<(bitsZ l).length):∃q:Nat,(bitsZ l).getD k 0=(q:Int)∧q<2∧(natL (bitsZ l)).take (k+1)=(natL (bitsZ l)).take k++[q]:=by
 have hm:=bitsZ_01 l (bitsZ l)[k] (List.getElem_mem hk)
 refine⟨(bitsZ l)[k].toNat,?_,by omega,?_⟩
 ·rw[List.getD_eq_getElem?_getD,List.getElem?_eq_getElem hk];simp;omega
 ·rw[List.take_succ_eq_append_getElem (by simpa[natL] using hk)];simp[natL]
theorem run_snoc (l:List Nat)(q r:Nat):Crc.run r (l++[q])=Crc.stp (Crc.run r l) q:=by rw[Crc.run_append];rfl
set_option maxRecDepth 200000 in
set_option maxHeartbeats 1600000 in
theorem specCheck_any (s:ByteArray)(w:World)(hs:s.size<=1048576) :
  Calls Tryz.prog 179 #[.string s] w fun e w'=>e=.returned (.int .i64 (checkN s:Nat))∧Below w.heap.size w w':=by
 obtain⟨i0,hi0,hz0,hz1,hz2⟩:=info_parts Tryz.infoI64
 go_enter Tryz.func179,Tryz.ntmps179
 go_wp2_with fail
 refine(l1Bits_own s w hs).mono ?_
 rintro e w1 ⟨v,rfl,hown,hbel⟩
 obtain⟨v',w2,hr,hown2,hgr⟩:=run_append_own_zeros (P:=Tryz.prog) w1 w.heap.size 58 3 58 2 i0 (.int .i64 0) 8 .i64 Tryz.underlying58 Tryz.underlying3 hi0 hz0 hz1 hz2 rfl rfl v _ _ hown 16 (by omega) (by unfold maxLen;omega) (by omega) hbel.size
 have HB:=hide (hbel.grown hgr hbel.size (fun k hk=>(hown.lt k hk).1))
 obtain⟨a',cap',rfl,hcap',hlen,_,how⟩:=owned_of_own hown2
 have hmap:(bitsL s.data.toList).map (Value.int .i64)++List.replicate 16 (Value.int .i64 0)=(bitsZ s.data.toList).map (Value.int .i64):=by simp[bitsZ]
 have hN:(bitsZ s.data.toList).length=8*s.size+16:=by rw[bitsZ_length];simp
 rw[hmap] at how
 have HC:Hid (∀k,k<8*s.size+16->∃b off,a'=some ⟨b,off,none⟩∧w2.cell? ⟨b,off+k,none⟩=some (cellI (bitsZ s.data.toList) k)):=by
  intro k hk
  obtain⟨b,off,e,_,_,hc⟩:=how.2 (by omega)
  refine⟨b,off,e,?_⟩
  rw[(hc k hk).1]
  exact congrArg some (map_cell _ k (by omega))
 have HN:=hide hN
 clear how hlen hown2 hgr hown hbel hmap hN
 go_wp2_with (at_builtin;refine Lib.wpList_append_run _ rfl _ _ _ _ rfl _ _ rfl rfl _ _ hr ?_)
 clear hr
 go_loop [3,5] (fun r i=>∃k:Nat,k<=8*s.size+16∧i=.int .i64 (k:Int)∧r=.int .i64 (Crc.run 0 ((natL (bitsZ s.data.toList)).take k):Nat)) (fun _ i=>8*s.size+16-(intOf i).toNat)
 case atStart=>exact⟨0,Nat.zero_le _,rfl,rfl⟩
 case round =>
  obtain⟨k,hk,rfl,rfl⟩:=hrel
  by_cases hlt:k<8*s.size+16
  ·obtain⟨b,off,rfl,hc⟩:=HC.out k hlt
   obtain⟨q,hq,hq2,hstep⟩:=bitZ_at s.data.toList k (by rw[HN.out];exact hlt)
   rw[cellI,hq] at hc
   obtain⟨R,hR⟩:∃R,R=Crc.run 0 ((natL (bitsZ s.data.toList)).take k):=⟨_,rfl⟩
   have hRlt:R<65536:=by rw[hR];exact Crc.run_lt _ 0 (by omega) (fun b hb=>natL_bit (bitsZ_01 s.data.toList) b (List.mem_of_mem_take hb))
   have HS:Hid (Crc.run 0 ((natL (bitsZ s.data.toList)).take (k+1))=Crc.stp R q):=by
    show _=_
    rw[hstep,run_snoc,hR]
   have HX:Hid (bits .xor .i64 (2*(R:Int)+(q:Int)) 116839=(((2*R+q) ^^^ 116839:Nat):Int)):=by
    have:=i64_xor_nat (2*R+q) 116839 (by omega) (by omega)
    show _=_
    rw[<- this];rfl
   rw[<- hR]
   clear hq hstep hR
   by_cases hbig:65536<=2*R+q
   ·have hd:decide (65536<=2*(R:Int)+(q:Int))=true:=by simp;omega
    have HBIG:=hide hbig
    clear hbig
    go_wp2_with fail
    go_round
    case rel=>exact⟨k+1,by omega,by go_num,by rw[HX.out,HS.out];unfold Crc.stp;rw[if_pos HBIG.out]⟩
    case measure=>simp[intOf];omega
   ·have hd:decide (65536<=2*(R:Int)+(q:Int))=false:=by simp;omega
    have HBIG:=hide hbig
    clear hbig
    go_wp2_with fail
    go_round
    case rel=>exact⟨k+1,by omega,by go_num,by rw[HS.out];unfold Crc.stp;rw[if_neg HBIG.out];go_num⟩
    case measure=>simp[intOf];omega
  ·go_wp2_with fail
   go_ret
   refine⟨ret_i64 ?_,HB.out⟩
   rw[List.take_of_length_le (by simp[natL,HN.out];omega),natL_bitsZ]
   rfl
theorem checkN_lt (s:ByteArray):checkN s<65536:=Crc.crc_lt (natL_bit (bitsL_01 _))
def tail2 (c:Nat):List UInt8:=[UInt8.ofNat (c / 256),UInt8.ofNat (c % 256)]
def checked (s:ByteArray):ByteArray:=s++str (tail2 (checkN s))
theorem two_reads (w:World)(c:Nat)(hc:c<65536):Bytes w.heap.size (w.heap.size+1) (w.alloc (.cells #[.int .u8 ((c:Int) / 256),.int .u8 ((c:Int) % 256)] 5)) (some ⟨w.heap.size,0,none⟩) 2 (tail2 c):=by
 refine⟨rfl,by simp,fun _=>⟨w.heap.size,0,rfl,Nat.le_refl _,Nat.lt_succ_self _,fun i hi=>?_⟩⟩
 rw[World.cell?_alloc_new,Nat.zero_add]
 have h:i=0∨i=1:=by omega
 rcases h with rfl|rfl
 ·simp[cellB,tail2];omega
 ·simp[cellB,tail2]
set_option maxHeartbeats 800000 in
theorem specChecked_any (s:ByteArray)(w:World)(hs:s.size<=1048576) :
  Calls Tryz.prog 141 #[.string s] w fun e w'=>e=.returned (.string (checked s))∧Below w.heap.size w w':=by
 obtain⟨c,hc⟩:∃c,c=checkN s:=⟨_,rfl⟩
 have hlt:c<65536:=by rw[hc];exact checkN_lt s
 have HC:=hide hc
 go_enter Tryz.func141,Tryz.ntmps141
 go_wp2_with fail
 refine(specCheck_any s w hs).mono ?_
 rw[<- hc]
 clear hc
 rintro e w1 ⟨rfl,b1⟩
 have hst:=string_of (P:=Tryz.prog) (two_reads w1 c hlt) 22 9 5 2 Tryz.underlying22 Tryz.underlying5 Tryz.underlying9
 have h2:(ByteArray.mk (tail2 c).toArray).size=2:=rfl
 have HB:=hide (b1.alloc b1.size (.cells #[.int .u8 ((c:Int) / 256),.int .u8 ((c:Int) % 256)] 5))
 clear b1
 go_wp2_with fail
 go_ret
 exact⟨by unfold checked;rw[<- HC.out];rfl,HB.out⟩
theorem checked_size (s:ByteArray):(checked s).size=s.size+2:=by
 unfold checked;rw[ByteArray.size_append];rfl
theorem text_eq (s t:ByteArray):(s.toList==t.toList)=decide (s=t):=by
 rw[ByteArray.toList_eq,ByteArray.toList_eq]
 by_cases h:s=t
 ·subst h;simp
 ·have:¬s.data=t.data:=fun e=>h (ByteArray.ext e)
  simp[h,this]
def whole (s:ByteArray):Bool:=decide (2<=s.size)&&decide (checked (s.extract 0 (s.size-2))=s)
set_option maxHeartbeats 800000 in
theorem specWhole_any (s:ByteArray)(w:World)(hs:s.size<=1048576) :
  Calls Tryz.prog 81 #[.string s] w fun e w'=>e=.returned (.bool (whole s))∧Below w.heap.size w w':=by
 by_cases h:2<=s.size
 ·have hsub:(s.extract 0 (s.size-2)).size<=1048576:=by simp;omega
  go_enter Tryz.func81,Tryz.ntmps81
  go_wp2_with fail
  refine(specChecked_any _ w hsub).mono ?_
  rintro e w1 ⟨rfl,b1⟩
  obtain⟨t,ht⟩:∃t,t=checked (s.extract 0 (s.size-2)):=⟨_,rfl⟩
  rw[<- ht]
  have HT:=hide ht
  clear ht hsub
  go_wp2_with fail
  go_ret
  exact⟨ret_bool (by rw[text_eq,HT.out];simp[whole,h]),b1⟩
 ·go_enter Tryz.func81,Tryz.ntmps81
  go_wp2_with fail
  go_ret
  exact⟨ret_bool (by simp[whole,h]),Below.refl _ _⟩
end Go.Proofs.YtgjoepdfhadmcaaGreatDoor
end

section
namespace Go.Proofs.YtgjoepdfhadmcaaGreatDoor
open Go.RowKit
set_option linter.unusedVariables false
set_option maxRecDepth 20000
set_option maxHeartbeats 800000 in
theorem next_any (R q:Nat)(w:World)(hR:R<65536)(hq:q<2) :
  Calls Tryz.prog 237 #[.int .i64 116839,.int .i64 (R:Nat),.int .i64 (q:Nat)] w fun e w'=>e=.returned (.int .i64 (Crc.stp R q:Nat))∧w=w':=by
 have HX:Hid (bits .xor .i64 (2*(R:Int)+(q:Int)) 116839=(((2*R+q) ^^^ 116839:Nat):Int)):=by
  have:=i64_xor_nat (2*R+q) 116839 (by omega) (by omega)
  show _=_
  rw[<- this];rfl
 by_cases hbig:65536<=2*R+q
 ·have hd:decide (65536<=2*(R:Int)+(q:Int))=true:=by simp;omega
  have HBIG:=hide hbig
  clear hbig
  go_enter Tryz.func237,Tryz.ntmps237
  go_wp2_with fail
  go_ret
  exact⟨ret_i64 (by rw[HX.out];unfold Crc.stp;rw[if_pos HBIG.out]),rfl⟩
 ·have hd:decide (65536<=2*(R:Int)+(q:Int))=false:=by simp;omega
  have HBIG:=hide hbig
  clear hbig
  go_enter Tryz.func237,Tryz.ntmps237
  go_wp2_with fail
  go_ret
  exact⟨ret_i64 (by unfold Crc.stp;rw[if_neg HBIG.out];go_num),rfl⟩
theorem take_bits8 (n j:Nat)(h:j<8):∃q:Nat,(bits8 n).getD j 0=(q:Int)∧q<2∧(natL (bits8 n)).take (j+1)=(natL (bits8 n)).take j++[q]:=by
 have hb:=bitOf_bd n j
 refine⟨(bitOf n j).toNat,by rw[bits8_at n j h];omega,by omega,?_⟩
 have:=take_snoc (bits8 n) j (by simp[bits8];omega)
 rw[bits8_at n j h] at this
 unfold natL
 rw[<- List.map_take,<- List.map_take,this]
 simp
set_option maxRecDepth 100000 in
set_option maxHeartbeats 1600000 in
theorem remainder_any (R0:Nat)(s:ByteArray)(w:World)(hs:s.size<=1048580)(hR0:R0<65536) :
  Calls Tryz.prog 238 #[.int .i64 (R0:Nat),.string s,.func (.func 237) #[.int .i64 116839] #[]] w fun e w'=>e=.returned (.int .i64 (Crc.run R0 (natL (bitsL s.data.toList)):Nat))∧Below w.heap.size w w':=by
 have HR0:=hide hR0
 clear hR0
 go_enter Tryz.func238,Tryz.ntmps238
 go_wp2_with fail
 go_loopw [0,12] (fun r i wr=>∃k:Nat,k<=s.size∧i=.int .i64 k∧r=.int .i64 (Crc.run R0 (natL (bitsL (s.data.toList.take k))):Nat)∧Below w.heap.size w wr) (fun _ i _=>s.size-(intOf i).toNat)
 case atStart=>exact⟨0,Nat.zero_le _,rfl,rfl,Below.refl _ _⟩
 case round =>
  obtain⟨k,hk,rfl,rfl,hbel⟩:=hrel
  obtain⟨R,hR⟩:∃R,R=Crc.run R0 (natL (bitsL (s.data.toList.take k))):=⟨_,rfl⟩
  have HRlt:Hid (R<65536):=by rw[hR];exact Crc.run_lt _ R0 HR0.out (natL_bit (bitsL_01 _))
  rw[<- hR]
  have HR:=hide hR
  have HB:=hide hbel
  clear hR hbel
  by_cases hlt:k<s.size
  ·go_wp2_with fail
   refine(octetOf_any s[k] _).mono ?_
   rintro e w1 ⟨rfl,b1⟩
   have HB1:=hide (HB.out.trans (b1.mono HB.out.size))
   have HID:=hide (oct_index (bitOf s[k].toNat 0) (bitOf s[k].toNat 1) (bitOf s[k].toNat 2) (bitOf s[k].toNat 3) (bitOf s[k].toNat 4) (bitOf s[k].toNat 5) (bitOf s[k].toNat 6) (bitOf s[k].toNat 7))
   unfold oct
   clear b1 HB
   go_wp2_with fail
   go_loopw [0,19] (fun r i wr=>∃j:Nat,j<=8∧i=.int .i64 j∧r=.int .i64 (Crc.run R ((natL (bits8 s[k].toNat)).take j):Nat)∧Below w.heap.size w wr) (fun _ i _=>8-(intOf i).toNat)
   case atStart=>exact⟨0,Nat.zero_le _,rfl,rfl,HB1.out⟩
   case round =>
    obtain⟨j,hj,rfl,rfl,hbel⟩:=hrel
    have HB:=hide hbel
    clear hbel HB1
    by_cases hj8:j<8
    ·have hix:=HID.out j hj8
     obtain⟨q,hq,hq2,hstep⟩:=take_bits8 s[k].toNat j hj8
     unfold bits8 at hq
     rw[hq] at hix
     obtain⟨T,hT⟩:∃T,T=Crc.run R ((natL (bits8 s[k].toNat)).take j):=⟨_,rfl⟩
     have HTlt:Hid (T<65536):=by
      rw[hT]
      exact Crc.run_lt _ R HRlt.out (fun b hb=>natL_bit (bits8_01 _) b (List.mem_of_mem_take hb))
     have HS:Hid (Crc.run R ((natL (bits8 s[k].toNat)).take (j+1))=Crc.stp T q):=by
      show _=_
      rw[hstep,run_snoc,hT]
     have HQ2:=hide hq2
     rw[<- hT]
     clear hT hstep hq HID hq2
     go_wp2_with fail
     refine(next_any T q _ HTlt.out HQ2.out).mono ?_
     rintro e w2 ⟨rfl,rfl⟩
     go_wp2_with fail
     go_roundw
     case rel=>exact⟨j+1,by omega,by go_num,by rw[HS.out],HB.out⟩
     case measure=>simp[intOf];omega
    ·clear HID
     go_wp2_with fail
     go_roundw
     case rel=>exact⟨k+1,by omega,by go_num,by
      rw[take_snocB s k hlt,bitsL_snoc]
      unfold natL
      rw[List.map_append,Crc.run_append]
      have:=HR.out
      unfold natL at this
      rw[<- this,List.take_of_length_le (by simp[bits8];omega)],HB.out⟩
     case measure=>simp[intOf];omega
  ·go_wp2_with fail
   go_ret
   exact⟨ret_i64 (by rw[HR.out,List.take_of_length_le (by simp;omega)]),HB.out⟩
theorem noughts_bits:natL (bitsL ([0,0]:List UInt8))=List.replicate 16 0:=by decide
theorem check_run (s:ByteArray):Crc.run (Crc.run 0 (natL (bitsL s.data.toList))) (natL (bitsL (⟨#[0,0]⟩:ByteArray).data.toList))=checkN s:=by
 have h:(⟨#[0,0]⟩:ByteArray).data.toList=[0,0]:=rfl
 rw[h,noughts_bits,<- Crc.run_append]
 unfold checkN Crc.crc
 rfl
theorem remainder_first (s:ByteArray)(w:World)(hs:s.size<=1048580) :
  Calls Tryz.prog 238 #[.int .i64 0,.string s,.func (.func 237) #[.int .i64 116839] #[]] w fun e w'=>e=.returned (.int .i64 (Crc.run 0 (natL (bitsL s.data.toList)):Nat))∧Below w.heap.size w w' :=
 remainder_any 0 s w hs (by omega)
theorem remainder_last (R:Nat)(w:World)(hR:R<65536) :
  Calls Tryz.prog 238 #[.int .i64 R,.string ⟨#[0,0]⟩,.func (.func 237) #[.int .i64 116839] #[]] w fun e w'=>e=.returned (.int .i64 (Crc.run R (natL (bitsL (⟨#[0,0]⟩:ByteArray).data.toList)):Nat))∧Below w.heap.size w w' :=
 remainder_any R ⟨#[0,0]⟩ w (by simp[ByteArray.size]) hR
set_option maxHeartbeats 800000 in
theorem implCheck_any (s:ByteArray)(w:World)(hs:s.size<=1048580) :
  Calls Tryz.prog 230 #[.string s] w fun e w'=>e=.returned (.int .i64 (checkN s:Nat))∧Below w.heap.size w w':=by
 have HF:=hide (remainder_first s w hs)
 have hc:=check_run s
 obtain⟨R,hR⟩:∃R,R=Crc.run 0 (natL (bitsL s.data.toList)):=⟨_,rfl⟩
 have HRlt:Hid (R<65536):=by rw[hR];exact Crc.run_lt _ 0 (by omega) (natL_bit (bitsL_01 _))
 rw[<- hR] at hc HF
 obtain⟨C,hC⟩:∃C,C=checkN s:=⟨_,rfl⟩
 rw[<- hC] at hc ⊢
 have HL:∀w,Hid (Calls Tryz.prog 238 #[.int .i64 R,.string ⟨#[0,0]⟩,.func (.func 237) #[.int .i64 116839] #[]] w fun e w'=>e=.returned (.int .i64 (C:Nat))∧Below w.heap.size w w'):=by
  intro w
  have:=remainder_last R w HRlt.out
  rw[hc] at this
  exact this
 clear hC hR hc hs
 go_enter Tryz.func230,Tryz.ntmps230
 go_wp2_with fail
 refine HF.out.mono ?_
 rintro e w1 ⟨rfl,b1⟩
 have HB:=hide b1
 clear b1
 go_wp2_with fail
 refine(HL w1).out.mono ?_
 rintro e w2 ⟨rfl,b2⟩
 have HB2:=hide (HB.out.trans (b2.mono HB.out.size))
 clear b2 HB HL HF
 go_wp2_with fail
 go_ret
 exact⟨rfl,HB2.out⟩
set_option maxHeartbeats 800000 in
theorem implChecked_any (s:ByteArray)(w:World)(hs:s.size<=1048580) :
  Calls Tryz.prog 216 #[.string s] w fun e w'=>e=.returned (.string (checked s))∧Below w.heap.size w w':=by
 obtain⟨c,hc⟩:∃c,c=checkN s:=⟨_,rfl⟩
 have hlt:c<65536:=by rw[hc];exact checkN_lt s
 have HC:=hide hc
 go_enter Tryz.func216,Tryz.ntmps216
 go_wp2_with fail
 refine(implCheck_any s w hs).mono ?_
 rw[<- hc]
 clear hc
 rintro e w1 ⟨rfl,b1⟩
 have hst:=string_of (P:=Tryz.prog) (two_reads w1 c hlt) 22 9 5 2 Tryz.underlying22 Tryz.underlying5 Tryz.underlying9
 have h2:(ByteArray.mk (tail2 c).toArray).size=2:=rfl
 have HB:=hide (b1.alloc b1.size (.cells #[.int .u8 ((c:Int) / 256),.int .u8 ((c:Int) % 256)] 5))
 clear b1
 go_wp2_with fail
 go_ret
 exact⟨by unfold checked;rw[<- HC.out];rfl,HB.out⟩
set_option maxHeartbeats 800000 in
theorem implWhole_any (s:ByteArray)(w:World)(hs:s.size<=1048580) :
  Calls Tryz.prog 222 #[.string s] w fun e w'=>e=.returned (.bool (whole s))∧Below w.heap.size w w':=by
 by_cases h:2<=s.size
 ·have hsub:(s.extract 0 (s.size-2)).size<=1048580:=by simp;omega
  go_enter Tryz.func222,Tryz.ntmps222
  go_wp2_with fail
  refine(implChecked_any _ w hsub).mono ?_
  rintro e w1 ⟨rfl,b1⟩
  obtain⟨t,ht⟩:∃t,t=checked (s.extract 0 (s.size-2)):=⟨_,rfl⟩
  rw[<- ht]
  have HT:=hide ht
  clear ht hsub
  go_wp2_with fail
  go_ret
  exact⟨ret_bool (by rw[text_eq,HT.out];simp[whole,h]),b1⟩
 ·go_enter Tryz.func222,Tryz.ntmps222
  go_wp2_with fail
  go_ret
  exact⟨ret_bool (by simp[whole,h]),Below.refl _ _⟩
end Go.Proofs.YtgjoepdfhadmcaaGreatDoor
end

