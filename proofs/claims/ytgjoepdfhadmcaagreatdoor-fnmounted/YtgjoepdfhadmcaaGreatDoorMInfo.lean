/- Several texts in one: Info, WalkIn, SumSpec, HamSpec, HamSpec2, Ones, HamImpl0, HamTab, HamImpl1, HamImpl2, OctBase. -/
import Derived.Test.YtgjoepdfhadmcaaGreatDoorRows
import Derived.Test.YtgjoepdfhadmcaaGreatDoorMBase
import Derived.Deep.QuietTactic
import Derived.BigQuiet
import Derived.OwnWalk
import Derived.Laws.BitsAllLaws
import Derived.Lib.LaidTab
import Derived.Deep.RegionHeld3
section
namespace Go.Proofs.YtgjoepdfhadmcaaGreatDoor
open Go.RowKit
theorem Tryz.infoI64:(Tryz.prog.info? 2).map (fun i=>(i.zero,i.size,i.bytes))=some (some (.int .i64 0),1,8):=by kernel_rfl
end Go.Proofs.YtgjoepdfhadmcaaGreatDoor
end

section
namespace Go.Proofs.YtgjoepdfhadmcaaGreatDoor
open Go.RowKit
set_option linter.unusedVariables false
set_option maxRecDepth 20000
set_option maxHeartbeats 400000 in
theorem l1In_any (x lo hi:Int)(w:World) :
  Calls Tryz.prog 68 #[.int .i64 x,.int .i64 lo,.int .i64 hi] w fun e w'=>e=.returned (.bool (inB x lo hi))∧w=w':=by
 by_cases h1:lo<=x
 ·go_enter Tryz.func68,Tryz.ntmps68
  go_wp2
  go_ret
  exact⟨by simp[inB,h1],rfl⟩
 ·have h1':decide (lo<=x)=false:=by simpa using h1
  go_enter Tryz.func68,Tryz.ntmps68
  go_wp2
  go_ret
  exact⟨by simp[inB,h1'],rfl⟩
end Go.Proofs.YtgjoepdfhadmcaaGreatDoor
end

section
namespace Go.Proofs.YtgjoepdfhadmcaaGreatDoor
open Go.RowKit
set_option linter.unusedVariables false
set_option maxRecDepth 20000
def elem (x:Int):Bool:=inB x 0 255
end Go.Proofs.YtgjoepdfhadmcaaGreatDoor
end

section
namespace Go.Proofs.YtgjoepdfhadmcaaGreatDoor
open Go.RowKit
set_option linter.unusedVariables false
set_option maxRecDepth 20000
theorem i64_or_nat (a b:Nat)(ha:a<4294967296)(hb:b<4294967296):bits .or .i64 (a:Int) (b:Int)=((a|||b:Nat):Int):=by
 have hx:a|||b<2 ^ 32:=Nat.or_lt_two_pow (by omega) (by omega)
 show IntKind.i64.wrap ((BitVec.ofInt 64 (a:Int)|||BitVec.ofInt 64 (b:Int)).toNat:Int)=_
 rw[BitVec.toNat_or,ofInt_u64 a (by omega),ofInt_u64 b (by omega)]
 simp[IntKind.wrap,IntKind.bits,IntKind.signed]
 omega
theorem shr_bitN (x i:Nat):((x:Int) / 2 ^ i).tmod 2=(Ham.bitN x i:Int):=by
 have hp:((x:Int) / 2 ^ i)=((x / 2 ^ i:Nat):Int):=by simp
 rw[hp]
 unfold Ham.bitN
 generalize x / 2 ^ i=q
 rw[Int.tmod_eq_emod_of_nonneg (by omega)]
 omega
set_option maxHeartbeats 400000 in
theorem l4Bit_any (x i:Nat)(w:World)(hx:x<65536)(hi:i<64) :
  Calls Tryz.prog 208 #[.int .i64 (x:Int),.int .i64 (i:Int)] w fun e w'=>e=.returned (.int .i64 (Ham.bitN x i:Int))∧w=w':=by
 have hv:=shr_bitN x i
 go_enter Tryz.func208,Tryz.ntmps208
 go_wp2_with fail
 go_ret
 exact⟨rfl,rfl⟩
set_option maxHeartbeats 800000 in
theorem l4Odd_any (x:Nat)(w:World)(hx:x<65536) :
  Calls Tryz.prog 176 #[.int .i64 (x:Int)] w fun e w'=>e=.returned (.int .i64 (Ham.odd x:Int))∧w=w':=by
 go_enter Tryz.func176,Tryz.ntmps176
 go_wp2_with fail
 go_loop [3,4] (fun n i=>∃k:Nat,1<=k∧k<=13∧i=.int .i64 (k:Int)∧n=.int .i64 (Ham.oddTo x k:Int)) (fun _ i=>13-(intOf i).toNat)
 case atStart=>exact⟨1,by omega,by omega,rfl,by simp[Ham.oddTo]⟩
 case round =>
  obtain⟨k,hk1,hk,rfl,rfl⟩:=hrel
  by_cases hlt:k<13
  ·have HX:=hide (i64_xor_nat (Ham.oddTo x k) k (Nat.lt_trans (Ham.oddTo_lt x k (by omega)) (by omega)) (by omega))
   have hb2:=Ham.bitN_lt x k
   have HS:Hid (Ham.oddTo x (k+1)=if Ham.bitN x k=1 then Ham.oddTo x k ^^^ k else Ham.oddTo x k):=rfl
   go_wp2_with fail
   refine(l4Bit_any x k w hx (by omega)).mono ?_
   rintro e w1 ⟨rfl,rfl⟩
   obtain⟨n,hn⟩:∃n,n=Ham.oddTo x k:=⟨_,rfl⟩
   obtain⟨b,hb⟩:∃b,b=Ham.bitN x k:=⟨_,rfl⟩
   rw[<- hn,<- hb] at HS
   rw[<- hn] at HX
   rw[<- hn,<- hb]
   rw[<- hb] at hb2
   clear hn hb
   rcases(show b=0∨b=1 by omega) with rfl|rfl
   ·simp only[show((0:Nat):Int)=0 from rfl]
    go_wp2_with fail
    go_round
    case rel=>exact⟨k+1,by omega,by omega,by go_num,by rw[HS.out];rfl⟩
    case measure=>simp[intOf];omega
   ·simp only[show((1:Nat):Int)=1 from rfl]
    go_wp2_with fail
    go_round
    case rel=>exact⟨k+1,by omega,by omega,by go_num,by rw[HS.out,HX.out];rfl⟩
    case measure=>simp[intOf];omega
  ·go_wp2_with fail
   go_ret
   exact⟨ret_i64 (by rw[show k=13 by omega];rfl),rfl⟩
set_option maxHeartbeats 800000 in
theorem l4Weight_any (x:Nat)(w:World)(hx:x<65536) :
  Calls Tryz.prog 177 #[.int .i64 (x:Int)] w fun e w'=>e=.returned (.int .i64 (Ham.wt x:Int))∧w=w':=by
 go_enter Tryz.func177,Tryz.ntmps177
 go_wp2_with fail
 go_loop [3,4] (fun n i=>∃k:Nat,k<=13∧i=.int .i64 (k:Int)∧n=.int .i64 (Ham.wtTo x k:Int)) (fun _ i=>13-(intOf i).toNat)
 case atStart=>exact⟨0,by omega,rfl,rfl⟩
 case round =>
  obtain⟨k,hk,rfl,rfl⟩:=hrel
  by_cases hlt:k<13
  ·have hb2:=Ham.bitN_lt x k
   have hn2:=Ham.wtTo_le x k
   have HS:Hid (Ham.wtTo x (k+1)=Ham.wtTo x k+Ham.bitN x k):=rfl
   go_wp2_with fail
   refine(l4Bit_any x k w hx (by omega)).mono ?_
   rintro e w1 ⟨rfl,rfl⟩
   obtain⟨n,hn⟩:∃n,n=Ham.wtTo x k:=⟨_,rfl⟩
   obtain⟨b,hb⟩:∃b,b=Ham.bitN x k:=⟨_,rfl⟩
   rw[<- hn,<- hb] at HS
   rw[<- hn] at hn2
   rw[<- hn,<- hb]
   rw[<- hb] at hb2
   clear hn hb
   go_wp2_with fail
   go_round
   case rel=>exact⟨k+1,by omega,by go_num,by rw[HS.out];go_num⟩
   case measure=>simp[intOf];omega
  ·go_wp2_with fail
   go_ret
   exact⟨ret_i64 (by rw[show k=13 by omega];rfl),rfl⟩
theorem l4Places_any (w:World) :
  Calls Tryz.prog 209 #[] w fun e w'=>e=.returned (.slice (some ⟨w.heap.size,0,none⟩) 8 8)∧(∀k,k<8->w'.cell? ⟨w.heap.size,k,none⟩=some (.int .i64 (Ham.place k:Int)))∧Below w.heap.size w w':=by
 go_enter Tryz.func209,Tryz.ntmps209
 go_wp2_with fail
 go_ret
 refine⟨rfl,fun k hk=>?_,(Below.refl _ _).alloc (Nat.le_refl _) _⟩
 rw[World.cell?_alloc_new]
 match k,hk with
 | 0,_|1,_|2,_|3,_|4,_|5,_|6,_|7,_=>rfl
theorem shl_bit (d q:Nat)(hd:d<2)(hq:q<13):wrap64 ((d:Int)*2 ^ q)=((d*2 ^ q:Nat):Int):=by
 have h:=Ham.bit_pow_lt hd hq
 have hp:((d:Int)*2 ^ q)=((d*2 ^ q:Nat):Int):=by simp
 rw[hp]
 generalize d*2 ^ q=r at *
 unfold wrap64
 omega
theorem or_shl (n d q:Nat)(hn:n<8192)(hd:d<2)(hq:q<13):bits .or .i64 (n:Int) (wrap64 ((d:Int)*2 ^ q))=((n|||d*2 ^ q:Nat):Int):=by
 have h:=Ham.bit_pow_lt hd hq
 rw[shl_bit d q hd hq,i64_or_nat _ _ (by omega) (Nat.lt_trans h (by omega))]
set_option maxHeartbeats 1600000 in
theorem l4Spread_any (b:Nat)(w:World)(hb:b<256) :
  Calls Tryz.prog 225 #[.int .i64 (b:Int)] w fun e w'=>e=.returned (.int .i64 (Ham.spread b:Int))∧Below w.heap.size w w':=by
 go_enter Tryz.func225,Tryz.ntmps225
 go_wp2_with fail
 refine(l4Places_any w).mono ?_
 rintro e w1 ⟨rfl,hpl,b1⟩
 have HPL:=hide hpl
 have HB:=hide b1
 clear hpl b1
 go_wp2_with fail
 go_loop [3,5] (fun n i=>∃k:Nat,k<=8∧i=.int .i64 (k:Int)∧n=.int .i64 (Ham.dataTo b k:Int)) (fun _ i=>8-(intOf i).toNat)
 case atStart=>exact⟨0,by omega,rfl,rfl⟩
 case round =>
  obtain⟨k,hk,rfl,rfl⟩:=hrel
  by_cases hlt:k<8
  ·have hb2:=Ham.bitN_lt b k
   have hc:=HPL.out k hlt
   have hsh:=shr_bitN b k
   obtain⟨n,hn⟩:∃n,n=Ham.dataTo b k:=⟨_,rfl⟩
   obtain⟨d,hd⟩:∃d,d=Ham.bitN b k:=⟨_,rfl⟩
   obtain⟨q,hq⟩:∃q,q=Ham.place k:=⟨_,rfl⟩
   rw[<- hn]
   rw[<- hd] at hsh hb2
   rw[<- hq] at hc
   have hq13:q<13:=by rw[hq];exact Ham.place_lt k
   have HOR:=hide (or_shl n d q (by rw[hn];exact Ham.dataTo_lt b k) hb2 hq13)
   have HS:Hid (Ham.dataTo b (k+1)=n|||d*2 ^ q):=by rw[hn,hd,hq];rfl
   clear hn hd hq
   go_wp2_with fail
   go_round
   case rel=>exact⟨k+1,by omega,by go_num,by rw[HOR.out,HS.out]⟩
   case measure=>simp[intOf];omega
  ·obtain⟨D,hD⟩:∃D,D=Ham.data b:=⟨_,rfl⟩
   have hDk:Ham.dataTo b k=D:=by rw[hD,show k=8 by omega];rfl
   rw[hDk]
   have hD13:D<8192:=by rw[hD];exact Ham.data_lt b
   have HD:=hide hD
   obtain⟨o,ho⟩:∃o,o=Ham.odd D:=⟨_,rfl⟩
   have ho16:o<16:=by rw[ho];exact Ham.odd_lt D
   have HO:=hide ho
   clear hDk hD
   go_wp2_with fail
   refine(l4Odd_any D w1 (by omega)).mono ?_
   rw[<- ho]
   clear ho
   rintro e w2 ⟨rfl,rfl⟩
   go_wp2_with fail
   go_loop [3,7] (fun n i=>∃j:Nat,j<=4∧i=.int .i64 ((2 ^ j:Nat):Int)∧n=.int .i64 (Ham.evenTo b j:Int)) (fun _ i=>16-(intOf i).toNat)
   case atStart=>exact⟨0,by omega,rfl,by rw[HD.out];rfl⟩
   case round =>
    obtain⟨j,hj,rfl,rfl⟩:=hrel
    obtain⟨n,hn⟩:∃n,n=Ham.evenTo b j:=⟨_,rfl⟩
    have hn13:n<8192:=by rw[hn];exact Ham.evenTo_lt b j hj
    rw[<- hn]
    by_cases hj4:j<4
    ·have HS:Hid (Ham.evenTo b (j+1)=if Ham.bitN o j=1 then n|||2 ^ 2 ^ j else n):=by rw[HO.out,HD.out,hn];rfl
     clear hn
     obtain⟨I,hI⟩:∃I,I=2 ^ j:=⟨_,rfl⟩
     have hI0:0<I:=by rw[hI];exact Nat.two_pow_pos j
     have hI8:I<=8:=by rw[hI];exact Nat.pow_le_pow_right (by omega) (show j<=3 by omega)
     have HB2:Hid (Ham.bitN o j=o / I % 2):=by rw[hI];rfl
     have HI2:Hid (2 ^ (j+1)=2*I):=by show _=_;rw[hI,Nat.pow_succ,Nat.mul_comm]
     have hIz:((I:Int)==0)=false:=by simp;omega
     have hI9:decide ((I:Int)<9)=true:=by simp;omega
     rw[<- hI] at HS ⊢
     have HOR:=hide (or_shl n 1 I hn13 (by omega) (by omega))
     obtain⟨Q,hQ⟩:∃Q,Q=o / I:=⟨_,rfl⟩
     have hQi:(o:Int) / (I:Int)=(Q:Int):=by rw[hQ];simp
     have hQ16:Q<16:=by rw[hQ];exact Nat.lt_of_le_of_lt (Nat.div_le_self _ _) ho16
     rw[<- hQ] at HB2
     clear hI hQ
     by_cases hbit:Q % 2=1
     ·have hb1:(Q:Int).tmod 2=1:=by rw[Int.tmod_eq_emod_of_nonneg (by omega)];omega
      have HBIT:=hide hbit
      clear hbit
      go_wp2_with fail
      go_round
      case rel=>exact⟨j+1,by omega,by rw[HI2.out];go_num,by
       rw[HS.out,HB2.out,if_pos HBIT.out]
       have:=HOR.out
       rw[show((1:Nat):Int)*2 ^ I=2 ^ I by simp,Nat.one_mul] at this
       rw[this]⟩
      case measure=>simp[intOf];omega
     ·have hb1:(Q:Int).tmod 2=0:=by rw[Int.tmod_eq_emod_of_nonneg (by omega)];omega
      have HBIT:=hide hbit
      clear hbit
      go_wp2_with fail
      go_round
      case rel=>exact⟨j+1,by omega,by rw[HI2.out];go_num,by rw[HS.out,HB2.out,if_neg HBIT.out]⟩
      case measure=>simp[intOf];omega
    ·have hj4':j=4:=by omega
     subst hj4'
     simp only[Nat.reducePow,show((16:Nat):Int)=16 from rfl]
     have hw4:=Ham.wt_le n
     have HOR:=hide (i64_or_nat n (Ham.wt n % 2) (by omega) (by omega))
     have HE:Hid (Ham.spread b=n|||Ham.wt n % 2):=by rw[hn];rfl
     obtain⟨t,ht⟩:∃t,t=Ham.wt n:=⟨_,rfl⟩
     have ht13:t<=13:=by rw[ht];exact hw4
     rw[<- ht] at HOR HE
     have htm:(t:Int).tmod 2=((t % 2:Nat):Int):=by rw[Int.tmod_eq_emod_of_nonneg (by omega)];omega
     clear hn hw4
     go_wp2_with fail
     refine(l4Weight_any n w1 (by omega)).mono ?_
     rw[<- ht]
     clear ht
     rintro e w2 ⟨rfl,rfl⟩
     go_wp2_with fail
     go_ret
     exact⟨ret_i64 (by rw[HE.out];first|exact HOR.out|(have:=HOR.out;simpa using this)),HB.out⟩
end Go.Proofs.YtgjoepdfhadmcaaGreatDoor
end

section
namespace Go.Proofs.YtgjoepdfhadmcaaGreatDoor
open Go.RowKit
set_option linter.unusedVariables false
set_option maxRecDepth 20000
def word (x:Int):Bool:=inB x 0 8191
theorem word_nat {x:Int}(h:word x=true):∃n:Nat,x=(n:Int)∧n<8192:=by
 simp[word,inB] at h
 exact⟨x.toNat,by omega,by omega⟩
theorem nat_word {n:Nat}(h:n<8192):word (n:Int)=true:=by simp[word,inB];omega
def healedI (x:Int):Int×Int:=if word x=true then Ham.healed x.toNat else(-1,2)
theorem healedI_nat {n:Nat}(h:n<8192):healedI (n:Int)=Ham.healed n:=by simp[healedI,nat_word h]
theorem healedI_no {x:Int}(h:word x=false):healedI x=(-1,2):=by simp[healedI,h]
def pairV (p:Int×Int):Value:=.tuple #[.int .i64 p.1,.int .i64 p.2]
set_option maxHeartbeats 400000 in
theorem l4Word_any (x:Int)(w:World) :
  Calls Tryz.prog 175 #[.int .i64 x] w fun e w'=>e=.returned (.bool (word x))∧w=w':=by
 go_enter Tryz.func175,Tryz.ntmps175
 go_wp2_with fail
 refine(l1In_any _ _ _ _).mono ?_
 rintro e w1 ⟨rfl,rfl⟩
 go_wp2_with fail
 go_ret
 exact⟨rfl,rfl⟩
theorem or_shl8 (n d q:Nat)(hn:n<256)(hd:d<2)(hq:q<8):bits .or .i64 (n:Int) (wrap64 ((d:Int)*2 ^ q))=((n|||d*2 ^ q:Nat):Int):=or_shl n d q (by omega) hd (by omega)
set_option maxHeartbeats 800000 in
theorem l4Byte_any (x:Nat)(w:World)(hx:x<8192) :
  Calls Tryz.prog 178 #[.int .i64 (x:Int)] w fun e w'=>e=.returned (.int .i64 (Ham.byteOf x:Int))∧Below w.heap.size w w':=by
 go_enter Tryz.func178,Tryz.ntmps178
 go_wp2_with fail
 refine(l4Places_any w).mono ?_
 rintro e w1 ⟨rfl,hpl,b1⟩
 have HPL:=hide hpl
 have HB:=hide b1
 clear hpl b1
 go_wp2_with fail
 go_loop [3,5] (fun n i=>∃k:Nat,k<=8∧i=.int .i64 (k:Int)∧n=.int .i64 (Ham.byteTo x k:Int)) (fun _ i=>8-(intOf i).toNat)
 case atStart=>exact⟨0,by omega,rfl,rfl⟩
 case round =>
  obtain⟨k,hk,rfl,rfl⟩:=hrel
  by_cases hlt:k<8
  ·have hc:=HPL.out k hlt
   obtain⟨n,hn⟩:∃n,n=Ham.byteTo x k:=⟨_,rfl⟩
   obtain⟨q,hq⟩:∃q,q=Ham.place k:=⟨_,rfl⟩
   have hb2:=Ham.bitN_lt x q
   obtain⟨d,hd⟩:∃d,d=Ham.bitN x q:=⟨_,rfl⟩
   rw[<- hn]
   rw[<- hd] at hb2
   rw[<- hq] at hc
   have hq13:q<13:=by rw[hq];exact Ham.place_lt k
   have HOR:=hide (or_shl8 n d k (by rw[hn];exact Ham.byteTo_lt x k (by omega)) hb2 hlt)
   have HS:Hid (Ham.byteTo x (k+1)=n|||d*2 ^ k):=by rw[hn,hd,hq];rfl
   clear hn hq
   go_wp2_with fail
   refine(l4Bit_any x q w1 (by omega) (by omega)).mono ?_
   rw[<- hd]
   clear hd
   rintro e w2 ⟨rfl,rfl⟩
   go_wp2_with fail
   go_round
   case rel=>exact⟨k+1,by omega,by go_num,by rw[HOR.out,HS.out]⟩
   case measure=>simp[intOf];omega
  ·go_wp2_with fail
   go_ret
   exact⟨ret_i64 (by rw[show k=8 by omega];rfl),HB.out⟩
theorem l4Byte_to (v:Int)(x:Nat)(h:v=(x:Int))(w:World)(hx:x<8192) :
  Calls Tryz.prog 178 #[.int .i64 v] w fun e w'=>e=.returned (.int .i64 (Ham.byteOf x:Int))∧Below w.heap.size w w':=by subst h;exact l4Byte_any x w hx
theorem xor_shl (x o:Nat)(hx:x<8192)(ho:o<13):bits .xor .i64 (x:Int) (wrap64 (2 ^ o))=((x ^^^ 2 ^ o:Nat):Int):=by
 have h:=Ham.two_lt ho
 have hp:wrap64 ((2:Int) ^ o)=((2 ^ o:Nat):Int):=by
  have:=shl_bit 1 o (by omega) ho
  simpa using this
 rw[hp,i64_xor_nat _ _ (by omega) (by omega)]
set_option maxHeartbeats 1600000 in
theorem specHealed_any (v:Int)(w:World) :
  Calls Tryz.prog 138 #[.int .i64 v] w fun e w'=>e=.returned (pairV (healedI v))∧Below w.heap.size w w':=by
 cases hb:word v
 ·have HE:=hide (healedI_no hb)
  go_enter Tryz.func138,Tryz.ntmps138
  go_wp2_with fail
  refine(l4Word_any _ _).mono ?_
  rw[hb]
  rintro e w1 ⟨rfl,rfl⟩
  go_wp2_with fail
  go_ret2
  exact⟨by rw[HE.out];rfl,Below.refl _ _⟩
 ·have HB:=hide hb
  obtain⟨x,rfl,hx⟩:=word_nat hb
  have HE:=hide (healedI_nat hx)
  clear hb
  obtain⟨o,ho⟩:∃o,o=Ham.odd x:=⟨_,rfl⟩
  obtain⟨t,ht⟩:∃t,t=Ham.wt x:=⟨_,rfl⟩
  have ho16:o<16:=by rw[ho];exact Ham.odd_lt x
  have ht13:t<=13:=by rw[ht];exact Ham.wt_le x
  have cO:∀w,Calls Tryz.prog 176 #[.int .i64 (x:Int)] w fun e w'=>e=.returned (.int .i64 (o:Int))∧w=w':=fun w=>by rw[ho];exact l4Odd_any x w (by omega)
  have cW:∀w,Calls Tryz.prog 177 #[.int .i64 (x:Int)] w fun e w'=>e=.returned (.int .i64 (t:Int))∧w=w':=fun w=>by rw[ht];exact l4Weight_any x w (by omega)
  have HO:=hide cO
  have HW:=hide cW
  have HH:Hid (Ham.healed x=if t % 2=1∧o<=12 then((Ham.byteOf (x ^^^ 2 ^ o):Int),1) else if t % 2=0∧o=0 then((Ham.byteOf x:Int),0) else(-1,2)):=by rw[ht,ho];rfl
  clear cO cW ht ho
  by_cases h1:t % 2=1
  ·have hm:(t:Int).tmod 2=1:=by rw[Int.tmod_eq_emod_of_nonneg (by omega)];omega
   have H1:=hide h1
   clear h1
   by_cases h2:o<=12
   ·have hd:decide ((o:Int)<=12)=true:=by simp;omega
    have HX:=hide (xor_shl x o hx (by omega))
    have HT:=hide (Ham.turned_lt hx (show o<13 by omega))
    have H2:=hide h2
    go_enter Tryz.func138,Tryz.ntmps138
    go_wp2_with fail
    refine(l4Word_any _ _).mono ?_
    rw[HB.out]
    rintro e w1 ⟨rfl,rfl⟩
    go_wp2_with fail
    refine(HO.out w).mono ?_
    rintro e w1 ⟨rfl,rfl⟩
    go_wp2_with fail
    refine(HW.out w).mono ?_
    rintro e w1 ⟨rfl,rfl⟩
    go_wp2_with fail
    refine(l4Byte_to _ (x ^^^ 2 ^ o) HX.out w HT.out).mono ?_
    rintro e w1 ⟨rfl,b1⟩
    go_wp2_with fail
    go_ret2
    exact⟨by rw[HE.out,HH.out,if_pos ⟨H1.out,H2.out⟩];rfl,b1⟩
   ·have hd:decide ((o:Int)<=12)=false:=by simp;omega
    have H2:=hide h2
    clear h2
    go_enter Tryz.func138,Tryz.ntmps138
    go_wp2_with fail
    refine(l4Word_any _ _).mono ?_
    rw[HB.out]
    rintro e w1 ⟨rfl,rfl⟩
    go_wp2_with fail
    refine(HO.out w).mono ?_
    rintro e w1 ⟨rfl,rfl⟩
    go_wp2_with fail
    refine(HW.out w).mono ?_
    rintro e w1 ⟨rfl,rfl⟩
    go_wp2_with fail
    refine(HW.out w).mono ?_
    rintro e w1 ⟨rfl,rfl⟩
    go_wp2_with fail
    go_ret2
    exact⟨by rw[HE.out,HH.out,if_neg (fun h=>H2.out h.2),if_neg (fun h=>by have:=H1.out;omega)];rfl,Below.refl _ _⟩
  ·have hm:(t:Int).tmod 2=0:=by rw[Int.tmod_eq_emod_of_nonneg (by omega)];omega
   have H1:=hide h1
   clear h1
   by_cases h2:o=0
   ·subst h2
    go_enter Tryz.func138,Tryz.ntmps138
    go_wp2_with fail
    refine(l4Word_any _ _).mono ?_
    rw[HB.out]
    rintro e w1 ⟨rfl,rfl⟩
    go_wp2_with fail
    refine(HO.out w).mono ?_
    simp only[show((0:Nat):Int)=0 from rfl]
    rintro e w1 ⟨rfl,rfl⟩
    go_wp2_with fail
    refine(HW.out w).mono ?_
    rintro e w1 ⟨rfl,rfl⟩
    go_wp2_with fail
    refine(HW.out w).mono ?_
    rintro e w1 ⟨rfl,rfl⟩
    go_wp2_with fail
    refine(l4Byte_any x w hx).mono ?_
    rintro e w1 ⟨rfl,b1⟩
    go_wp2_with fail
    go_ret2
    exact⟨by rw[HE.out,HH.out,if_neg (fun h=>H1.out h.1),if_pos ⟨by have:=H1.out;omega,by trivial⟩];rfl,b1⟩
   ·have h0:((o:Int)==0)=false:=by simp;omega
    have H2:=hide h2
    clear h2
    go_enter Tryz.func138,Tryz.ntmps138
    go_wp2_with fail
    refine(l4Word_any _ _).mono ?_
    rw[HB.out]
    rintro e w1 ⟨rfl,rfl⟩
    go_wp2_with fail
    refine(HO.out w).mono ?_
    rintro e w1 ⟨rfl,rfl⟩
    go_wp2_with fail
    refine(HW.out w).mono ?_
    rintro e w1 ⟨rfl,rfl⟩
    go_wp2_with fail
    refine(HW.out w).mono ?_
    rintro e w1 ⟨rfl,rfl⟩
    go_wp2_with fail
    go_ret2
    exact⟨by rw[HE.out,HH.out,if_neg (fun h=>H1.out h.1),if_neg (fun h=>H2.out h.2)];rfl,Below.refl _ _⟩
end Go.Proofs.YtgjoepdfhadmcaaGreatDoor
end

section
namespace Go.Proofs.YtgjoepdfhadmcaaGreatDoor
open Go.RowKit
set_option linter.unusedVariables false
set_option maxRecDepth 20000
set_option maxHeartbeats 800000 in
theorem onesCount_any (x:Nat)(w:World)(hx:x<8192) :
  Calls Tryz.prog 245 #[.int .u64 (x:Int)] w fun e w'=>e=.returned (.int .i64 (Ham.wt x:Int))∧w=w':=by
 have HV:=hide (Ones.ones_wt x hx)
 obtain⟨y1,e1⟩:∃y,Ones.o1 (x:Int)=y:=⟨_,rfl⟩
 obtain⟨y2,e2⟩:∃y,Ones.o2 y1=y:=⟨_,rfl⟩
 obtain⟨y3,e3⟩:∃y,Ones.o3 y2=y:=⟨_,rfl⟩
 obtain⟨y4,e4⟩:∃y,Ones.o4 y3=y:=⟨_,rfl⟩
 obtain⟨y5,e5⟩:∃y,Ones.o5 y4=y:=⟨_,rfl⟩
 obtain⟨y6,e6⟩:∃y,Ones.o6 y5=y:=⟨_,rfl⟩
 have HE:Hid (Ones.o7 y6=(Ham.wt x:Int)):=by show _=_;rw[<- e6,<- e5,<- e4,<- e3,<- e2,<- e1];exact HV.out
 unfold Ones.o1 at e1
 unfold Ones.o2 at e2
 unfold Ones.o3 at e3
 unfold Ones.o4 at e4
 unfold Ones.o5 at e5
 unfold Ones.o6 at e6
 obtain⟨r,hr⟩:∃r,bits .and .i64 (wrap64 y6) 127=r:=⟨_,rfl⟩
 have HR:Hid (r=(Ham.wt x:Int)):=by show _=_;rw[<- hr];exact HE.out
 rw[<- HR.out]
 clear HE HV
 go_enter Tryz.func245,Tryz.ntmps245
 go_wp2_with fail
 go_ret
 exact⟨rfl,rfl⟩
end Go.Proofs.YtgjoepdfhadmcaaGreatDoor
end

section
namespace Go.Proofs.YtgjoepdfhadmcaaGreatDoor
open Go.RowKit
set_option linter.unusedVariables false
set_option maxRecDepth 20000
theorem and1_nat (q:Nat)(hq:q<65536):bits .and .i64 (q:Int) 1=((q % 2:Nat):Int):=by
 show IntKind.i64.wrap ((BitVec.ofInt 64 (q:Int)&&&BitVec.ofInt 64 1).toNat:Int)=_
 rw[BitVec.toNat_and,ofInt_u64 q (by omega),show(BitVec.ofInt 64 1).toNat=1 from rfl,Nat.and_one_is_mod]
 simp[IntKind.wrap,IntKind.bits,IntKind.signed]
 omega
theorem and1_bitN (x i:Nat)(hx:x<65536):bits .and .i64 ((x:Int) / 2 ^ i) 1=(Ham.bitN x i:Int):=by
 have hp:((x:Int) / 2 ^ i)=((x / 2 ^ i:Nat):Int):=by simp
 rw[hp]
 exact and1_nat _ (Nat.lt_of_le_of_lt (Nat.div_le_self _ _) hx)
namespace Ham
def pwTo (x:Nat):Nat->Nat
 | 0=>x
 | j+1=>if bitN (odd x) j=1 then pwTo x j ^^^ 2 ^ 2 ^ j else pwTo x j
def pw (x:Nat):Nat:=pwTo x 4
theorem pwTo_lt (x:Nat)(hx:x<8192):∀j,j<=4->pwTo x j<8192
 | 0,_=>hx
 | j+1,h=>by
  have ih:=pwTo_lt x hx j (by omega)
  show(if bitN (odd x) j=1 then pwTo x j ^^^ 2 ^ 2 ^ j else pwTo x j)<8192
  split
  ·refine Nat.xor_lt_two_pow (n:=13) ih ?_
   rcases(show j=0∨j=1∨j=2∨j=3 by omega) with rfl|rfl|rfl|rfl<;>decide
  ·exact ih
theorem pw_lt {x:Nat}(hx:x<8192):pw x<8192:=pwTo_lt x hx 4 (by omega)
def evened (x:Nat):Nat:=x ^^^ (wt x % 2)
theorem spread_pw:∀b:Fin 256,evened (pw (data b.val))=spread b.val:=by decide +kernel
theorem and_pow:∀o:Fin 16,∀j:Fin 4,bits .and .i64 (o.val:Int) ((2 ^ j.val:Nat):Int)=if bitN o.val j.val=1 then((2 ^ j.val:Nat):Int) else 0:=by decide +kernel
end Ham
set_option maxHeartbeats 800000 in
theorem cwOdd_any (x:Nat)(w:World)(hx:x<65536) :
  Calls Tryz.prog 239 #[.int .i64 (x:Int)] w fun e w'=>e=.returned (.int .i64 (Ham.odd x:Int))∧w=w':=by
 go_enter Tryz.func239,Tryz.ntmps239
 go_wp2_with fail
 go_loop [3,5] (fun n i=>∃k:Nat,k<=13∧i=.int .i64 (k:Int)∧n=.int .i64 (Ham.oddTo x k:Int)) (fun _ i=>13-(intOf i).toNat)
 case atStart=>exact⟨0,by omega,rfl,by simp[Ham.oddTo]⟩
 case round =>
  obtain⟨k,hk,rfl,rfl⟩:=hrel
  by_cases hlt:k<13
  ·have hand:=and1_bitN x k hx
   have HX:=hide (i64_xor_nat (Ham.oddTo x k) k (Nat.lt_trans (Ham.oddTo_lt x k (by omega)) (by omega)) (by omega))
   have HX0:=hide (i64_xor_nat (Ham.oddTo x k) 0 (Nat.lt_trans (Ham.oddTo_lt x k (by omega)) (by omega)) (by omega))
   have hb2:=Ham.bitN_lt x k
   have HS:Hid (Ham.oddTo x (k+1)=if Ham.bitN x k=1 then Ham.oddTo x k ^^^ k else Ham.oddTo x k):=rfl
   obtain⟨n,hn⟩:∃n,n=Ham.oddTo x k:=⟨_,rfl⟩
   obtain⟨b,hb⟩:∃b,b=Ham.bitN x k:=⟨_,rfl⟩
   rw[<- hn,<- hb] at HS
   rw[<- hn] at HX HX0
   rw[<- hn]
   rw[<- hb] at hb2 hand
   clear hn hb
   rcases(show b=0∨b=1 by omega) with rfl|rfl
   ·simp only[show((0:Nat):Int)=0 from rfl] at hand
    go_wp2_with fail
    go_round
    case rel=>exact⟨k+1,by omega,by go_num,by
     have h:=HX0.out
     simp only[Nat.xor_zero,show((0:Nat):Int)=0 from rfl] at h
     rw[HS.out,if_neg (by decide)]
     simp[h]⟩
    case measure=>simp[intOf];omega
   ·simp only[show((1:Nat):Int)=1 from rfl] at hand
    go_wp2_with fail
    go_round
    case rel=>exact⟨k+1,by omega,by go_num,by rw[HS.out,if_pos rfl,<- HX.out]⟩
    case measure=>simp[intOf];omega
  ·go_wp2_with fail
   go_ret
   exact⟨ret_i64 (by rw[show k=13 by omega];rfl),rfl⟩
set_option maxHeartbeats 800000 in
theorem cwWeight_any (x:Nat)(w:World)(hx:x<8192) :
  Calls Tryz.prog 240 #[.int .i64 (x:Int)] w fun e w'=>e=.returned (.int .i64 (Ham.wt x:Int))∧w=w':=by
 have HW:=hide (Ham.wt_le x)
 have HXL:=hide hx
 go_enter Tryz.func240,Tryz.ntmps240
 go_wp2_with fail
 refine(onesCount_any x w hx).mono ?_
 rintro e w1 ⟨rfl,rfl⟩
 obtain⟨t,ht⟩:∃t,t=Ham.wt x:=⟨_,rfl⟩
 have h13:t<=13:=by rw[ht];exact HW.out
 have HT:=hide ht
 rw[<- ht]
 clear ht HW
 go_wp2_with fail
 go_ret
 exact⟨ret_i64 (by rw[HT.out]),rfl⟩
set_option maxHeartbeats 800000 in
theorem evenInAll_any (x:Nat)(w:World)(hx:x<8192) :
  Calls Tryz.prog 232 #[.int .i64 (x:Int)] w fun e w'=>e=.returned (.int .i64 (Ham.evened x:Int))∧w=w':=by
 have HX:=hide (i64_xor_nat x (Ham.wt x % 2) (by omega) (by omega))
 have HE:Hid (Ham.evened x=x ^^^ (Ham.wt x % 2)):=rfl
 have HW:=hide (Ham.wt_le x)
 obtain⟨t,ht⟩:∃t,t=Ham.wt x:=⟨_,rfl⟩
 rw[<- ht] at HX HE HW
 have h13:t<=13:=HW.out
 have htm:(t:Int).tmod 2=((t % 2:Nat):Int):=by rw[Int.tmod_eq_emod_of_nonneg (by omega)];omega
 go_enter Tryz.func232,Tryz.ntmps232
 go_wp2_with fail
 refine(cwWeight_any x w hx).mono ?_
 rintro e w1 ⟨rfl,rfl⟩
 rw[<- ht]
 clear ht HW
 go_wp2_with fail
 go_ret
 exact⟨ret_i64 (by rw[HE.out];first|exact HX.out|(have:=HX.out;simpa using this)),rfl⟩
set_option maxHeartbeats 800000 in
theorem evenByPowers_any (x:Nat)(w:World)(hx:x<8192) :
  Calls Tryz.prog 231 #[.int .i64 (x:Int)] w fun e w'=>e=.returned (.int .i64 (Ham.pw x:Int))∧w=w':=by
 obtain⟨o,ho⟩:∃o,o=Ham.odd x:=⟨_,rfl⟩
 have ho16:o<16:=by rw[ho];exact Ham.odd_lt x
 have HO:=hide ho
 have HXL:=hide hx
 go_enter Tryz.func231,Tryz.ntmps231
 go_wp2_with fail
 refine(cwOdd_any x w (by omega)).mono ?_
 rintro e w1 ⟨rfl,rfl⟩
 rw[<- ho]
 clear ho
 go_wp2_with fail
 go_loop [0,4] (fun n i=>∃j:Nat,j<=4∧i=.int .i64 ((2 ^ j:Nat):Int)∧n=.int .i64 (Ham.pwTo x j:Int)) (fun _ i=>16-(intOf i).toNat)
 case atStart=>exact⟨0,by omega,rfl,rfl⟩
 case round =>
  obtain⟨j,hj,rfl,rfl⟩:=hrel
  obtain⟨n,hn⟩:∃n,n=Ham.pwTo x j:=⟨_,rfl⟩
  have hn13:n<8192:=by rw[hn];exact Ham.pwTo_lt x HXL.out j hj
  rw[<- hn]
  by_cases hj4:j<4
  ·have HS:Hid (Ham.pwTo x (j+1)=if Ham.bitN o j=1 then n ^^^ 2 ^ 2 ^ j else n):=by rw[HO.out,hn];rfl
   have HAND:=Ham.and_pow ⟨o,ho16⟩ ⟨j,hj4⟩
   simp only at HAND
   clear hn
   obtain⟨I,hI⟩:∃I,I=2 ^ j:=⟨_,rfl⟩
   have hI0:0<I:=by rw[hI];exact Nat.two_pow_pos j
   have hI8:I<=8:=by rw[hI];exact Nat.pow_le_pow_right (by omega) (show j<=3 by omega)
   have HI2:Hid (2 ^ (j+1)=2*I):=by show _=_;rw[hI,Nat.pow_succ,Nat.mul_comm]
   have hI9:decide ((I:Int)<13)=true:=by simp;omega
   have hIz:((I:Int) != 0)=true:=by simp;omega
   rw[<- hI] at HS HAND ⊢
   have HX:=hide (xor_shl n I hn13 (by omega))
   clear hI
   by_cases hbit:Ham.bitN o j=1
   ·rw[if_pos hbit] at HAND HS
    clear hbit
    go_wp2_with fail
    go_round
    case rel=>exact⟨j+1,by omega,by rw[HI2.out];go_num,by rw[HS.out];exact congrArg (Value.int .i64) HX.out⟩
    case measure=>simp[intOf];omega
   ·rw[if_neg hbit] at HAND HS
    clear hbit
    go_wp2_with fail
    go_round
    case rel=>exact⟨j+1,by omega,by rw[HI2.out];go_num,by rw[HS.out]⟩
    case measure=>simp[intOf];omega
  ·have hj4':j=4:=by omega
   subst hj4'
   simp only[Nat.reducePow,show((16:Nat):Int)=16 from rfl]
   go_wp2_with fail
   go_ret
   exact⟨ret_i64 rfl,rfl⟩
end Go.Proofs.YtgjoepdfhadmcaaGreatDoor
end

section
namespace Go.Proofs.YtgjoepdfhadmcaaGreatDoor
open Go.RowKit
set_option linter.unusedVariables false
def Tab (w:World):Prop:=∀k,k<8->w.cell? ⟨7,k,none⟩=some (.int .i64 (Ham.place k:Int))
theorem block_of_cell {w:World}{a:Addr}{v:Value}(h:w.cell? a=some v):a.block<w.heap.size:=by
 unfold World.cell? at h
 split at h
 ·rename_i hb
  exact(Array.getElem?_eq_some_iff.1 hb).1
 ·simp at h
theorem Tab.later {w w':World}(h:Tab w){B:Nat}(hb:Below B w w')(hB:w.heap.size<=B):Tab w':=fun k hk=>by
 have h1:=h k hk
 have hlt:=block_of_cell h1
 exact(World.cell?_of_block (w:=w) (a:=⟨7,k,none⟩) (hb.block _ (Nat.lt_of_lt_of_le hlt hB))).trans h1
theorem Tab.here {w w':World}(h:Tab w)(hb:Below w.heap.size w w'):Tab w':=h.later hb (Nat.le_refl _)
end Go.Proofs.YtgjoepdfhadmcaaGreatDoor
end

section
namespace Go.Proofs.YtgjoepdfhadmcaaGreatDoor
open Go.RowKit
set_option linter.unusedVariables false
set_option maxRecDepth 20000
theorem places_index:∀k,k<8->∀w,(Instr.index 291 (.agg #[.int .i64 3,.int .i64 5,.int .i64 6,.int .i64 7,.int .i64 9,.int .i64 10,.int .i64 11,.int .i64 12]) (.int .i64 (k:Nat))).run Tryz.prog w=.ok (.int .i64 (Ham.place k:Int)) w:=by
 have e0:∀w,(Instr.index 291 (.agg #[.int .i64 3,.int .i64 5,.int .i64 6,.int .i64 7,.int .i64 9,.int .i64 10,.int .i64 11,.int .i64 12]) (.int .i64 0)).run Tryz.prog w=.ok (.int .i64 3) w:=fun _=>by kernel_rfl
 have e1:∀w,(Instr.index 291 (.agg #[.int .i64 3,.int .i64 5,.int .i64 6,.int .i64 7,.int .i64 9,.int .i64 10,.int .i64 11,.int .i64 12]) (.int .i64 1)).run Tryz.prog w=.ok (.int .i64 5) w:=fun _=>by kernel_rfl
 have e2:∀w,(Instr.index 291 (.agg #[.int .i64 3,.int .i64 5,.int .i64 6,.int .i64 7,.int .i64 9,.int .i64 10,.int .i64 11,.int .i64 12]) (.int .i64 2)).run Tryz.prog w=.ok (.int .i64 6) w:=fun _=>by kernel_rfl
 have e3:∀w,(Instr.index 291 (.agg #[.int .i64 3,.int .i64 5,.int .i64 6,.int .i64 7,.int .i64 9,.int .i64 10,.int .i64 11,.int .i64 12]) (.int .i64 3)).run Tryz.prog w=.ok (.int .i64 7) w:=fun _=>by kernel_rfl
 have e4:∀w,(Instr.index 291 (.agg #[.int .i64 3,.int .i64 5,.int .i64 6,.int .i64 7,.int .i64 9,.int .i64 10,.int .i64 11,.int .i64 12]) (.int .i64 4)).run Tryz.prog w=.ok (.int .i64 9) w:=fun _=>by kernel_rfl
 have e5:∀w,(Instr.index 291 (.agg #[.int .i64 3,.int .i64 5,.int .i64 6,.int .i64 7,.int .i64 9,.int .i64 10,.int .i64 11,.int .i64 12]) (.int .i64 5)).run Tryz.prog w=.ok (.int .i64 10) w:=fun _=>by kernel_rfl
 have e6:∀w,(Instr.index 291 (.agg #[.int .i64 3,.int .i64 5,.int .i64 6,.int .i64 7,.int .i64 9,.int .i64 10,.int .i64 11,.int .i64 12]) (.int .i64 6)).run Tryz.prog w=.ok (.int .i64 11) w:=fun _=>by kernel_rfl
 have e7:∀w,(Instr.index 291 (.agg #[.int .i64 3,.int .i64 5,.int .i64 6,.int .i64 7,.int .i64 9,.int .i64 10,.int .i64 11,.int .i64 12]) (.int .i64 7)).run Tryz.prog w=.ok (.int .i64 12) w:=fun _=>by kernel_rfl
 intro k hk w
 match k,hk with
 | 0,_=>exact e0 w
 | 1,_=>exact e1 w
 | 2,_=>exact e2 w
 | 3,_=>exact e3 w
 | 4,_=>exact e4 w
 | 5,_=>exact e5 w
 | 6,_=>exact e6 w
 | 7,_=>exact e7 w
set_option maxHeartbeats 800000 in
theorem cwData_any (x:Nat)(w:World)(hx:x<65536)(hT:Tab w) :
  Calls Tryz.prog 242 #[.int .i64 (x:Int)] w fun e w'=>e=.returned (.int .i64 (Ham.byteOf x:Int))∧w=w':=by
 have c0:w.cell? ⟨7,0,none⟩=some (.int .i64 3):=hT 0 (by omega)
 have c1:w.cell? ⟨7,1,none⟩=some (.int .i64 5):=hT 1 (by omega)
 have c2:w.cell? ⟨7,2,none⟩=some (.int .i64 6):=hT 2 (by omega)
 have c3:w.cell? ⟨7,3,none⟩=some (.int .i64 7):=hT 3 (by omega)
 have c4:w.cell? ⟨7,4,none⟩=some (.int .i64 9):=hT 4 (by omega)
 have c5:w.cell? ⟨7,5,none⟩=some (.int .i64 10):=hT 5 (by omega)
 have c6:w.cell? ⟨7,6,none⟩=some (.int .i64 11):=hT 6 (by omega)
 have c7:w.cell? ⟨7,7,none⟩=some (.int .i64 12):=hT 7 (by omega)
 clear hT
 go_enter Tryz.func242,Tryz.ntmps242
 go_wp2_with fail
 clear c0 c1 c2 c3 c4 c5 c6 c7
 go_loop [3,7] (fun n i=>∃k:Nat,k<=8∧i=.int .i64 (k:Int)∧n=.int .i64 (Ham.byteTo x k:Int)) (fun _ i=>8-(intOf i).toNat)
 case atStart=>exact⟨0,by omega,rfl,rfl⟩
 case round =>
  obtain⟨k,hk,rfl,rfl⟩:=hrel
  by_cases hlt:k<8
  ·have hix:=places_index k hlt
   obtain⟨n,hn⟩:∃n,n=Ham.byteTo x k:=⟨_,rfl⟩
   obtain⟨q,hq⟩:∃q,q=Ham.place k:=⟨_,rfl⟩
   have hb2:=Ham.bitN_lt x q
   have hand:=and1_bitN x q hx
   obtain⟨d,hd⟩:∃d,d=Ham.bitN x q:=⟨_,rfl⟩
   rw[<- hn]
   rw[<- hd] at hb2 hand
   rw[<- hq] at hix
   have hq13:q<13:=by rw[hq];exact Ham.place_lt k
   have HOR:=hide (or_shl8 n d k (by rw[hn];exact Ham.byteTo_lt x k hk) hb2 hlt)
   have HS:Hid (Ham.byteTo x (k+1)=n|||d*2 ^ k):=by rw[hn,hd,hq];rfl
   clear hn hd hq
   go_wp2_with fail
   go_round
   case rel=>exact⟨k+1,by omega,by go_num,by rw[HS.out,<- HOR.out]⟩
   case measure=>simp[intOf];omega
  ·go_wp2_with fail
   go_ret
   exact⟨ret_i64 (by rw[show k=8 by omega];rfl),rfl⟩
set_option maxHeartbeats 1600000 in
theorem implSpread_nat (b:Nat)(w:World)(hb:b<256)(hT:Tab w) :
  Calls Tryz.prog 217 #[.int .i64 (b:Int)] w fun e w'=>e=.returned (.int .i64 (Ham.spread b:Int))∧Below w.heap.size w w':=by
 have c0:w.cell? ⟨7,0,none⟩=some (.int .i64 3):=hT 0 (by omega)
 have c1:w.cell? ⟨7,1,none⟩=some (.int .i64 5):=hT 1 (by omega)
 have c2:w.cell? ⟨7,2,none⟩=some (.int .i64 6):=hT 2 (by omega)
 have c3:w.cell? ⟨7,3,none⟩=some (.int .i64 7):=hT 3 (by omega)
 have c4:w.cell? ⟨7,4,none⟩=some (.int .i64 9):=hT 4 (by omega)
 have c5:w.cell? ⟨7,5,none⟩=some (.int .i64 10):=hT 5 (by omega)
 have c6:w.cell? ⟨7,6,none⟩=some (.int .i64 11):=hT 6 (by omega)
 have c7:w.cell? ⟨7,7,none⟩=some (.int .i64 12):=hT 7 (by omega)
 clear hT
 have HSP:=hide (Ham.spread_pw ⟨b,hb⟩)
 have h256:decide ((256:Int)<=(b:Int))=false:=by simp;omega
 have h0:decide ((b:Int)<0)=false:=by simp
 go_enter Tryz.func217,Tryz.ntmps217
 go_wp2_with fail
 clear c0 c1 c2 c3 c4 c5 c6 c7
 go_loop [3,15] (fun n i=>∃k:Nat,k<=8∧i=.int .i64 (k:Int)∧n=.int .i64 (Ham.dataTo b k:Int)) (fun _ i=>8-(intOf i).toNat)
 case atStart=>exact⟨0,by omega,rfl,rfl⟩
 case round =>
  obtain⟨k,hk,rfl,rfl⟩:=hrel
  by_cases hlt:k<8
  ·have hix:=places_index k hlt
   have hb2:=Ham.bitN_lt b k
   have hand:=and1_bitN b k (by omega)
   obtain⟨n,hn⟩:∃n,n=Ham.dataTo b k:=⟨_,rfl⟩
   obtain⟨d,hd⟩:∃d,d=Ham.bitN b k:=⟨_,rfl⟩
   obtain⟨q,hq⟩:∃q,q=Ham.place k:=⟨_,rfl⟩
   rw[<- hn]
   rw[<- hd] at hand hb2
   rw[<- hq] at hix
   have hq13:q<13:=by rw[hq];exact Ham.place_lt k
   have HOR:=hide (or_shl n d q (by rw[hn];exact Ham.dataTo_lt b k) hb2 hq13)
   have HS:Hid (Ham.dataTo b (k+1)=n|||d*2 ^ q):=by rw[hn,hd,hq];rfl
   clear hn hd hq
   go_wp2_with fail
   go_round
   case rel=>exact⟨k+1,by omega,by go_num,by rw[HS.out,<- HOR.out]⟩
   case measure=>simp[intOf];omega
  ·obtain⟨D,hD⟩:∃D,D=Ham.data b:=⟨_,rfl⟩
   have hDk:Ham.dataTo b k=D:=by rw[hD,show k=8 by omega];rfl
   rw[hDk]
   have hD13:D<8192:=by rw[hD];exact Ham.data_lt b
   rw[<- hD] at HSP
   clear hDk hD hk
   have HB:=hide ((Below.refl w.heap.size w).alloc (Nat.le_refl _) (.cells #[.func (.func 231) #[] #[],.func (.func 232) #[] #[]] 292))
   go_wp2_with fail
   have c0:=World.cell?_alloc_new w #[.func (.func 231) #[] #[],.func (.func 232) #[] #[]] 292 0
   have c1:=World.cell?_alloc_new w #[.func (.func 231) #[] #[],.func (.func 232) #[] #[]] 292 1
   obtain⟨wa,hwa⟩:∃wa,wa=w.alloc (.cells #[.func (.func 231) #[] #[],.func (.func 232) #[] #[]] 292):=⟨_,rfl⟩
   rw[<- hwa] at HB c0 c1 ⊢
   obtain⟨B,hB⟩:∃B,B=w.heap.size:=⟨_,rfl⟩
   rw[<- hB] at c0 c1 ⊢
   simp only[List.getElem?_toArray,List.getElem?_cons_zero,List.getElem?_cons_succ] at c0 c1
   clear hwa hB
   have HE:=hide (evenByPowers_any D wa hD13)
   have HP:=hide (Ham.pw_lt hD13)
   obtain⟨E,hE⟩:∃E,E=Ham.pw D:=⟨_,rfl⟩
   rw[<- hE] at HE HP HSP
   clear hE hD13
   go_loop [3,30] (fun n i=>(i=.int .i64 0∧n=.int .i64 (D:Int))∨(i=.int .i64 1∧n=.int .i64 (E:Int))∨(i=.int .i64 2∧n=.int .i64 (Ham.spread b:Int))) (fun _ i=>2-(intOf i).toNat)
   case atStart=>exact .inl ⟨rfl,rfl⟩
   case round =>
    rcases hrel with⟨rfl,rfl⟩|⟨rfl,rfl⟩|⟨rfl,rfl⟩
    ·go_wp2_with fail
     refine HE.out.mono ?_
     rintro e w2 ⟨rfl,rfl⟩
     go_wp2_with fail
     go_round
     case rel=>exact .inr (.inl ⟨rfl,rfl⟩)
     case measure=>simp[intOf]
    ·go_wp2_with fail
     refine(evenInAll_any E wa HP.out).mono ?_
     rintro e w2 ⟨rfl,rfl⟩
     rw[HSP.out]
     go_wp2_with fail
     go_round
     case rel=>exact .inr (.inr ⟨rfl,rfl⟩)
     case measure=>simp[intOf]
    ·go_wp2_with fail
     go_ret
     exact⟨rfl,HB.out⟩
end Go.Proofs.YtgjoepdfhadmcaaGreatDoor
end

section
namespace Go.Proofs.YtgjoepdfhadmcaaGreatDoor
open Go.RowKit
set_option linter.unusedVariables false
set_option maxRecDepth 20000
theorem word_out {x:Int}(h:word x=false):x<0∨8192<=x:=by
 simp[word,inB] at h
 omega
theorem askWord_no (x:Int)(f:Value)(w:World)(h:word x=false) :
  Calls Tryz.prog 241 #[.int .i64 x,f] w fun e w'=>e=.returned (.int .i64 (-1))∧w=w':=by
 have hout:=word_out h
 clear h
 by_cases h0:x<0
 ·clear hout
  go_enter Tryz.func241,Tryz.ntmps241
  go_wp2_with fail
  go_ret
  exact⟨rfl,rfl⟩
 ·have h1:(8192:Int)<=x:=by omega
  clear hout
  go_enter Tryz.func241,Tryz.ntmps241
  go_wp2_with fail
  go_ret
  exact⟨rfl,rfl⟩
theorem askOdd_nat (n:Nat)(w:World)(hn:n<8192) :
  Calls Tryz.prog 241 #[.int .i64 (n:Int),.func (.func 239) #[] #[]] w fun e w'=>e=.returned (.int .i64 (Ham.odd n:Int))∧w=w':=by
 have h1:decide ((8192:Int)<=(n:Int))=false:=by simp;omega
 have h0:decide ((n:Int)<0)=false:=by simp
 go_enter Tryz.func241,Tryz.ntmps241
 go_wp2_with fail
 refine(cwOdd_any n w (by omega)).mono ?_
 rintro e w1 ⟨rfl,rfl⟩
 go_wp2_with fail
 go_ret
 exact⟨rfl,rfl⟩
theorem askWeight_nat (n:Nat)(w:World)(hn:n<8192) :
  Calls Tryz.prog 241 #[.int .i64 (n:Int),.func (.func 240) #[] #[]] w fun e w'=>e=.returned (.int .i64 (Ham.wt n:Int))∧w=w':=by
 have h1:decide ((8192:Int)<=(n:Int))=false:=by simp;omega
 have h0:decide ((n:Int)<0)=false:=by simp
 go_enter Tryz.func241,Tryz.ntmps241
 go_wp2_with fail
 refine(cwWeight_any n w hn).mono ?_
 rintro e w1 ⟨rfl,rfl⟩
 go_wp2_with fail
 go_ret
 exact⟨rfl,rfl⟩
theorem askData_nat (n:Nat)(w:World)(hn:n<8192)(hT:Tab w) :
  Calls Tryz.prog 241 #[.int .i64 (n:Int),.func (.func 242) #[] #[]] w fun e w'=>e=.returned (.int .i64 (Ham.byteOf n:Int))∧w=w':=by
 have h1:decide ((8192:Int)<=(n:Int))=false:=by simp;omega
 have h0:decide ((n:Int)<0)=false:=by simp
 have HT:=hide hT
 clear hT
 go_enter Tryz.func241,Tryz.ntmps241
 go_wp2_with fail
 refine(cwData_any n w (by omega) HT.out).mono ?_
 rintro e w1 ⟨rfl,rfl⟩
 go_wp2_with fail
 go_ret
 exact⟨rfl,rfl⟩
set_option maxHeartbeats 800000 in
theorem implHealed_no (x:Int)(w:World)(hb:word x=false) :
  Calls Tryz.prog 234 #[.int .i64 x] w fun e w'=>e=.returned (pairV (-1,2))∧Below w.heap.size w w':=by
 have HB:=hide hb
 clear hb
 go_enter Tryz.func234,Tryz.ntmps234
 go_wp2_with fail
 refine(askWord_no x _ w HB.out).mono ?_
 rintro e w1 ⟨rfl,rfl⟩
 go_wp2_with fail
 refine(askWord_no x _ w HB.out).mono ?_
 rintro e w1 ⟨rfl,rfl⟩
 go_wp2_with fail
 go_ret2
 exact⟨rfl,Below.refl _ _⟩
set_option maxHeartbeats 800000 in
theorem implHealed_nat (n:Nat)(w:World)(hn:n<8192)(hT:Tab w) :
  Calls Tryz.prog 234 #[.int .i64 (n:Int)] w fun e w'=>e=.returned (pairV (Ham.healed n))∧Below w.heap.size w w':=by
 have HT:=hide hT
 have HN:=hide hn
 obtain⟨o,ho⟩:∃o,o=Ham.odd n:=⟨_,rfl⟩
 have ho16:o<16:=by rw[ho];exact Ham.odd_lt n
 obtain⟨t,ht⟩:∃t,t=Ham.wt n:=⟨_,rfl⟩
 have ht13:t<=13:=by rw[ht];exact Ham.wt_le n
 have htm:(t:Int).tmod 2=((t % 2:Nat):Int):=by rw[Int.tmod_eq_emod_of_nonneg (by omega)];omega
 have HH:Hid (Ham.healed n=if t % 2=1∧o<=12 then((Ham.byteOf (n ^^^ 2 ^ o):Int),1) else if t % 2=0∧o=0 then((Ham.byteOf n:Int),0) else(-1,2)):=by
  rw[ho,ht];rfl
 have HO:=hide (askOdd_nat n w hn)
 have HW:=hide (askWeight_nat n w hn)
 rw[<- ho] at HO
 rw[<- ht] at HW
 clear ho ht hT
 by_cases h1:t % 2=1
 ·rw[h1] at htm
  simp only[show((1:Nat):Int)=1 from rfl] at htm
  by_cases h12:o<=12
  ·rw[if_pos ⟨h1,h12⟩] at HH
   have HX:=hide (xor_shl n o hn (by omega))
   have HTL:=hide (Ham.turned_lt hn (show o<13 by omega))
   obtain⟨m,hm⟩:∃m,m=n ^^^ 2 ^ o:=⟨_,rfl⟩
   rw[<- hm] at HX HTL HH
   have hx:bits .xor .i64 (n:Int) (wrap64 (2 ^ o))=(m:Int):=HX.out
   have h13:decide ((o:Int)<13)=true:=by simp;omega
   clear hm h1 HX
   go_enter Tryz.func234,Tryz.ntmps234
   go_wp2_with fail
   refine HO.out.mono ?_
   rintro e w1 ⟨rfl,rfl⟩
   go_wp2_with fail
   refine HW.out.mono ?_
   rintro e w1 ⟨rfl,rfl⟩
   go_wp2_with fail
   refine(askData_nat m w HTL.out HT.out).mono ?_
   rintro e w1 ⟨rfl,rfl⟩
   go_wp2_with fail
   go_ret2
   exact⟨by rw[HH.out];rfl,Below.refl _ _⟩
  ·rw[if_neg (by omega),if_neg (by omega)] at HH
   have h13:decide ((o:Int)<13)=false:=by simp;omega
   have hoz:((o:Int)==0)=false:=by simp;omega
   clear h1 h12
   go_enter Tryz.func234,Tryz.ntmps234
   go_wp2_with fail
   refine HO.out.mono ?_
   rintro e w1 ⟨rfl,rfl⟩
   go_wp2_with fail
   refine HW.out.mono ?_
   rintro e w1 ⟨rfl,rfl⟩
   go_wp2_with fail
   go_ret2
   exact⟨by rw[HH.out];rfl,Below.refl _ _⟩
 ·have h0:t % 2=0:=by omega
  rw[h0] at htm
  simp only[show((0:Nat):Int)=0 from rfl] at htm
  by_cases hoz:o=0
  ·subst hoz
   rw[if_neg (by omega),if_pos ⟨h0,rfl⟩] at HH
   simp only[show((0:Nat):Int)=0 from rfl] at HO
   clear h1 h0
   go_enter Tryz.func234,Tryz.ntmps234
   go_wp2_with fail
   refine HO.out.mono ?_
   rintro e w1 ⟨rfl,rfl⟩
   go_wp2_with fail
   refine HW.out.mono ?_
   rintro e w1 ⟨rfl,rfl⟩
   go_wp2_with fail
   refine(askData_nat n w HN.out HT.out).mono ?_
   rintro e w1 ⟨rfl,rfl⟩
   go_wp2_with fail
   go_ret2
   exact⟨by rw[HH.out];rfl,Below.refl _ _⟩
  ·rw[if_neg (by omega),if_neg (by omega)] at HH
   have hoz':((o:Int)==0)=false:=by simp;omega
   clear h1 h0 hoz
   go_enter Tryz.func234,Tryz.ntmps234
   go_wp2_with fail
   refine HO.out.mono ?_
   rintro e w1 ⟨rfl,rfl⟩
   go_wp2_with fail
   refine HW.out.mono ?_
   rintro e w1 ⟨rfl,rfl⟩
   go_wp2_with fail
   go_ret2
   exact⟨by rw[HH.out];rfl,Below.refl _ _⟩
theorem implHealed_any (x:Int)(w:World)(hT:Tab w) :
  Calls Tryz.prog 234 #[.int .i64 x] w fun e w'=>e=.returned (pairV (healedI x))∧Below w.heap.size w w':=by
 cases hb:word x
 ·rw[healedI_no hb]
  exact implHealed_no x w hb
 ·obtain⟨n,rfl,hn⟩:=word_nat hb
  rw[healedI_nat hn]
  exact implHealed_nat n w hn hT
end Go.Proofs.YtgjoepdfhadmcaaGreatDoor
end

section
namespace Go.Proofs.YtgjoepdfhadmcaaGreatDoor
open Go.RowKit
set_option linter.unusedVariables false
set_option maxRecDepth 20000
def oct (x0 x1 x2 x3 x4 x5 x6 x7:Int):Value:=.agg #[.int .i64 x0,.int .i64 x1,.int .i64 x2,.int .i64 x3,.int .i64 x4,.int .i64 x5,.int .i64 x6,.int .i64 x7]
theorem row_zero8 (w:World)(t:Nat):(w.alloc (.cells #[.int .i64 0,.int .i64 0,.int .i64 0,.int .i64 0,.int .i64 0,.int .i64 0,.int .i64 0,.int .i64 0] t)).rowIs w.heap.size t 8 (cellI []) :=
 World.rowIs_alloc w _ t _ (fun i hi=>by
  match i,hi with
  | 0,_|1,_|2,_|3,_|4,_|5,_|6,_|7,_=>rfl)
theorem oct_index (x0 x1 x2 x3 x4 x5 x6 x7:Int):∀k,k<8->∀w,(Instr.index 309 (.agg #[.int .i64 x0,.int .i64 x1,.int .i64 x2,.int .i64 x3,.int .i64 x4,.int .i64 x5,.int .i64 x6,.int .i64 x7]) (.int .i64 (k:Nat))).run Tryz.prog w=.ok (.int .i64 ([x0,x1,x2,x3,x4,x5,x6,x7].getD k 0)) w:=by
 have e0:∀w,(Instr.index 309 (.agg #[.int .i64 x0,.int .i64 x1,.int .i64 x2,.int .i64 x3,.int .i64 x4,.int .i64 x5,.int .i64 x6,.int .i64 x7]) (.int .i64 0)).run Tryz.prog w=.ok (.int .i64 x0) w:=fun _=>by kernel_rfl
 have e1:∀w,(Instr.index 309 (.agg #[.int .i64 x0,.int .i64 x1,.int .i64 x2,.int .i64 x3,.int .i64 x4,.int .i64 x5,.int .i64 x6,.int .i64 x7]) (.int .i64 1)).run Tryz.prog w=.ok (.int .i64 x1) w:=fun _=>by kernel_rfl
 have e2:∀w,(Instr.index 309 (.agg #[.int .i64 x0,.int .i64 x1,.int .i64 x2,.int .i64 x3,.int .i64 x4,.int .i64 x5,.int .i64 x6,.int .i64 x7]) (.int .i64 2)).run Tryz.prog w=.ok (.int .i64 x2) w:=fun _=>by kernel_rfl
 have e3:∀w,(Instr.index 309 (.agg #[.int .i64 x0,.int .i64 x1,.int .i64 x2,.int .i64 x3,.int .i64 x4,.int .i64 x5,.int .i64 x6,.int .i64 x7]) (.int .i64 3)).run Tryz.prog w=.ok (.int .i64 x3) w:=fun _=>by kernel_rfl
 have e4:∀w,(Instr.index 309 (.agg #[.int .i64 x0,.int .i64 x1,.int .i64 x2,.int .i64 x3,.int .i64 x4,.int .i64 x5,.int .i64 x6,.int .i64 x7]) (.int .i64 4)).run Tryz.prog w=.ok (.int .i64 x4) w:=fun _=>by kernel_rfl
 have e5:∀w,(Instr.index 309 (.agg #[.int .i64 x0,.int .i64 x1,.int .i64 x2,.int .i64 x3,.int .i64 x4,.int .i64 x5,.int .i64 x6,.int .i64 x7]) (.int .i64 5)).run Tryz.prog w=.ok (.int .i64 x5) w:=fun _=>by kernel_rfl
 have e6:∀w,(Instr.index 309 (.agg #[.int .i64 x0,.int .i64 x1,.int .i64 x2,.int .i64 x3,.int .i64 x4,.int .i64 x5,.int .i64 x6,.int .i64 x7]) (.int .i64 6)).run Tryz.prog w=.ok (.int .i64 x6) w:=fun _=>by kernel_rfl
 have e7:∀w,(Instr.index 309 (.agg #[.int .i64 x0,.int .i64 x1,.int .i64 x2,.int .i64 x3,.int .i64 x4,.int .i64 x5,.int .i64 x6,.int .i64 x7]) (.int .i64 7)).run Tryz.prog w=.ok (.int .i64 x7) w:=fun _=>by kernel_rfl
 intro k hk w
 match k,hk with
 | 0,_=>exact e0 w
 | 1,_=>exact e1 w
 | 2,_=>exact e2 w
 | 3,_=>exact e3 w
 | 4,_=>exact e4 w
 | 5,_=>exact e5 w
 | 6,_=>exact e6 w
 | 7,_=>exact e7 w
end Go.Proofs.YtgjoepdfhadmcaaGreatDoor
end

