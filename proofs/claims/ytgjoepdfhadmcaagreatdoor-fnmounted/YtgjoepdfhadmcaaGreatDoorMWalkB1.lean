/- Several texts in one: WalkB1, WeaveSpec, HamSpec3, HamSpec4, Draw4, HamImpl3, HamImpl4. -/
import Derived.Test.YtgjoepdfhadmcaaGreatDoorMInfo
import Derived.Test.YtgjoepdfhadmcaaGreatDoorMBytesBase
import Derived.Test.YtgjoepdfhadmcaaGreatDoorMBase
import Derived.Test.YtgjoepdfhadmcaaGreatDoorMCopyBase
import Derived.Laws.ResultCell
import Derived.Lib.OthersKept
import Derived.Test.YtgjoepdfhadmcaaGreatDoorMDrawBase
import Derived.Test.YtgjoepdfhadmcaaGreatDoorMPageBase
import Derived.Deep.RegionHeld3
import Derived.Deep.DeepCutAuto
import Derived.Deep.RegionWith
section
namespace Go.Proofs.YtgjoepdfhadmcaaGreatDoor
open Go.RowKit
set_option linter.unusedVariables false
set_option maxRecDepth 20000
set_option maxHeartbeats 1600000 in
theorem l1Bits_own (s:ByteArray)(w:World)(hs:s.size<=1048576) :
  Calls Tryz.prog 210 #[.string s] w fun e w'=>∃v,e=.returned v∧w'.ownsRow w.heap.size 2 1 v (8*s.size) ((bitsL s.data.toList).map (Value.int .i64))∧Below w.heap.size w w':=by
 obtain⟨i0,hi0,hz0,hz1,hz2⟩:=info_parts Tryz.infoI64
 have HO:=hide (own_made0 w 2)
 go_enter Tryz.func210,Tryz.ntmps210
 go_wp2
 go_loopw [3,4] (fun v i wr=>∃j:Nat,j<=s.size∧i=.int .i64 j∧wr.ownsRow w.heap.size 2 1 v (8*j) ((bitsL (s.data.toList.take j)).map (Value.int .i64))∧Below w.heap.size w wr) (fun _ i _=>s.size-(intOf i).toNat)
 case atStart=>exact⟨0,Nat.zero_le _,rfl,HO.out,(Below.refl _ _).alloc (Nat.le_refl _) _⟩
 case round =>
  obtain⟨j,hj,rfl,hown,hbel⟩:=hrel
  clear HO
  by_cases hlt:j<s.size
  ·have HOWN:=hide hown
   have HB:=hide hbel
   clear hown hbel
   go_wp2
   go_loopw [3,5] (fun v i wi=>∃q:Nat,q<=8∧i=.int .i64 ((q:Int)-1)∧wi.ownsRow w.heap.size 2 1 v (8*j+(8-q)) ((bitsL (s.data.toList.take j)++(bits8 s[j].toNat).take (8-q)).map (Value.int .i64))∧Below w.heap.size w wi) (fun _ i _=>(intOf i+1).toNat)
   case atStart=>exact⟨8,Nat.le_refl _,rfl,by simpa using HOWN.out,HB.out⟩
   case round =>
    obtain⟨q,hq,rfl,hown,hbel⟩:=hrel
    clear HOWN HB
    by_cases hq0:q=0
    ·subst hq0
     have HOWN:=hide hown
     have HB:=hide hbel
     clear hown hbel
     go_wp2
     go_roundw
     case rel=>exact⟨j+1,by omega,by go_num,by
      have:=HOWN.out
      rw[take_snocB s j hlt,bitsL_snoc]
      rw[show 8*(j+1)=8*j+(8-0) by omega]
      simpa[bits8] using this,HB.out⟩
     case measure=>simp[intOf];omega
    ·obtain⟨p,rfl⟩:∃p,q=p+1:=⟨q-1,by omega⟩
     rw[show(((p+1:Nat):Int)-1)=(p:Int) by omega]
     have hsl:=hbel.size
     have HOWN:=hide (hown.alloc (.cells #[.int .i64 (bitOf s[j].toNat (7-p))] 2))
     have HB:=hide (hbel.alloc hsl (.cells #[.int .i64 (bitOf s[j].toNat (7-p))] 2))
     have hv:=shr_rem s[j].toNat p (by omega)
     have hlb:=bitOf_bd s[j].toNat (7-p)
     obtain⟨l0,l1⟩:=hlb
     clear hown hbel
     go_wp2_with (at_builtin;refine wpList_append_own _ rfl (.tmp 17) (.tmp 26) 58 rfl w.heap.size 2 i0 (.int .i64 0) 1 8 Tryz.underlying58 hi0 hz0 hz1 hz2 rfl (by decide) _ _ _ rfl HOWN.out ⟨wr.heap.size,0,none⟩ 1 1 [.int .i64 (bitOf s[j].toNat (7-p))] rfl rfl (cell_one_new _ _ _) (by intro u hu;simp at hu;subst hu;rfl) (by unfold maxLen;omega) (by omega) (by simp;omega) ?_;intro v' w1 hown hgrow _;have hB:=hide (HB.out.grown hgrow (by simp;omega) (fun k hk=>(HOWN.out.lt k hk).1));have HW:=hide hown;clear hown hgrow)
     go_roundw
     case rel=>exact⟨p,by omega,by go_num,by
      have:=HW.out
      rw[bits8_next _ p (by omega),<- List.append_assoc,List.map_append,show 8*j+(8-p)=8*j+(8-(p+1))+1 by omega]
      exact this,hB.out⟩
     case measure=>simp[intOf]
  ·have hjs:j=s.size:=by omega
   rw[List.take_of_length_le (by simp;omega),hjs] at hown
   have HOWN:=hide hown
   have HB:=hide hbel
   clear hown hbel
   go_wp2
   go_ret
   exact⟨_,rfl,HOWN.out,HB.out⟩
end Go.Proofs.YtgjoepdfhadmcaaGreatDoor
end

section
namespace Go.Proofs.YtgjoepdfhadmcaaGreatDoor
open Go.RowKit
set_option linter.unusedVariables false
set_option maxRecDepth 20000
def woveOk (s:ByteArray)(d:Int):Bool:=inB d 1 16&&decide (s.size<=600)
theorem woveOk_yes {s:ByteArray}{d:Int}(h:woveOk s d=true):∃D:Nat,d=(D:Int)∧1<=D∧D<=16∧s.size<=600:=by
 simp[woveOk,inB] at h
 exact⟨d.toNat,by omega,by omega,by omega,by omega⟩
set_option maxHeartbeats 400000 in
theorem l5Told_any (s:ByteArray)(d:Int)(w:World)(hs:s.size<=1048576) :
  Calls Tryz.prog 139 #[.string s,.int .i64 d] w fun e w'=>e=.returned (.bool (woveOk s d))∧w=w':=by
 cases hb:inB d 1 16
 ·have HE:Hid (woveOk s d=false):=by show _=_;simp[woveOk,hb]
  go_enter Tryz.func139,Tryz.ntmps139
  go_wp2_with fail
  refine(l1In_any _ _ _ _).mono ?_
  rw[hb]
  rintro e w1 ⟨rfl,rfl⟩
  go_wp2_with fail
  go_ret
  exact⟨ret_bool HE.out.symm,rfl⟩
 ·have HE:Hid (woveOk s d=decide ((s.size:Int)<=600)):=by show _=_;simp[woveOk,hb];omega
  go_enter Tryz.func139,Tryz.ntmps139
  go_wp2_with fail
  refine(l1In_any _ _ _ _).mono ?_
  rw[hb]
  rintro e w1 ⟨rfl,rfl⟩
  go_wp2_with fail
  go_ret
  exact⟨ret_bool HE.out.symm,rfl⟩
def natV (x:Nat):Value:=.int .i64 (x:Int)
set_option maxHeartbeats 1600000 in
theorem l5Order_own (n d:Nat)(w:World)(hn:n<=600)(hd:1<=d)(hd16:d<=16) :
  Calls Tryz.prog 140 #[.int .i64 (n:Int),.int .i64 (d:Int)] w fun e w'=>∃v,e=.returned v∧w'.ownsRow w.heap.size 2 1 v n ((Wv.order n d).map natV)∧Below w.heap.size w w':=by
 obtain⟨i0,hi0,hz0,hz1,hz2⟩:=info_parts Tryz.infoI64
 have HO:=hide (own_made0 w 2)
 go_enter Tryz.func140,Tryz.ntmps140
 go_wp2_with fail
 go_loopw [5,6] (fun v r wr=>∃R:Nat,R<=d∧r=.int .i64 (R:Int)∧wr.ownsRow w.heap.size 2 1 v (Wv.st n d R) ((Wv.orderTo n d R).map natV)∧Below w.heap.size w wr) (fun _ r _=>d-(intOf r).toNat)
 case atStart=>exact⟨0,Nat.zero_le _,rfl,HO.out,(Below.refl _ _).alloc (Nat.le_refl _) _⟩
 case round =>
  obtain⟨R,hR,rfl,hown,hbel⟩:=hrel
  have HOWN:=hide hown
  have HB:=hide hbel
  clear hown hbel HO
  by_cases hlt:R<d
  ·go_wp2_with fail
   go_loopw [5,7] (fun v i wr=>∃j I:Nat,i=.int .i64 (I:Int)∧I=R+d*j∧j<=Wv.cnt n d R∧wr.ownsRow w.heap.size 2 1 v (Wv.st n d R+j) ((Wv.orderTo n d R++Wv.row d R j).map natV)∧Below w.heap.size w wr) (fun _ i _=>n-(intOf i).toNat)
   case atStart=>exact⟨0,R,rfl,by omega,Nat.zero_le _,by simpa[Wv.row] using HOWN.out,HB.out⟩
   case round =>
    obtain⟨j,I,rfl,hI,hj,hown,hbel⟩:=hrel
    have hc:=Wv.cnt_lt (n:=n) (d:=d) (r:=R) (t:=j) (by omega)
    rw[<- hI] at hc
    by_cases hIn:I<n
    ·have HJ:=hide (hc.2 hIn)
     have HI:=hide hI
     have hl600:Wv.st n d R+j<=600:=by
      have h1:=hc.2 hIn
      have h2:=Wv.st_mono n d (show R+1<=d by omega)
      have h3:Wv.st n d d=n:=Wv.order_length (by omega)
      rw[Wv.st_succ] at h2
      omega
     obtain⟨L,hL⟩:∃L,L=Wv.st n d R+j:=⟨_,rfl⟩
     rw[<- hL] at hown hl600
     have HL:=hide hL
     have HO1:=hide (hown.alloc (.cells #[.int .i64 (I:Int)] 2))
     have HB1:=hide (hbel.alloc hbel.size (.cells #[.int .i64 (I:Int)] 2))
     clear hown hbel HOWN HB hc hI hj hL
     go_wp2_with (at_builtin;refine wpList_append_own _ rfl (.tmp 21) (.tmp 23) 58 rfl w.heap.size 2 i0 (.int .i64 0) 1 8 Tryz.underlying58 hi0 hz0 hz1 hz2 rfl (by decide) _ _ _ rfl HO1.out ⟨wr.heap.size,0,none⟩ 1 1 [.int .i64 (I:Int)] rfl rfl (cell_one_new _ _ _) (by intro u hu;simp at hu;subst hu;rfl) (by unfold maxLen;omega) (by omega) HB1.out.size ?_;intro v' w1 hown hgrow _;have HB2:=hide (HB1.out.grown hgrow HB1.out.size (fun k hk=>(HO1.out.lt k hk).1));have HO2:=hide hown;clear hown hgrow)
     go_roundw
     case rel=>exact⟨j+1,I+d,by go_num,by rw[HI.out,Nat.mul_add,Nat.mul_one];omega,HJ.out,by
      have:=HO2.out
      rw[Wv.row_succ,<- List.append_assoc,List.map_append,<- HI.out,<- Nat.add_assoc,<- HL.out]
      exact this,HB2.out⟩
     case measure=>simp[intOf];omega
    ·have hj':j=Wv.cnt n d R:=by
      rcases Nat.lt_or_ge j (Wv.cnt n d R) with h|h
      ·exact absurd (hc.1 h) hIn
      ·omega
     subst hj'
     have HO1:=hide hown
     have HB1:=hide hbel
     clear hown hbel HOWN HB hc hI hj
     go_wp2_with fail
     go_roundw
     case rel=>exact⟨R+1,by omega,by go_num,by rw[Wv.st_succ,Wv.orderTo_succ];exact HO1.out,HB1.out⟩
     case measure=>simp[intOf];omega
  ·obtain rfl:R=d:=by omega
   go_wp2_with fail
   go_ret
   have hl:Wv.st n R R=n:=Wv.order_length (by omega)
   exact⟨_,rfl,by have:=HOWN.out;rw[hl] at this;exact this,HB.out⟩
end Go.Proofs.YtgjoepdfhadmcaaGreatDoor
end

section
namespace Go.Proofs.YtgjoepdfhadmcaaGreatDoor
open Go.RowKit
set_option linter.unusedVariables false
set_option maxRecDepth 20000
theorem wordB_vals (x:Nat)(h:x<8192):(wordB x).map byteV=[.int .u8 ((x:Int) / 256),.int .u8 ((x:Int) % 256)]:=by
 unfold wordB byteV
 simp only[List.map_cons,List.map_nil,UInt8.toNat_ofNat']
 rw[Nat.mod_eq_of_lt (show x / 256<2 ^ 8 by omega),Nat.mod_eq_of_lt (show x % 256<2 ^ 8 by omega)]
 simp
theorem cells_two_new (w:World)(a b:Value)(t:Nat):∀j u,([a,b]:List Value)[j]?=some u->(w.alloc (.cells #[a,b] t)).cell? ((⟨w.heap.size,0,none⟩:Addr).add j)=some u:=by
 intro j u hu
 have hadd:(⟨w.heap.size,0,none⟩:Addr).add j=⟨w.heap.size,j,none⟩:=by unfold Addr.add;split<;>simp_all
 rw[hadd,World.cell?_alloc_new]
 simpa using hu
theorem two_one (x y:Int):∀u∈([.int .u8 x,.int .u8 y]:List Value),u.oneCell'=true:=by
 intro u hu
 simp at hu
 rcases hu with rfl|rfl<;>rfl
set_option maxHeartbeats 1600000 in
theorem l4SpreadAll_any (s:ByteArray)(w:World)(hs:s.size<=65536) :
  Calls Tryz.prog 202 #[.string s] w fun e w'=>e=.returned (.string (str (spreadL s.data.toList)))∧Below w.heap.size w w':=by
 obtain⟨i0,hi0,hz0,hz1,hz2⟩:=info_parts Tryz.infoU8d
 have HO:=hide (own_made0 w 5)
 go_enter Tryz.func202,Tryz.ntmps202
 go_wp2_with fail
 go_loopw [3,4] (fun v i wr=>∃k:Nat,k<=s.size∧i=.int .i64 (k:Int)∧wr.ownsRow w.heap.size 5 1 v (2*k) ((spreadL (s.data.toList.take k)).map byteV)∧Below w.heap.size w wr) (fun _ i _=>s.size-(intOf i).toNat)
 case atStart=>exact⟨0,Nat.zero_le _,rfl,HO.out,(Below.refl _ _).alloc (Nat.le_refl _) _⟩
 case round =>
  obtain⟨k,hk,rfl,hown,hbel⟩:=hrel
  have HOWN:=hide hown
  have HB:=hide hbel
  clear hown hbel HO
  by_cases hlt:k<s.size
  ·have hbl:=UInt8.toNat_lt s[k]
   have HS:Hid (spreadL (s.data.toList.take (k+1))=spreadL (s.data.toList.take k)++wordB (Ham.spread s[k].toNat)):=by
    show _=_
    rw[take_snocB s k hlt,spreadL_snoc]
   obtain⟨x,hx⟩:∃x,x=Ham.spread s[k].toNat:=⟨_,rfl⟩
   have hx13:x<8192:=by rw[hx];exact Ham.spread_lt hbl
   have HC:∀w,Hid (Calls Tryz.prog 225 #[.int .i64 (s[k].toNat:Int)] w fun e w'=>e=.returned (.int .i64 (x:Int))∧Below w.heap.size w w'):=fun w=>by
    rw[hx];exact l4Spread_any s[k].toNat w hbl
   rw[<- hx] at HS
   clear hx
   go_wp2_with fail
   refine(HC _).out.mono ?_
   rintro e w1 ⟨rfl,b1⟩
   have hB1:=HB.out.trans (b1.mono HB.out.size)
   have HO1:=hide ((own_aside HOWN.out (aside_of_below (lo:=0) (hi:=0) b1) (by omega)).alloc (.cells #[.int .u8 ((x:Int) / 256),.int .u8 ((x:Int) % 256)] 5))
   have HB1:=hide (hB1.alloc hB1.size (.cells #[.int .u8 ((x:Int) / 256),.int .u8 ((x:Int) % 256)] 5))
   clear hB1 b1 HOWN HB HC
   go_wp2_with (at_builtin;(refine wpList_append_own _ rfl (.tmp 18) (.tmp 25) 22 rfl w.heap.size 5 i0 (.int .u8 0) 1 1 Tryz.underlying22 hi0 hz0 hz1 hz2 rfl (by decide) _ _ _ rfl HO1.out ⟨w1.heap.size,0,none⟩ 2 2 [.int .u8 ((x:Int) / 256),.int .u8 ((x:Int) % 256)] rfl rfl (cells_two_new _ _ _ _) (two_one _ _) (by unfold maxLen;omega) (by omega) HB1.out.size ?_);intro v' w2 hown2 hgrow2 _;have HO2:=hide hown2;have HB2:=hide (HB1.out.grown hgrow2 HB1.out.size (fun k hk=>(HO1.out.lt k hk).1));clear hown2 hgrow2)
   go_roundw
   case rel =>
    refine⟨k+1,by omega,by go_num,?_,HB2.out⟩
    rw[HS.out,List.map_append,wordB_vals x hx13,show 2*(k+1)=2*k+2 by omega]
    exact HO2.out
   case measure=>simp[intOf];omega
  ·obtain⟨a,cp,rfl,hcp,hown⟩:=ownBytes_of HOWN.out (Nat.le_refl _)
   have hst:=string_of (P:=Tryz.prog) ⟨hown.1,hown.2.reads⟩ 22 9 5 cp Tryz.underlying22 Tryz.underlying5 Tryz.underlying9
   clear hown HOWN
   go_wp2_with fail
   go_ret
   exact⟨ret_str (by rw[List.take_of_length_le (by simp;omega)];rfl),HB.out⟩
end Go.Proofs.YtgjoepdfhadmcaaGreatDoor
end

section
namespace Go.Proofs.YtgjoepdfhadmcaaGreatDoor
open Go.RowKit
set_option linter.unusedVariables false
set_option maxRecDepth 20000
theorem index_at {P:Program}(t:TypeId)(ht:P.underlying t=some .string)(s:ByteArray)(k:Nat)(h:k<s.size)(A:Nat)(hA:A=s[k].toNat) :
  ∀w,(Instr.index t (.string s) (.int .i64 (k:Int))).run P w=.ok (.int .u8 (A:Int)) w:=by
 intro w
 rw[run_index_string (P:=P) w t s .i64 (k:Int) ht]
 simp[h,hA]
set_option maxRecDepth 100000 in
set_option maxHeartbeats 1600000 in
theorem specHealedAll_any (s:ByteArray)(w:World)(hs:s.size<=1048576) :
  Calls Tryz.prog 79 #[.string s] w fun e w'=>e=.returned (toldV (healedAll s))∧Below w.heap.size w w':=by
 by_cases h2:s.size % 2=0
 ·have hne:((s.size:Int).tmod 2 != 0)=false:=by rw[Int.tmod_eq_emod_of_nonneg (by omega)];simp;omega
  by_cases h6:s.size<=600
  ·have hd:decide ((600:Int)<(s.size:Int))=false:=by simp;omega
   obtain⟨i0,hi0,hz0,hz1,hz2⟩:=info_parts Tryz.infoU8d
   have HO:=hide (own_made0 w 5)
   have H2:=hide h2
   obtain⟨N,hN⟩:∃N,s.size=2*N:=⟨s.size / 2,by omega⟩
   clear h2
   go_enter Tryz.func79,Tryz.ntmps79
   go_wp2_with fail
   go_loopw [5,6,7] (fun v n i wr=>∃k:Nat,k<=N∧i=.int .i64 ((2*k:Nat):Int)∧goodTo s k∧n=.int .i64 (fixedTo s k)∧wr.ownsRow w.heap.size 5 1 v k ((bytesTo s k).map byteV)∧Below w.heap.size w wr) (fun _ _ i _=>s.size-(intOf i).toNat)
   case atStart=>exact⟨0,Nat.zero_le _,rfl,fun j hj=>by omega,rfl,HO.out,(Below.refl _ _).alloc (Nat.le_refl _) _⟩
   case round =>
    obtain⟨k,hk,rfl,hgood,rfl,hown,hbel⟩:=hrel
    have HOWN:=hide hown
    have HB:=hide hbel
    have HG:=hide hgood
    have hfb:=fixedTo_bd s k hgood
    obtain⟨n,hn⟩:∃n,n=fixedTo s k:=⟨_,rfl⟩
    rw[<- hn] at hfb ⊢
    obtain⟨f0,f1⟩:=hfb
    have HFX:=hide hn
    clear hown hbel HO hgood hn
    by_cases hlt:k<N
    ·obtain⟨I,hI⟩:∃I,I=2*k:=⟨_,rfl⟩
     obtain⟨r,hr⟩:∃r,r=I+1:=⟨_,rfl⟩
     have hIs:I<s.size:=by omega
     have hrs:r<s.size:=by omega
     have i6:IntKind.i64.wrap ((I:Int)+1)=(r:Int):=by rw[IntKind.wrap_i64];omega
     have HIK:=hide hI
     obtain⟨A,hA⟩:∃A,A=s[I].toNat:=⟨_,rfl⟩
     obtain⟨B,hB⟩:∃B,B=s[r].toNat:=⟨_,rfl⟩
     have hA8:A<256:=by rw[hA];exact UInt8.toNat_lt _
     have hB8:B<256:=by rw[hB];exact UInt8.toNat_lt _
     have hxI:=index_at (P:=Tryz.prog) 9 Tryz.underlying9 s I hIs A hA
     have hxr:=index_at (P:=Tryz.prog) 9 Tryz.underlying9 s r hrs B hB
     have HW:Hid (256*A+B=wordAt s k):=by
      show _=_
      unfold wordAt
      rw[<- hI,<- hr,byte_at s I hIs,byte_at s r hrs,hA,hB]
     obtain⟨X,hX⟩:∃X,X=wordAt s k:=⟨_,rfl⟩
     rw[<- hX] at HW
     obtain⟨D,hD⟩:∃D,D=256*A:=⟨_,rfl⟩
     have j1:IntKind.i64.wrap (A:Int)=(A:Int):=by rw[IntKind.wrap_i64];omega
     have j2:IntKind.i64.wrap (B:Int)=(B:Int):=by rw[IntKind.wrap_i64];omega
     have j3:IntKind.i64.wrap (256*(A:Int))=(D:Int):=by rw[IntKind.wrap_i64];omega
     have j4:IntKind.i64.wrap ((D:Int)+(B:Int))=(X:Int):=by have:=HW.out;rw[IntKind.wrap_i64];omega
     obtain⟨p,hp⟩:∃p,p=healedI (wordAt s k):=⟨_,rfl⟩
     have HC:∀w,Hid (Calls Tryz.prog 138 #[.int .i64 (X:Int)] w fun e w'=>e=.returned (.tuple #[.int .i64 p.1,.int .i64 p.2])∧Below w.heap.size w w'):=fun w=>by
      rw[hX,hp];exact specHealed_any _ w
     have hcs:=healedI_cases (wordAt s k)
     rw[<- hp] at hcs
     have HCS:=hide hcs
     have HN:=hide hN
     have HKN:=hide hlt
     have HP:=hide hp
     rw[<- hI]
     have HIs:=hide hIs
     clear hp hI hr hcs hN hlt hk hA hB hX hD hIs hrs hA8 hB8
     go_wp2_with fail
     go_region_held3 (fun _=>True) (trivial) ((go_at_call 138;refine(HC _).out.mono ?_;rintro e w1 ⟨rfl,b1⟩))
     all_goals
      have HB1:=hide (HB.out.drew.trans (b1.mono HB.out.size))
      rcases HCS.out with⟨b,hb,rfl⟩|⟨b,hb,rfl⟩|rfl
      ·have i9:k<=300:=by have h1:=HN.out;have h2:=HKN.out;omega
       obtain⟨u,hu⟩:∃u:UInt8,b=u.toNat:=⟨UInt8.ofNat b,by rw[UInt8.toNat_ofNat',Nat.mod_eq_of_lt (by omega)]⟩
       have hu8:=UInt8.toNat_lt u
       subst hu
       have HO1:=hide ((own_aside (w:=wr.drew) HOWN.out (aside_of_below (lo:=0) (hi:=0) b1) (by omega)).alloc (.cells #[.int .u8 (u.toNat:Int)] 5))
       have HB2:=hide (HB1.out.alloc HB1.out.size (.cells #[.int .u8 (u.toNat:Int)] 5))
       have HFN:Hid (fixedTo s (k+1)=n+1):=by show _=_;rw[fixedTo_succ,<- HP.out,<- HFX.out]
       have HBN:Hid (bytesTo s (k+1)=bytesTo s k++[u]):=by show _=_;rw[bytesTo_succ,<- HP.out];simp
       have HGN:Hid (goodTo s (k+1)):=fun j hj=>by
        rcases Nat.lt_or_ge j k with h|h
        ·exact HG.out j h
        ·rw[show j=k by omega,<- HP.out];simp
       clear HOWN HB HC HP HFX HG b1 HB1 hb hxI hxr
       simp only[]
       go_wp2_with (at_builtin;(refine wpList_append_own _ rfl (.tmp 46) (.tmp 49) 22 rfl w.heap.size 5 i0 (.int .u8 0) 1 1 Tryz.underlying22 hi0 hz0 hz1 hz2 rfl (by decide) _ _ _ rfl HO1.out ⟨w1.heap.size,0,none⟩ 1 1 [.int .u8 (u.toNat:Int)] rfl rfl (cell_one_new _ _ _) (byteV_one u) (by unfold maxLen;omega) (by omega) HB2.out.size ?_);intro v' w2 hown2 hgrow2 _;have HO2:=hide hown2;have HB3:=hide (HB2.out.grown hgrow2 HB2.out.size (fun k hk=>(HO1.out.lt k hk).1));clear hown2 hgrow2)
       go_roundw
       case rel=>exact⟨k+1,by have:=HKN.out;omega,by have:=HIK.out;go_num,HGN.out,by rw[HFN.out]<;>go_num,by rw[HBN.out,List.map_append];exact HO2.out,HB3.out⟩
       case measure=>have h1:=HIs.out;have h2:=HN.out;have h3:=HIK.out;have h4:=HKN.out;simp[intOf];omega
      ·have i9:k<=300:=by have h1:=HN.out;have h2:=HKN.out;omega
       obtain⟨u,hu⟩:∃u:UInt8,b=u.toNat:=⟨UInt8.ofNat b,by rw[UInt8.toNat_ofNat',Nat.mod_eq_of_lt (by omega)]⟩
       have hu8:=UInt8.toNat_lt u
       subst hu
       have HO1:=hide ((own_aside (w:=wr.drew) HOWN.out (aside_of_below (lo:=0) (hi:=0) b1) (by omega)).alloc (.cells #[.int .u8 (u.toNat:Int)] 5))
       have HB2:=hide (HB1.out.alloc HB1.out.size (.cells #[.int .u8 (u.toNat:Int)] 5))
       have HFN:Hid (fixedTo s (k+1)=n+0):=by show _=_;rw[fixedTo_succ,<- HP.out,<- HFX.out]
       have HBN:Hid (bytesTo s (k+1)=bytesTo s k++[u]):=by show _=_;rw[bytesTo_succ,<- HP.out];simp
       have HGN:Hid (goodTo s (k+1)):=fun j hj=>by
        rcases Nat.lt_or_ge j k with h|h
        ·exact HG.out j h
        ·rw[show j=k by omega,<- HP.out];simp
       clear HOWN HB HC HP HFX HG b1 HB1 hb hxI hxr
       simp only[]
       go_wp2_with (at_builtin;(refine wpList_append_own _ rfl (.tmp 46) (.tmp 49) 22 rfl w.heap.size 5 i0 (.int .u8 0) 1 1 Tryz.underlying22 hi0 hz0 hz1 hz2 rfl (by decide) _ _ _ rfl HO1.out ⟨w1.heap.size,0,none⟩ 1 1 [.int .u8 (u.toNat:Int)] rfl rfl (cell_one_new _ _ _) (byteV_one u) (by unfold maxLen;omega) (by omega) HB2.out.size ?_);intro v' w2 hown2 hgrow2 _;have HO2:=hide hown2;have HB3:=hide (HB2.out.grown hgrow2 HB2.out.size (fun k hk=>(HO1.out.lt k hk).1));clear hown2 hgrow2)
       go_roundw
       case rel=>exact⟨k+1,by have:=HKN.out;omega,by have:=HIK.out;go_num,HGN.out,by rw[HFN.out]<;>go_num,by rw[HBN.out,List.map_append];exact HO2.out,HB3.out⟩
       case measure=>have h1:=HIs.out;have h2:=HN.out;have h3:=HIK.out;have h4:=HKN.out;simp[intOf];omega
      ·have HNO:Hid (healedAll s=(⟨#[]⟩,0,false)):=healedAll_no (fun h=>h.2.2 k (by have h1:=HN.out;have h2:=HKN.out;omega) (by rw[<- HP.out]))
       clear HOWN HB HC HP HFX HG b1 hxI hxr
       simp only[]
       go_wp2_with fail
       go_ret3
       exact⟨by rw[HNO.out];rfl,HB1.out⟩
    ·obtain⟨a,cp,rfl,hcp,hown⟩:=ownBytes_of HOWN.out (Nat.le_refl _)
     have hst:=string_of (P:=Tryz.prog) ⟨hown.1,hown.2.reads⟩ 22 9 5 cp Tryz.underlying22 Tryz.underlying5 Tryz.underlying9
     have HY:Hid (healedAll s=(str (bytesTo s k),n,true)):=by
      have hkN:s.size / 2=k:=by omega
      have:=healedAll_yes (s:=s) ⟨H2.out,h6,by rw[hkN];exact HG.out⟩
      rw[hkN,<- HFX.out] at this
      exact this
     have hnl:decide (((2*k:Nat):Int)<(s.size:Int))=false:=by simp;omega
     clear hown HOWN
     go_wp2_with fail
     go_ret3
     exact⟨by rw[HY.out];rfl,HB.out⟩
  ·have hd:decide ((600:Int)<(s.size:Int))=true:=by simp;omega
   have he:(s.size:Int) % 2=0:=by omega
   have HNO:Hid (healedAll s=(⟨#[]⟩,0,false)):=healedAll_no (fun h=>h6 h.2.1)
   clear h6 h2
   go_enter Tryz.func79,Tryz.ntmps79
   go_wp2_with fail
   go_ret3
   exact⟨by rw[HNO.out];rfl,Below.refl _ _⟩
 ·have hne:((s.size:Int).tmod 2 != 0)=true:=by rw[Int.tmod_eq_emod_of_nonneg (by omega)];simp;omega
  have he:(s.size:Int) % 2=1:=by omega
  have HNO:Hid (healedAll s=(⟨#[]⟩,0,false)):=healedAll_no (fun h=>h2 h.1)
  clear h2
  go_enter Tryz.func79,Tryz.ntmps79
  go_wp2_with fail
  go_ret3
  exact⟨by rw[HNO.out];rfl,Below.refl _ _⟩
end Go.Proofs.YtgjoepdfhadmcaaGreatDoor
end

section
namespace Go.Proofs.YtgjoepdfhadmcaaGreatDoor
open Go.RowKit
set_option linter.unusedVariables false
set_option maxRecDepth 20000
theorem keeps_cell {w w':World}{p g q:Nat}{v:Value}(h:w.cell? ⟨g,q,none⟩=some v)(hs:Aside p (p+1) w w')(hg:p+1<=g):w'.cell? ⟨g,q,none⟩=some v :=
 (World.cell?_of_block (a:=⟨g,q,none⟩) (hs.block g (World.block_lt_of_cell? _ _ h) (.inr hg))).trans h
theorem keeps_free {w w':World}{p g q:Nat}{v:Value}{b:Bool}(h:w.cell? ⟨g,q,none⟩=some v)(hf:w.frozen? ⟨g,q,none⟩=b)(hs:Aside p (p+1) w w')(hg:p+1<=g):w'.frozen? ⟨g,q,none⟩=b :=
 (World.frozen?_of_block (a:=⟨g,q,none⟩) (hs.block g (World.block_lt_of_cell? _ _ h) (.inr hg))).trans hf
theorem xor_u8 (a b:Int):∃u:UInt8,bits .xor .u8 a b=(u.toNat:Int):=by
 have h:∀N:Nat,∃u:UInt8,IntKind.u8.wrap (N:Int)=(u.toNat:Int):=fun N=>by
  apply byte_of
  ·simp[IntKind.wrap,IntKind.bits,IntKind.signed];omega
  ·simp[IntKind.wrap,IntKind.bits,IntKind.signed];omega
 exact h _
set_option maxRecDepth 100000 in
set_option maxHeartbeats 1600000 in
theorem drawTurned_any (p:Nat)(s:ByteArray)(w:World)(hc:Cur w p)(hs:s.size<=65536) :
  Calls Tryz.prog 148 #[.pointer (some ⟨p,0,none⟩),.string s] w fun e w'=>∃t:ByteArray,e=.returned (.string t)∧t.size=s.size∧Cur w' p∧Aside p (p+1) w w':=by
 have hpl:=hc.lt
 have hcv:=run_bytes_of_string (P:=Tryz.prog) w 9 22 5 s Tryz.underlying9 Tryz.underlying22 Tryz.underlying5
 obtain⟨cap,hcap⟩:∃c,c=grownCap w s.size 0 5:=⟨_,rfl⟩
 rw[<- hcap] at hcv
 have HM:=bytes_made w s 5 cap ((bytesRow s cap).size+1)
 obtain⟨C,hC⟩:∃C,C=Obj.cells (bytesRow s cap) 5 ((bytesRow s cap).size,(bytesRow s cap).size+1):=⟨_,rfl⟩
 rw[<- hC] at hcv HM
 have HM':Hid (OwnBytes w.heap.size (w.heap.size+1) (w.alloc C).drew (some ⟨w.heap.size,0,none⟩) s.size s.data.toList):=⟨by simp,HM⟩
 have HA0:Hid (Aside p (p+1) w (w.alloc C).drew):=((Aside.refl p (p+1) w).alloc C).drewN 1
 have hc0:Cur (w.alloc C).drew p:=(hc.alloc C).drewN 1
 clear HM hC hcap hc
 go_enter Tryz.func148,Tryz.ntmps148
 go_wp2_with fail
 refine(l1Below_any p 3 _ hc0 (by omega)).mono ?_
 rintro e w1 ⟨x,rfl,x0,x1,c1,s1⟩
 have HO1:=hide (HM'.out.2.aside s1 (.inr (by omega)))
 have HA1:=hide (HA0.out.trans s1)
 clear HM' HA0 s1 hcv hc0
 go_wp2_with fail
 go_loopw [6] (fun i wr=>∃(l:List UInt8) (k:Int),i=.int .i64 k∧0<=k∧k<=3∧OwnBytes w.heap.size (w.heap.size+1) wr (some ⟨w.heap.size,0,none⟩) s.size l∧Cur wr p∧Aside p (p+1) w wr) (fun i _=>(intOf i).toNat)
 case atStart=>exact⟨s.data.toList,x,rfl,x0,by omega,⟨by simp,HO1.out⟩,c1,HA1.out⟩
 case round =>
  obtain⟨l,k,rfl,k0,k3,hown,hcr,hA⟩:=hrel
  have HOWN:=hide hown
  have HA:=hide hA
  clear hown hA HO1 HA1
  by_cases hlt:0<k
  ·by_cases hn:0<s.size
   ·have hnz:(0:Int)<(s.size:Int):=by omega
    go_wp2_with fail
    refine(l1Below_any p (s.size:Int) wr hcr (by omega)).mono ?_
    rintro e w2 ⟨y,rfl,y0,y1,c2,s2⟩
    obtain⟨q,rfl⟩:=Int.eq_ofNat_of_zero_le y0
    have hq:q<s.size:=by omega
    have HO2:=hide (HOWN.out.2.aside s2 (.inr (by omega)))
    have HA2:=hide (HA.out.trans s2)
    obtain⟨hco,hfo,_,_⟩:=HO2.out.at0 hq
    obtain⟨z,hz⟩:∃z,z=(l.getD q 0).toNat:=⟨_,rfl⟩
    rw[cellB,<- hz] at hco
    have hz8:z<256:=by rw[hz];exact UInt8.toNat_lt _
    have hl:=hide HOWN.out.1
    have i1:(0:Int)<=(q:Int):=by omega
    have i2:(q:Int)<(s.size:Int):=by omega
    have HC:=hide c2
    have HCO:=hide hco
    have HFO:=hide hfo
    clear s2 HOWN HA hcr y0 y1 hz c2
    go_wp2_with fail
    have cont:∀(W:World),Cur W p->Calls Tryz.prog 56 #[.pointer (some ⟨p,0,none⟩),.int .i64 8] W fun e w'=>∃d:Nat,e=.returned (.int .i64 (d:Int))∧d<8∧Cur w' p∧Aside p (p+1) W w':=by
     intro W h
     refine(l1Below_any p 8 W h (by omega)).mono ?_
     rintro e w' ⟨x,rfl,x0,x1,c,s⟩
     exact⟨x.toNat,by rw[Int.toNat_of_nonneg x0],by omega,c,s⟩
    have HCONT:=hide cont
    clear cont
    go_region_with (go_at_call 56;refine(HCONT.out w2.drew (HC.out.drewN 1)).mono ?_;rintro e w5 ⟨d,rfl,hd8,c5,s5⟩;have hcs:=keeps_cell (w:=w2.drew) HCO.out s5 (by omega);have hfs:=keeps_free (w:=w2.drew) HCO.out HFO.out s5 (by omega))
    all_goals
     obtain⟨u,hu⟩:=xor_u8 (z:Int) (IntKind.u8.wrap (2 ^ min (IntKind.u64.wrap (d:Int)).toNat 8))
     rw[hu]
     have HO5:=hide ((((HO2.out.aside (w:=w2.drew) s5 (.inr (by omega))).set0 hq (.int .u8 (u.toNat:Int))).congr (fun i _=>cellB_set l q i u (by rw[hl.out];exact hq))))
     have HA5:=hide (((HA2.out.drewN 1).trans s5).set_new (g:=w.heap.size) (q:=q) (Nat.le_refl _) (.int .u8 (u.toNat:Int)))
     have HC5:=hide (c5.set_new (g:=w.heap.size) (q:=q) hpl (.int .u8 (u.toNat:Int)))
     clear hu s5 c5 hcs hfs HO2 HA2 HC HCO HFO HCONT hco hfo
     go_wp2_with fail
     go_roundw
     case rel=>exact⟨l.set q u,k-1,by go_num,by omega,by omega,⟨by rw[List.length_set];exact hl.out,HO5.out⟩,HC5.out,HA5.out⟩
     case measure=>simp[intOf];omega
   ·have hst:=string_of (P:=Tryz.prog) (lo:=w.heap.size) (hi:=w.heap.size+1) (w:=wr) (a:=some ⟨w.heap.size,0,none⟩) (n:=s.size) (l:=l) ⟨HOWN.out.1,HOWN.out.2.reads⟩ 22 9 5 cap Tryz.underlying22 Tryz.underlying5 Tryz.underlying9
    have hz0:s.size=0:=by omega
    have hd0:decide ((0:Int)<(s.size:Int))=false:=decide_eq_false (by omega)
    have HL:=hide HOWN.out.1
    clear hz0
    go_wp2_with fail
    go_ret
    exact⟨_,rfl,by rw[size_mk,HL.out],hcr,HA.out⟩
  ·have hst:=string_of (P:=Tryz.prog) (lo:=w.heap.size) (hi:=w.heap.size+1) (w:=wr) (a:=some ⟨w.heap.size,0,none⟩) (n:=s.size) (l:=l) ⟨HOWN.out.1,HOWN.out.2.reads⟩ 22 9 5 cap Tryz.underlying22 Tryz.underlying5 Tryz.underlying9
   have HL:=hide HOWN.out.1
   go_wp2_with fail
   go_ret
   exact⟨_,rfl,by rw[size_mk,HL.out],hcr,HA.out⟩
end Go.Proofs.YtgjoepdfhadmcaaGreatDoor
end

section
namespace Go.Proofs.YtgjoepdfhadmcaaGreatDoor
open Go.RowKit
set_option linter.unusedVariables false
set_option maxRecDepth 20000
theorem make_bytes (l c:Int)(L C:Nat)(hl:l=L)(hc:c=C)(hLC:L<=C)(hC:C<=16777216)(w:World) :
  (Instr.makeSlice 22 (.int .i64 l) (.int .i64 c)).run Tryz.prog w=.ok (.slice (some ⟨w.heap.size,0,none⟩) L C) (w.alloc (.cells (madeCells #[.int .u8 0] C) 5)):=by
 obtain⟨i0,hi0,hz0,hz1,hz2⟩:=info_parts Tryz.infoU8d
 exact make_row (P:=Tryz.prog) 22 5 (.int .u8 0) 1 Tryz.underlying22 (by rw[hi0];simp[hz0,hz1,hz2]) rfl l c L C hl hc hLC (by omega) (by omega) w
set_option maxHeartbeats 1600000 in
theorem implSpreadAll_small (s:ByteArray)(w:World)(h:s.size<=300)(hT:Tab w) :
  Calls Tryz.prog 188 #[.string s] w fun e w'=>e=.returned (.string (str (spreadL s.data.toList)))∧Below w.heap.size w w':=by
 obtain⟨i0,hi0,hz0,hz1,hz2⟩:=info_parts Tryz.infoU8d
 have HO:=hide (World.ownsRow_made (base:=w.heap.size) (size:=1) (e:=5) w (madeCells #[.int .u8 0] (2*s.size)) (2*s.size) (Nat.le_refl _) (by unfold maxLen;omega) (by simp[size_madeCells]))
 have hd:decide ((300:Int)<(s.size:Int))=false:=by simp;omega
 have hmk:=make_bytes 0 (2*(s.size:Int)) 0 (2*s.size) rfl (by omega) (by omega) (by omega) w
 have HT:=hide hT
 clear hT
 go_enter Tryz.func188,Tryz.ntmps188
 go_wp2_with fail
 go_loopw [3,15] (fun v i wr=>∃k:Nat,k<=s.size∧i=.int .i64 (k:Int)∧wr.ownsRow w.heap.size 5 1 v (2*k) ((spreadL (s.data.toList.take k)).map byteV)∧Below w.heap.size w wr) (fun _ i _=>s.size-(intOf i).toNat)
 case atStart=>exact⟨0,Nat.zero_le _,rfl,HO.out,(Below.refl _ _).alloc (Nat.le_refl _) _⟩
 case round =>
  obtain⟨k,hk,rfl,hown,hbel⟩:=hrel
  have HOWN:=hide hown
  have HB:=hide hbel
  clear hown hbel HO hmk
  by_cases hlt:k<s.size
  ·have hbl:=UInt8.toNat_lt s[k]
   have HS:Hid (spreadL (s.data.toList.take (k+1))=spreadL (s.data.toList.take k)++wordB (Ham.spread s[k].toNat)):=by
    show _=_
    rw[take_snocB s k hlt,spreadL_snoc]
   obtain⟨x,hx⟩:∃x,x=Ham.spread s[k].toNat:=⟨_,rfl⟩
   have hx13:x<8192:=by rw[hx];exact Ham.spread_lt hbl
   have HC:Hid (Calls Tryz.prog 217 #[.int .i64 (s[k].toNat:Int)] wr fun e w'=>e=.returned (.int .i64 (x:Int))∧Below wr.heap.size wr w'):=by
    rw[hx];exact implSpread_nat s[k].toNat wr hbl (HT.out.here HB.out)
   rw[<- hx] at HS
   clear hx
   go_wp2_with fail
   refine HC.out.mono ?_
   rintro e w1 ⟨rfl,b1⟩
   have hB1:=HB.out.trans (b1.mono HB.out.size)
   have HO1:=hide ((own_aside HOWN.out (aside_of_below (lo:=0) (hi:=0) b1) (by omega)).alloc (.cells #[.int .u8 ((x:Int) / 256),.int .u8 ((x:Int) % 256)] 5))
   have HB1:=hide (hB1.alloc hB1.size (.cells #[.int .u8 ((x:Int) / 256),.int .u8 ((x:Int) % 256)] 5))
   clear hB1 b1 HOWN HB HC
   go_wp2_with (at_builtin;(refine wpList_append_own _ rfl (.tmp 23) (.tmp 30) 22 rfl w.heap.size 5 i0 (.int .u8 0) 1 1 Tryz.underlying22 hi0 hz0 hz1 hz2 rfl (by decide) _ _ _ rfl HO1.out ⟨w1.heap.size,0,none⟩ 2 2 [.int .u8 ((x:Int) / 256),.int .u8 ((x:Int) % 256)] rfl rfl (cells_two_new _ _ _ _) (two_one _ _) (by unfold maxLen;omega) (by omega) HB1.out.size ?_);intro v' w2 hown2 hgrow2 _;have HO2:=hide hown2;have HB2:=hide (HB1.out.grown hgrow2 HB1.out.size (fun k hk=>(HO1.out.lt k hk).1));clear hown2 hgrow2)
   go_roundw
   case rel =>
    refine⟨k+1,by omega,by go_num,?_,HB2.out⟩
    rw[HS.out,List.map_append,wordB_vals x hx13,show 2*(k+1)=2*k+2 by omega]
    exact HO2.out
   case measure=>simp[intOf];omega
  ·obtain⟨a,cp,rfl,hcp,hown⟩:=ownBytes_of HOWN.out (Nat.le_refl _)
   have hst:=string_of (P:=Tryz.prog) ⟨hown.1,hown.2.reads⟩ 22 9 5 cp Tryz.underlying22 Tryz.underlying5 Tryz.underlying9
   clear hown HOWN
   go_wp2_with fail
   go_ret
   exact⟨ret_str (by rw[List.take_of_length_le (by simp;omega)];rfl),HB.out⟩
end Go.Proofs.YtgjoepdfhadmcaaGreatDoor
end

section
namespace Go.Proofs.YtgjoepdfhadmcaaGreatDoor
open Go.RowKit
set_option linter.unusedVariables false
set_option maxRecDepth 20000
set_option maxRecDepth 100000 in
set_option maxHeartbeats 1600000 in
theorem implHealedAll_any (s:ByteArray)(w:World)(hT:Tab w)(hs:s.size<=1048576) :
  Calls Tryz.prog 220 #[.string s] w fun e w'=>e=.returned (toldV (healedAll s))∧Below w.heap.size w w':=by
 by_cases h2:s.size % 2=0
 ·have hne:((s.size:Int).tmod 2 != 0)=false:=by rw[Int.tmod_eq_emod_of_nonneg (by omega)];simp;omega
  by_cases h6:s.size<=600
  ·have hd:decide ((600:Int)<(s.size:Int))=false:=by simp;omega
   obtain⟨i0,hi0,hz0,hz1,hz2⟩:=info_parts Tryz.infoU8d
   have H2:=hide h2
   obtain⟨N,hN⟩:∃N,s.size=2*N:=⟨s.size / 2,by omega⟩
   have HO:=hide (World.ownsRow_made (base:=w.heap.size) (size:=1) (e:=5) w (madeCells #[.int .u8 0] N) N (Nat.le_refl _) (by unfold maxLen;omega) (by simp[size_madeCells]))
   have hmk:=make_bytes 0 (N:Int) 0 N rfl rfl (by omega) (by omega) w
   have HT:=hide hT
   clear h2 hT
   go_enter Tryz.func220,Tryz.ntmps220
   go_wp2_with fail
   go_loopw [5,6,7] (fun v n i wr=>∃k:Nat,k<=N∧i=.int .i64 ((2*k:Nat):Int)∧goodTo s k∧n=.int .i64 (fixedTo s k)∧wr.ownsRow w.heap.size 5 1 v k ((bytesTo s k).map byteV)∧Below w.heap.size w wr) (fun _ _ i _=>s.size-(intOf i).toNat)
   case atStart=>exact⟨0,Nat.zero_le _,rfl,fun j hj=>by omega,rfl,HO.out,(Below.refl _ _).alloc (Nat.le_refl _) _⟩
   case round =>
    obtain⟨k,hk,rfl,hgood,rfl,hown,hbel⟩:=hrel
    have HOWN:=hide hown
    have HB:=hide hbel
    have HG:=hide hgood
    have hfb:=fixedTo_bd s k hgood
    obtain⟨n,hn⟩:∃n,n=fixedTo s k:=⟨_,rfl⟩
    rw[<- hn] at hfb ⊢
    obtain⟨f0,f1⟩:=hfb
    have HFX:=hide hn
    clear hown hbel HO hgood hn hmk
    by_cases hlt:k<N
    ·obtain⟨I,hI⟩:∃I,I=2*k:=⟨_,rfl⟩
     obtain⟨r,hr⟩:∃r,r=I+1:=⟨_,rfl⟩
     have hIs:I<s.size:=by omega
     have hrs:r<s.size:=by omega
     have i6:IntKind.i64.wrap ((I:Int)+1)=(r:Int):=by rw[IntKind.wrap_i64];omega
     have HIK:=hide hI
     obtain⟨A,hA⟩:∃A,A=s[I].toNat:=⟨_,rfl⟩
     obtain⟨B,hB⟩:∃B,B=s[r].toNat:=⟨_,rfl⟩
     have hA8:A<256:=by rw[hA];exact UInt8.toNat_lt _
     have hB8:B<256:=by rw[hB];exact UInt8.toNat_lt _
     have hxI:=index_at (P:=Tryz.prog) 9 Tryz.underlying9 s I hIs A hA
     have hxr:=index_at (P:=Tryz.prog) 9 Tryz.underlying9 s r hrs B hB
     have HW:Hid (256*A+B=wordAt s k):=by
      show _=_
      unfold wordAt
      rw[<- hI,<- hr,byte_at s I hIs,byte_at s r hrs,hA,hB]
     obtain⟨X,hX⟩:∃X,X=wordAt s k:=⟨_,rfl⟩
     rw[<- hX] at HW
     obtain⟨D,hD⟩:∃D,D=256*A:=⟨_,rfl⟩
     have j1:IntKind.i64.wrap (A:Int)=(A:Int):=by rw[IntKind.wrap_i64];omega
     have j2:IntKind.i64.wrap (B:Int)=(B:Int):=by rw[IntKind.wrap_i64];omega
     have j3:IntKind.i64.wrap (256*(A:Int))=(D:Int):=by rw[IntKind.wrap_i64];omega
     have j4:IntKind.i64.wrap ((D:Int)+(B:Int))=(X:Int):=by have:=HW.out;rw[IntKind.wrap_i64];omega
     obtain⟨p,hp⟩:∃p,p=healedI (wordAt s k):=⟨_,rfl⟩
     have HTW:Hid (Tab wr.drew):=HT.out.here HB.out.drew
     have HC:∀w,Tab w->Hid (Calls Tryz.prog 234 #[.int .i64 (X:Int)] w fun e w'=>e=.returned (.tuple #[.int .i64 p.1,.int .i64 p.2])∧Below w.heap.size w w'):=fun w ht=>by
      rw[hX,hp];exact implHealed_any _ w ht
     have hcs:=healedI_cases (wordAt s k)
     rw[<- hp] at hcs
     have HCS:=hide hcs
     have HN:=hide hN
     have HKN:=hide hlt
     have HP:=hide hp
     rw[<- hI]
     have HIs:=hide hIs
     clear hp hI hr hcs hN hlt hk hA hB hX hD hIs hrs hA8 hB8
     go_wp2_with fail
     go_region_held3 (fun _=>True) (trivial) ((go_at_call 234;refine(HC _ HTW.out).out.mono ?_;rintro e w1 ⟨rfl,b1⟩))
     all_goals
      have HB1:=hide (HB.out.drew.trans (b1.mono HB.out.size))
      rcases HCS.out with⟨b,hb,rfl⟩|⟨b,hb,rfl⟩|rfl
      ·have i9:k<=300:=by have h1:=HN.out;have h2:=HKN.out;omega
       obtain⟨u,hu⟩:∃u:UInt8,b=u.toNat:=⟨UInt8.ofNat b,by rw[UInt8.toNat_ofNat',Nat.mod_eq_of_lt (by omega)]⟩
       have hu8:=UInt8.toNat_lt u
       subst hu
       have HO1:=hide ((own_aside (w:=wr.drew) HOWN.out (aside_of_below (lo:=0) (hi:=0) b1) (by omega)).alloc (.cells #[.int .u8 (u.toNat:Int)] 5))
       have HB2:=hide (HB1.out.alloc HB1.out.size (.cells #[.int .u8 (u.toNat:Int)] 5))
       have HFN:Hid (fixedTo s (k+1)=n+1):=by show _=_;rw[fixedTo_succ,<- HP.out,<- HFX.out]
       have HBN:Hid (bytesTo s (k+1)=bytesTo s k++[u]):=by show _=_;rw[bytesTo_succ,<- HP.out];simp
       have HGN:Hid (goodTo s (k+1)):=fun j hj=>by
        rcases Nat.lt_or_ge j k with h|h
        ·exact HG.out j h
        ·rw[show j=k by omega,<- HP.out];simp
       clear HOWN HB HC HP HFX HG b1 HB1 hb hxI hxr
       simp only[]
       go_wp2_with (at_builtin;(refine wpList_append_own _ rfl (.tmp 51) (.tmp 54) 22 rfl w.heap.size 5 i0 (.int .u8 0) 1 1 Tryz.underlying22 hi0 hz0 hz1 hz2 rfl (by decide) _ _ _ rfl HO1.out ⟨w1.heap.size,0,none⟩ 1 1 [.int .u8 (u.toNat:Int)] rfl rfl (cell_one_new _ _ _) (byteV_one u) (by unfold maxLen;omega) (by omega) HB2.out.size ?_);intro v' w2 hown2 hgrow2 _;have HO2:=hide hown2;have HB3:=hide (HB2.out.grown hgrow2 HB2.out.size (fun k hk=>(HO1.out.lt k hk).1));clear hown2 hgrow2)
       go_roundw
       case rel=>exact⟨k+1,by have:=HKN.out;omega,by have:=HIK.out;go_num,HGN.out,by rw[HFN.out]<;>go_num,by rw[HBN.out,List.map_append];exact HO2.out,HB3.out⟩
       case measure=>have h1:=HIs.out;have h2:=HN.out;have h3:=HIK.out;have h4:=HKN.out;simp[intOf];omega
      ·have i9:k<=300:=by have h1:=HN.out;have h2:=HKN.out;omega
       obtain⟨u,hu⟩:∃u:UInt8,b=u.toNat:=⟨UInt8.ofNat b,by rw[UInt8.toNat_ofNat',Nat.mod_eq_of_lt (by omega)]⟩
       have hu8:=UInt8.toNat_lt u
       subst hu
       have HO1:=hide ((own_aside (w:=wr.drew) HOWN.out (aside_of_below (lo:=0) (hi:=0) b1) (by omega)).alloc (.cells #[.int .u8 (u.toNat:Int)] 5))
       have HB2:=hide (HB1.out.alloc HB1.out.size (.cells #[.int .u8 (u.toNat:Int)] 5))
       have HFN:Hid (fixedTo s (k+1)=n+0):=by show _=_;rw[fixedTo_succ,<- HP.out,<- HFX.out]
       have HBN:Hid (bytesTo s (k+1)=bytesTo s k++[u]):=by show _=_;rw[bytesTo_succ,<- HP.out];simp
       have HGN:Hid (goodTo s (k+1)):=fun j hj=>by
        rcases Nat.lt_or_ge j k with h|h
        ·exact HG.out j h
        ·rw[show j=k by omega,<- HP.out];simp
       clear HOWN HB HC HP HFX HG b1 HB1 hb hxI hxr
       simp only[]
       go_wp2_with (at_builtin;(refine wpList_append_own _ rfl (.tmp 51) (.tmp 54) 22 rfl w.heap.size 5 i0 (.int .u8 0) 1 1 Tryz.underlying22 hi0 hz0 hz1 hz2 rfl (by decide) _ _ _ rfl HO1.out ⟨w1.heap.size,0,none⟩ 1 1 [.int .u8 (u.toNat:Int)] rfl rfl (cell_one_new _ _ _) (byteV_one u) (by unfold maxLen;omega) (by omega) HB2.out.size ?_);intro v' w2 hown2 hgrow2 _;have HO2:=hide hown2;have HB3:=hide (HB2.out.grown hgrow2 HB2.out.size (fun k hk=>(HO1.out.lt k hk).1));clear hown2 hgrow2)
       go_roundw
       case rel=>exact⟨k+1,by have:=HKN.out;omega,by have:=HIK.out;go_num,HGN.out,by rw[HFN.out]<;>go_num,by rw[HBN.out,List.map_append];exact HO2.out,HB3.out⟩
       case measure=>have h1:=HIs.out;have h2:=HN.out;have h3:=HIK.out;have h4:=HKN.out;simp[intOf];omega
      ·have HNO:Hid (healedAll s=(⟨#[]⟩,0,false)):=healedAll_no (fun h=>h.2.2 k (by have h1:=HN.out;have h2:=HKN.out;omega) (by rw[<- HP.out]))
       clear HOWN HB HC HP HFX HG b1 hxI hxr
       simp only[]
       go_wp2_with fail
       go_ret3
       exact⟨by rw[HNO.out];rfl,HB1.out⟩
    ·obtain⟨a,cp,rfl,hcp,hown⟩:=ownBytes_of HOWN.out (Nat.le_refl _)
     have hst:=string_of (P:=Tryz.prog) ⟨hown.1,hown.2.reads⟩ 22 9 5 cp Tryz.underlying22 Tryz.underlying5 Tryz.underlying9
     have HY:Hid (healedAll s=(str (bytesTo s k),n,true)):=by
      have hkN:s.size / 2=k:=by omega
      have:=healedAll_yes (s:=s) ⟨H2.out,h6,by rw[hkN];exact HG.out⟩
      rw[hkN,<- HFX.out] at this
      exact this
     have hnl:decide (((2*k:Nat):Int)<(s.size:Int))=false:=by simp;omega
     clear hown HOWN
     go_wp2_with fail
     go_ret3
     exact⟨by rw[HY.out];rfl,HB.out⟩
  ·have hd:decide ((600:Int)<(s.size:Int))=true:=by simp;omega
   have he:(s.size:Int) % 2=0:=by omega
   have HNO:Hid (healedAll s=(⟨#[]⟩,0,false)):=healedAll_no (fun h=>h6 h.2.1)
   clear h6 h2
   go_enter Tryz.func220,Tryz.ntmps220
   go_wp2_with fail
   go_ret3
   exact⟨by rw[HNO.out];rfl,Below.refl _ _⟩
 ·have hne:((s.size:Int).tmod 2 != 0)=true:=by rw[Int.tmod_eq_emod_of_nonneg (by omega)];simp;omega
  have he:(s.size:Int) % 2=1:=by omega
  have HNO:Hid (healedAll s=(⟨#[]⟩,0,false)):=healedAll_no (fun h=>h2 h.1)
  clear h2
  go_enter Tryz.func220,Tryz.ntmps220
  go_wp2_with fail
  go_ret3
  exact⟨by rw[HNO.out];rfl,Below.refl _ _⟩
end Go.Proofs.YtgjoepdfhadmcaaGreatDoor
end

