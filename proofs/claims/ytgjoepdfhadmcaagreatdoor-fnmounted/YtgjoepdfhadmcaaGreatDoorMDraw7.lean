/- Several texts in one: Draw7, LyMath, PageLaw. -/
import Derived.Test.YtgjoepdfhadmcaaGreatDoorMDrawBase
import Derived.Test.YtgjoepdfhadmcaaGreatDoorMPageMath
import Derived.Test.YtgjoepdfhadmcaaGreatDoorMTextWalk
import Derived.RegionTactic
import Derived.Deep.RegionWith
import Derived.Deep.RegionHeld3
section
namespace Go.Proofs.YtgjoepdfhadmcaaGreatDoor
open Go.RowKit
set_option linter.unusedVariables false
set_option linter.unusedSimpArgs false
set_option maxRecDepth 20000
theorem aside_block {w w':World}{l r g:Nat}{o:Obj}(h:Aside l r w w')(hb:w.heap[g]?=some o)(hg:g<l∨r<=g):w'.heap[g]?=some o:=by
 have hlt:g<w.heap.size:=by
  rcases Nat.lt_or_ge g w.heap.size with h' | h'
  ·exact h'
  ·rw[Array.getElem?_eq_none h'] at hb;simp at hb
 exact(h.block g hlt hg).trans hb
set_option maxHeartbeats 1600000 in
theorem l7Draw_any (p:Nat)(w:World)(hc:Cur w p) :
  Calls Tryz.prog 169 #[.pointer (some ⟨p,0,none⟩)] w fun e w'=>∃(k a s:Int) (x:ByteArray),e=.returned (.agg #[.int .i64 k,.int .i64 a,.int .i64 s,.string x])∧Cur w' p∧Aside p (p+1) w w':=by
 have hpl:=hc.lt
 obtain⟨wA,hwA⟩:∃wA,wA=w.alloc (.cells #[.int .i64 0,.int .i64 0,.int .i64 0,.string ⟨#[]⟩] 31):=⟨_,rfl⟩
 have HC:=hide (hc.alloc (.cells #[.int .i64 0,.int .i64 0,.int .i64 0,.string ⟨#[]⟩] 31))
 have HA:=hide ((Aside.refl p (p+1) w).alloc (.cells #[.int .i64 0,.int .i64 0,.int .i64 0,.string ⟨#[]⟩] 31))
 have H1:=hide (heap_new w (.cells #[.int .i64 0,.int .i64 0,.int .i64 0,.string ⟨#[]⟩] 31))
 rw[<- hwA] at HC HA H1
 clear hc
 go_enter Tryz.func169,Tryz.ntmps169
 go_wp2_with fail
 rw[<- hwA]
 clear hwA
 refine(l1Below_any p 8 wA HC.out (by omega)).mono ?_
 rintro e w1 ⟨x,rfl,x0,x1,c1,s1⟩
 have h1:=aside_block s1 H1.out (by omega)
 have HA1:=hide (HA.out.trans s1)
 clear s1 HC HA H1
 go_wp2_with fail
 refine(l1Below_any p 1000 w1 c1 (by omega)).mono ?_
 rintro e w2 ⟨y,rfl,y0,y1,c2,s2⟩
 have h2:=aside_block s2 h1 (by omega)
 have HA2:=hide (HA1.out.trans s2)
 clear s2 c1 HA1 h1
 go_wp2_with fail
 refine(drawText_any p 4 w2 c2 (by omega) (by omega)).mono ?_
 rintro e w3 ⟨t,rfl,ht,c3,s3⟩
 have h3:=aside_block s3 h2 (by omega)
 have hs3:=(HA2.out.trans s3).size
 obtain⟨wB,hwB⟩:∃wB,wB=w3.alloc (.cells #[.int .i64 1,.int .i64 x,.int .i64 (1+y),.string t] 31):=⟨_,rfl⟩
 have HAB:=hide ((HA2.out.trans s3).alloc (.cells #[.int .i64 1,.int .i64 x,.int .i64 (1+y),.string t] 31))
 have HCB:=hide (c3.alloc (.cells #[.int .i64 1,.int .i64 x,.int .i64 (1+y),.string t] 31))
 have H3:=hide (heap_old (o:=.cells #[.int .i64 1,.int .i64 x,.int .i64 (1+y),.string t] 31) h3)
 have HP:=hide (heap_new w3 (.cells #[.int .i64 1,.int .i64 x,.int .i64 (1+y),.string t] 31))
 have hp3:=c3.lt
 have hr3:w.heap.size<w3.heap.size:=by
  rcases Nat.lt_or_ge w.heap.size w3.heap.size with h' | h'
  ·exact h'
  ·rw[Array.getElem?_eq_none h'] at h3;simp at h3
 rw[<- hwB] at HAB HCB H3 HP
 clear s3 c2 HA2 h2 c3 h3
 go_wp2_with fail
 rw[<- hwB]
 clear hwB
 refine(l1Once_any p 5 wB HCB.out (by omega)).mono ?_
 rintro e w4 ⟨b,rfl,c4,s4⟩
 have HR4:=hide (aside_block s4 H3.out (by omega))
 have HP4:=hide (aside_block s4 HP.out (by omega))
 have HA4:=hide (HAB.out.trans s4)
 have HC4:=hide c4
 clear HAB HCB H3 HP c4 s4
 obtain⟨r0,r1,r2,r3⟩:=four_cells HP4.out
 obtain⟨z0,z1,z2,z3⟩:=four_cells HR4.out
 have f0:=four_frozen HR4.out 0
 have f1:=four_frozen HR4.out 1
 have f2:=four_frozen HR4.out 2
 have f3:=four_frozen HR4.out 3
 have q0:=four_frozen HP4.out 0
 have q3:=four_frozen HP4.out 3
 cases b with
 | false =>
  go_wp2_with fail
  refine bodyPost_ret (results_cell rfl rfl (run_loadVar_row _ _ _ _ _ _ _ (four_set HR4.out _ _ _ _) Tryz.underlying31 rfl (by kernel_rfl))) rfl ⟨_,_,_,_,rfl,?_,?_⟩
  ·exact(((HC4.out.set_new hpl _).set_new hpl _).set_new hpl _).set_new hpl _
  ·exact(((HA4.out.set_new (Nat.le_refl _) _).set_new (Nat.le_refl _) _).set_new (Nat.le_refl _) _).set_new (Nat.le_refl _) _
 | true =>
  have HR5:Hid (((w4.setCell ⟨w3.heap.size,0,none⟩ (.int .i64 2)).setCell ⟨w3.heap.size,3,none⟩ (.string ⟨#[]⟩)).heap[w.heap.size]?=some (.cells #[.int .i64 0,.int .i64 0,.int .i64 0,.string ⟨#[]⟩] 31)):=set_other (set_other HR4.out (by omega) _) (by omega) _
  have HC5:=hide ((HC4.out.set_new hp3 (q:=0) (.int .i64 2)).set_new hp3 (q:=3) (.string ⟨#[]⟩))
  have HA5:=hide ((HA4.out.set_new (g:=w3.heap.size) (q:=0) (by omega) (.int .i64 2)).set_new (g:=w3.heap.size) (q:=3) (by omega) (.string ⟨#[]⟩))
  go_wp2_with fail
  refine bodyPost_ret (results_cell rfl rfl (run_loadVar_row _ _ _ _ _ _ _ (four_set HR5.out _ _ _ _) Tryz.underlying31 rfl (by kernel_rfl))) rfl ⟨_,_,_,_,rfl,?_,?_⟩
  ·exact(((HC5.out.set_new hpl _).set_new hpl _).set_new hpl _).set_new hpl _
  ·exact(((HA5.out.set_new (Nat.le_refl _) _).set_new (Nat.le_refl _) _).set_new (Nat.le_refl _) _).set_new (Nat.le_refl _) _
end Go.Proofs.YtgjoepdfhadmcaaGreatDoor
end

section
namespace Go.Proofs.YtgjoepdfhadmcaaGreatDoor
open Go.RowKit
set_option linter.unusedVariables false
def byN (t:ByteArray)(i:Nat):Nat:=(t.data.toList.getD i 0).toNat
theorem byN_lt (t:ByteArray)(i:Nat):byN t i<256:=UInt8.toNat_lt _
theorem byN_at (t:ByteArray)(i:Nat)(h:i<t.size):(t[i]).toNat=byN t i:=by rw[byN,byte_at t i h]
def stampN (t:ByteArray):Nat:=byN t 2*65536+byN t 3*256+byN t 4
def textIn (t:ByteArray):ByteArray:=t.extract 6 (t.size-2)
theorem textIn_size (t:ByteArray)(h:8<=t.size):(textIn t).size=t.size-8:=by
 unfold textIn
 rw[ByteArray.size_extract]
 omega
def bodyOk (t:ByteArray):Bool:=decide (8<=t.size)&&(whole t&&(decide (byN t 5=t.size-8)&&pageOk (byN t 0) (byN t 1) (stampN t) (textIn t)))
def headT (s:ByteArray):ByteArray×Int×Bool:=healedAll (s.extract 0 2)
def restT (s:ByteArray):ByteArray×Int×Bool:=healedAll (unwoven (s.extract 2 s.size) 2)
def goodL (s:ByteArray):Bool:=decide (2<=s.size)&&((headT s).2.2&&((restT s).2.2&&(decide (byN (headT s).1 0=(restT s).1.size)&&bodyOk (restT s).1)))
def lyP (s:ByteArray):Int×Int×Int×ByteArray×Int :=
 if s.size=0 then(0,0,0,⟨#[]⟩,0)
 else if goodL s=true then((byN (restT s).1 0:Int),(byN (restT s).1 1:Int),(stampN (restT s).1:Int),textIn (restT s).1,if 0<(restT s).2.1+(headT s).2.1 then 2 else 1)
 else(0,0,0,⟨#[]⟩,3)
def lyV (r:Int×Int×Int×ByteArray×Int):Value:=.tuple #[.agg #[.int .i64 r.1,.int .i64 r.2.1,.int .i64 r.2.2.1,.string r.2.2.2.1],.int .i64 r.2.2.2.2]
theorem lyP_blank {s:ByteArray}(h:s.size=0):lyP s=(0,0,0,⟨#[]⟩,0):=if_pos h
theorem lyP_torn {s:ByteArray}(h:s.size≠0)(hg:goodL s=false):lyP s=(0,0,0,⟨#[]⟩,3):=by
 unfold lyP;rw[if_neg h,if_neg (by simp[hg])]
theorem lyP_good {s:ByteArray}(h:s.size≠0)(hg:goodL s=true):lyP s=((byN (restT s).1 0:Int),(byN (restT s).1 1:Int),(stampN (restT s).1:Int),textIn (restT s).1,if 0<(restT s).2.1+(headT s).2.1 then 2 else 1):=by
 unfold lyP;rw[if_neg h,if_pos hg]
theorem extract_size2 (s:ByteArray)(h:2<=s.size):(s.extract 0 2).size=2:=by rw[ByteArray.size_extract];omega
theorem extract_rest (s:ByteArray)(h:2<=s.size):(s.extract 2 s.size).size=s.size-2:=by rw[ByteArray.size_extract];omega
theorem unwoven_size_le (s:ByteArray)(d:Int):(unwoven s d).size<=s.size:=by
 unfold unwoven
 split
 ·rw[str_size,Wv.unwovenL_length];simp
 ·exact Nat.zero_le _
theorem healed_size {s:ByteArray}(h:(healedAll s).2.2=true):s.size=2*(healedAll s).1.size:=by
 by_cases hc:s.size % 2=0∧s.size<=600∧goodTo s (s.size / 2)
 ·rw[healedAll_yes hc]
  show s.size=2*(bytesTo s (s.size / 2)).length
  rw[bytesTo_length];omega
 ·rw[healedAll_no hc] at h;simp at h
theorem healed_size_le (s:ByteArray):(healedAll s).1.size<=300:=by
 by_cases hc:s.size % 2=0∧s.size<=600∧goodTo s (s.size / 2)
 ·rw[healedAll_yes hc]
  show(bytesTo s (s.size / 2)).length<=300
  rw[bytesTo_length];omega
 ·rw[healedAll_no hc];exact Nat.zero_le _
theorem healed_fixed (s:ByteArray):0<=(healedAll s).2.1∧(healedAll s).2.1<=300:=by
 by_cases hc:s.size % 2=0∧s.size<=600∧goodTo s (s.size / 2)
 ·rw[healedAll_yes hc]
  have:=fixedTo_bd s (s.size / 2) hc.2.2
  show 0<=fixedTo s (s.size / 2)∧fixedTo s (s.size / 2)<=300
  omega
 ·rw[healedAll_no hc];exact⟨Int.le_refl _,by show(0:Int)<=300;omega⟩
theorem unwoven_size {s:ByteArray}(h:s.size<=600):(unwoven s 2).size=s.size:=by
 have hw:woveOk s 2=true:=by simp[woveOk,inB];omega
 unfold unwoven
 rw[if_pos hw,str_size,Wv.unwovenL_length];simp
theorem torn_len {s:ByteArray}(h2:2<=s.size)(hne:s.size-2≠2*byN (headT s).1 0):goodL s=false:=by
 cases hg:goodL s
 ·rfl
 ·exfalso
  simp only[goodL,Bool.and_eq_true,decide_eq_true_eq] at hg
  obtain⟨_,h1,h3,h4,h5⟩:=hg
  have hz:=healed_size (s:=unwoven (s.extract 2 s.size) 2) h3
  have h8:8<=(restT s).1.size:=by simp only[bodyOk,Bool.and_eq_true,decide_eq_true_eq] at h5;exact h5.1
  by_cases h6:s.size-2<=600
  ·have:=unwoven_size (s:=s.extract 2 s.size) (by rw[extract_rest s h2];exact h6)
   rw[extract_rest s h2] at this
   have hr:(restT s).1.size=(healedAll (unwoven (s.extract 2 s.size) 2)).1.size:=rfl
   omega
  ·have hw:woveOk (s.extract 2 s.size) 2=false:=by simp[woveOk,inB,extract_rest s h2];omega
   have:(unwoven (s.extract 2 s.size) 2).size=0:=by unfold unwoven;rw[if_neg (by simp[hw])];rfl
   have hr:(restT s).1.size=(healedAll (unwoven (s.extract 2 s.size) 2)).1.size:=rfl
   omega
theorem slice_mid {P:Program}(t:TypeId)(ht:P.underlying t=some .string)(s:ByteArray)(I J:Int)(i j:Nat)(hI:I=(i:Int))(hJ:J=(j:Int))(hij:i<=j)(hj:j<=s.size)(x:ByteArray)(hx:x=s.extract i j) :
  ∀w,(Instr.sliceAt t (.string s) (some (.int .i64 I)) (some (.int .i64 J)) none).run P w=.ok (.string x) w:=by
 intro w
 subst hI;subst hJ;subst hx
 rw[run_sliceAt_string w t _ _ _ _ ht,run_slice_string (P:=P) w t s .i64 .i64 (i:Int) (j:Int) ht (by omega) (by omega) (by omega)]
 simp
theorem slice_mid2 {P:Program}(t:TypeId)(ht:P.underlying t=some .string)(s:ByteArray)(I J:Int)(i j:Nat)(hI:I=(i:Int))(hJ:J=(j:Int))(hij:i<=j)(hj:j<=s.size)(x:ByteArray)(hx:x=s.extract i j) :
  ∀w,(Instr.slice t (.string s) (some (.int .i64 I)) (some (.int .i64 J)) none).run P w=.ok (.string x) w:=by
 intro w
 subst hI;subst hJ;subst hx
 rw[run_slice_string (P:=P) w t s .i64 .i64 (i:Int) (j:Int) ht (by omega) (by omega) (by omega)]
 simp
end Go.Proofs.YtgjoepdfhadmcaaGreatDoor
end

section
namespace Go.Proofs.YtgjoepdfhadmcaaGreatDoor
open Go.RowKit
set_option linter.unusedVariables false
theorem spread_at:∀(l:List UInt8) (i:Nat),i<2*l.length->(spreadL l).getD i 0=(wordB (Ham.spread (l.getD (i / 2) 0).toNat)).getD (i % 2) 0
 | [],i,h=>by simp at h
 | b::l,0,_=>rfl
 | b::l,1,_=>rfl
 | b::l,i+2,h=>by
  have ih:=spread_at l i (by simp at h;omega)
  show(wordB (Ham.spread b.toNat)++spreadL l).getD (i+2) 0=_
  rw[List.getD_eq_getElem?_getD,List.getElem?_append_right (by simp[wordB]),show i+2-(wordB (Ham.spread b.toNat)).length=i by simp[wordB],<- List.getD_eq_getElem?_getD,ih,show(i+2) / 2=i / 2+1 by omega,show(i+2) % 2=i % 2 by omega]
  rfl
theorem spread_word (l:List UInt8){j:Nat}(h:j<l.length):wordAt (str (spreadL l)) j=Ham.spread (l.getD j 0).toNat:=by
 unfold wordAt
 show 256*((spreadL l).getD (2*j) 0).toNat+((spreadL l).getD (2*j+1) 0).toNat=_
 rw[spread_at l (2*j) (by omega),spread_at l (2*j+1) (by omega),show 2*j / 2=j by omega,show(2*j+1) / 2=j by omega,show 2*j % 2=0 by omega,show(2*j+1) % 2=1 by omega]
 have hl:Ham.spread (l.getD j 0).toNat<8192:=Ham.spread_lt (UInt8.toNat_lt _)
 generalize Ham.spread (l.getD j 0).toNat=x at *
 show 256*(UInt8.ofNat (x / 256)).toNat+(UInt8.ofNat (x % 256)).toNat=x
 rw[UInt8.toNat_ofNat',UInt8.toNat_ofNat',Nat.mod_eq_of_lt (show x / 256<2 ^ 8 by omega),Nat.mod_eq_of_lt (show x % 256<2 ^ 8 by omega)]
 omega
theorem healed_spread (l:List UInt8)(h:l.length<=300):healedAll (str (spreadL l))=(str l,0,true):=by
 have hz:(str (spreadL l)).size=2*l.length:=spread_len l
 have hd:(str (spreadL l)).size / 2=l.length:=by omega
 have hh:∀j,j<l.length->healedI (wordAt (str (spreadL l)) j)=(((l.getD j 0).toNat:Int),0):=fun j hj=>by
  rw[spread_word l hj,healedI_nat (Ham.spread_lt (UInt8.toNat_lt _))]
  exact Ham.healed_clean (UInt8.toNat_lt _)
 have hg:goodTo (str (spreadL l)) l.length:=fun j hj=>by rw[hh j hj];simp
 have hb:bytesTo (str (spreadL l)) l.length=l:=by
  apply List.ext_getElem
  ·rw[bytesTo_length]
  ·intro j h1 h2
   simp only[bytesTo,List.getElem_map,List.getElem_range]
   rw[hh j h2]
   rw[List.getD_eq_getElem?_getD,List.getElem?_eq_getElem h2]
   simp
 have hc:∀k,k<=l.length->fixedTo (str (spreadL l)) k=0:=by
  intro k
  induction k with
  | zero=>intro _;rfl
  | succ k ih=>intro hk;rw[fixedTo_succ,ih (by omega),hh k (by omega)];rfl
 rw[healedAll_yes ⟨by omega,by omega,by rw[hd];exact hg⟩,hd,hb,hc _ (Nat.le_refl _)]
theorem str_of (s:ByteArray):str s.data.toList=s:=by cases s;simp[str]
theorem unwoven_of {s:ByteArray}(h:s.size<=600):unwoven (woven s 2) 2=s:=by
 have hw:∀t:ByteArray,t.size<=600->woveOk t ((2:Nat):Int)=true:=fun t ht=>by simp[woveOk,inB];omega
 have h1:=woven_yes (hw s h)
 have hz:(woven s ((2:Nat):Int)).size<=600:=Nat.le_trans (woven_size_le s _) h
 have h2:=unwoven_yes (hw _ hz)
 show unwoven (woven s ((2:Nat):Int)) ((2:Nat):Int)=s
 rw[h2,h1]
 show str (Wv.unwovenL (Wv.wovenL s.data.toList 2) 2)=s
 rw[Wv.unwoven_woven _ (by omega),str_of]
theorem ext_data {s t:ByteArray}(h:s.data.toList=t.data.toList):s=t:=by
 rw[<- str_of s,<- str_of t,h]
theorem append_data (s t:ByteArray):(s++t).data.toList=s.data.toList++t.data.toList:=by simp
theorem extract_data (s:ByteArray)(i j:Nat):(s.extract i j).data.toList=(s.data.toList.drop i).take (j-i):=by
 simp[ByteArray.data_extract]
theorem extract_left (s t:ByteArray)(n:Nat)(h:s.size=n):(s++t).extract 0 n=s:=by
 apply ext_data
 have hl:s.data.toList.length=n:=by simpa using h
 rw[extract_data,append_data,List.drop_zero,Nat.sub_zero,List.take_append_of_le_length (by omega),List.take_of_length_le (by omega)]
theorem extract_right (s t:ByteArray)(n:Nat)(h:s.size=n):(s++t).extract n (s++t).size=t:=by
 apply ext_data
 have hl:s.data.toList.length=n:=by simpa using h
 have ht:t.data.toList.length=t.size:=by simp
 rw[extract_data,append_data,List.drop_append_of_le_length (by omega),List.drop_of_length_le (by omega),List.nil_append,List.take_of_length_le]
 rw[ByteArray.size_append];omega
theorem whole_of (s:ByteArray):whole (checked s)=true:=by
 unfold whole
 rw[checked_size,show s.size+2-2=s.size by omega]
 have:(checked s).extract 0 s.size=s:=extract_left s _ _ rfl
 rw[this]
 simp
theorem body_data (K A S:Nat)(x:ByteArray):(bodyB K A S x).data.toList=headL K A S x.size++(x.data.toList++tail2 (checkN (str (headL K A S x.size)++x))):=by
 unfold bodyB checked
 rw[append_data,append_data]
 show(headL K A S x.size++x.data.toList)++tail2 _=_
 rw[List.append_assoc]
theorem body_by (K A S:Nat)(x:ByteArray)(i:Nat)(hi:i<6):byN (bodyB K A S x) i=((headL K A S x.size).getD i 0).toNat:=by
 unfold byN
 rw[body_data,List.getD_eq_getElem?_getD,List.getElem?_append_left (by show i<6;exact hi),<- List.getD_eq_getElem?_getD]
theorem u8_nat {n:Nat}(h:n<256):(UInt8.ofNat n).toNat=n:=by rw[UInt8.toNat_ofNat'];exact Nat.mod_eq_of_lt (by omega)
theorem body_text (K A S:Nat)(x:ByteArray):textIn (bodyB K A S x)=x:=by
 unfold textIn
 rw[bodyB_size]
 apply ext_data
 have hl:x.data.toList.length=x.size:=by simp
 rw[extract_data,body_data]
 rw[List.drop_append_of_le_length (by show 6<=6;omega),List.drop_of_length_le (by show 6<=6;omega),List.nil_append,List.take_append_of_le_length (by omega),List.take_of_length_le (by omega)]
theorem ly_laid {k a s:Int}{x:ByteArray}(h:pageOk k a s x=true):lyP (laid k a s x)=(k,a,s,x,1)∧1<=(laid k a s x).size:=by
 obtain⟨K,A,S,rfl,rfl,rfl,hK,hA,hS1,hS,hx⟩:=page_ok h
 rw[laid_yes h]
 have hb:=bodyB_size K A S x
 have hbl : (bodyB K A S x).data.toList.length <= 300 := by have : (bodyB K A S x).data.toList.length = (bodyB K A S x).size := by simp
                                                            omega
 have h0:(str (spreadL [UInt8.ofNat (x.size+8)])).size=2:=by rw[spread_len];rfl
 have hz:2<=(laidB K A S x).size:=by unfold laidB;rw[ByteArray.size_append];omega
 have e1:(laidB K A S x).extract 0 2=str (spreadL [UInt8.ofNat (x.size+8)]):=extract_left _ _ _ h0
 have e2:(laidB K A S x).extract 2 (laidB K A S x).size=woven (str (spreadL (bodyB K A S x).data.toList)) 2:=extract_right _ _ _ h0
 have hh:headT (laidB K A S x)=(str [UInt8.ofNat (x.size+8)],0,true):=by
  unfold headT;rw[e1];exact healed_spread _ (by show 1<=300;omega)
 have hr:restT (laidB K A S x)=(bodyB K A S x,0,true):=by
  unfold restT
  rw[e2,unwoven_of (by rw[spread_len];omega),healed_spread _ hbl,str_of]
 have b0:byN (bodyB K A S x) 0=K:=by rw[body_by _ _ _ _ _ (by omega)];exact u8_nat (by omega)
 have b1:byN (bodyB K A S x) 1=A:=by rw[body_by _ _ _ _ _ (by omega)];exact u8_nat (by omega)
 have b2:byN (bodyB K A S x) 2=S / 65536:=by rw[body_by _ _ _ _ _ (by omega)];exact u8_nat (by omega)
 have b3:byN (bodyB K A S x) 3=S / 256 % 256:=by rw[body_by _ _ _ _ _ (by omega)];exact u8_nat (by omega)
 have b4:byN (bodyB K A S x) 4=S % 256:=by rw[body_by _ _ _ _ _ (by omega)];exact u8_nat (by omega)
 have b5:byN (bodyB K A S x) 5=x.size:=by rw[body_by _ _ _ _ _ (by omega)];exact u8_nat (by omega)
 have bs:stampN (bodyB K A S x)=S:=by unfold stampN;rw[b2,b3,b4];omega
 have bh:byN (str [UInt8.ofNat (x.size+8)]) 0=x.size+8:=u8_nat (by omega)
 have hok:bodyOk (bodyB K A S x)=true:=by
  unfold bodyOk
  rw[b0,b1,bs,b5,body_text,hb,h]
  have:whole (bodyB K A S x)=true:=whole_of _
  rw[this]
  simp
 have hg:goodL (laidB K A S x)=true:=by
  unfold goodL
  rw[hh,hr]
  dsimp only
  rw[bh,hb,hok,decide_eq_true hz]
  simp
 refine⟨?_,by omega⟩
 rw[lyP_good (by omega) hg,hr,hh]
 dsimp only
 rw[b0,b1,bs,body_text]
 rfl
end Go.Proofs.YtgjoepdfhadmcaaGreatDoor
end

