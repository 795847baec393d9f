/- Several texts in one: WeaveIter, WeaveImpl. -/
import Derived.Test.YtgjoepdfhadmcaaGreatDoorMWeaveSpec2
import Derived.RangeFuncNested
import Derived.RangeFuncBound
import Derived.RangeFuncCalls
import Derived.RangeFuncLeaves
import Derived.RangeFuncBox
import Derived.Shelf.Abstract
import Derived.Shelf.RegionOpen
import Derived.WalkKit
import Derived.OwnWalkIn
import Derived.TacticsInMore
import Derived.LoopNIn
import Derived.LoopIn
import Derived.Test.YtgjoepdfhadmcaaGreatDoorMCopyBase
section
namespace Go.Proofs.YtgjoepdfhadmcaaGreatDoor
open Go.RowKit Go.Shelf
set_option linter.unusedVariables false
set_option linter.unusedSimpArgs false
set_option maxRecDepth 100000
attribute [local go_sem] Oper.semAt_some
def Kept (B:Nat)(W W':World):Prop:=∀k,B<=k->k<B+2->W'.heap[k]?=W.heap[k]?
theorem Kept.refl (B:Nat)(W:World):Kept B W W:=fun _ _ _=>rfl
theorem Kept.trans {B:Nat}{X Y Z:World}(h:Kept B X Y)(k:Kept B Y Z):Kept B X Z:=fun i h1 h2=>(k i h1 h2).trans (h i h1 h2)
theorem Kept.putObj {B:Nat}(W:World)(l:Nat)(o:Obj)(h:B+2<=l):Kept B W (W.putObj l o):=fun k _ h2=>World.putObj_heap_other (by omega)
theorem Kept.below {B:Nat}{W W':World}(h:Below (B+2) W W'):Kept B W W':=fun k _ h2=>h.block k h2
theorem Kept.boxed {B:Nat}{W W':World}(h:Kept B W W'){k:Nat}(h1:B<=k)(h2:k<B+2){t:TypeId}{v:Value}(hb:Boxed W k t v):Boxed W' k t v:=(h k h1 h2).trans hb
abbrev Num (n:Nat):Type:={ k:Nat // k<n }
def ups (n:Nat):Nat->List (Num n)
 | 0=>[]
 | k+1=>if h:k<n then ups n k++[⟨k,h⟩] else ups n k
theorem ups_succ {n k:Nat}(h:k<n):ups n (k+1)=ups n k++[⟨k,h⟩]:=by simp[ups,h]
theorem ups_val {n:Nat}:∀{k:Nat},k<=n->(ups n k).map (·.val)=List.range k
 | 0,_=>rfl
 | k+1,h=>by rw[ups_succ (by omega),List.map_append,ups_val (by omega),List.range_succ];rfl
theorem ups_length {n k:Nat}(h:k<=n):(ups n k).length=k:=by
 have:=congrArg List.length (ups_val h)
 simpa using this
abbrev handed (n d:Nat)(k:Num n):Array Value:=#[.int .i64 (k.val:Int),.int .i64 (Wv.num n d k.val:Int)]
theorem num_at {n d r t:Nat}(hr:r<d)(ht:t<Wv.cnt n d r):Wv.num n d (Wv.st n d r+t)=r+d*t:=by
 unfold Wv.num Wv.order
 rw[List.getD_eq_getElem?_getD,Wv.orderTo_at ht d hr]
 rfl
theorem st_all {n d:Nat}(hd:0<d):Wv.st n d d=n:=Wv.order_length hd
theorem st_le {n d r:Nat}(hd:0<d)(hr:r<=d):Wv.st n d r<=n:=by
 have:=Wv.st_mono n d hr
 rwa [st_all hd] at this
set_option maxHeartbeats 2000000 in
theorem weaveIter_in (F:Fence)(m:Nat)(hf:F.fn 233)(hro:F.round=none)(hm:1<=m)(l B n d:Nat)(hn:n<=600)(hd:1<=d)(hd16:d<=16)(J Jx:List (Num n)->World->Prop)
  (hY:∀pre x W,J pre W->pre.length<n->YieldAt F (m-1) Tryz.prog l (handed n d x) W fun e W' =>
   (e=.returned (.bool true)∧J (pre++[x]) W'∧Kept B W W')∨(e=.returned (.bool false)∧Jx (pre++[x]) W'))
  (W:World) (hN:Boxed W B 3 (.int .i64 (n:Int))) (hD:Boxed W (B+1) 3 (.int .i64 (d:Int))) (h0:J [] W) :
  CallsIn F m Tryz.prog 233 #[.func (.yield l) #[] #[],.pointer (some ⟨B+1,0,none⟩),.pointer (some ⟨B,0,none⟩)] W fun e W'=>(∃v,e=.returned v) ∧
   ((∃ys,ys=ups n n∧J ys W')∨(∃pre,(∃k,k<=n∧pre=ups n k)∧Jx pre W')):=by
 refine callsIn_of_wp Tryz.func233 rfl hf ?_ hro
 simp only[Tryz.ntmps233,List.size_toArray,List.length_cons,List.length_nil,Nat.reduceAdd,Nat.reduceSub,Array.replicate_succ,Array.replicate_zero,List.push_toArray,List.append_toArray,List.nil_append,List.cons_append]
 have hDc:=hD.cell
 gi_wp2
 gi_loopw [4,8] (fun q i wr=>∃r:Nat,r<=d∧i=.int .i64 (r:Int)∧q=.int .i64 (Wv.st n d r:Int)∧J (ups n (Wv.st n d r)) wr∧Kept B W wr)
  (fun _ i _=>d-(intOf i).toNat)
 case atStart=>exact⟨0,Nat.zero_le _,rfl,rfl,h0,Kept.refl _ _⟩
 case round =>
  obtain⟨r,hr,rfl,rfl,hJs,hK⟩:=hrel
  by_cases hlt:r<d
  ·gi_wp2
   gi_loopw [4,6] (fun q i wr=>∃t:Nat,t<=Wv.cnt n d r∧i=.int .i64 ((r+d*t:Nat):Int)∧q=.int .i64 ((Wv.st n d r+t:Nat):Int)∧J (ups n (Wv.st n d r+t)) wr∧Kept B W wr)
    (fun q _ _=>Wv.st n d r+Wv.cnt n d r-(intOf q).toNat)
   case atStart=>exact⟨0,Nat.zero_le _,by simp,by simp,hJs,hK⟩
   case round =>
    obtain⟨t,ht,rfl,rfl,hJt,hKt⟩:=hrel
    have hNc:=(hKt.boxed (Nat.le_refl _) (by omega) hN).cell
    have hDr:=(hKt.boxed (by omega) (by omega) hD).cell
    have hst:=st_le (n:=n) (r:=r+1) (show 0<d by omega) (by omega)
    rw[Wv.st_succ] at hst
    by_cases hl2:t<Wv.cnt n d r
    ·have hlow:=(Wv.cnt_lt (n:=n) (r:=r) (t:=t) (show 0<d by omega)).1 hl2
     have hnum:=num_at (n:=n) hlt hl2
     generalize hqe:r+d*t=q at *
     generalize hpe:Wv.st n d r+t=p at *
     have hp:p<n:=by omega
     obtain⟨fn,tmps,assign,body,hy,hR⟩:=hY _ ⟨p,hp⟩ wr hJt (by rw[ups_length (by omega)];omega)
     dsimp only[handed] at hy
     rw[hnum] at hy
     gi_wp2
     refine hR.mono ?_
     rintro e W3 (⟨rfl,hJ3,hk3⟩|⟨rfl,hJx3⟩)
     ·have hD3:=((hKt.trans hk3).boxed (by omega) (by omega) hD).cell
      gi_wp2
      go_roundw
      case rel=>exact⟨t+1,by omega,by rw[Nat.mul_add,Nat.mul_one,<- Nat.add_assoc,hqe];go_num,by rw[<- Nat.add_assoc,hpe];go_num,by rw[<- Nat.add_assoc,hpe,ups_succ hp];exact hJ3,hKt.trans hk3⟩
      case measure=>simp[intOf];omega
     ·gi_wp2
      refine bodyPost_ret (results_none rfl _ _ _) rfl ?_
      exact⟨⟨_,rfl⟩,.inr ⟨_,⟨p+1,by omega,(ups_succ hp).symm⟩,hJx3⟩⟩
    ·obtain rfl:t=Wv.cnt n d r:=by omega
     have hup:n<=r+d*Wv.cnt n d r:=by
      have:=(Wv.cnt_lt (n:=n) (r:=r) (t:=Wv.cnt n d r) (show 0<d by omega))
      omega
     have hle:d*Wv.cnt n d r<=d*n:=Nat.mul_le_mul_left d (by omega)
     have hle2:d*n<=16*600:=Nat.mul_le_mul hd16 hn
     generalize d*Wv.cnt n d r=q at *
     gi_wp2
     exact⟨⟨r+1,by omega,by go_num,by rw[Wv.st_succ],by rw[Wv.st_succ];exact hJt,hKt⟩,by simp[intOf];omega⟩
  ·obtain rfl:r=d:=by omega
   gi_wp2
   go_end0
   exact⟨⟨_,rfl⟩,.inl ⟨_,by rw[st_all (by omega)],hJs⟩⟩
theorem weave_stops (F:Fence)(m:Nat)(hf:F.fn 233)(hro:F.round=none)(hm:1<=m)(B n d:Nat)(hn:n<=600)(hd:1<=d)(hd16:d<=16)(w:World)(hN:Boxed w B 3 (.int .i64 (n:Int)))(hD:Boxed w (B+1) 3 (.int .i64 (d:Int))) :
  SeqStopsK F m Tryz.prog 233 #[.pointer (some ⟨B+1,0,none⟩),.pointer (some ⟨B,0,none⟩)] (handed n d) (Kept B) (fun ys=>ys=ups n n) (fun pre=>∃k,k<=n∧pre=ups n k) n w:=fun l J Jx W hW _ _ hY h0 =>
 weaveIter_in F m hf hro hm l B n d hn hd hd16 J Jx hY W ((hW.block B hN.lt).trans hN) ((hW.block (B+1) hD.lt).trans hD) h0
set_option maxHeartbeats 1000000 in
theorem weave_in (F:Fence)(m:Nat)(hf:F.fn 219)(hro:F.round=none)(n d:Nat)(w:World) :
  CallsIn F m Tryz.prog 219 #[.int .i64 (n:Int),.int .i64 (d:Int)] w fun e w'=>e=.returned (.func (.func 233) #[] #[.pointer (some ⟨w.heap.size+1,0,none⟩),.pointer (some ⟨w.heap.size,0,none⟩)]) ∧
   w'=(w.alloc (.cells #[.int .i64 (n:Int)] 3)).alloc (.cells #[.int .i64 (d:Int)] 3):=by
 refine callsIn_of_wp Tryz.func219 rfl hf ?_ hro
 simp only[Tryz.ntmps219,List.size_toArray,List.length_cons,List.length_nil,Nat.reduceAdd,Nat.reduceSub,Array.replicate_succ,Array.replicate_zero,List.push_toArray,List.append_toArray,List.nil_append,List.cons_append]
 gi_wp2
 go_ret
 exact⟨rfl,rfl⟩
set_option maxHeartbeats 400000 in
theorem weaves_any (s:ByteArray)(d:Int)(w:World)(hs:s.size<=1048576) :
  Calls Tryz.prog 218 #[.string s,.int .i64 d] w fun e w'=>e=.returned (.bool (woveOk s d))∧w=w':=by
 by_cases h1:1<=d
 ·by_cases h2:d<=16
  ·have HE:Hid (woveOk s d=decide ((s.size:Int)<=600)):=by show _=_;simp[woveOk,inB,h1,h2];omega
   go_enter Tryz.func218,Tryz.ntmps218
   go_wp2_with fail
   go_ret
   exact⟨ret_bool HE.out.symm,rfl⟩
  ·have HE:Hid (woveOk s d=false):=by show _=_;simp[woveOk,inB];omega
   go_enter Tryz.func218,Tryz.ntmps218
   go_wp2_with fail
   go_ret
   exact⟨ret_bool HE.out.symm,rfl⟩
 ·have HE:Hid (woveOk s d=false):=by show _=_;simp[woveOk,inB];omega
  go_enter Tryz.func218,Tryz.ntmps218
  go_wp2_with fail
  go_ret
  exact⟨ret_bool HE.out.symm,rfl⟩
end Go.Proofs.YtgjoepdfhadmcaaGreatDoor
end

section
namespace Go.Proofs.YtgjoepdfhadmcaaGreatDoor
open Go.RowKit Go.Shelf
set_option linter.unusedVariables false
set_option linter.unusedSimpArgs false
set_option maxRecDepth 100000
attribute [local go_sem] Oper.semAt_some
theorem owned_own {β:Type}{B lo hi n:Nat}(h:hi<=B)(a:Option Addr)(f:β->Nat->Value):OwnFrom B (fun s W=>Owned lo hi W a n (f s)):=fun s X Y row hs hg hr =>
 hs.of hg.size fun k _ h2=>hg.block k (by have:=hs.1;omega) (fun e=>by have:=(hr k e.symm).1;omega)
theorem boxed_from {β:Type}(B k:Nat)(t:TypeId)(f:β->Value):OwnFrom B (fun s W=>Boxed W k t (f s)):=Own.from (boxed_own k t f) B
def byteC (s:ByteArray)(k:Nat):Value:=.int .u8 ((s.data.toList.getD k 0).toNat:Int)
theorem laid5 (s:ByteArray)(D:Nat)(w W0:World)(hW0:W0=(((((w.alloc (Obj.cells #[Value.string s] 9)).alloc (Obj.cells (madeCells #[Value.int IntKind.u8 0] s.size) 5)).alloc (Obj.cells #[Value.slice (some { block:=w.heap.size+1,off:=0 }) s.size s.size] 22)).alloc (Obj.cells #[Value.int IntKind.i64 (s.size:Int)] 3)).alloc (Obj.cells #[Value.int IntKind.i64 (D:Int)] 3))) :
  W0.heap.size=w.heap.size+1+1+1+1+1∧Boxed W0 w.heap.size 9 (.string s)∧Boxed W0 (w.heap.size+1+1) 22 (.slice (some { block:=w.heap.size+1,off:=0 }) s.size s.size) ∧
  Boxed W0 (w.heap.size+1+1+1) 3 (.int .i64 (s.size:Int))∧Boxed W0 (w.heap.size+1+1+1+1) 3 (.int .i64 (D:Int)) ∧
  Owned (w.heap.size+1) (w.heap.size+1+1) W0 (some ⟨w.heap.size+1,0,none⟩) s.size (fun _=>.int .u8 0)∧Below w.heap.size w W0:=by
 have hsz:W0.heap.size=w.heap.size+1+1+1+1+1:=by rw[hW0];simp
 have bS:Boxed W0 w.heap.size 9 (.string s):=by rw[hW0];exact(((Boxed.new w _ _).alloc _).alloc _).alloc _|>.alloc _
 have bT:Boxed W0 (w.heap.size+1+1) 22 (.slice (some { block:=w.heap.size+1,off:=0 }) s.size s.size):=by
  have h1:=Boxed.new ((w.alloc (Obj.cells #[Value.string s] 9)).alloc (Obj.cells (madeCells #[Value.int IntKind.u8 0] s.size) 5)) 22 (.slice (some { block:=w.heap.size+1,off:=0 }) s.size s.size)
  simp only[World.size_alloc] at h1
  rw[hW0];exact(h1.alloc _).alloc _
 have bN:Boxed W0 (w.heap.size+1+1+1) 3 (.int .i64 (s.size:Int)):=by
  have h1:=Boxed.new (((w.alloc (Obj.cells #[Value.string s] 9)).alloc (Obj.cells (madeCells #[Value.int IntKind.u8 0] s.size) 5)).alloc (Obj.cells #[Value.slice (some { block:=w.heap.size+1,off:=0 }) s.size s.size] 22)) 3 (.int .i64 (s.size:Int))
  simp only[World.size_alloc] at h1
  rw[hW0];exact h1.alloc _
 have bD:Boxed W0 (w.heap.size+1+1+1+1) 3 (.int .i64 (D:Int)):=by
  have h1:=Boxed.new ((((w.alloc (Obj.cells #[Value.string s] 9)).alloc (Obj.cells (madeCells #[Value.int IntKind.u8 0] s.size) 5)).alloc (Obj.cells #[Value.slice (some { block:=w.heap.size+1,off:=0 }) s.size s.size] 22)).alloc (Obj.cells #[Value.int IntKind.i64 (s.size:Int)] 3)) 3 (.int .i64 (D:Int))
  simp only[World.size_alloc] at h1
  rw[hW0];exact h1
 have hrow:Owned (w.heap.size+1) (w.heap.size+1+1) W0 (some ⟨w.heap.size+1,0,none⟩) s.size (fun _=>.int .u8 0):=by
  have h1:=owned_of_row ((World.rowIs_made (w.alloc (Obj.cells #[Value.string s] 9)) (.int .u8 0) s.size 5).congr (g:=fun _=>.int .u8 0) (fun _ _=>by simp)) (Nat.le_refl _) (Nat.lt_succ_self _) (by simp)
  simp only[World.size_alloc] at h1
  rw[hW0]
  exact h1.later (((((Below.refl _ _).alloc (Nat.le_refl _) _).alloc (by simp) _).alloc (by simp) _)) (by simp)
 have hbel:Below w.heap.size w W0:=by
  rw[hW0]
  exact(((((Below.refl _ w).alloc (Nat.le_refl _) _).alloc (by simp) _).alloc (by simp;omega) _).alloc (by simp;omega) _).alloc (by simp;omega) _
 exact⟨hsz,bS,bT,bN,bD,hrow,hbel⟩
def Between (s:ByteArray)(w:World)(f:Nat->Value)(W:World):Prop :=
 Owned (w.heap.size+1) (w.heap.size+1+1) W (some ⟨w.heap.size+1,0,none⟩) s.size f∧Boxed W w.heap.size 9 (.string s)∧Boxed W (w.heap.size+1+1) 22 (.slice (some { block:=w.heap.size+1,off:=0 }) s.size s.size)∧Below w.heap.size w W
theorem between_own {β:Type}{B:Nat}(s:ByteArray)(w:World)(f:β->Nat->Value)(h:w.heap.size+1+1<=B):OwnFrom B (fun pre W=>Between s w (f pre) W) :=
 OwnFrom.and (owned_own h _ f) (OwnFrom.and (boxed_from B _ _ _) (OwnFrom.and (boxed_from B _ _ _) (ownFrom_below (Nat.le_refl _) (by omega))))
theorem Between.set {s:ByteArray}{w:World}{f:Nat->Value}{W:World}(h:Between s w f W){i:Nat}(hi:i<s.size)(v:Value):Between s w (fun j=>if j=i then v else f j) (W.setCell ⟨w.heap.size+1,i,none⟩ v).drew:=by
 obtain⟨h1,h2,h3,h4⟩:=h
 exact⟨(h1.set0 hi v).drew,(Below.heap_setCell _ _ _ _ (by dsimp only;omega)).trans h2,(Below.heap_setCell _ _ _ _ (by dsimp only;omega)).trans h3,(h4.setCell (p:=⟨w.heap.size+1,i,none⟩) (by simp) v).drew⟩
theorem Between.congr {s:ByteArray}{w:World}{f g:Nat->Value}{W:World}(h:Between s w f W)(e:∀i,i<s.size->f i=g i):Between s w g W:=⟨h.1.congr e,h.2⟩
theorem kept_set {W:World}{b i:Nat}{B:Nat}(h:b<B)(v:Value):Kept B W (W.setCell ⟨b,i,none⟩ v).drew:=fun k h1 _=>Below.heap_setCell _ _ _ _ (by dsimp only;omega)
def wovC (s:ByteArray)(D:Nat)(pre:List (Num s.size))(j:Nat):Value:=if j∈pre.map (·.val) then byteC s (Wv.num s.size D j) else .int .u8 0
theorem wovC_step (s:ByteArray)(D:Nat)(pre:List (Num s.size))(x:Num s.size)(j:Nat) :
  (if j=x.val then byteC s (Wv.num s.size D x.val) else wovC s D pre j)=wovC s D (pre++[x]) j:=by
 unfold wovC
 by_cases e:j=x.val
 ·subst e;simp
 ·simp[e]
theorem wovC_all (s:ByteArray)(D j:Nat)(hj:j<s.size):wovC s D (ups s.size s.size) j=cellB (Wv.wovenL s.data.toList D) j:=by
 unfold wovC cellB byteC
 rw[ups_val (Nat.le_refl _),if_pos (List.mem_range.2 hj),Wv.wovenL_at _ _ _ (by simpa using hj)]
 simp
set_option maxHeartbeats 2000000 in
theorem implWoven_any (s:ByteArray)(d:Int)(w:World)(hs:s.size<=1048576) :
  Calls Tryz.prog 189 #[.string s,.int .i64 d] w fun e w'=>e=.returned (.string (woven s d))∧Below w.heap.size w w':=by
 cases hb:woveOk s d
 ·have HE:=hide (woven_no hb)
  go_enter Tryz.func189,Tryz.ntmps189
  go_wp2_with fail
  refine(weaves_any _ _ _ hs).mono ?_
  rw[hb]
  rintro e w1 ⟨rfl,rfl⟩
  go_wp2_with fail
  go_ret
  exact⟨ret_str HE.out.symm,(Below.refl _ _).alloc (Nat.le_refl _) _⟩
 ·have HB0:=hide hb
  obtain⟨D,rfl,hD1,hD16,hs6⟩:=woveOk_yes hb
  have HE:=hide (woven_yes hb)
  clear hb
  have hmk:=run_make_row' (P:=Tryz.prog) 22 5 (.int .u8 0) 1 Tryz.underlying22 Tryz.infoU8d rfl .i64 .i64 s.size (by omega) (by omega)
  refine(callsIn_wide (n:=6)).1 ?_
  refine callsIn_of_wp_marks Tryz.func189 rfl trivial ?_ rfl
  simp only[Tryz.ntmps189,List.size_toArray,List.length_cons,List.length_nil,Nat.reduceAdd,Nat.reduceSub,Array.replicate_succ,Array.replicate_zero,List.push_toArray,List.append_toArray,List.nil_append,List.cons_append]
  gi_wp2_with (first
   | (refine⟨trivial,?_⟩;gi_at_call 218;refine(callsIn_wide.2 (weaves_any _ _ _ hs)).mono ?_;rw[HB0.out];rintro e w1 ⟨rfl,rfl⟩)
   | (refine⟨trivial,?_⟩;gi_at_call 219;refine(weave_in Fence.wide _ trivial rfl s.size D _).mono ?_;rintro e w1 ⟨rfl,rfl⟩))
  obtain⟨W0,hW0⟩:∃W0,W0=(((((w.alloc (Obj.cells #[Value.string s] 9)).alloc (Obj.cells (madeCells #[Value.int IntKind.u8 0] s.size) 5)).alloc (Obj.cells #[Value.slice (some { block:=w.heap.size+1,off:=0 }) s.size s.size] 22)).alloc (Obj.cells #[Value.int IntKind.i64 (s.size:Int)] 3)).alloc (Obj.cells #[Value.int IntKind.i64 (D:Int)] 3)):=⟨_,rfl⟩
  rw[<- hW0]
  obtain⟨hsz,bS,bT,bN,bD,hrow,hbel⟩:=laid5 s D w W0 hW0
  clear hW0 hmk
  refine wpIn_rangeFunc_ownG rfl (by decide) (gf:=233) (lb:=#[Value.pointer (some { block:=w.heap.size+1+1+1+1,off:=0 }),Value.pointer (some { block:=w.heap.size+1+1+1,off:=0 })]) rfl trivial (enters_of Tryz.func233 (by kernel_rfl) rfl)
   (weave_stops Fence.wide (6-1) trivial rfl (by decide) (w.heap.size+1+1+1) s.size D hs6 hD1 hD16 W0 bN bD) (fun h k=>h.trans k) (fun W l o o' hl _ _ _=>Kept.putObj W l o' (by omega)) (Below.refl _ _) (fun _=>rfl)
   (fun pre W=>Between s w (wovC s D pre) W) (fun _ _ _=>False) (between_own s w (wovC s D) (by omega)) (fun _ _ _ _ _ hs _ _=>hs)
   ⟨hrow.congr (fun i _=>by simp[wovC]),bS,bT,hbel⟩
   (fun x=>{ tmps:=#[Value.string s,Value.int IntKind.i64 ↑D,Value.pointer (some { block:=w.heap.size,off:=0 }),undef,
     Value.string { data:=#[] },Value.pointer (some { block:=w.heap.size+1+1,off:=0 }),.int .i64 (x.val:Int),.int .i64 (Wv.num s.size D x.val:Int),
     Value.string s,Value.int IntKind.i64 ↑D,Value.bool true,Value.bool false,Value.string s,
     Value.int IntKind.i64 ↑s.size,Value.slice (some { block:=w.heap.size+1,off:=0 }) s.size s.size,
     Value.string s,Value.int IntKind.i64 ↑s.size,Value.int IntKind.i64 ↑D,
     Value.func (Fn.func 233) #[]
      #[Value.pointer (some { block:=w.heap.size+1+1+1+1,off:=0 }),
       Value.pointer (some { block:=w.heap.size+1+1+1,off:=0 })],
     .int .i64 (x.val:Int),.int .i64 (Wv.num s.size D x.val:Int),undef,undef,undef,undef,undef,undef,undef,undef],defers:=[] }) ?assign ?body ?done ?stop
  case assign =>
   intro l x W K hK
   gi_wp2
   exact hK
  case body =>
   rintro l pre ⟨k,hk⟩ W hI _
   have hnl:=Wv.num_lt (n:=s.size) (d:=D) hD1 hk
   have HS:=hide (fun v=>hI.set hk v)
   obtain⟨hO,hb1,hb2,hB⟩:=hI
   have hc1:=hb1.cell
   have hc2:=hb2.cell
   obtain⟨hc3,hf3,_,_⟩:=hO.at0 hk
   clear hO hb1 hb2 hB
   dsimp only
   obtain⟨q,hq⟩:∃q,q=Wv.num s.size D k:=⟨_,rfl⟩
   rw[<- hq] at hnl ⊢
   have hx:=index_at' (P:=Tryz.prog) 9 Tryz.underlying9 s q hnl _ rfl
   have HQ:=hide hq
   clear hq
   gi_wp2
   have hv:Value.int .u8 (s[q].toNat:Int)=byteC s q:=by unfold byteC;rw[byte_at s q hnl]
   have HR:Hid (Between s w (wovC s D (pre++[⟨k,hk⟩])) (W.setCell ⟨w.heap.size+1,k,none⟩ (.int .u8 (s[q].toNat:Int))).drew):=by
    refine(HS.out _).congr fun j _=>?_
    rw[hv,HQ.out]
    exact wovC_step s D pre ⟨k,hk⟩ j
   clear HS hv
   gi_region
   all_goals gi_wp2
   all_goals exact⟨((KeepsOthers.setCell _ _ _).trans (KeepsOthers.drew _)).from _,kept_set (by omega) _,HR.out⟩
  case done =>
   rintro D1 ys W hD rfl ⟨hO,hb1,hb2,hB⟩ hK
   have hc2:=hb2.cell
   have hB2:Bytes (w.heap.size+1) (w.heap.size+1+1) W (some ⟨w.heap.size+1,0,none⟩) s.size (Wv.wovenL s.data.toList D) :=
    ⟨by rw[Wv.wovenL_length];simp,(hO.congr (fun j hj=>wovC_all s D j hj)).reads⟩
   have hst:=string_of (P:=Tryz.prog) hB2 22 9 5 s.size Tryz.underlying22 Tryz.underlying5 Tryz.underlying9
   have HBB:=hide (hB.trans (belowK_b (w:=w) (Nat.le_refl _) W D1 _ (.deferred none) (by omega) hK rfl rfl))
   clear hO hb1 hb2 hB hB2
   gi_wp2
   refine⟨by simp,.inl ⟨_,_,rfl,run_takeDeferred hK,?_⟩⟩
   refine⟨_,results_tmp rfl _ _ _,?_,HBB.out⟩
   rw[HE.out];rfl
  case stop =>
   rintro D1 c pre W _ _ h _
   exact h.elim
def unwC (s:ByteArray)(D:Nat)(pre:List (Num s.size))(j:Nat):Value:=if j∈pre.map (fun x=>Wv.num s.size D x.val) then byteC s (Wv.pos s.size D j) else .int .u8 0
theorem unwC_step (s:ByteArray)(D:Nat)(hD:1<=D)(pre:List (Num s.size))(x:Num s.size)(j:Nat) :
  (if j=Wv.num s.size D x.val then byteC s x.val else unwC s D pre j)=unwC s D (pre++[x]) j:=by
 unfold unwC
 by_cases e:j=Wv.num s.size D x.val
 ·subst e;simp[Wv.pos_num (n:=s.size) (show 0<D by omega) x.2]
 ·have:(j∈List.map (fun x=>Wv.num s.size D x.val) (pre++[x]))↔j∈List.map (fun x=>Wv.num s.size D x.val) pre:=by
   rw[List.map_append,List.mem_append]
   constructor
   ·rintro(h|h)
    ·exact h
    ·exact absurd (by simpa using h) e
   ·exact fun h=>.inl h
  rw[if_neg e]
  simp only[this]
theorem unwC_all (s:ByteArray)(D:Nat)(hD:1<=D)(j:Nat)(hj:j<s.size):unwC s D (ups s.size s.size) j=cellB (Wv.unwovenL s.data.toList D) j:=by
 unfold unwC cellB byteC
 rw[if_pos,Wv.unwovenL_at _ _ _ (by simpa using hj)]
 ·simp
 ·obtain⟨k,hk,e⟩:=Wv.num_onto (n:=s.size) (d:=D) (by omega) hj
  have hm:k∈(ups s.size s.size).map (·.val):=by rw[ups_val (Nat.le_refl _)];exact List.mem_range.2 hk
  obtain⟨x,hx,rfl⟩:=List.mem_map.1 hm
  exact List.mem_map.2 ⟨x,hx,e⟩
set_option maxHeartbeats 2000000 in
theorem implUnwoven_any (s:ByteArray)(d:Int)(w:World)(hs:s.size<=1048576) :
  Calls Tryz.prog 221 #[.string s,.int .i64 d] w fun e w'=>e=.returned (.string (unwoven s d))∧Below w.heap.size w w':=by
 cases hb:woveOk s d
 ·have HE:=hide (unwoven_no hb)
  go_enter Tryz.func221,Tryz.ntmps221
  go_wp2_with fail
  refine(weaves_any _ _ _ hs).mono ?_
  rw[hb]
  rintro e w1 ⟨rfl,rfl⟩
  go_wp2_with fail
  go_ret
  exact⟨ret_str HE.out.symm,(Below.refl _ _).alloc (Nat.le_refl _) _⟩
 ·have HB0:=hide hb
  obtain⟨D,rfl,hD1,hD16,hs6⟩:=woveOk_yes hb
  have HE:=hide (unwoven_yes hb)
  clear hb
  have hmk:=run_make_row' (P:=Tryz.prog) 22 5 (.int .u8 0) 1 Tryz.underlying22 Tryz.infoU8d rfl .i64 .i64 s.size (by omega) (by omega)
  refine(callsIn_wide (n:=6)).1 ?_
  refine callsIn_of_wp_marks Tryz.func221 rfl trivial ?_ rfl
  simp only[Tryz.ntmps221,List.size_toArray,List.length_cons,List.length_nil,Nat.reduceAdd,Nat.reduceSub,Array.replicate_succ,Array.replicate_zero,List.push_toArray,List.append_toArray,List.nil_append,List.cons_append]
  gi_wp2_with (first
   | (refine⟨trivial,?_⟩;gi_at_call 218;refine(callsIn_wide.2 (weaves_any _ _ _ hs)).mono ?_;rw[HB0.out];rintro e w1 ⟨rfl,rfl⟩)
   | (refine⟨trivial,?_⟩;gi_at_call 219;refine(weave_in Fence.wide _ trivial rfl s.size D _).mono ?_;rintro e w1 ⟨rfl,rfl⟩))
  obtain⟨W0,hW0⟩:∃W0,W0=(((((w.alloc (Obj.cells #[Value.string s] 9)).alloc (Obj.cells (madeCells #[Value.int IntKind.u8 0] s.size) 5)).alloc (Obj.cells #[Value.slice (some { block:=w.heap.size+1,off:=0 }) s.size s.size] 22)).alloc (Obj.cells #[Value.int IntKind.i64 (s.size:Int)] 3)).alloc (Obj.cells #[Value.int IntKind.i64 (D:Int)] 3)):=⟨_,rfl⟩
  rw[<- hW0]
  obtain⟨hsz,bS,bT,bN,bD,hrow,hbel⟩:=laid5 s D w W0 hW0
  clear hW0 hmk
  refine wpIn_rangeFunc_ownG rfl (by decide) (gf:=233) (lb:=#[Value.pointer (some { block:=w.heap.size+1+1+1+1,off:=0 }),Value.pointer (some { block:=w.heap.size+1+1+1,off:=0 })]) rfl trivial (enters_of Tryz.func233 (by kernel_rfl) rfl)
   (weave_stops Fence.wide (6-1) trivial rfl (by decide) (w.heap.size+1+1+1) s.size D hs6 hD1 hD16 W0 bN bD) (fun h k=>h.trans k) (fun W l o o' hl _ _ _=>Kept.putObj W l o' (by omega)) (Below.refl _ _) (fun _=>rfl)
   (fun pre W=>Between s w (unwC s D pre) W) (fun _ _ _=>False) (between_own s w (unwC s D) (by omega)) (fun _ _ _ _ _ hs _ _=>hs)
   ⟨hrow.congr (fun i _=>by simp[unwC]),bS,bT,hbel⟩
   (fun x=>{ tmps:=#[Value.string s,Value.int IntKind.i64 ↑D,Value.pointer (some { block:=w.heap.size,off:=0 }),undef,
     Value.string { data:=#[] },Value.pointer (some { block:=w.heap.size+1+1,off:=0 }),.int .i64 (x.val:Int),.int .i64 (Wv.num s.size D x.val:Int),
     Value.string s,Value.int IntKind.i64 ↑D,Value.bool true,Value.bool false,Value.string s,
     Value.int IntKind.i64 ↑s.size,Value.slice (some { block:=w.heap.size+1,off:=0 }) s.size s.size,
     Value.string s,Value.int IntKind.i64 ↑s.size,Value.int IntKind.i64 ↑D,
     Value.func (Fn.func 233) #[]
      #[Value.pointer (some { block:=w.heap.size+1+1+1+1,off:=0 }),
       Value.pointer (some { block:=w.heap.size+1+1+1,off:=0 })],
     .int .i64 (x.val:Int),.int .i64 (Wv.num s.size D x.val:Int),undef,undef,undef,undef,undef,undef,undef,undef],defers:=[] }) ?assign ?body ?done ?stop
  case assign =>
   intro l x W K hK
   gi_wp2
   exact hK
  case body =>
   rintro l pre ⟨k,hk⟩ W hI _
   have hnl:=Wv.num_lt (n:=s.size) (d:=D) hD1 hk
   have HS:=hide (fun v=>hI.set hnl v)
   obtain⟨hO,hb1,hb2,hB⟩:=hI
   have hc1:=hb1.cell
   have hc2:=hb2.cell
   obtain⟨hc3,hf3,_,_⟩:=hO.at0 hnl
   clear hO hb1 hb2 hB
   dsimp only
   obtain⟨q,hq⟩:∃q,q=Wv.num s.size D k:=⟨_,rfl⟩
   rw[<- hq] at hnl hc3 hf3 HS ⊢
   have hx:=index_at' (P:=Tryz.prog) 9 Tryz.underlying9 s k hk _ rfl
   have hv:Value.int .u8 (s[k].toNat:Int)=byteC s k:=by unfold byteC;rw[byte_at s k hk]
   have HR:Hid (Between s w (unwC s D (pre++[⟨k,hk⟩])) (W.setCell ⟨w.heap.size+1,q,none⟩ (.int .u8 (s[k].toNat:Int))).drew):=by
    refine(HS.out _).congr fun j _=>?_
    rw[hv,hq]
    exact unwC_step s D hD1 pre ⟨k,hk⟩ j
   clear HS hv hq
   gi_wp2
   gi_region
   all_goals gi_wp2
   all_goals exact⟨((KeepsOthers.setCell _ _ _).trans (KeepsOthers.drew _)).from _,kept_set (by omega) _,HR.out⟩
  case done =>
   rintro D1 ys W hD rfl ⟨hO,hb1,hb2,hB⟩ hK
   have hc2:=hb2.cell
   have hB2:Bytes (w.heap.size+1) (w.heap.size+1+1) W (some ⟨w.heap.size+1,0,none⟩) s.size (Wv.unwovenL s.data.toList D) :=
    ⟨by rw[Wv.unwovenL_length];simp,(hO.congr (fun j hj=>unwC_all s D hD1 j hj)).reads⟩
   have hst:=string_of (P:=Tryz.prog) hB2 22 9 5 s.size Tryz.underlying22 Tryz.underlying5 Tryz.underlying9
   have HBB:=hide (hB.trans (belowK_b (w:=w) (Nat.le_refl _) W D1 _ (.deferred none) (by omega) hK rfl rfl))
   clear hO hb1 hb2 hB hB2
   gi_wp2
   refine⟨by simp,.inl ⟨_,_,rfl,run_takeDeferred hK,?_⟩⟩
   refine⟨_,results_tmp rfl _ _ _,?_,HBB.out⟩
   rw[HE.out];rfl
  case stop =>
   rintro D1 c pre W _ _ h _
   exact h.elim
end Go.Proofs.YtgjoepdfhadmcaaGreatDoor
end

