/- Several texts in one: Base, ResCell, BitsL, Xor64, CheckMath, HamMath, WeaveMath, TextBase, ChipBase, RowBase, OnesMath. -/
import Derived.WalkKit
import Derived.WalkSpells
import Derived.WalkLawsBesides
import Derived.WalkSmall
import Derived.Below
import Derived.Deep.OwnRows
import Derived.Laws.Rows
import Derived.Laws.BitsAllLaws
import Derived.SliceStrings
import Derived.Deep.Matrix
import Derived.Lib.SmallJoins
import Derived.OwnWalk
section
namespace Go.Proofs.YtgjoepdfhadmcaaGreatDoor
open Go.RowKit
theorem hide {p:Prop}(h:p):Hid p:=h
structure Aside (lo hi:Nat)(w w':World):Prop where
 os:w'.os=w.os
 tape:w'.tape=w.tape
 output:w'.output=w.output
 size:w.heap.size<=w'.heap.size
 block:∀k,k<w.heap.size->k<lo∨hi<=k->w'.heap[k]?=w.heap[k]?
theorem Aside.refl (lo hi:Nat)(w:World):Aside lo hi w w:=⟨rfl,rfl,rfl,Nat.le_refl _,fun _ _ _=>rfl⟩
theorem Aside.trans {lo hi:Nat}{a b c:World}(h:Aside lo hi a b)(k:Aside lo hi b c):Aside lo hi a c :=
 ⟨k.os.trans h.os,k.tape.trans h.tape,k.output.trans h.output,Nat.le_trans h.size k.size,fun i hi h'=>(k.block i (Nat.lt_of_lt_of_le hi h.size) h').trans (h.block i hi h')⟩
theorem Aside.setCell {lo hi:Nat}{a w:World}(h:Aside lo hi a w){p:Addr}(h1:lo<=p.block)(h2:p.block<hi)(u:Value):Aside lo hi a (w.setCell p u) :=
 h.trans ⟨rfl,rfl,rfl,by rw[Go.Deep.nblk_setCell];exact Nat.le_refl _,fun k _ hk=>Go.Deep.blk_setCell_other _ _ _ _ (by omega)⟩
theorem Aside.below {lo hi:Nat}{w w':World}(h:Aside lo hi w w'){B:Nat}(hB:B<=lo)(hw:B<=w.heap.size):Below B w w' :=
 ⟨h.os,h.tape,h.output,h.size,fun k hk=>h.block k (by omega) (.inl (by omega))⟩
theorem below_here {w w' w'':World}(h:Below w.heap.size w w')(k:Below w'.heap.size w' w''):Below w.heap.size w w'':=h.trans (k.mono h.size)
def Reads (lo hi:Nat)(w:World)(a:Option Addr)(n:Nat)(f:Nat->Value):Prop :=
 hi<=w.heap.size∧(0<n->∃b off,a=some ⟨b,off,none⟩∧lo<=b∧b<hi∧∀i,i<n->w.cell? ⟨b,off+i,none⟩=some (f i))
def Owned (lo hi:Nat)(w:World)(a:Option Addr)(n:Nat)(f:Nat->Value):Prop :=
 hi<=w.heap.size∧(0<n->∃b off,a=some ⟨b,off,none⟩∧lo<=b∧b<hi∧∀i,i<n->w.cell? ⟨b,off+i,none⟩=some (f i)∧w.frozen? ⟨b,off+i,none⟩=false)
section
variable {lo hi:Nat}{w w':World}{a:Option Addr}{n:Nat}{f g:Nat->Value}
theorem Owned.reads (h:Owned lo hi w a n f):Reads lo hi w a n f :=
 ⟨h.1,fun hn=>by obtain⟨b,off,h1,h2,h3,h4⟩:=h.2 hn;exact⟨b,off,h1,h2,h3,fun i hi=>(h4 i hi).1⟩⟩
theorem Reads.congr (h:Reads lo hi w a n f)(e:∀i,i<n->f i=g i):Reads lo hi w a n g :=
 ⟨h.1,fun hn=>by obtain⟨b,off,h1,h2,h3,h4⟩:=h.2 hn;exact⟨b,off,h1,h2,h3,fun i hi=>by rw[h4 i hi,e i hi]⟩⟩
theorem Owned.congr (h:Owned lo hi w a n f)(e:∀i,i<n->f i=g i):Owned lo hi w a n g :=
 ⟨h.1,fun hn=>by obtain⟨b,off,h1,h2,h3,h4⟩:=h.2 hn;exact⟨b,off,h1,h2,h3,fun i hi=>by rw[(h4 i hi).1,e i hi];exact⟨rfl,(h4 i hi).2⟩⟩⟩
theorem Reads.of (h:Reads lo hi w a n f)(hs:w.heap.size<=w'.heap.size)(hb:∀k,lo<=k->k<hi->w'.heap[k]?=w.heap[k]?):Reads lo hi w' a n f :=
 ⟨Nat.le_trans h.1 hs,fun hn=>by
  obtain⟨b,off,h1,h2,h3,h4⟩:=h.2 hn
  exact⟨b,off,h1,h2,h3,fun i hi=>(World.cell?_of_block (w:=w) (a:=⟨b,off+i,none⟩) (hb b h2 h3)).trans (h4 i hi)⟩⟩
theorem Owned.of (h:Owned lo hi w a n f)(hs:w.heap.size<=w'.heap.size)(hb:∀k,lo<=k->k<hi->w'.heap[k]?=w.heap[k]?):Owned lo hi w' a n f :=
 ⟨Nat.le_trans h.1 hs,fun hn=>by
  obtain⟨b,off,h1,h2,h3,h4⟩:=h.2 hn
  exact⟨b,off,h1,h2,h3,fun i hi=>⟨(World.cell?_of_block (w:=w) (a:=⟨b,off+i,none⟩) (hb b h2 h3)).trans (h4 i hi).1,(World.frozen?_of_block (w:=w) (a:=⟨b,off+i,none⟩) (hb b h2 h3)).trans (h4 i hi).2⟩⟩⟩
theorem Reads.later (h:Reads lo hi w a n f){B:Nat}(hb:Below B w w')(hB:hi<=B):Reads lo hi w' a n f:=h.of hb.size fun k _ hk=>hb.block k (by omega)
theorem Owned.later (h:Owned lo hi w a n f){B:Nat}(hb:Below B w w')(hB:hi<=B):Owned lo hi w' a n f:=h.of hb.size fun k _ hk=>hb.block k (by omega)
theorem Reads.aside (h:Reads lo hi w a n f){l r:Nat}(hb:Aside l r w w')(hB:hi<=l∨r<=lo):Reads lo hi w' a n f :=
 h.of hb.size fun k h1 h2=>hb.block k (by have:=h.1;omega) (by omega)
theorem Owned.aside (h:Owned lo hi w a n f){l r:Nat}(hb:Aside l r w w')(hB:hi<=l∨r<=lo):Owned lo hi w' a n f :=
 h.of hb.size fun k h1 h2=>hb.block k (by have:=h.1;omega) (by omega)
theorem Reads.drop {b off:Nat}(h:Reads lo hi w (some ⟨b,off,none⟩) n f)(k:Nat):Reads lo hi w (some ⟨b,off+k,none⟩) (n-k) (fun i=>f (k+i)) :=
 ⟨h.1,fun hn=>by
  obtain⟨b',off',h1,h2,h3,h4⟩:=h.2 (by omega)
  simp only[Option.some.injEq,Addr.mk.injEq,and_true] at h1
  obtain⟨rfl,rfl⟩:=h1
  exact⟨b,off+k,rfl,h2,h3,fun i hi=>by rw[Nat.add_assoc];exact h4 (k+i) (by omega)⟩⟩
theorem Owned.set {b off:Nat}(h:Owned lo hi w (some ⟨b,off,none⟩) n f){i:Nat}(hi':i<n)(v:Value) :
  Owned lo hi (w.setCell ⟨b,off+i,none⟩ v) (some ⟨b,off,none⟩) n (fun j=>if j=i then v else f j) :=
 ⟨by rw[Go.Deep.nblk_setCell];exact h.1,fun hn=>by
  obtain⟨b',off',h1,h2,h3,h4⟩:=h.2 hn
  simp only[Option.some.injEq,Addr.mk.injEq,and_true] at h1
  obtain⟨rfl,rfl⟩:=h1
  refine⟨b,off,rfl,h2,h3,fun j hj=>⟨?_,by rw[World.frozen?_setCell];exact(h4 j hj).2⟩⟩
  by_cases e:j=i
  ·subst e
   simp only[if_true]
   exact World.cell?_setCell_same _ _ _ (h4 j hj).1
  ·simp only[if_neg e]
   rw[World.cell?_setCell_other _ _ _ _ (by intro e';simp only[Addr.mk.injEq] at e';omega)]
   exact(h4 j hj).1⟩
theorem owned_of_row {b t:Nat}(h:w.rowIs b t n f)(h1:lo<=b)(h2:b<hi)(h3:hi<=w.heap.size):Owned lo hi w (some ⟨b,0,none⟩) n f :=
 ⟨h3,fun _=>⟨b,0,rfl,h1,h2,fun i hi=>⟨by simpa using h.cell hi,h.frozen _⟩⟩⟩
end
theorem Owned.at0 {lo hi:Nat}{w:World}{b n:Nat}{f:Nat->Value}(h:Owned lo hi w (some ⟨b,0,none⟩) n f){i:Nat}(hi':i<n):w.cell? ⟨b,i,none⟩=some (f i)∧w.frozen? ⟨b,i,none⟩=false∧lo<=b∧b<hi:=by
 obtain⟨b',off',h1,h2,h3,h4⟩:=h.2 (by omega)
 simp only[Option.some.injEq,Addr.mk.injEq,and_true] at h1
 obtain⟨rfl,rfl⟩:=h1
 have:=h4 i hi'
 simp only[Nat.zero_add] at this
 exact⟨this.1,this.2,h2,h3⟩
theorem Owned.set0 {lo hi:Nat}{w:World}{b n:Nat}{f:Nat->Value}(h:Owned lo hi w (some ⟨b,0,none⟩) n f){i:Nat}(hi':i<n)(v:Value) :
  Owned lo hi (w.setCell ⟨b,i,none⟩ v) (some ⟨b,0,none⟩) n (fun j=>if j=i then v else f j):=by
 have:=h.set hi' v
 simpa using this
theorem Owned.drew {lo hi:Nat}{w:World}{a:Option Addr}{n:Nat}{f:Nat->Value}(h:Owned lo hi w a n f):Owned lo hi w.drew a n f:=h
def cellI (xs:List Int)(i:Nat):Value:=.int .i64 (xs.getD i 0)
def Ints (lo hi:Nat)(w:World)(a:Option Addr)(n:Nat)(xs:List Int):Prop:=xs.length=n∧Reads lo hi w a n (cellI xs)
def OwnInts (lo hi:Nat)(w:World)(a:Option Addr)(n:Nat)(xs:List Int):Prop:=xs.length=n∧Owned lo hi w a n (cellI xs)
section
variable {lo hi:Nat}{w w':World}{a:Option Addr}{n:Nat}{xs:List Int}
theorem OwnInts.ints (h:OwnInts lo hi w a n xs):Ints lo hi w a n xs:=⟨h.1,h.2.reads⟩
theorem Ints.later (h:Ints lo hi w a n xs){B:Nat}(hb:Below B w w')(hB:hi<=B):Ints lo hi w' a n xs:=⟨h.1,h.2.later hb hB⟩
theorem OwnInts.later (h:OwnInts lo hi w a n xs){B:Nat}(hb:Below B w w')(hB:hi<=B):OwnInts lo hi w' a n xs:=⟨h.1,h.2.later hb hB⟩
theorem Ints.aside (h:Ints lo hi w a n xs){l r:Nat}(hb:Aside l r w w')(hB:hi<=l∨r<=lo):Ints lo hi w' a n xs:=⟨h.1,h.2.aside hb hB⟩
theorem OwnInts.aside (h:OwnInts lo hi w a n xs){l r:Nat}(hb:Aside l r w w')(hB:hi<=l∨r<=lo):OwnInts lo hi w' a n xs:=⟨h.1,h.2.aside hb hB⟩
end
theorem own_made0 (w:World)(t:TypeId):(w.alloc (.cells #[] t)).ownsRow w.heap.size t 1 (.slice (some ⟨w.heap.size,0,none⟩) 0 0) 0 []:=by
 have hb:(w.alloc (.cells #[] t)).heap[w.heap.size]?=some (.cells #[] t (0,0)):=by
  show(w.heap.push _)[w.heap.size]?=_
  simp
 exact⟨rfl,.inr ⟨w.heap.size,0,#[],rfl,Nat.le_refl _,hb,Nat.le_refl _,Nat.zero_le _,rfl,rfl⟩⟩
theorem owned_of_own {w:World}{base e n:Nat}{v:Value}{xs:List Value}(h:w.ownsRow base e 1 v n xs) :
  ∃a cap,v=.slice a n cap∧n<=cap∧xs.length=n∧(0<n->∃g,a=some ⟨g,0,none⟩)∧Owned base w.heap.size w a n (fun i=>xs.getD i (.int .i64 0)):=by
 obtain⟨hlen,h⟩:=h
 rcases h with⟨rfl,rfl⟩|⟨g,cap,cur,rfl,hg1,hg2,hn,_,hcs,htake⟩
 ·exact⟨none,0,rfl,Nat.le_refl _,by simpa using hlen,fun h=>absurd h (Nat.lt_irrefl _),Nat.le_refl _,fun h=>absurd h (Nat.lt_irrefl _)⟩
 ·have hlt:g<w.heap.size:=(Array.getElem?_eq_some_iff.1 hg2).1
  refine⟨_,cap,rfl,hn,by simpa using hlen,fun _=>⟨g,rfl⟩,Nat.le_refl _,fun _=>⟨g,0,rfl,hg1,hlt,fun i hi=>⟨?_,?_⟩⟩⟩
  ·have h1:i<cur.size:=by omega
   simp only[World.cell?,hg2,Nat.zero_add]
   rw[<- htake,Nat.mul_one,List.getD_eq_getElem?_getD,List.getElem?_take,if_pos hi]
   simp[h1]
  ·simp[World.frozen?,hg2]
theorem map_cell (xs:List Int)(i:Nat)(h:i<xs.length):(xs.map (Value.int .i64)).getD i (.int .i64 0)=cellI xs i:=by
 simp[cellI,List.getD_eq_getElem?_getD,List.getElem?_eq_getElem h]
theorem ret_bool {a b:Bool}(h:a=b):Ending.returned (.bool a)=.returned (.bool b):=by rw[h]
theorem ret_i64 {a b:Int}(h:a=b):Ending.returned (.int .i64 a)=.returned (.int .i64 b):=by rw[h]
theorem take_snoc (xs:List Int)(k:Nat)(h:k<xs.length):xs.take (k+1)=xs.take k++[xs.getD k 0]:=by
 rw[List.take_succ_eq_append_getElem h,List.getD_eq_getElem?_getD,List.getElem?_eq_getElem h];rfl
def inB (x lo hi:Int):Bool:=decide (lo<=x)&&decide (x<=hi)
def bit (b:Int):Bool:=b==0||b==1
end Go.Proofs.YtgjoepdfhadmcaaGreatDoor
end

section
namespace Go.Proofs.YtgjoepdfhadmcaaGreatDoor
open Go.RowKit
theorem results_cell {fn:Func}{P:Program}{w:World}{t:Tmp}{ty:TypeId}{tmps:Array Value}{a:Addr}{v:Value}(h:fn.results=#[.cell t ty])(ht:tmps.getD t undef=.pointer (some a))(hl:(loadVar ty a).run P w=.ok v w) :
  (results fn tmps).run P w=.ok v w:=by
 have ht':tmps[t]?.getD undef=.pointer (some a):=by simpa using ht
 simp[results,h,ht',asAddr,hl]
theorem results_ct {fn:Func}{P:Program}{w:World}{t u:Tmp}{ty:TypeId}{tmps:Array Value}{a:Addr}{v:Value}(h:fn.results=#[.cell t ty,.tmp u])(ht:tmps.getD t undef=.pointer (some a))(hl:(loadVar ty a).run P w=.ok v w) :
  (results fn tmps).run P w=.ok (.tuple #[v,tmps.getD u undef]) w:=by
 have ht':tmps[t]?.getD undef=.pointer (some a):=by simpa using ht
 simp[results,h,ht',asAddr,hl]
theorem results_ctt {fn:Func}{P:Program}{w:World}{t u x:Tmp}{ty:TypeId}{tmps:Array Value}{a:Addr}{v:Value}(h:fn.results=#[.cell t ty,.tmp u,.tmp x])(ht:tmps.getD t undef=.pointer (some a))(hl:(loadVar ty a).run P w=.ok v w) :
  (results fn tmps).run P w=.ok (.tuple #[v,tmps.getD u undef,tmps.getD x undef]) w:=by
 have ht':tmps[t]?.getD undef=.pointer (some a):=by simpa using ht
 simp[results,h,ht',asAddr,hl]
theorem heap_new (w:World)(o:Obj):(w.alloc o).heap[w.heap.size]?=some o:=by
 show(w.heap.push _)[w.heap.size]?=_
 simp
theorem heap_at {w:World}{o:Obj}{g:Nat}(h:g=w.heap.size):(w.alloc o).heap[g]?=some o:=by subst h;exact heap_new w o
theorem heap_old {w:World}{o:Obj}{k:Nat}{b:Obj}(h:w.heap[k]?=some b):(w.alloc o).heap[k]?=some b:=by
 have hk:k<w.heap.size:=(Array.getElem?_eq_some_iff.1 h).1
 show(w.heap.push _)[k]?=_
 rw[Array.getElem?_push_lt hk]
 rw[Array.getElem?_eq_getElem hk] at h
 exact h
theorem block_on {w w':World}{b:Nat}{o:Obj}(h:w.heap[b]?=some o)(hb:Below w.heap.size w w'):w'.heap[b]?=some o :=
 (hb.block b (Array.getElem?_eq_some_iff.1 h).1).trans h
theorem four_cells {W:World}{b:Nat}{c0 c1 c2 c3:Value}{t:TypeId}{fr:Nat×Nat}(h:W.heap[b]?=some (.cells #[c0,c1,c2,c3] t fr)) :
  W.cell? ⟨b,0,none⟩=some c0∧W.cell? ⟨b,1,none⟩=some c1∧W.cell? ⟨b,2,none⟩=some c2∧W.cell? ⟨b,3,none⟩=some c3:=by
 simp[World.cell?,h]
theorem four_frozen {W:World}{b:Nat}{cs:Array Value}{t:TypeId}(h:W.heap[b]?=some (.cells cs t (0,0)))(j:Nat):W.frozen? ⟨b,j,none⟩=false:=by
 simp[World.frozen?,h]
theorem set_block {W:World}{b:Nat}{cs:Array Value}{t:TypeId}{fr:Nat×Nat}(h:W.heap[b]?=some (.cells cs t fr))(j:Nat)(v:Value)(hj:j<cs.size):(W.setCell ⟨b,j,none⟩ v).heap[b]?=some (.cells (cs.set j v hj) t fr):=by
 obtain⟨hb,hg⟩:=Array.getElem?_eq_some_iff.1 h
 have e:(W.setCell ⟨b,j,none⟩ v).heap=W.heap.modify b (fun o=>match o with|.cells c elem frozen=>.cells (c.setIfInBounds j v) elem frozen|o=>o):=rfl
 rw[e,Array.getElem?_modify,h]
 simp[Array.setIfInBounds,hj]
theorem four_set {W:World}{b:Nat}{c0 c1 c2 c3:Value}{t:TypeId}{fr:Nat×Nat}(h:W.heap[b]?=some (.cells #[c0,c1,c2,c3] t fr))(v0 v1 v2 v3:Value) :
  ((((W.setCell ⟨b,0,none⟩ v0).setCell ⟨b,1,none⟩ v1).setCell ⟨b,2,none⟩ v2).setCell ⟨b,3,none⟩ v3).heap[b]?=some (.cells #[v0,v1,v2,v3] t fr) :=
 set_block (set_block (set_block (set_block h 0 v0 (by simp)) 1 v1 (by simp)) 2 v2 (by simp)) 3 v3 (by simp)
theorem four_below {B:Nat}{w W:World}{b:Nat}(h:Below B w W)(hb:B<=b)(v0 v1 v2 v3:Value):Below B w ((((W.setCell ⟨b,0,none⟩ v0).setCell ⟨b,1,none⟩ v1).setCell ⟨b,2,none⟩ v2).setCell ⟨b,3,none⟩ v3) :=
 (((h.setCell (p:=⟨b,0,none⟩) hb v0).setCell (p:=⟨b,1,none⟩) hb v1).setCell (p:=⟨b,2,none⟩) hb v2).setCell (p:=⟨b,3,none⟩) hb v3
end Go.Proofs.YtgjoepdfhadmcaaGreatDoor
end

section
namespace Go.Proofs.YtgjoepdfhadmcaaGreatDoor
open Go.RowKit
def bitOf (n k:Nat):Int:=((n / 2 ^ (7-k) % 2:Nat):Int)
def bits8 (n:Nat):List Int:=[bitOf n 0,bitOf n 1,bitOf n 2,bitOf n 3,bitOf n 4,bitOf n 5,bitOf n 6,bitOf n 7]
theorem bitOf_bd (n k:Nat):0<=bitOf n k∧bitOf n k<=1:=by unfold bitOf;omega
theorem bits8_at (n k:Nat)(h:k<8):(bits8 n).getD k 0=bitOf n k:=by
 match k,h with
 | 0,_|1,_|2,_|3,_|4,_|5,_|6,_|7,_=>rfl
def bitsL (l:List UInt8):List Int:=l.flatMap fun b=>bits8 b.toNat
theorem bitsL_length (l:List UInt8):(bitsL l).length=8*l.length:=by
 induction l with
 | nil=>rfl
 | cons b l ih=>simp only[bitsL,List.flatMap_cons,List.length_append] at ih ⊢;rw[ih];simp[bits8];omega
theorem bitsL_snoc (l:List UInt8)(b:UInt8):bitsL (l++[b])=bitsL l++bits8 b.toNat:=by simp[bitsL,List.flatMap_append]
theorem take_snocB (s:ByteArray)(k:Nat)(h:k<s.size):s.data.toList.take (k+1)=s.data.toList.take k++[s[k]]:=by
 rw[List.take_succ_eq_append_getElem (by simpa using h)];rfl
theorem shr_rem (n p:Nat)(hp:p<8):wrap64 (((n:Int) / 2 ^ p).tmod 2)=bitOf n (7-p):=by
 unfold bitOf
 rw[show 7-(7-p)=p by omega]
 have hq:((n:Int) / 2 ^ p)=((n / 2 ^ p:Nat):Int):=by simp
 rw[hq]
 generalize n / 2 ^ p=q
 rw[Int.tmod_eq_emod_of_nonneg (by omega)]
 unfold wrap64
 omega
theorem bits8_next (n p:Nat)(hp:p<8):(bits8 n).take (8-p)=(bits8 n).take (8-(p+1))++[bitOf n (7-p)]:=by
 have h:=take_snoc (bits8 n) (7-p) (by simp[bits8];omega)
 rw[bits8_at n (7-p) (by omega)] at h
 rw[show 8-p=7-p+1 by omega,h,show 8-(p+1)=7-p by omega]
end Go.Proofs.YtgjoepdfhadmcaaGreatDoor
end

section
namespace Go.Proofs.YtgjoepdfhadmcaaGreatDoor
open Go.RowKit
theorem i64_xor_nat (a b:Nat)(ha:a<4294967296)(hb:b<4294967296):bits .xor .i64 (a:Int) (b:Int)=((a ^^^ b:Nat):Int):=by
 have hx:a ^^^ b<2 ^ 32:=Nat.xor_lt_two_pow (by omega) (by omega)
 show IntKind.i64.wrap ((BitVec.ofInt 64 (a:Int) ^^^ BitVec.ofInt 64 (b:Int)).toNat:Int)=_
 rw[BitVec.toNat_xor,ofInt_u64 a (by omega),ofInt_u64 b (by omega)]
 simp[IntKind.wrap,IntKind.bits,IntKind.signed]
 omega
end Go.Proofs.YtgjoepdfhadmcaaGreatDoor
end

section
namespace Go.Proofs.YtgjoepdfhadmcaaGreatDoor
namespace Crc
def stp (r b:Nat):Nat:=if 65536<=2*r+b then(2*r+b) ^^^ 116839 else 2*r+b
def run (r:Nat)(l:List Nat):Nat:=l.foldl stp r
def bitL (l:List Nat):Prop:=∀b∈l,b<2
theorem bitL_cons {b:Nat}{l:List Nat}(h:bitL (b::l)):b<2∧bitL l:=⟨h b (List.mem_cons_self ..),fun c hc=>h c (List.mem_cons_of_mem _ hc)⟩
theorem bitL_append {a b:List Nat}(ha:bitL a)(hb:bitL b):bitL (a++b):=fun c hc=>(List.mem_append.1 hc).elim (ha c) (hb c)
theorem bitL_noughts (n:Nat):bitL (List.replicate n 0):=fun b h=>by rw[(List.mem_replicate.1 h).2];omega
theorem over_xor {u:Nat}(h:u<65536):(65536+u) ^^^ 116839=u ^^^ 51303:=by
 have hm:=@Nat.xor_mod_two_pow (65536+u) 116839 16
 have hd:=@Nat.shiftRight_xor_distrib 16 (65536+u) 116839
 simp only[Nat.shiftRight_eq_div_pow] at hd
 have e1:(65536+u) % 2 ^ 16=u:=by omega
 have e2:(65536+u) / 2 ^ 16=1:=by omega
 rw[e1] at hm
 rw[e2] at hd
 have hd':((65536+u) ^^^ 116839) / 2 ^ 16=0:=hd
 have hm':((65536+u) ^^^ 116839) % 2 ^ 16=u ^^^ 51303:=hm
 omega
theorem xor16 {a b:Nat}(ha:a<65536)(hb:b<65536):a ^^^ b<65536:=Nat.xor_lt_two_pow (n:=16) ha hb
theorem stp_form {r b:Nat}(hr:r<65536)(hb:b<2):stp r b=(2*r+b) % 2 ^ 16 ^^^ (r >>> 15)*51303:=by
 have h15:r >>> 15=r / 32768:=by rw[Nat.shiftRight_eq_div_pow]
 rw[h15]
 unfold stp
 by_cases h:65536<=2*r+b
 ·rw[if_pos h]
  obtain⟨u,hu⟩:∃u,2*r+b=65536+u:=⟨2*r+b-65536,by omega⟩
  rw[hu,over_xor (by omega),show r / 32768=1 by omega,show(65536+u) % 2 ^ 16=u by omega]
 ·rw[if_neg h,show r / 32768=0 by omega,Nat.zero_mul,Nat.xor_zero,Nat.mod_eq_of_lt (by omega)]
theorem stp_lt {r b:Nat}(hr:r<65536)(hb:b<2):stp r b<65536:=by
 rw[stp_form hr hb]
 have h15:r >>> 15<2:=by rw[Nat.shiftRight_eq_div_pow];omega
 refine xor16 (Nat.mod_lt _ (Nat.two_pow_pos 16)) ?_
 have:r >>> 15*51303<=1*51303:=Nat.mul_le_mul_right _ (by omega)
 omega
theorem run_lt:∀(l:List Nat) (r:Nat),r<65536->bitL l->run r l<65536
 | [],_,h,_=>h
 | b::l,r,h,hl=>run_lt l (stp r b) (stp_lt h (bitL_cons hl).1) (bitL_cons hl).2
theorem run_append (a b:List Nat)(r:Nat):run r (a++b)=run (run r a) b:=by simp[run,List.foldl_append]
def crc (l:List Nat):Nat:=run 0 (l++List.replicate 16 0)
theorem crc_lt {l:List Nat}(h:bitL l):crc l<65536:=run_lt _ 0 (by omega) (bitL_append h (bitL_noughts _))
end Crc
end Go.Proofs.YtgjoepdfhadmcaaGreatDoor
end

section
namespace Go.Proofs.YtgjoepdfhadmcaaGreatDoor
namespace Ham
def bitN (x i:Nat):Nat:=x / 2 ^ i % 2
theorem bitN_lt (x i:Nat):bitN x i<2:=Nat.mod_lt _ (by omega)
def place (k:Nat):Nat:=[3,5,6,7,9,10,11,12].getD k 0
def oddTo (x:Nat):Nat->Nat
 | 0=>0
 | k+1=>if bitN x k=1 then oddTo x k ^^^ k else oddTo x k
def odd (x:Nat):Nat:=oddTo x 13
def wtTo (x:Nat):Nat->Nat
 | 0=>0
 | k+1=>wtTo x k+bitN x k
def wt (x:Nat):Nat:=wtTo x 13
def dataTo (b:Nat):Nat->Nat
 | 0=>0
 | k+1=>dataTo b k|||bitN b k*2 ^ place k
def data (b:Nat):Nat:=dataTo b 8
def evenTo (b:Nat):Nat->Nat
 | 0=>data b
 | j+1=>if bitN (odd (data b)) j=1 then evenTo b j|||2 ^ 2 ^ j else evenTo b j
def spread (b:Nat):Nat:=evenTo b 4|||wt (evenTo b 4) % 2
def byteTo (x:Nat):Nat->Nat
 | 0=>0
 | k+1=>byteTo x k|||bitN x (place k)*2 ^ k
def byteOf (x:Nat):Nat:=byteTo x 8
theorem oddTo_lt (x:Nat):∀k,k<=16->oddTo x k<16
 | 0,_=>by simp[oddTo]
 | k+1,h=>by
  have ih:=oddTo_lt x k (by omega)
  show(if bitN x k=1 then oddTo x k ^^^ k else oddTo x k)<16
  split
  ·exact Nat.xor_lt_two_pow (n:=4) ih (by omega)
  ·exact ih
theorem odd_lt (x:Nat):odd x<16:=oddTo_lt x 13 (by omega)
theorem wtTo_le (x:Nat):∀k,wtTo x k<=k
 | 0=>Nat.le_refl _
 | k+1=>by
  have ih:=wtTo_le x k
  have:=bitN_lt x k
  show wtTo x k+bitN x k<=k+1
  omega
theorem wt_le (x:Nat):wt x<=13:=wtTo_le x 13
theorem place_lt (k:Nat):place k<13:=by
 unfold place
 rcases Nat.lt_or_ge k 8 with h|h
 ·match k,h with
  | 0,_|1,_|2,_|3,_|4,_|5,_|6,_|7,_=>decide
 ·rw[List.getD_eq_getElem?_getD,List.getElem?_eq_none (by simpa using h)];decide
theorem bit_pow_lt {d q n:Nat}(hd:d<2)(hq:q<n):d*2 ^ q<2 ^ n:=by
 have h1:2 ^ q<2 ^ n:=Nat.pow_lt_pow_right (by omega) hq
 have h2:d*2 ^ q<=1*2 ^ q:=Nat.mul_le_mul_right _ (by omega)
 omega
theorem dataTo_lt (b:Nat):∀k,dataTo b k<8192
 | 0=>by simp[dataTo]
 | k+1=>Nat.or_lt_two_pow (n:=13) (dataTo_lt b k) (bit_pow_lt (bitN_lt b k) (place_lt k))
theorem data_lt (b:Nat):data b<8192:=dataTo_lt b 8
theorem evenTo_lt (b:Nat):∀j,j<=4->evenTo b j<8192
 | 0,_=>data_lt b
 | j+1,h=>by
  have ih:=evenTo_lt b j (by omega)
  show(if bitN (odd (data b)) j=1 then evenTo b j|||2 ^ 2 ^ j else evenTo b j)<8192
  split
  ·refine Nat.or_lt_two_pow (n:=13) ih ?_
   rcases(show j=0∨j=1∨j=2∨j=3 by omega) with rfl|rfl|rfl|rfl<;>decide
  ·exact ih
theorem byteTo_lt (x:Nat):∀k,k<=8->byteTo x k<256
 | 0,_=>by simp[byteTo]
 | k+1,h=>Nat.or_lt_two_pow (n:=8) (byteTo_lt x k (by omega)) (bit_pow_lt (bitN_lt x _) (by omega))
theorem byteOf_lt (x:Nat):byteOf x<256:=byteTo_lt x 8 (by omega)
def lin:List Nat->Nat->Nat
 | [],_=>0
 | c::cs,x=>(if x % 2=1 then c else 0) ^^^ lin cs (x / 2)
def gens:List Nat:=[spread 1,spread 2,spread 4,spread 8,spread 16,spread 32,spread 64,spread 128]
theorem spread_all:∀b:Fin 256,spread b.val=lin gens b.val∧spread b.val<8192∧odd (spread b.val)=0∧wt (spread b.val) % 2=0∧byteOf (spread b.val)=b.val∧(b.val=0∨4<=wt (spread b.val)):=by decide +kernel
theorem spread_lt {b:Nat}(h:b<256):spread b<8192:=(spread_all ⟨b,h⟩).2.1
theorem spread_odd {b:Nat}(h:b<256):odd (spread b)=0:=(spread_all ⟨b,h⟩).2.2.1
theorem spread_even {b:Nat}(h:b<256):wt (spread b) % 2=0:=(spread_all ⟨b,h⟩).2.2.2.1
theorem spread_byte {b:Nat}(h:b<256):byteOf (spread b)=b:=(spread_all ⟨b,h⟩).2.2.2.2.1
theorem two_lt {i:Nat}(h:i<13):2 ^ i<8192:=Nat.lt_of_lt_of_le (Nat.pow_lt_pow_right (by omega) h) (by omega)
theorem turned_lt {x i:Nat}(hx:x<8192)(hi:i<13):x ^^^ 2 ^ i<8192:=Nat.xor_lt_two_pow (n:=13) hx (two_lt hi)
def healed (x:Nat):Int×Int :=
 if wt x % 2=1∧odd x<=12 then((byteOf (x ^^^ 2 ^ odd x):Int),1) else if wt x % 2=0∧odd x=0 then((byteOf x:Int),0) else(-1,2)
theorem healed_clean {b:Nat}(h:b<256):healed (spread b)=((b:Int),0):=by
 unfold healed
 rw[spread_even h,spread_odd h,spread_byte h];rfl
end Ham
end Go.Proofs.YtgjoepdfhadmcaaGreatDoor
end

section
namespace Go.Proofs.YtgjoepdfhadmcaaGreatDoor
namespace Wv
def cnt (n d r:Nat):Nat:=(n-r+(d-1)) / d
def row (d r j:Nat):List Nat:=(List.range j).map fun t=>r+d*t
def orderTo (n d R:Nat):List Nat:=(List.range R).flatMap fun r=>row d r (cnt n d r)
def order (n d:Nat):List Nat:=orderTo n d d
def st (n d R:Nat):Nat:=(orderTo n d R).length
theorem row_succ (d r j:Nat):row d r (j+1)=row d r j++[r+d*j]:=by simp[row,List.range_succ]
theorem row_length (d r j:Nat):(row d r j).length=j:=by simp[row]
theorem orderTo_succ (n d R:Nat):orderTo n d (R+1)=orderTo n d R++row d R (cnt n d R):=by simp[orderTo,List.range_succ,List.flatMap_append]
theorem st_succ (n d R:Nat):st n d (R+1)=st n d R+cnt n d R:=by simp[st,orderTo_succ,row_length]
theorem st_mono (n d:Nat){a b:Nat}(h:a<=b):st n d a<=st n d b:=by
 induction b with
 | zero => obtain rfl : a = 0 := by omega
           exact Nat.le_refl _
 | succ b ih =>
  rcases Nat.lt_or_ge a (b+1) with h' | h'
  ·have:=ih (by omega)
   rw[st_succ];omega
  ·obtain rfl:a=b+1:=by omega
   exact Nat.le_refl _
theorem cnt_lt {n d r t:Nat}(hd:0<d):t<cnt n d r↔r+d*t<n:=by
 unfold cnt
 rw[Nat.lt_iff_add_one_le,Nat.le_div_iff_mul_le hd,Nat.add_mul,Nat.one_mul,Nat.mul_comm t d]
 generalize d*t=q
 omega
theorem mem_row {d r j x:Nat}:x∈row d r j↔∃t,t<j∧x=r+d*t:=by
 simp only[row,List.mem_map,List.mem_range]
 constructor
 ·rintro⟨t,h,rfl⟩;exact⟨t,h,rfl⟩
 ·rintro⟨t,h,rfl⟩;exact⟨t,h,rfl⟩
theorem mem_order {n d x:Nat}(hd:0<d):x∈order n d↔x<n:=by
 unfold order orderTo
 simp only[List.mem_flatMap,List.mem_range,mem_row]
 constructor
 ·rintro⟨r,hr,t,ht,rfl⟩
  exact(cnt_lt hd).1 ht
 ·intro hx
  refine⟨x % d,Nat.mod_lt _ hd,x / d,(cnt_lt hd).2 ?_,?_⟩<;>rw[Nat.mod_add_div]
  exact hx
theorem nodup_row {d r j:Nat}(hd:0<d):(row d r j).Nodup:=by
 unfold row
 rw[List.nodup_iff_pairwise_ne,List.pairwise_map]
 exact(List.nodup_iff_pairwise_ne.1 List.nodup_range).imp fun {a b} h e=>h (Nat.eq_of_mul_eq_mul_left hd (by omega))
theorem nodup_orderTo {n d:Nat}(hd:0<d):∀R,R<=d->(orderTo n d R).Nodup
 | 0,_=>by simp[orderTo]
 | R+1,h=>by
  rw[orderTo_succ,List.nodup_append]
  refine⟨nodup_orderTo hd R (by omega),nodup_row hd,fun a ha b hb e=>?_⟩
  subst e
  unfold orderTo at ha
  simp only[List.mem_flatMap,List.mem_range,mem_row] at ha
  obtain⟨r,hr,t,_,rfl⟩:=ha
  obtain⟨u,_,e⟩:=mem_row.1 hb
  have h1:(r+d*t) % d=r:=by rw[Nat.add_mul_mod_self_left,Nat.mod_eq_of_lt (by omega)]
  have h2:(R+d*u) % d=R:=by rw[Nat.add_mul_mod_self_left,Nat.mod_eq_of_lt (by omega)]
  rw[e,h2] at h1
  omega
theorem nodup_order {n d:Nat}(hd:0<d):(order n d).Nodup:=nodup_orderTo hd d (Nat.le_refl _)
theorem order_perm {n d:Nat}(hd:0<d):(order n d).Perm (List.range n) :=
 (List.perm_ext_iff_of_nodup (nodup_order hd) List.nodup_range).2 fun x=>by rw[mem_order hd,List.mem_range]
theorem order_length {n d:Nat}(hd:0<d):(order n d).length=n:=by rw[(order_perm hd).length_eq,List.length_range]
theorem orderTo_at {n d r t:Nat}(ht:t<cnt n d r):∀R,r<R->(orderTo n d R)[st n d r+t]?=some (r+d*t)
 | 0,h=>by omega
 | R+1,h=>by
  rw[orderTo_succ]
  rcases Nat.lt_or_ge r R with h' | h'
  ·have h1:st n d (r+1)<=st n d R:=st_mono n d (by omega)
   rw[st_succ] at h1
   rw[List.getElem?_append_left (by show _<st n d R;omega)]
   exact orderTo_at ht R h'
  ·obtain rfl:r=R:=by omega
   rw[List.getElem?_append_right (by show st n d r<=_;omega),show st n d r+t-(orderTo n d r).length=t by show st n d r+t-st n d r=t;omega]
   unfold row
   rw[List.getElem?_map,List.getElem?_range ht]
   rfl
theorem orderTo_pos {n d k:Nat}:∀R,k<st n d R->∃r t,r<R∧t<cnt n d r∧k=st n d r+t
 | 0,h=>by simp[st,orderTo] at h
 | R+1,h=>by
  rcases Nat.lt_or_ge k (st n d R) with h' | h'
  ·obtain⟨r,t,h1,h2,h3⟩:=orderTo_pos R h'
   exact⟨r,t,by omega,h2,h3⟩
  ·rw[st_succ] at h
   exact⟨R,k-st n d R,by omega,by omega,by omega⟩
def num (n d k:Nat):Nat:=(order n d).getD k 0
theorem num_pos {n d k:Nat}(hd:0<d)(hk:k<n):∃r t,r<d∧t<cnt n d r∧k=st n d r+t∧num n d k=r+d*t:=by
 have hk':k<st n d d:=by show k<(order n d).length;rw[order_length hd];exact hk
 obtain⟨r,t,h1,h2,rfl⟩:=orderTo_pos d hk'
 refine⟨r,t,h1,h2,rfl,?_⟩
 unfold num order
 rw[List.getD_eq_getElem?_getD,orderTo_at h2 d h1]
 rfl
theorem num_lt {n d k:Nat}(hd:0<d)(hk:k<n):num n d k<n:=by
 obtain⟨r,t,_,h2,_,h4⟩:=num_pos hd hk
 rw[h4];exact(cnt_lt hd).1 h2
theorem num_inj {n d i k:Nat}(hd:0<d)(hi:i<n)(hk:k<n)(h:num n d i=num n d k):i=k:=by
 have hl:=order_length (n:=n) hd
 unfold num at h
 rw[List.getD_eq_getElem?_getD,List.getD_eq_getElem?_getD,List.getElem?_eq_getElem (by omega),List.getElem?_eq_getElem (by omega)] at h
 exact(List.getElem_inj (nodup_order (n:=n) hd)).1 h
theorem num_onto {n d x:Nat}(hd:0<d)(hx:x<n):∃k,k<n∧num n d k=x:=by
 obtain⟨k,hk,e⟩:=List.getElem_of_mem ((mem_order (n:=n) hd).2 hx)
 refine⟨k,by rw[order_length hd] at hk;exact hk,?_⟩
 unfold num
 rw[List.getD_eq_getElem?_getD,List.getElem?_eq_getElem hk,e]
 rfl
def pos (n d x:Nat):Nat:=(order n d).idxOf x
theorem num_of_idx {n d x:Nat}(hm:x∈order n d):num n d ((order n d).idxOf x)=x:=by
 have h:=List.idxOf_lt_length_iff.2 hm
 unfold num
 rw[List.getD_eq_getElem?_getD,List.getElem?_eq_getElem h,List.getElem_idxOf]
 rfl
theorem pos_num {n d k:Nat}(hd:0<d)(hk:k<n):pos n d (num n d k)=k:=by
 have hl:=order_length (n:=n) hd
 have hm:num n d k∈order n d:=(mem_order hd).2 (num_lt hd hk)
 have hlt:pos n d (num n d k)<n:=by
  have:=List.idxOf_lt_length_iff.2 hm
  rw[hl] at this
  exact this
 exact num_inj (n:=n) hd hlt hk (num_of_idx hm)
theorem pos_lt {n d x:Nat}(hd:0<d)(hx:x<n):pos n d x<n:=by
 obtain⟨k,hk,rfl⟩:=num_onto (n:=n) hd hx
 rw[pos_num hd hk];exact hk
theorem num_of_pos {n d x:Nat}(hd:0<d)(hx:x<n):num n d (pos n d x)=x:=by
 obtain⟨k,hk,rfl⟩:=num_onto (n:=n) hd hx
 rw[pos_num hd hk]
def wovenL (l:List UInt8)(d:Nat):List UInt8:=(List.range l.length).map fun k=>l.getD (num l.length d k) 0
def unwovenL (l:List UInt8)(d:Nat):List UInt8:=(List.range l.length).map fun x=>l.getD (pos l.length d x) 0
theorem wovenL_length (l:List UInt8)(d:Nat):(wovenL l d).length=l.length:=by simp[wovenL]
theorem unwovenL_length (l:List UInt8)(d:Nat):(unwovenL l d).length=l.length:=by simp[unwovenL]
theorem wovenL_at (l:List UInt8)(d k:Nat)(hk:k<l.length):(wovenL l d).getD k 0=l.getD (num l.length d k) 0:=by
 unfold wovenL
 rw[List.getD_eq_getElem?_getD,List.getElem?_map,List.getElem?_range hk]
 rfl
theorem unwovenL_at (l:List UInt8)(d k:Nat)(hk:k<l.length):(unwovenL l d).getD k 0=l.getD (pos l.length d k) 0:=by
 unfold unwovenL
 rw[List.getD_eq_getElem?_getD,List.getElem?_map,List.getElem?_range hk]
 rfl
theorem ext_getD {l m:List UInt8}(hl:l.length=m.length)(h:∀k,k<m.length->l.getD k 0=m.getD k 0):l=m:=by
 apply List.ext_getElem hl
 intro k h1 h2
 have:=h k h2
 rwa [List.getD_eq_getElem?_getD,List.getD_eq_getElem?_getD,List.getElem?_eq_getElem h1,List.getElem?_eq_getElem h2] at this
theorem unwoven_woven (l:List UInt8){d:Nat}(hd:0<d):unwovenL (wovenL l d) d=l:=by
 apply ext_getD (by rw[unwovenL_length,wovenL_length])
 intro k hk
 rw[unwovenL_at _ _ _ (by rw[wovenL_length];exact hk),wovenL_length,wovenL_at _ _ _ (pos_lt hd hk),num_of_pos hd hk]
end Wv
end Go.Proofs.YtgjoepdfhadmcaaGreatDoor
end

section
namespace Go.Proofs.YtgjoepdfhadmcaaGreatDoor
open Go.RowKit Go.ChangeShapes Go.Deep
set_option linter.unusedVariables false
def cellT (ts:List ByteArray)(i:Nat):Value:=.string (ts.getD i ByteArray.empty)
def Texts (lo hi:Nat)(w:World)(a:Option Addr)(n:Nat)(ts:List ByteArray):Prop:=ts.length=n∧Reads lo hi w a n (cellT ts)
def OwnTexts (lo hi:Nat)(w:World)(a:Option Addr)(n:Nat)(ts:List ByteArray):Prop:=ts.length=n∧Owned lo hi w a n (cellT ts)
section
variable {lo hi:Nat}{w w':World}{a:Option Addr}{n:Nat}{ts:List ByteArray}
theorem OwnTexts.texts (h:OwnTexts lo hi w a n ts):Texts lo hi w a n ts:=⟨h.1,h.2.reads⟩
theorem Texts.later (h:Texts lo hi w a n ts){B:Nat}(hb:Below B w w')(hB:hi<=B):Texts lo hi w' a n ts:=⟨h.1,h.2.later hb hB⟩
theorem OwnTexts.later (h:OwnTexts lo hi w a n ts){B:Nat}(hb:Below B w w')(hB:hi<=B):OwnTexts lo hi w' a n ts:=⟨h.1,h.2.later hb hB⟩
theorem Texts.aside (h:Texts lo hi w a n ts){l r:Nat}(hb:Aside l r w w')(hB:hi<=l∨r<=lo):Texts lo hi w' a n ts:=⟨h.1,h.2.aside hb hB⟩
theorem OwnTexts.aside (h:OwnTexts lo hi w a n ts){l r:Nat}(hb:Aside l r w w')(hB:hi<=l∨r<=lo):OwnTexts lo hi w' a n ts:=⟨h.1,h.2.aside hb hB⟩
end
theorem add_plain {w:World}{x:Addr}{i:Nat}{v u:Value}(h0:w.cell? (x.add 0)=some v)(h:w.cell? (x.add i)=some u):∃b off,x=⟨b,off,none⟩∧b<w.heap.size∧w.cell? ⟨b,off+i,none⟩=some u:=by
 obtain⟨b,off,spot⟩:=x
 have hs:spot=none:=by simpa[Addr.add] using World.cell?_spot h0
 subst hs
 refine⟨b,off,rfl,World.block_lt_of_cell? _ _ h0,?_⟩
 simp only[Addr.add] at h
 split at h
 ·rename_i e;subst e;exact h
 ·exact h
theorem reads_of {w:World}{x:Addr}{n:Nat}{f:Nat->Value}(hc:∀i,i<n->w.cell? (x.add i)=some (f i)):Reads 0 w.heap.size w (some x) n f:=by
 refine⟨Nat.le_refl _,fun hn=>?_⟩
 obtain⟨b,off,rfl,hb,_⟩:=add_plain (hc 0 hn) (hc 0 hn)
 refine⟨b,off,rfl,Nat.zero_le _,hb,fun i hi=>?_⟩
 obtain⟨b',off',e,_,h⟩:=add_plain (hc 0 hn) (hc i hi)
 cases e
 exact h
theorem texts_read {H:Type}{enc:TypeId×Value->H}{P:Program}{W:World}{t e:TypeId}{a:Option Addr}{len cap:Nat}{d:DataW H}{ps:List MemPlace}(ht:P.underlying t=some (.slice e))(he:P.underlying e=some .string)(hc:P.cellsOf e=1)
  (h:DataW.Trod enc P W 0 (fun _=>true) true t (.slice a len cap) d ps):∃ts,Texts 0 W.heap.size W a len ts∧(∀s∈ts,s.size<=maxLen)∧len<=maxLen:=by
 obtain⟨fuel,hf⟩:=h
 rcases open_strings ht he hc hf with⟨hcs,_⟩|⟨x,l,c,ss,hcs,_,hl,hm,hz,_,hcell,hsz⟩
 ·simp[Value.cells] at hcs
  obtain⟨rfl,rfl,rfl⟩:=hcs
  exact⟨[],⟨rfl,Nat.le_refl _,fun h=>absurd h (Nat.lt_irrefl _)⟩,by simp,Nat.zero_le _⟩
 ·simp[Value.cells] at hcs
  obtain⟨rfl,rfl,rfl⟩:=hcs
  simp only[if_true] at hz
  refine⟨ss.take len,⟨by rw[List.length_take];omega,reads_of fun i hi=>?_⟩,fun s hs=>hsz s (List.mem_of_mem_take hs),by omega⟩
  rw[hcell i (by omega)]
  unfold cellT
  rw[List.getD_eq_getElem?_getD,List.getD_eq_getElem?_getD,List.getElem?_take,if_pos hi]
def Rows2 (lo hi:Nat)(w:World)(a:Option Addr)(n:Nat)(xss:List (List Int)):Prop :=
 xss.length=n∧∃(A:Nat->Option Addr) (C:Nat->Nat),Reads lo hi w a n (fun i=>.slice (A i) (xss.getD i []).length (C i))∧∀i,i<n->Ints lo hi w (A i) (xss.getD i []).length (xss.getD i [])
theorem Rows2.later {lo hi n:Nat}{w w':World}{a:Option Addr}{xss:List (List Int)}(h:Rows2 lo hi w a n xss){B:Nat}(hb:Below B w w')(hB:hi<=B):Rows2 lo hi w' a n xss:=by
 obtain⟨h1,A,C,h2,h3⟩:=h
 exact⟨h1,A,C,h2.later hb hB,fun i hi=>(h3 i hi).later hb hB⟩
theorem Rows2.aside {lo hi n:Nat}{w w':World}{a:Option Addr}{xss:List (List Int)}(h:Rows2 lo hi w a n xss){l r:Nat}(hb:Aside l r w w')(hB:hi<=l∨r<=lo):Rows2 lo hi w' a n xss:=by
 obtain⟨h1,A,C,h2,h3⟩:=h
 exact⟨h1,A,C,h2.aside hb hB,fun i hi=>(h3 i hi).aside hb hB⟩
theorem rows2_read {H:Type}{enc:TypeId×Value->H}{P:Program}{W:World}{t e q:TypeId}{a:Option Addr}{len cap:Nat}{d:DataW H}{ps:List MemPlace}(ht:P.underlying t=some (.slice e))(he:P.underlying e=some (.slice q))(hq:P.underlying q=some (.int .i64))(ce:P.cellsOf e=1)(cq:P.cellsOf q=1)
  (h:DataW.Trod enc P W 0 (fun _=>true) true t (.slice a len cap) d ps):∃xss,Rows2 0 W.heap.size W a len xss∧(∀xs∈xss,xs.length<=maxLen)∧len<=maxLen∧∀xs∈xss,∀x∈xs,(Lit.int .i64 x).wf=true:=by
 obtain⟨fuel,hf⟩:=h
 rcases open_int_rows ht he hq ce cq hf with⟨hcs,_⟩|⟨x,l,c,A,L,C,Z,hcs,_,hl,hm,_,hr⟩
 ·simp[Value.cells] at hcs
  obtain⟨rfl,rfl,rfl⟩:=hcs
  exact⟨[],⟨rfl,fun _=>none,fun _=>0,⟨Nat.le_refl _,fun h=>absurd h (Nat.lt_irrefl _)⟩,fun i hi=>absurd hi (by omega)⟩,by simp,Nat.zero_le _,by simp⟩
 ·simp[Value.cells] at hcs
  obtain⟨rfl,rfl,rfl⟩:=hcs
  have hg:∀i,i<len->((List.range len).map fun r=>(Z r).take (L r)).getD i []=(Z i).take (L i):=fun i hi=>by
   rw[List.getD_eq_getElem?_getD,List.getElem?_map,List.getElem?_range hi];rfl
  have hlen:∀i,i<len->((Z i).take (L i)).length=L i:=fun i hi=>by
   obtain⟨_,h2,_,h4,_⟩:=hr i (by omega)
   rw[List.length_take];omega
  refine⟨(List.range len).map fun r=>(Z r).take (L r),⟨by simp,A,C,reads_of fun i hi=>?_,fun i hi=>?_⟩,?_,by omega,?_⟩
  ·rw[hg i hi,hlen i hi];exact(hr i (by omega)).1
  ·obtain⟨_,h2,h3,h4,h5,h6,h7⟩:=hr i (by omega)
   rw[hg i hi]
   refine⟨rfl,?_⟩
   rw[hlen i hi]
   cases ha:A i with
   | none =>
    have:=h6 ha
    exact⟨Nat.le_refl _,fun h=>absurd h (by omega)⟩
   | some y =>
    refine reads_of fun j hj=>?_
    rw[(h7 y ha).2 j (by omega)]
    unfold cellI
    rw[List.getD_eq_getElem?_getD,List.getD_eq_getElem?_getD,List.getElem?_take,if_pos hj]
  ·intro xs hxs
   obtain⟨r,hrr,rfl⟩:=List.mem_map.1 hxs
   rw[List.mem_range] at hrr
   obtain⟨_,h2,h3,_⟩:=hr r (by omega)
   rw[hlen r hrr];omega
  ·intro xs hxs z hz
   obtain⟨r,hrr,rfl⟩:=List.mem_map.1 hxs
   rw[List.mem_range] at hrr
   obtain⟨_,_,_,_,h5,_⟩:=hr r (by omega)
   exact h5 z (List.mem_of_mem_take hz)
end Go.Proofs.YtgjoepdfhadmcaaGreatDoor
end

section
namespace Go.Proofs.YtgjoepdfhadmcaaGreatDoor
open Go.RowKit Go.ChangeShapes Go.WideShapes Go.ChangeAt Go.Deep
set_option linter.unusedVariables false
abbrev Sq:=List ByteArray×Int×Bool
def sqAt (qs:List Sq)(i:Nat):Sq:=qs.getD i ([],0,false)
def cellQ (A:Nat->Option Addr)(C:Nat->Nat)(qs:List Sq)(j:Nat):Value :=
 if j % 3=0 then .slice (A (j / 3)) (sqAt qs (j / 3)).1.length (C (j / 3)) else if j % 3=1 then .int .i64 (sqAt qs (j / 3)).2.1 else .bool (sqAt qs (j / 3)).2.2
theorem cellQ0 (A:Nat->Option Addr)(C:Nat->Nat)(qs:List Sq)(i:Nat):cellQ A C qs (3*i)=.slice (A i) (sqAt qs i).1.length (C i):=by
 unfold cellQ;rw[if_pos (by omega),show 3*i / 3=i by omega]
theorem cellQ1 (A:Nat->Option Addr)(C:Nat->Nat)(qs:List Sq)(i:Nat):cellQ A C qs (3*i+1)=.int .i64 (sqAt qs i).2.1:=by
 unfold cellQ;rw[if_neg (by omega),if_pos (by omega),show(3*i+1) / 3=i by omega]
theorem cellQ2 (A:Nat->Option Addr)(C:Nat->Nat)(qs:List Sq)(i:Nat):cellQ A C qs (3*i+2)=.bool (sqAt qs i).2.2:=by
 unfold cellQ;rw[if_neg (by omega),if_neg (by omega),show(3*i+2) / 3=i by omega]
theorem cellQ_of {f:Nat->Value}{A:Nat->Option Addr}{C:Nat->Nat}{qs:List Sq}{n:Nat}(h0:∀i,i<n->f (3*i)=.slice (A i) (sqAt qs i).1.length (C i))(h1:∀i,i<n->f (3*i+1)=.int .i64 (sqAt qs i).2.1)(h2:∀i,i<n->f (3*i+2)=.bool (sqAt qs i).2.2) :
  ∀j,j<3*n->f j=cellQ A C qs j:=by
 intro j hj
 have e:j=3*(j / 3)∨j=3*(j / 3)+1∨j=3*(j / 3)+2:=by omega
 rcases e with e|e|e
 ·rw[e,h0 _ (by omega),cellQ0]
 ·rw[e,h1 _ (by omega),cellQ1]
 ·rw[e,h2 _ (by omega),cellQ2]
def Squares (lo hi:Nat)(w:World)(a:Option Addr)(n:Nat)(qs:List Sq):Prop :=
 qs.length=n∧∃(A:Nat->Option Addr) (C:Nat->Nat),Reads lo hi w a (3*n) (cellQ A C qs)∧∀i,i<n->Texts lo hi w (A i) (sqAt qs i).1.length (sqAt qs i).1
theorem Squares.later {lo hi n:Nat}{w w':World}{a:Option Addr}{qs:List Sq}(h:Squares lo hi w a n qs){B:Nat}(hb:Below B w w')(hB:hi<=B):Squares lo hi w' a n qs:=by
 obtain⟨h1,A,C,h2,h3⟩:=h
 exact⟨h1,A,C,h2.later hb hB,fun i hi=>(h3 i hi).later hb hB⟩
theorem Squares.aside {lo hi n:Nat}{w w':World}{a:Option Addr}{qs:List Sq}(h:Squares lo hi w a n qs){l r:Nat}(hb:Aside l r w w')(hB:hi<=l∨r<=lo):Squares lo hi w' a n qs:=by
 obtain⟨h1,A,C,h2,h3⟩:=h
 exact⟨h1,A,C,h2.aside hb hB,fun i hi=>(h3 i hi).aside hb hB⟩
theorem sq_cells {n B:Nat}{w w':World}{A:Nat->Option Addr}{C:Nat->Nat}{qs:List Sq}{b off k:Nat}(hc:∀i,i<3*n->w.cell? ⟨b,off+i,none⟩=some (cellQ A C qs i))(hbel:Below B w w')(hb:b<B)(hk:k<n) :
  w'.cell? ⟨b,off+k*3,none⟩=some (.slice (A k) (sqAt qs k).1.length (C k))∧w'.cell? ⟨b,off+k*3+1,none⟩=some (.int .i64 (sqAt qs k).2.1)∧w'.cell? ⟨b,off+k*3+2,none⟩=some (.bool (sqAt qs k).2.2):=by
 refine⟨?_,?_,?_⟩
 ·rw[hbel.cell (p:=⟨b,off+k*3,none⟩) hb,show off+k*3=off+3*k by omega,hc _ (by omega),cellQ0]
 ·rw[hbel.cell (p:=⟨b,off+k*3+1,none⟩) hb,show off+k*3+1=off+(3*k+1) by omega,hc _ (by omega),cellQ1]
 ·rw[hbel.cell (p:=⟨b,off+k*3+2,none⟩) hb,show off+k*3+2=off+(3*k+2) by omega,hc _ (by omega),cellQ2]
def sqFits (q:Sq):Prop:=(∀s∈q.1,s.size<=maxLen)∧q.1.length<=maxLen∧(Lit.int .i64 q.2.1).wf=true
theorem pick_below {α:Type}{p:Nat->α->Prop}{n:Nat}(z:α)(h:∀i,i<n->∃x,p i x):∃f:Nat->α,∀i,i<n->p i (f i):=by
 classical
 refine⟨fun i=>if h':i<n then(h i h').choose else z,fun i hi=>?_⟩
 simp only[hi,dif_pos]
 exact(h i hi).choose_spec
theorem add_add (x:Addr)(i j:Nat):(x.add i).add j=x.add (i+j):=by
 unfold Addr.add
 split<;>split<;>simp_all<;>omega
theorem bool_form {H:Type}{enc:TypeId×Value->H}{P:Program}{w:World}{base:Nat}{spare:Nat->Bool}{held:Bool}{t:TypeId}{fuel:Nat}{v:Value}{y:DataW H×List MemPlace}(ht:P.underlying t=some .bool)(h:DataW.trod enc P w base spare held fuel t [v]=some y):∃b,v=.bool b:=by
 cases fuel with
 | zero=>simp[DataW.trod] at h
 | succ n =>
  unfold DataW.trod at h
  rw[ht] at h
  split at h<;>simp_all
theorem squares_read {H:Type}{enc:TypeId×Value->H}{P:Program}{W:World}{t e s:TypeId}{f0 f1 f2:Field}{a:Option Addr}{len cap:Nat}{d:DataW H}{ps:List MemPlace}{fuel:Nat}
  (ht:P.underlying t=some (.slice e)) (he:P.underlying e=some (.struct #[f0,f1,f2])) (ce:P.cellsOf e=3) (hone:oneCellFields P #[f0,f1,f2]=true)
  (h0:P.underlying f0.type=some (.slice s)) (hs:P.underlying s=some .string) (cs1:P.cellsOf s=1) (h1:P.underlying f1.type=some (.int .i64)) (h2:P.underlying f2.type=some .bool)
  (h:DataW.trod enc P W 0 (fun _=>true) true fuel t [.slice a len cap]=some (d,ps)) :
  ∃qs,Squares 0 W.heap.size W a len qs∧(∀x∈qs,sqFits x)∧len<=maxLen:=by
 rcases open_slice ht h with⟨hcs,_⟩|⟨x,l,c,m,k,D,Pl,hcs,_,hl,hm,hmm,_,hr⟩
 ·simp at hcs
  obtain⟨rfl,rfl,rfl⟩:=hcs
  exact⟨[],⟨rfl,fun _=>none,fun _=>0,⟨Nat.le_refl _,fun h=>absurd h (by omega)⟩,fun i hi=>absurd hi (by omega)⟩,by simp,Nat.zero_le _⟩
 ·simp at hcs
  obtain⟨rfl,rfl,rfl⟩:=hcs
  simp only[if_true] at hmm
  obtain⟨o0,k0⟩:=hone_of hone 0 f0 rfl
  obtain⟨o1,k1⟩:=hone_of hone 1 f1 rfl
  obtain⟨o2,k2⟩:=hone_of hone 2 f2 rfl
  have each:∀i,i<len->∃(A:Option Addr) (C:Nat) (y:Sq),W.cell? (x.add (3*i))=some (.slice A y.1.length C)∧W.cell? (x.add (3*i+1))=some (.int .i64 y.2.1)∧W.cell? (x.add (3*i+2))=some (.bool y.2.2)∧Texts 0 W.heap.size W A y.1.length y.1∧sqFits y:=fun i hi=>by
   obtain⟨cs',hc,hd⟩:=hr i (by omega)
   rw[ce] at hc
   obtain⟨_,hlen,hcell⟩:=World.cells?_some hc
   obtain⟨y0,y1,y2,n',_,_,g0,g1,g2⟩:=trod_struct3 he hd
   match cs',hlen with
   | [v0,v1,v2],_ =>
    simp[o0,o1,o2,k0,k1,k2] at g0 g1 g2
    obtain⟨z,e1,_,w1⟩:=DataW.trod_int h1 g1
    obtain⟨b,e2⟩:∃b,v2=.bool b:=bool_form h2 g2
    simp only[List.cons.injEq,and_true] at e1
    subst e1;subst e2
    have hadd:∀j,j<3->(x.add (i*3)).add j=x.add (3*i+j):=fun j _=>by rw[add_add,Nat.mul_comm]
    have c0:=hcell 0 (by omega)
    have c1:=hcell 1 (by omega)
    have c2:=hcell 2 (by omega)
    rw[hadd 0 (by omega)] at c0
    rw[hadd 1 (by omega)] at c1
    rw[hadd 2 (by omega)] at c2
    simp at c0 c1 c2
    obtain⟨A,L,C,e0⟩:=Go.Joins.slice_form h0 g0
    simp only[List.cons.injEq,and_true] at e0
    subst e0
    obtain⟨ts,hts,hfit,hL⟩:=texts_read (enc:=enc) (P:=P) (W:=W) (a:=A) (len:=L) (cap:=C) h0 hs cs1 ⟨n',by simpa[Value.cells] using g0⟩
    have hlen':ts.length=L:=hts.1
    subst hlen'
    exact⟨A,C,(ts,z,b),c0,c1,c2,hts,hfit,hL,w1⟩
  obtain⟨f,hf⟩:=pick_below (α:=Option Addr×Nat×Sq) (p:=fun i z=>W.cell? (x.add (3*i))=some (.slice z.1 z.2.2.1.length z.2.1)∧W.cell? (x.add (3*i+1))=some (.int .i64 z.2.2.2.1)∧W.cell? (x.add (3*i+2))=some (.bool z.2.2.2.2)∧Texts 0 W.heap.size W z.1 z.2.2.1.length z.2.2.1∧sqFits z.2.2) (none,0,[],0,false) (fun i hi=>by
   obtain⟨A,C,y,hy⟩:=each i hi
   exact⟨(A,C,y),hy⟩)
  have hg:∀i,i<len->sqAt ((List.range len).map fun i=>(f i).2.2) i=(f i).2.2:=fun i hi=>by
   unfold sqAt
   rw[List.getD_eq_getElem?_getD,List.getElem?_map,List.getElem?_range hi];rfl
  refine⟨(List.range len).map fun i=>(f i).2.2,⟨by simp,fun i=>(f i).1,fun i=>(f i).2.1,reads_of fun j hj=>?_,fun i hi=>?_⟩,?_,by omega⟩
  ·have key:=cellQ_of (n:=len) (f:=fun j=>(W.cell? (x.add j)).getD (.int .i64 0)) (A:=fun i=>(f i).1) (C:=fun i=>(f i).2.1) (qs:=(List.range len).map fun i=>(f i).2.2) (fun i hi=>by rw[hg i hi];simp[(hf i hi).1]) (fun i hi=>by rw[hg i hi];simp[(hf i hi).2.1]) (fun i hi=>by rw[hg i hi];simp[(hf i hi).2.2.1]) j hj
   have hs:∃v,W.cell? (x.add j)=some v:=by
    have e:j=3*(j / 3)∨j=3*(j / 3)+1∨j=3*(j / 3)+2:=by omega
    have hq:=hf (j / 3) (by omega)
    rcases e with e|e|e
    ·rw[e];exact⟨_,hq.1⟩
    ·rw[e];exact⟨_,hq.2.1⟩
    ·rw[e];exact⟨_,hq.2.2.1⟩
   obtain⟨v,hv⟩:=hs
   rw[hv] at key ⊢
   rw[<- key];rfl
  ·rw[hg i hi];exact(hf i hi).2.2.2.1
  ·intro y hy
   obtain⟨i,hi,rfl⟩:=List.mem_map.1 hy
   exact(hf i (List.mem_range.1 hi)).2.2.2.2
theorem chip_read {H:Type}{enc:TypeId×Value->H}{P:Program}{W:World}{r:Reach}{b0:Nat}{T e s:TypeId}{g0 g1 f0 f1 f2:Field}{v:Value}{d:DataW H}{ps:List MemPlace}
  (hT:P.underlying T=some (.struct #[g0,g1])) (honeT:oneCellFields P #[g0,g1]=true) (hC:P.cellsOf T=2) (hg0:P.underlying g0.type=some (.int .i64))
  (ht:P.underlying g1.type=some (.slice e)) (he:P.underlying e=some (.struct #[f0,f1,f2])) (ce:P.cellsOf e=3) (hone:oneCellFields P #[f0,f1,f2]=true)
  (h0:P.underlying f0.type=some (.slice s)) (hs:P.underlying s=some .string) (cs1:P.cellsOf s=1) (h1:P.underlying f1.type=some (.int .i64)) (h2:P.underlying f2.type=some .bool)
  (hv:Value.okWide P W r b0 T v) (h:DataW.Trod enc P W 0 (fun _=>true) true T v d ps) :
  ∃(z:Int) (a:Option Addr) (len cap:Nat) (qs:List Sq),v=.agg #[.int .i64 z,.slice a len cap]∧(Lit.int .i64 z).wf=true∧Squares 0 W.heap.size W a len qs∧(∀x∈qs,sqFits x)∧len<=maxLen:=by
 obtain⟨v0,v1,y0,y1,n,rfl,_,_,t0,t1⟩:=Go.Joins.open_agg2 hT honeT hC hv h
 obtain⟨z,e0,_,k0⟩:=DataW.trod_int hg0 t0
 obtain⟨a,len,cap,e1⟩:=Go.Joins.slice_form ht t1
 simp only[List.cons.injEq,and_true] at e0 e1
 subst e0;subst e1
 obtain⟨qs,h3,h4,h5⟩:=squares_read ht he ce hone h0 hs cs1 h1 h2 (show DataW.trod enc P W 0 (fun _=>true) true n g1.type [.slice a len cap]=some (y1.1,y1.2) from t1)
 exact⟨z,a,len,cap,qs,rfl,k0,h3,h4,h5⟩
theorem job_read {H:Type}{enc:TypeId×Value->H}{P:Program}{w:World}{base:Nat}{spare:Nat->Bool}{held:Bool}{r:Reach}{b0:Nat}{t:TypeId}{f0 f1 f2:Field}{v:Value}{d:DataW H}{p:List MemPlace}
  (hs:P.underlying t=some (.struct #[f0,f1,f2])) (hone:oneCellFields P #[f0,f1,f2]=true) (hC:P.cellsOf t=3)
  (h0:P.underlying f0.type=some (.int .i64)) (h1:P.underlying f1.type=some (.int .i64)) (h2:P.underlying f2.type=some .string)
  (hv:Value.okWide P w r b0 t v) (h:DataW.Trod enc P w base spare held t v d p) :
  ∃(k q:Int) (x:ByteArray),v=.agg #[.int .i64 k,.int .i64 q,.string x]∧(Lit.int .i64 k).wf=true∧(Lit.int .i64 q).wf=true∧x.size<=maxLen:=by
 obtain⟨v0,v1,v2,y0,y1,y2,n,rfl,_,_,t0,t1,t2⟩:=Go.Joins.open_agg3 hs hone hC hv h
 obtain⟨k,e0,_,k0⟩:=DataW.trod_int h0 t0
 obtain⟨q,e1,_,k1⟩:=DataW.trod_int h1 t1
 obtain⟨x,e2,_,k2⟩:=DataW.trod_string h2 t2
 simp only[List.cons.injEq,and_true] at e0 e1 e2
 subst e0;subst e1;subst e2
 exact⟨k,q,x,rfl,k0,k1,k2⟩
abbrev Jb:=Int×Int×ByteArray
def jbAt (js:List Jb)(i:Nat):Jb:=js.getD i (0,0,ByteArray.empty)
def cellJ (js:List Jb)(j:Nat):Value :=
 if j % 3=0 then .int .i64 (jbAt js (j / 3)).1 else if j % 3=1 then .int .i64 (jbAt js (j / 3)).2.1 else .string (jbAt js (j / 3)).2.2
theorem cellJ0 (js:List Jb)(i:Nat):cellJ js (3*i)=.int .i64 (jbAt js i).1:=by
 unfold cellJ;rw[if_pos (by omega),show 3*i / 3=i by omega]
theorem cellJ1 (js:List Jb)(i:Nat):cellJ js (3*i+1)=.int .i64 (jbAt js i).2.1:=by
 unfold cellJ;rw[if_neg (by omega),if_pos (by omega),show(3*i+1) / 3=i by omega]
theorem cellJ2 (js:List Jb)(i:Nat):cellJ js (3*i+2)=.string (jbAt js i).2.2:=by
 unfold cellJ;rw[if_neg (by omega),if_neg (by omega),show(3*i+2) / 3=i by omega]
def Jobs (lo hi:Nat)(w:World)(a:Option Addr)(n:Nat)(js:List Jb):Prop:=js.length=n∧Reads lo hi w a (3*n) (cellJ js)
def jbFits (j:Jb):Prop:=(Lit.int .i64 j.1).wf=true∧(Lit.int .i64 j.2.1).wf=true∧j.2.2.size<=maxLen
theorem jobs_read {H:Type}{enc:TypeId×Value->H}{P:Program}{W:World}{t e:TypeId}{f0 f1 f2:Field}{a:Option Addr}{len cap:Nat}{d:DataW H}{ps:List MemPlace}
  (ht:P.underlying t=some (.slice e)) (he:P.underlying e=some (.struct #[f0,f1,f2])) (ce:P.cellsOf e=3) (hone:oneCellFields P #[f0,f1,f2]=true)
  (h0:P.underlying f0.type=some (.int .i64)) (h1:P.underlying f1.type=some (.int .i64)) (h2:P.underlying f2.type=some .string)
  (h:DataW.Trod enc P W 0 (fun _=>true) true t (.slice a len cap) d ps) :
  ∃js,Jobs 0 W.heap.size W a len js∧(∀x∈js,jbFits x)∧len<=maxLen:=by
 obtain⟨fuel,hh⟩:=h
 rcases open_slice ht hh with⟨hcs,_⟩|⟨x,l,c,m,k,D,Pl,hcs,_,hl,hm,hmm,_,hr⟩
 ·simp[Value.cells] at hcs
  obtain⟨rfl,rfl,rfl⟩:=hcs
  exact⟨[],⟨rfl,Nat.le_refl _,fun h=>absurd h (by omega)⟩,by simp,Nat.zero_le _⟩
 ·simp[Value.cells] at hcs
  obtain⟨rfl,rfl,rfl⟩:=hcs
  simp only[if_true] at hmm
  obtain⟨o0,k0⟩:=hone_of hone 0 f0 rfl
  obtain⟨o1,k1⟩:=hone_of hone 1 f1 rfl
  obtain⟨o2,k2⟩:=hone_of hone 2 f2 rfl
  obtain⟨f,hf⟩:=pick_below (α:=Jb) (p:=fun i z=>W.cell? (x.add (3*i))=some (.int .i64 z.1)∧W.cell? (x.add (3*i+1))=some (.int .i64 z.2.1)∧W.cell? (x.add (3*i+2))=some (.string z.2.2)∧jbFits z) (n:=len) (0,0,ByteArray.empty) (fun i hi=>by
   obtain⟨cs',hc,hd⟩:=hr i (by omega)
   rw[ce] at hc
   obtain⟨_,hlen,hcell⟩:=World.cells?_some hc
   obtain⟨y0,y1,y2,n',_,_,g0,g1,g2⟩:=trod_struct3 he hd
   match cs',hlen with
   | [v0,v1,v2],_ =>
    simp[o0,o1,o2,k0,k1,k2] at g0 g1 g2
    obtain⟨z,e0,_,w0⟩:=DataW.trod_int h0 g0
    obtain⟨y,e1,_,w1⟩:=DataW.trod_int h1 g1
    obtain⟨u,e2,_,w2⟩:=DataW.trod_string h2 g2
    simp only[List.cons.injEq,and_true] at e0 e1 e2
    subst e0;subst e1;subst e2
    have hadd:∀j,j<3->(x.add (i*3)).add j=x.add (3*i+j):=fun j _=>by rw[add_add,Nat.mul_comm]
    have c0:=hcell 0 (by omega)
    have c1:=hcell 1 (by omega)
    have c2:=hcell 2 (by omega)
    rw[hadd 0 (by omega)] at c0
    rw[hadd 1 (by omega)] at c1
    rw[hadd 2 (by omega)] at c2
    simp at c0 c1 c2
    exact⟨(z,y,u),c0,c1,c2,w0,w1,w2⟩)
  have hg:∀i,i<len->jbAt ((List.range len).map f) i=f i:=fun i hi=>by
   unfold jbAt
   rw[List.getD_eq_getElem?_getD,List.getElem?_map,List.getElem?_range hi];rfl
  refine⟨(List.range len).map f,⟨by simp,reads_of fun j hj=>?_⟩,?_,by omega⟩
  ·have e:j=3*(j / 3)∨j=3*(j / 3)+1∨j=3*(j / 3)+2:=by omega
   have hq:=hf (j / 3) (by omega)
   rcases e with e|e|e
   ·rw[e,cellJ0,hg _ (by omega)];exact hq.1
   ·rw[e,cellJ1,hg _ (by omega)];exact hq.2.1
   ·rw[e,cellJ2,hg _ (by omega)];exact hq.2.2.1
  ·intro y hy
   obtain⟨i,hi,rfl⟩:=List.mem_map.1 hy
   exact(hf i (List.mem_range.1 hi)).2.2.2
end Go.Proofs.YtgjoepdfhadmcaaGreatDoor
end

section
namespace Go.Proofs.YtgjoepdfhadmcaaGreatDoor
open Go.RowKit
set_option linter.unusedVariables false
theorem Aside.thenNew {lo hi l r:Nat}{w wr w2:World}(h:Aside lo hi w wr)(h2:Aside l r wr w2)(hl:w.heap.size<=l):Aside lo hi w w2 :=
 ⟨h2.os.trans h.os,h2.tape.trans h.tape,h2.output.trans h.output,Nat.le_trans h.size h2.size,fun k hk h'=>(h2.block k (Nat.lt_of_lt_of_le hk h.size) (.inl (by omega))).trans (h.block k hk h')⟩
theorem Aside.thenBelow {lo hi B:Nat}{w wr w2:World}(h:Aside lo hi w wr)(h2:Below B wr w2)(hl:w.heap.size<=B):Aside lo hi w w2 :=
 ⟨h2.os.trans h.os,h2.tape.trans h.tape,h2.output.trans h.output,Nat.le_trans h.size h2.size,fun k hk h'=>(h2.block k (by omega)).trans (h.block k hk h')⟩
theorem Aside.ofBelow {lo hi:Nat}{w w2:World}(h2:Below w.heap.size w w2):Aside lo hi w w2:=(Aside.refl lo hi w).thenBelow h2 (Nat.le_refl _)
theorem Aside.widen {lo hi lo' hi':Nat}{w w2:World}(h:Aside lo hi w w2)(h1:lo'<=lo)(h2:hi<=hi'):Aside lo' hi' w w2 :=
 ⟨h.os,h.tape,h.output,h.size,fun k hk h'=>h.block k hk (by omega)⟩
theorem Aside.thenAlloc {lo hi:Nat}{w wr:World}(h:Aside lo hi w wr)(o:Obj):Aside lo hi w (wr.alloc o) :=
 h.thenBelow ((Below.refl wr.heap.size wr).alloc (Nat.le_refl _) o) h.size
end Go.Proofs.YtgjoepdfhadmcaaGreatDoor
end

section
namespace Go.Proofs.YtgjoepdfhadmcaaGreatDoor
open Go.RowKit
set_option linter.unusedVariables false
set_option maxRecDepth 20000
namespace Ones
def o1 (x:Int):Int:=IntKind.u64.wrap (bits .and .u64 (x / 2) 6148914691236517205+bits .and .u64 x 6148914691236517205)
def o2 (x:Int):Int:=IntKind.u64.wrap (bits .and .u64 (x / 4) 3689348814741910323+bits .and .u64 x 3689348814741910323)
def o3 (x:Int):Int:=bits .and .u64 (IntKind.u64.wrap (x / 16+x)) 1085102592571150095
def o4 (x:Int):Int:=IntKind.u64.wrap (x+x / 256)
def o5 (x:Int):Int:=IntKind.u64.wrap (x+x / 65536)
def o6 (x:Int):Int:=IntKind.u64.wrap (x+x / 4294967296)
def o7 (x:Int):Int:=bits .and .i64 (wrap64 x) 127
def ones (x:Int):Int:=o7 (o6 (o5 (o4 (o3 (o2 (o1 x))))))
def chk (p:Nat->Bool):Nat->Nat->Bool
 | 0,a=>p a
 | d+1,a=>chk p d (2*a)&&chk p d (2*a+1)
theorem chk_at (p:Nat->Bool):∀(d a:Nat),chk p d a=true->∀x,a*2 ^ d<=x->x<(a+1)*2 ^ d->p x=true
 | 0,a,h,x,h1,h2=>by
  obtain rfl:x=a:=by omega
  exact h
 | d+1,a,h,x,h1,h2=>by
  simp only[chk,Bool.and_eq_true] at h
  rw[Nat.pow_succ] at h1 h2
  by_cases hx:x<(2*a+1)*2 ^ d
  ·exact chk_at p d (2*a) h.1 x (by rw[show 2*a*2 ^ d=a*(2 ^ d*2) by rw[Nat.mul_comm 2 a,Nat.mul_assoc,Nat.mul_comm 2]];exact h1) hx
  ·exact chk_at p d (2*a+1) h.2 x (by omega) (by rw[show(2*a+1+1)*2 ^ d=(a+1)*(2 ^ d*2) by rw[show 2*a+1+1=(a+1)*2 by omega,Nat.mul_assoc,Nat.mul_comm 2]];exact h2)
theorem ones_chk:chk (fun x=>decide (ones (x:Int)=(Ham.wt x:Int))) 13 0=true:=by decide +kernel
theorem ones_wt (x:Nat)(h:x<8192):ones (x:Int)=(Ham.wt x:Int):=of_decide_eq_true (chk_at _ 13 0 ones_chk x (by omega) (by omega))
end Ones
end Go.Proofs.YtgjoepdfhadmcaaGreatDoor
end

