/- Several texts in one: ChipOwn2, ChipOwn3, ChipMark, PlaceBase, ChipOkS, WearMath, ChipAtS, ChipCan, HeapMath, FtlBase, FtlWalk, ChipImplA, ChipNewS, RepeatW, HeldBase. -/
import Derived.Test.YtgjoepdfhadmcaaGreatDoorMTextWalk
import Derived.Test.YtgjoepdfhadmcaaGreatDoorMCopyBase
import Derived.Test.YtgjoepdfhadmcaaGreatDoorMInfo
import Derived.Deep.RegionWith
import Derived.Laws.Bits64b
import Derived.BigRegion
section
namespace Go.Proofs.YtgjoepdfhadmcaaGreatDoor
open Go.RowKit
set_option linter.unusedVariables false
set_option maxRecDepth 20000
theorem make3 {P:Program}(t e:TypeId)(z0 z1 z2:Value)(bytes:Nat)(ht:P.underlying t=some (.slice e))(hinfo:(P.info? e).map (fun i=>(i.zero,i.size,i.bytes))=some (some (.agg #[z0,z1,z2]),3,bytes))
  (n:Nat) (hb:bytes*n<=281474976710656) (h63:n<=9223372036854775807) (w:World) :
  (Instr.makeSlice t (.int .i64 (n:Int)) (.int .i64 (n:Int))).run P w=.ok (.slice (some ⟨w.heap.size,0,none⟩) n n) (w.alloc (.cells (madeCells #[z0,z1,z2] (n*3)) e)):=by
 obtain⟨i,hi,hzz⟩:=Option.map_eq_some_iff.1 hinfo
 simp only[Prod.mk.injEq] at hzz
 obtain⟨hz,hs,hb'⟩:=hzz
 have h:=run_make (P:=P) w t e i (.agg #[z0,z1,z2]) ht hi hz .i64 .i64 (n:Int) (n:Int) (by omega) (by omega) (by rw[hb',<- Int.natCast_mul];generalize bytes*n=q at hb ⊢;omega) (by omega)
 rw[h,hs]
 rfl
def zero3 (j:Nat):Value:=if j % 3=0 then .slice none 0 0 else if j % 3=1 then .int .i64 0 else .bool false
theorem made3 (w:World)(n:Nat)(e:TypeId):Owned w.heap.size (w.heap.size+1) (w.alloc (.cells (madeCells #[.slice none 0 0,.int .i64 0,.bool false] (n*3)) e)) (some ⟨w.heap.size,0,none⟩) (3*n) zero3:=by
 refine⟨by simp,fun _=>⟨w.heap.size,0,rfl,Nat.le_refl _,Nat.lt_succ_self _,fun j hj=>⟨?_,?_⟩⟩⟩
 ·rw[World.cell?_alloc_new,Nat.zero_add]
  have hj':j<n*3:=by omega
  have h3:j % 3=0∨j % 3=1∨j % 3=2:=by omega
  rcases h3 with h|h|h<;>simp[madeCells,hj',zero3,h]
 ·exact four_frozen (heap_new w _) _
theorem Tryz.infoSq:(Tryz.prog.info? 42).map (fun i=>(i.zero,i.size,i.bytes))=some (some (.agg #[.slice none 0 0,.int .i64 0,.bool false]),3,40):=by kernel_rfl
end Go.Proofs.YtgjoepdfhadmcaaGreatDoor
end

section
namespace Go.Proofs.YtgjoepdfhadmcaaGreatDoor
open Go.RowKit
set_option linter.unusedVariables false
set_option maxRecDepth 20000
theorem OwnSqs.aside {lo hi n g off l r:Nat}{w w':World}{a:Option Addr}{qs:List Sq}{A:Nat->Option Addr}{C P:Nat->Nat}(h:OwnSqs lo hi w a n qs g off A C P)(hb:Aside l r w w')(hr:r<=lo∨hi<=l):OwnSqs lo hi w' a n qs g off A C P :=
 ⟨h.len,h.row.aside hb (by have:=h.atG;omega),h.addr,fun i hi=>(h.pages i hi).aside hb (by have:=h.atP i hi;omega),h.room,h.atG,h.atP,h.apartG,h.apartP,Nat.le_trans h.top hb.size⟩
theorem OwnSqs.wide {lo hi lo' hi' n g off:Nat}{w:World}{a:Option Addr}{qs:List Sq}{A:Nat->Option Addr}{C P:Nat->Nat}(h:OwnSqs lo hi w a n qs g off A C P)(h1:lo'<=lo)(h2:hi<=hi')(h3:hi'<=w.heap.size):OwnSqs lo' hi' w a n qs g off A C P :=
 ⟨h.len,h.row,h.addr,h.pages,h.room,by have:=h.atG;omega,fun i hi=>by have:=h.atP i hi;omega,h.apartG,h.apartP,h3⟩
theorem OwnSquares.aside {lo hi n l r:Nat}{w w':World}{a:Option Addr}{qs:List Sq}(h:OwnSquares lo hi w a n qs)(hb:Aside l r w w')(hr:r<=lo∨hi<=l):OwnSquares lo hi w' a n qs:=by
 obtain⟨g,off,A,C,P,h⟩:=h
 exact⟨g,off,A,C,P,h.aside hb hr⟩
theorem OwnSquares.wide {lo hi lo' hi' n:Nat}{w:World}{a:Option Addr}{qs:List Sq}(h:OwnSquares lo hi w a n qs)(h1:lo'<=lo)(h2:hi<=hi')(h3:hi'<=w.heap.size):OwnSquares lo' hi' w a n qs:=by
 obtain⟨g,off,A,C,P,h⟩:=h
 exact⟨g,off,A,C,P,h.wide h1 h2 h3⟩
theorem two_cells {W:World}{b:Nat}{c0 c1:Value}{t:TypeId}{fr:Nat×Nat}(h:W.heap[b]?=some (.cells #[c0,c1] t fr)) :
  W.cell? ⟨b,0,none⟩=some c0∧W.cell? ⟨b,1,none⟩=some c1:=by
 simp[World.cell?,h]
theorem two_set {W:World}{b:Nat}{c0 c1:Value}{t:TypeId}{fr:Nat×Nat}(h:W.heap[b]?=some (.cells #[c0,c1] t fr))(v0 v1:Value) :
  ((W.setCell ⟨b,0,none⟩ v0).setCell ⟨b,1,none⟩ v1).heap[b]?=some (.cells #[v0,v1] t fr) :=
 set_block (set_block h 0 v0 (by simp)) 1 v1 (by simp)
theorem two_other {W:World}{b k:Nat}{x:Option Obj}(h:W.heap[b]?=x)(hne:k≠b)(v0 v1:Value):((W.setCell ⟨k,0,none⟩ v0).setCell ⟨k,1,none⟩ v1).heap[b]?=x :=
 set_other (set_other h hne v0) hne v1
theorem two_aside {lo hi:Nat}{w W:World}{b:Nat}(h:Aside lo hi w W)(h1:lo<=b)(h2:b<hi)(v0 v1:Value):Aside lo hi w ((W.setCell ⟨b,0,none⟩ v0).setCell ⟨b,1,none⟩ v1) :=
 (h.setCell (p:=⟨b,0,none⟩) h1 h2 v0).setCell (p:=⟨b,1,none⟩) h1 h2 v1
end Go.Proofs.YtgjoepdfhadmcaaGreatDoor
end

section
namespace Go.Proofs.YtgjoepdfhadmcaaGreatDoor
open Go.RowKit
set_option linter.unusedVariables false
set_option maxRecDepth 20000
def lens (qs:List Sq):Nat:=(qs.map fun q=>q.1.length).sum
theorem Owned.place {lo hi n i:Nat}{w:World}{b off:Nat}{f:Nat->Value}(h:Owned lo hi w (some ⟨b,off,none⟩) n f)(hi':i<n):w.cell? ⟨b,off+i,none⟩=some (f i)∧w.frozen? ⟨b,off+i,none⟩=false∧lo<=b∧b<hi:=by
 obtain⟨b',off',e,h1,h2,h3⟩:=h.2 (by omega)
 simp at e
 obtain⟨rfl,rfl⟩:=e
 exact⟨(h3 i hi').1,(h3 i hi').2,h1,h2⟩
end Go.Proofs.YtgjoepdfhadmcaaGreatDoor
end

section
namespace Go.Proofs.YtgjoepdfhadmcaaGreatDoor
open Go.RowKit Go.ChangeShapes Go.WideShapes Go.ChangeAt Go.Deep
set_option linter.unusedVariables false
abbrev Pl:=Int×Int
def plAt (ps:List Pl)(i:Nat):Pl:=ps.getD i (0,0)
def cellP (ps:List Pl)(j:Nat):Value:=if j % 2=0 then .int .i64 (plAt ps (j / 2)).1 else .int .i64 (plAt ps (j / 2)).2
theorem cellP0 (ps:List Pl)(i:Nat):cellP ps (2*i)=.int .i64 (plAt ps i).1:=by
 unfold cellP;rw[if_pos (by omega),show 2*i / 2=i by omega]
theorem cellP1 (ps:List Pl)(i:Nat):cellP ps (2*i+1)=.int .i64 (plAt ps i).2:=by
 unfold cellP;rw[if_neg (by omega),show(2*i+1) / 2=i by omega]
def Places (lo hi:Nat)(w:World)(a:Option Addr)(n:Nat)(ps:List Pl):Prop:=ps.length=n∧Reads lo hi w a (2*n) (cellP ps)
def OwnPlaces (lo hi:Nat)(w:World)(a:Option Addr)(n:Nat)(ps:List Pl):Prop:=ps.length=n∧Owned lo hi w a (2*n) (cellP ps)
section
variable {lo hi n:Nat}{w w':World}{a:Option Addr}{ps:List Pl}
theorem OwnPlaces.places (h:OwnPlaces lo hi w a n ps):Places lo hi w a n ps:=⟨h.1,h.2.reads⟩
theorem Places.later (h:Places lo hi w a n ps){B:Nat}(hb:Below B w w')(hB:hi<=B):Places lo hi w' a n ps:=⟨h.1,h.2.later hb hB⟩
theorem OwnPlaces.later (h:OwnPlaces lo hi w a n ps){B:Nat}(hb:Below B w w')(hB:hi<=B):OwnPlaces lo hi w' a n ps:=⟨h.1,h.2.later hb hB⟩
theorem OwnPlaces.aside (h:OwnPlaces lo hi w a n ps){l r:Nat}(hb:Aside l r w w')(hB:hi<=l∨r<=lo):OwnPlaces lo hi w' a n ps:=⟨h.1,h.2.aside hb hB⟩
end
theorem pl_cells {n B:Nat}{w w':World}{ps:List Pl}{b off k:Nat}(hc:∀i,i<2*n->w.cell? ⟨b,off+i,none⟩=some (cellP ps i))(hbel:Below B w w')(hb:b<B)(hk:k<n) :
  w'.cell? ⟨b,off+k*2,none⟩=some (.int .i64 (plAt ps k).1)∧w'.cell? ⟨b,off+k*2+1,none⟩=some (.int .i64 (plAt ps k).2):=by
 refine⟨?_,?_⟩
 ·rw[hbel.cell (p:=⟨b,off+k*2,none⟩) hb,show off+k*2=off+2*k by omega,hc _ (by omega),cellP0]
 ·rw[hbel.cell (p:=⟨b,off+k*2+1,none⟩) hb,show off+k*2+1=off+(2*k+1) by omega,hc _ (by omega),cellP1]
def plFits (p:Pl):Prop:=(Lit.int .i64 p.1).wf=true∧(Lit.int .i64 p.2).wf=true
theorem places_read {H:Type}{enc:TypeId×Value->H}{P:Program}{W:World}{t e:TypeId}{f0 f1:Field}{a:Option Addr}{len cap:Nat}{d:DataW H}{ps:List MemPlace}
  (ht:P.underlying t=some (.slice e)) (he:P.underlying e=some (.struct #[f0,f1])) (ce:P.cellsOf e=2) (hone:oneCellFields P #[f0,f1]=true)
  (h0:P.underlying f0.type=some (.int .i64)) (h1:P.underlying f1.type=some (.int .i64))
  (h:DataW.Trod enc P W 0 (fun _=>true) true t (.slice a len cap) d ps) :
  ∃js,Places 0 W.heap.size W a len js∧(∀x∈js,plFits x)∧len<=maxLen:=by
 obtain⟨fuel,hh⟩:=h
 rcases open_slice ht hh with⟨hcs,_⟩|⟨x,l,c,m,k,D,Pl,hcs,_,hl,hm,hmm,_,hr⟩
 ·simp[Value.cells] at hcs
  obtain⟨rfl,rfl,rfl⟩:=hcs
  exact⟨[],⟨rfl,Nat.le_refl _,fun h=>absurd h (by omega)⟩,by simp,Nat.zero_le _⟩
 ·simp[Value.cells] at hcs
  obtain⟨rfl,rfl,rfl⟩:=hcs
  simp only[if_true] at hmm
  obtain⟨o0,k0⟩:=hone_of hone 0 f0 rfl
  obtain⟨o1,k1⟩:=hone_of hone 1 f1 rfl
  obtain⟨f,hf⟩:=pick_below (α:=Int×Int) (p:=fun i z=>W.cell? (x.add (2*i))=some (.int .i64 z.1)∧W.cell? (x.add (2*i+1))=some (.int .i64 z.2)∧plFits z) (n:=len) (0,0) (fun i hi=>by
   obtain⟨cs',hc,hd⟩:=hr i (by omega)
   rw[ce] at hc
   obtain⟨_,hlen,hcell⟩:=World.cells?_some hc
   obtain⟨y0,y1,n',_,_,g0,g1⟩:=trod_struct2 he hd
   match cs',hlen with
   | [v0,v1],_ =>
    simp[o0,o1,k0,k1] at g0 g1
    obtain⟨z,e0,_,w0⟩:=DataW.trod_int h0 g0
    obtain⟨y,e1,_,w1⟩:=DataW.trod_int h1 g1
    simp only[List.cons.injEq,and_true] at e0 e1
    subst e0;subst e1
    have hadd:∀j,j<2->(x.add (i*2)).add j=x.add (2*i+j):=fun j _=>by rw[add_add,Nat.mul_comm]
    have c0:=hcell 0 (by omega)
    have c1:=hcell 1 (by omega)
    rw[hadd 0 (by omega)] at c0
    rw[hadd 1 (by omega)] at c1
    simp at c0 c1
    exact⟨(z,y),c0,c1,w0,w1⟩)
  have hg:∀i,i<len->plAt ((List.range len).map f) i=f i:=fun i hi=>by
   unfold plAt
   rw[List.getD_eq_getElem?_getD,List.getElem?_map,List.getElem?_range hi];rfl
  refine⟨(List.range len).map f,⟨by simp,reads_of fun j hj=>?_⟩,?_,by omega⟩
  ·have e:j=2*(j / 2)∨j=2*(j / 2)+1:=by omega
   have hq:=hf (j / 2) (by omega)
   rcases e with e|e
   ·rw[e,cellP0,hg _ (by omega)];exact hq.1
   ·rw[e,cellP1,hg _ (by omega)];exact hq.2.1
  ·intro y hy
   obtain⟨i,hi,rfl⟩:=List.mem_map.1 hy
   exact(hf i (List.mem_range.1 hi)).2.2
theorem make2 {P:Program}(t e:TypeId)(z0 z1:Value)(bytes:Nat)(ht:P.underlying t=some (.slice e))(hinfo:(P.info? e).map (fun i=>(i.zero,i.size,i.bytes))=some (some (.agg #[z0,z1]),2,bytes))
  (n:Nat) (hb:bytes*n<=281474976710656) (h63:n<=9223372036854775807) (w:World) :
  (Instr.makeSlice t (.int .i64 (n:Int)) (.int .i64 (n:Int))).run P w=.ok (.slice (some ⟨w.heap.size,0,none⟩) n n) (w.alloc (.cells (madeCells #[z0,z1] (n*2)) e)):=by
 obtain⟨i,hi,hzz⟩:=Option.map_eq_some_iff.1 hinfo
 simp only[Prod.mk.injEq] at hzz
 obtain⟨hz,hs,hb'⟩:=hzz
 have h:=run_make (P:=P) w t e i (.agg #[z0,z1]) ht hi hz .i64 .i64 (n:Int) (n:Int) (by omega) (by omega) (by rw[hb',<- Int.natCast_mul];generalize bytes*n=q at hb ⊢;omega) (by omega)
 rw[h,hs]
 rfl
theorem madeP (w:World)(n:Nat)(e:TypeId):Owned w.heap.size (w.heap.size+1) (w.alloc (.cells (madeCells #[.int .i64 0,.int .i64 0] (n*2)) e)) (some ⟨w.heap.size,0,none⟩) (2*n) (fun _=>.int .i64 0):=by
 refine⟨by simp,fun _=>⟨w.heap.size,0,rfl,Nat.le_refl _,Nat.lt_succ_self _,fun j hj=>⟨?_,?_⟩⟩⟩
 ·rw[World.cell?_alloc_new,Nat.zero_add]
  have hj':j<n*2:=by omega
  have h3:j % 2=0∨j % 2=1:=by omega
  rcases h3 with h|h<;>simp[madeCells,hj',h]
 ·exact four_frozen (heap_new w _) _
end Go.Proofs.YtgjoepdfhadmcaaGreatDoor
end

section
namespace Go.Proofs.YtgjoepdfhadmcaaGreatDoor
open Go.RowKit
set_option linter.unusedVariables false
set_option maxRecDepth 20000
def txOk (s:ByteArray):Bool:=decide (1<=s.size)&&decide (s.size<=200)
def sqOk (z:Int)(q:Sq):Bool:=decide ((q.1.length:Int)<=z)&&(inB q.2.1 0 1000000&&q.1.all txOk)
def chipOk (z:Int)(qs:List Sq):Bool:=inB z 1 8&&(decide (1<=qs.length)&&(decide (qs.length<=12)&&qs.all (sqOk z)))
theorem sq_all_step {z:Int}{qs:List Sq}{k:Nat}(h:k<qs.length)(h1:(qs.take k).all (sqOk z)=true)(h2:sqOk z (sqAt qs k)=true):(qs.take (k+1)).all (sqOk z)=true:=by
 rw[List.take_succ_eq_append_getElem h,List.all_append,h1]
 unfold sqAt at h2
 rw[List.getD_eq_getElem?_getD,List.getElem?_eq_getElem h] at h2
 simpa using h2
theorem sq_all_fall {z:Int}{qs:List Sq}{k:Nat}(h:k<qs.length)(h2:sqOk z (sqAt qs k)=false):chipOk z qs=false:=by
 have:qs.all (sqOk z)=false:=by
  rw[List.all_eq_false]
  unfold sqAt at h2
  rw[List.getD_eq_getElem?_getD,List.getElem?_eq_getElem h] at h2
  exact⟨qs[k],List.getElem_mem h,by simpa using h2⟩
 unfold chipOk
 rw[this];simp
theorem tx_all_step {ts:List ByteArray}{k:Nat}(h:k<ts.length)(h1:(ts.take k).all txOk=true)(h2:txOk (ts.getD k ByteArray.empty)=true):(ts.take (k+1)).all txOk=true:=by
 rw[List.take_succ_eq_append_getElem h,List.all_append,h1]
 rw[List.getD_eq_getElem?_getD,List.getElem?_eq_getElem h] at h2
 simpa using h2
theorem tx_all_fall {ts:List ByteArray}{k:Nat}(h:k<ts.length)(h2:txOk (ts.getD k ByteArray.empty)=false):ts.all txOk=false:=by
 rw[List.all_eq_false]
 rw[List.getD_eq_getElem?_getD,List.getElem?_eq_getElem h] at h2
 exact⟨ts[k],List.getElem_mem h,by simpa using h2⟩
set_option maxHeartbeats 1600000 in
theorem specChipOk_any (z:Int)(a:Option Addr)(n cap:Nat)(qs:List Sq)(w:World){lo hi:Nat}(h:Squares lo hi w a n qs)(hhi:hi<=w.heap.size)(hn:n<=1048576)(hf:∀x∈qs,sqFits x) :
  Calls Tryz.prog 72 #[.agg #[.int .i64 z,.slice a n cap]] w fun e w'=>e=.returned (.bool (chipOk z qs))∧Below w.heap.size w w':=by
 obtain⟨wA,hwA⟩:∃wA,wA=w.alloc (.cells #[.int .i64 z,.slice a n cap] 26):=⟨_,rfl⟩
 have hzA:wA.heap.size=w.heap.size+1:=by rw[hwA];simp
 have HBA:Hid (Below w.heap.size w wA):=by rw[hwA];exact(Below.refl _ _).alloc (Nat.le_refl _) _
 have H1:Hid (wA.heap[w.heap.size]?=some (.cells #[.int .i64 z,.slice a n cap] 26)):=by rw[hwA];exact heap_new _ _
 have HSQ:=hide (h.later HBA.out hhi)
 have HL:=hide h.1
 have HF:=hide hf
 clear h hf
 obtain⟨hA0,hA1⟩:=two_cells H1.out
 by_cases hz:inB z 1 8=true
 ·by_cases h1:1<=n
  ·by_cases h12:n<=12
   ·have e1:decide ((n:Int)<1)=false:=by simp;omega
    have e2:decide ((n:Int) > 12)=false:=by simp;omega
    go_enter Tryz.func72,Tryz.ntmps72
    go_wp2_with fail
    rw[<- hwA]
    clear hwA
    refine(l1In_any z 1 8 wA).mono ?_
    rintro e w1 ⟨rfl,rfl⟩
    rw[hz]
    go_wp2_with fail
    clear hA0 hA1 e1 e2
    have HZZ:=hide hz
    clear hz
    go_loopw [3] (fun i wr=>∃k:Nat,k<=n∧i=.int .i64 (k:Int)∧(qs.take k).all (sqOk z)=true∧Below wA.heap.size wA wr) (fun i _=>n-(intOf i).toNat)
    case atStart=>exact⟨0,Nat.zero_le _,rfl,by simp,Below.refl _ _⟩
    case round =>
     obtain⟨k,hk,rfl,hall,hbel⟩:=hrel
     obtain⟨hA0,hA1⟩:=two_cells (block_on H1.out hbel)
     have HAL:=hide hall
     have HBB:=hide hbel
     clear hall
     by_cases hlt:k<n
     ·have hql:k<qs.length:=by rw[HL.out];exact hlt
      obtain⟨_,A,C,hx,ht⟩:=HSQ.out
      obtain⟨b,off,rfl,_,hb,hc⟩:=hx.2 (by omega)
      obtain⟨c0,c1,c2⟩:=sq_cells hc hbel (show b<wA.heap.size by omega) hlt
      have HTX:=hide ((ht k hlt).later hbel (by omega))
      have hl9:(sqAt qs k).1.length<=maxLen:=(HF.out _ (by unfold sqAt;rw[List.getD_eq_getElem?_getD,List.getElem?_eq_getElem hql];exact List.getElem_mem hql)).2.1
      have hwf:(Lit.int .i64 (sqAt qs k).2.1).wf=true:=(HF.out _ (by unfold sqAt;rw[List.getD_eq_getElem?_getD,List.getElem?_eq_getElem hql];exact List.getElem_mem hql)).2.2
      have htf:∀s∈(sqAt qs k).1,s.size<=maxLen:=(HF.out _ (by unfold sqAt;rw[List.getD_eq_getElem?_getD,List.getElem?_eq_getElem hql];exact List.getElem_mem hql)).1
      unfold maxLen at hl9 htf
      have hws:w.heap.size<wr.heap.size:=by have:=hbel.size;omega
      have hA0':(wr.alloc (.cells #[.slice (A k) (sqAt qs k).1.length (C k),.int .i64 (sqAt qs k).2.1,.bool (sqAt qs k).2.2] 42)).cell? ⟨w.heap.size,0,none⟩=some (.int .i64 z):=(((Below.refl wr.heap.size wr).alloc (Nat.le_refl _) _).cell (p:=⟨w.heap.size,0,none⟩) hws).trans hA0
      clear hc hx ht hbel
      have HFA:=hide (fun h=>sq_all_fall (z:=z) hql h)
      have HST:=hide (fun h=>sq_all_step (z:=z) hql HAL.out h)
      generalize sqAt qs k=y at *
      obtain⟨ts,zw,bd⟩:=y
      dsimp only at c0 c1 c2 hl9 hwf htf HTX hA0'
      have HTF:=hide htf
      clear htf hwf
      by_cases hle:(ts.length:Int)<=z
      ·have g1:decide ((ts.length:Int) > z)=false:=by simp;omega
       go_wp2_with fail
       obtain⟨wB,hwB⟩:∃wB,wB=wr.alloc (.cells #[.slice (A k) ts.length (C k),.int .i64 zw,.bool bd] 42):=⟨_,rfl⟩
       rw[<- hwB] at hA0' ⊢
       have HB1:Hid (Below wr.heap.size wr wB):=by rw[hwB];exact(Below.refl _ _).alloc (Nat.le_refl _) _
       have HB0:Hid (wB.heap[wr.heap.size]?=some (.cells #[.slice (A k) ts.length (C k),.int .i64 zw,.bool bd] 42)):=by rw[hwB];exact heap_new _ _
       have HTB:=hide (HTX.out.later HB1.out HTX.out.2.1)
       have HBW:=hide (below_here (below_here HBA.out HBB.out) HB1.out)
       have HBA1:=hide (below_here HBB.out HB1.out)
       clear hwB hA0' HTX
       refine(l1In_any zw 0 1000000 wB).mono ?_
       rintro e w1 ⟨rfl,rfl⟩
       by_cases hin:inB zw 0 1000000=true
       ·rw[hin]
        obtain⟨d0,d1,d2⟩:=three_cells HB0.out
        go_wp2_with fail
        clear d0 d1 d2
        go_loopw [5] (fun i wq=>∃j:Nat,j<=ts.length∧i=.int .i64 (j:Int)∧(ts.take j).all txOk=true∧Below wB.heap.size wB wq) (fun i _=>ts.length-(intOf i).toNat)
        case atStart=>exact⟨0,Nat.zero_le _,rfl,by simp,Below.refl _ _⟩
        case round =>
         obtain⟨j,hj,rfl,hal,hbq⟩:=hrel
         obtain⟨d0,d1,d2⟩:=three_cells (block_on HB0.out hbq)
         have HAT:=hide hal
         have HBQ:=hide hbq
         clear hal
         by_cases hjl:j<ts.length
         ·obtain⟨_,_,hxx⟩:=HTB.out
          obtain⟨b2,off2,hAk,_,hb2,hc2⟩:=hxx (by omega)
          have hcj:wr.cell? ⟨b2,off2+j,none⟩=some (.string (ts.getD j ByteArray.empty)):=(hbq.cell (p:=⟨b2,off2+j,none⟩) (by show b2<_;have:=HTB.out.2.1;omega)).trans (hc2 j hjl)
          rw[hAk] at d0
          clear hxx hc2 hbq
          have HFJ:=hide (fun h=>tx_all_fall (k:=j) hjl h)
          have HSJ:=hide (fun h=>tx_all_step (k:=j) hjl HAT.out h)
          have hx9:(ts.getD j ByteArray.empty).size<=9223372036854775807:=by
           refine Nat.le_trans (HTF.out _ ?_) (by omega)
           rw[List.getD_eq_getElem?_getD,List.getElem?_eq_getElem hjl]
           exact List.getElem_mem _
          have HNA:Hid (ts.all txOk=false->chipOk z qs=false):=fun h=>HFA.out (by unfold sqOk;rw[h];simp)
          generalize ts.getD j ByteArray.empty=x at *
          by_cases hx1:1<=x.size
          ·by_cases hx2:x.size<=200
           ·have q1:decide ((x.size:Int)<1)=false:=by simp;omega
            have q2:decide ((x.size:Int) > 200)=false:=by simp;omega
            have HOK:=hide (HSJ.out (by unfold txOk;rw[decide_eq_true hx1,decide_eq_true hx2];rfl))
            go_wp2_with fail
            exact⟨⟨j+1,by omega,by go_num,HOK.out,HBQ.out⟩,by simp[intOf];omega⟩
           ·have q1:decide ((x.size:Int)<1)=false:=by simp;omega
            have q2:decide ((x.size:Int) > 200)=true:=by simp;omega
            have HNO:=hide (HNA.out (HFJ.out (by unfold txOk;rw[decide_eq_false hx2];simp)))
            go_wp2_with fail
            go_ret
            exact⟨ret_bool HNO.out.symm,below_here HBW.out HBQ.out⟩
          ·have q1:decide ((x.size:Int)<1)=true:=by simp;omega
           have HNO:=hide (HNA.out (HFJ.out (by unfold txOk;rw[decide_eq_false hx1];simp)))
           go_wp2_with fail
           go_ret
           exact⟨ret_bool HNO.out.symm,below_here HBW.out HBQ.out⟩
         ·have HOK:=hide (HST.out (by
           have h9:=HAT.out
           rw[List.take_of_length_le (by omega)] at h9
           unfold sqOk
           rw[decide_eq_true hle,hin,h9];rfl))
          go_wp2_with fail
          exact⟨⟨k+1,by omega,by go_num,HOK.out,below_here HBA1.out HBQ.out⟩,by simp[intOf];omega⟩
       ·have hin':inB zw 0 1000000=false:=by simpa using hin
        rw[hin']
        have HNO:=hide (HFA.out (by unfold sqOk;rw[hin'];simp))
        go_wp2_with fail
        go_ret
        exact⟨ret_bool HNO.out.symm,HBW.out⟩
      ·have g1:decide ((ts.length:Int) > z)=true:=by simp;omega
       have HNO:=hide (HFA.out (by unfold sqOk;rw[decide_eq_false hle];rfl))
       go_wp2_with fail
       go_ret
       exact⟨ret_bool HNO.out.symm,below_here (below_here HBA.out HBB.out) ((Below.refl wr.heap.size wr).alloc (Nat.le_refl _) _)⟩
     ·go_wp2_with fail
      go_ret
      have hq:=HL.out
      refine⟨ret_bool ?_,below_here HBA.out HBB.out⟩
      have h9:=HAL.out
      rw[List.take_of_length_le (by omega)] at h9
      unfold chipOk
      rw[HZZ.out,h9,decide_eq_true (by omega),decide_eq_true (by omega)]
      rfl
   ·have e1:decide ((n:Int)<1)=false:=by simp;omega
    have e2:decide ((n:Int) > 12)=true:=by simp;omega
    have HNO:Hid (chipOk z qs=false):=by show _=_;unfold chipOk;rw[HL.out,decide_eq_false h12];simp
    go_enter Tryz.func72,Tryz.ntmps72
    go_wp2_with fail
    rw[<- hwA]
    clear hwA
    refine(l1In_any z 1 8 wA).mono ?_
    rintro e w1 ⟨rfl,rfl⟩
    rw[hz]
    go_wp2_with fail
    go_ret
    exact⟨ret_bool HNO.out.symm,HBA.out⟩
  ·have e1:decide ((n:Int)<1)=true:=by simp;omega
   have HNO:Hid (chipOk z qs=false):=by show _=_;unfold chipOk;rw[HL.out,decide_eq_false h1];simp
   go_enter Tryz.func72,Tryz.ntmps72
   go_wp2_with fail
   rw[<- hwA]
   clear hwA
   refine(l1In_any z 1 8 wA).mono ?_
   rintro e w1 ⟨rfl,rfl⟩
   rw[hz]
   go_wp2_with fail
   go_ret
   exact⟨ret_bool HNO.out.symm,HBA.out⟩
 ·have hz':inB z 1 8=false:=by simpa using hz
  have HNO:Hid (chipOk z qs=false):=by show _=_;unfold chipOk;rw[hz'];rfl
  go_enter Tryz.func72,Tryz.ntmps72
  go_wp2_with fail
  rw[<- hwA]
  clear hwA
  refine(l1In_any z 1 8 wA).mono ?_
  rintro e w1 ⟨rfl,rfl⟩
  rw[hz']
  go_wp2_with fail
  go_ret
  exact⟨ret_bool HNO.out.symm,HBA.out⟩
end Go.Proofs.YtgjoepdfhadmcaaGreatDoor
end

section
namespace Go.Proofs.YtgjoepdfhadmcaaGreatDoor
open Go.RowKit
set_option linter.unusedVariables false
def plThere (qs:List Sq)(p:Pl):Bool:=inB p.1 0 ((qs.length:Int)-1)&&inB p.2 0 (((sqAt qs p.1.toNat).1.length:Int)-1)
def plOk (qs:List Sq)(ps:List Pl)(i:Nat):Bool:=(plAt ps i==(-1,0))||(plThere qs (plAt ps i)&&(List.range i).all (fun k=>plAt ps k != plAt ps i))
def mapOk (z:Int)(qs:List Sq)(ps:List Pl):Bool:=chipOk z qs&&(decide (1<=ps.length)&&(decide (ps.length<=64)&&(List.range ps.length).all (plOk qs ps)))
theorem mapOk_chip {z:Int}{qs:List Sq}{ps:List Pl}(h:mapOk z qs ps=true):chipOk z qs=true:=by
 unfold mapOk at h;simp only[Bool.and_eq_true] at h;exact h.1
theorem mapOk_len {z:Int}{qs:List Sq}{ps:List Pl}(h:mapOk z qs ps=true):1<=ps.length∧ps.length<=64:=by
 unfold mapOk at h;simp only[Bool.and_eq_true,decide_eq_true_eq] at h;exact⟨h.2.1,h.2.2.1⟩
theorem mapOk_fall {z:Int}{qs:List Sq}{ps:List Pl}{i:Nat}(h:i<ps.length)(hf:plOk qs ps i=false):mapOk z qs ps=false:=by
 have:(List.range ps.length).all (plOk qs ps)=false:=by
  rw[List.all_eq_false]
  exact⟨i,List.mem_range.2 h,by simp[hf]⟩
 unfold mapOk;rw[this];simp
theorem all_range_step {f:Nat->Bool}{k:Nat}(h:(List.range k).all f=true)(hk:f k=true):(List.range (k+1)).all f=true:=by
 rw[List.range_succ,List.all_append,h];simp[hk]
theorem all_range_fall {f:Nat->Bool}{k n:Nat}(h:k<n)(hk:f k=false):(List.range n).all f=false:=by
 rw[List.all_eq_false];exact⟨k,List.mem_range.2 h,by simp[hk]⟩
def liveN (ps:List Pl)(s:Int):Nat:=(ps.filter (fun p=>p.1==s)).length
theorem liveN_step {ps:List Pl}{k:Nat}(h:k<ps.length)(s:Int):liveN (ps.take (k+1)) s=liveN (ps.take k) s+(if(plAt ps k).1==s then 1 else 0):=by
 unfold liveN plAt
 rw[List.take_succ_eq_append_getElem h,List.filter_append,List.length_append,List.getD_eq_getElem?_getD,List.getElem?_eq_getElem h]
 simp only[Option.getD_some,List.filter_cons,List.filter_nil]
 split<;>simp_all
theorem liveN_le (ps:List Pl)(s:Int):liveN ps s<=ps.length:=List.length_filter_le _ _
def live (z:Int)(qs:List Sq)(ps:List Pl)(s:Int):Int:=if mapOk z qs ps&&inB s 0 ((qs.length:Int)-1) then(liveN ps s:Int) else -1
def isEmpty (q:Sq):Bool:=(q.1.length==0)&&!q.2.2
def insW (qs:List Sq)(i:Nat):List Nat->List Nat
 | []=>[i]
 | j::js=>if(sqAt qs j).2.1<=(sqAt qs i).2.1 then j::insW qs i js else i::j::js
def emptyK (qs:List Sq):Nat->List Nat
 | 0=>[]
 | k+1=>if isEmpty (sqAt qs k) then insW qs k (emptyK qs k) else emptyK qs k
def emptyL (z:Int)(qs:List Sq):List Int:=if chipOk z qs then(emptyK qs qs.length).map (fun (i:Nat)=>(i:Int)) else []
def mayV (qs:List Sq)(op:Int)(i:Nat):Bool:=!((sqAt qs i).1.length==0)&&(!(sqAt qs i).2.2&&!((i:Int)==op))
def betterV (qs:List Sq)(ps:List Pl)(i b:Nat):Bool:=decide (liveN ps (i:Int)<liveN ps (b:Int))||(decide (liveN ps (i:Int)=liveN ps (b:Int))&&decide ((sqAt qs i).2.1<(sqAt qs b).2.1))
def bestK (qs:List Sq)(ps:List Pl)(op:Int):Nat->Option Nat
 | 0=>none
 | k+1=>if mayV qs op k then(match bestK qs ps op k with|none=>some k|some b=>if betterV qs ps k b then some k else some b) else bestK qs ps op k
def victimV (z:Int)(qs:List Sq)(ps:List Pl)(op:Int):Int :=
 match bestK qs ps op qs.length with
 | none=> -1
 | some b=>if(liveN ps (b:Int):Int)=z then -1 else(b:Int)
def victim (z:Int)(qs:List Sq)(ps:List Pl)(op:Int):Int:=if mapOk z qs ps then victimV z qs ps op else -1
theorem bestK_lt {qs:List Sq}{ps:List Pl}{op:Int}:∀{k b:Nat},bestK qs ps op k=some b->b<k
 | 0,b,h=>by cases h
 | k+1,b,h=>by
  unfold bestK at h
  split at h
  ·split at h
   ·cases h;omega
   ·rename_i c hc
    have:=bestK_lt hc
    split at h
    ·cases h;omega
    ·cases h;omega
  ·have:=bestK_lt h;omega
theorem insW_length (qs:List Sq)(i:Nat):∀l,(insW qs i l).length=l.length+1
 | []=>rfl
 | j::js=>by
  unfold insW
  split
  ·simp[insW_length qs i js]
  ·rfl
theorem emptyK_length (qs:List Sq):∀k,(emptyK qs k).length<=k
 | 0=>Nat.le_refl _
 | k+1=>by
  have:=emptyK_length qs k
  unfold emptyK
  split
  ·rw[insW_length];omega
  ·omega
theorem insW_mem (qs:List Sq)(i:Nat):∀l x,x∈insW qs i l↔x=i∨x∈l
 | [],x=>by simp[insW]
 | j::js,x=>by
  unfold insW
  split
  ·rw[List.mem_cons,insW_mem qs i js,List.mem_cons]
   constructor
   ·rintro(h|h|h)<;>simp[h]
   ·rintro(h|h|h)<;>simp[h]
  ·simp
theorem emptyK_mem (qs:List Sq):∀k x,x∈emptyK qs k↔x<k∧isEmpty (sqAt qs x)=true
 | 0,x=>by simp[emptyK]
 | k+1,x=>by
  unfold emptyK
  split
  ·rename_i h
   rw[insW_mem,emptyK_mem qs k]
   constructor
   ·rintro(rfl|⟨h1,h2⟩)
    ·exact⟨by omega,h⟩
    ·exact⟨by omega,h2⟩
   ·rintro⟨h1,h2⟩
    by_cases e:x=k
    ·exact .inl e
    ·exact .inr ⟨by omega,h2⟩
  ·rename_i h
   rw[emptyK_mem qs k]
   constructor
   ·rintro⟨h1,h2⟩;exact⟨by omega,h2⟩
   ·rintro⟨h1,h2⟩
    refine⟨?_,h2⟩
    by_cases e:x=k
    ·subst e;exact absurd h2 h
    ·omega
def aheadW (qs:List Sq)(i j:Nat):Prop:=(sqAt qs i).2.1<(sqAt qs j).2.1∨(sqAt qs i).2.1=(sqAt qs j).2.1∧i<j
theorem insW_sorted (qs:List Sq)(i:Nat):∀l,List.Pairwise (aheadW qs) l->(∀x∈l,x<i)->List.Pairwise (aheadW qs) (insW qs i l)
 | [],_,_=>by simp[insW]
 | j::js,h,hl=>by
  unfold insW
  rw[List.pairwise_cons] at h
  split
  ·rename_i hle
   rw[List.pairwise_cons]
   refine⟨fun x hx=>?_,insW_sorted qs i js h.2 (fun x hx=>hl x (by simp[hx]))⟩
   rw[insW_mem] at hx
   rcases hx with rfl|hx
   ·have hj:=hl j (by simp)
    rcases Int.lt_or_eq_of_le hle with h1|h1
    ·exact .inl h1
    ·exact .inr ⟨h1,hj⟩
   ·exact h.1 x hx
  ·rename_i hle
   rw[List.pairwise_cons]
   refine⟨fun x hx=>?_,by rw[List.pairwise_cons];exact h⟩
   have hij:(sqAt qs i).2.1<(sqAt qs j).2.1:=by omega
   rw[List.mem_cons] at hx
   rcases hx with rfl|hx
   ·exact .inl hij
   ·rcases h.1 x hx with h1|h1
    ·exact .inl (by omega)
    ·exact .inl (by omega)
theorem emptyK_sorted (qs:List Sq):∀k,List.Pairwise (aheadW qs) (emptyK qs k)
 | 0=>by simp[emptyK]
 | k+1=>by
  unfold emptyK
  split
  ·exact insW_sorted qs k _ (emptyK_sorted qs k) (fun x hx=>((emptyK_mem qs k x).1 hx).1)
  ·exact emptyK_sorted qs k
theorem aheadW_asymm {qs:List Sq}{i j:Nat}(h:aheadW qs i j)(k:aheadW qs j i):False:=by
 unfold aheadW at h k;omega
theorem sorted_one {qs:List Sq}:∀{l m:List Nat},List.Pairwise (aheadW qs) l->List.Pairwise (aheadW qs) m->(∀x,x∈l↔x∈m)->l=m
 | [],[],_,_,_=>rfl
 | [],b::m,_,_,h=>absurd ((h b).2 (by simp)) (by simp)
 | a::l,[],_,_,h=>absurd ((h a).1 (by simp)) (by simp)
 | a::l,b::m,hl,hm,h=>by
  rw[List.pairwise_cons] at hl hm
  have e:a=b:=by
   have h1:=(h a).1 (by simp)
   have h2:=(h b).2 (by simp)
   rw[List.mem_cons] at h1 h2
   rcases h1 with h1|h1
   ·exact h1
   ·rcases h2 with h2|h2
    ·exact h2.symm
    ·exact(aheadW_asymm (hl.1 b h2) (hm.1 a h1)).elim
  subst e
  have na:a ∉ l:=fun hh=>aheadW_asymm (hl.1 a hh) (hl.1 a hh)
  have nb:a ∉ m:=fun hh=>aheadW_asymm (hm.1 a hh) (hm.1 a hh)
  rw[sorted_one hl.2 hm.2 (fun x=>by
   have:=h x
   simp only[List.mem_cons] at this
   constructor
   ·intro hx
    rcases this.1 (.inr hx) with e|e
    ·subst e;exact absurd hx na
    ·exact e
   ·intro hx
    rcases this.2 (.inr hx) with e|e
    ·subst e;exact absurd hx nb
    ·exact e)]
end Go.Proofs.YtgjoepdfhadmcaaGreatDoor
end

section
namespace Go.Proofs.YtgjoepdfhadmcaaGreatDoor
open Go.RowKit
set_option linter.unusedVariables false
set_option maxRecDepth 20000
def pageAt (z:Int)(qs:List Sq)(s p:Int):ByteArray :=
 if chipOk z qs&&(inB s 0 ((qs.length:Int)-1)&&inB p 0 (((sqAt qs s.toNat).1.length:Int)-1)) then(sqAt qs s.toNat).1.getD p.toNat ByteArray.empty else ByteArray.empty
set_option maxHeartbeats 1600000 in
theorem specPageAt_any (z:Int)(a:Option Addr)(n cap:Nat)(qs:List Sq)(sq pg:Int)(w:World){lo hi:Nat}(h:Squares lo hi w a n qs)(hhi:hi<=w.heap.size)(hn:n<=1048576)(hf:∀x∈qs,sqFits x) :
  Calls Tryz.prog 35 #[.agg #[.int .i64 z,.slice a n cap],.int .i64 sq,.int .i64 pg] w fun e w'=>e=.returned (.string (pageAt z qs sq pg))∧Below w.heap.size w w':=by
 obtain⟨wA,hwA⟩:∃wA,wA=w.alloc (.cells #[.int .i64 z,.slice a n cap] 26):=⟨_,rfl⟩
 have hzA:wA.heap.size=w.heap.size+1:=by rw[hwA];simp
 have HBA:Hid (Below w.heap.size w wA):=by rw[hwA];exact(Below.refl _ _).alloc (Nat.le_refl _) _
 have H1:Hid (wA.heap[w.heap.size]?=some (.cells #[.int .i64 z,.slice a n cap] 26)):=by rw[hwA];exact heap_new _ _
 have HSQ:=hide (h.later HBA.out hhi)
 have HL:=hide h.1
 have HF:=hide hf
 clear h hf
 go_enter Tryz.func35,Tryz.ntmps35
 go_wp2_with fail
 rw[<- hwA]
 clear hwA
 refine(specChipOk_any z a n cap qs wA HSQ.out (by omega) hn HF.out).mono ?_
 rintro e w1 ⟨rfl,b1⟩
 obtain⟨a0,a1⟩:=two_cells (block_on H1.out b1)
 have HS1:=hide (HSQ.out.later b1 (by omega))
 have hs1:=b1.size
 have HB1:=hide (below_here HBA.out b1)
 clear b1 H1 HSQ HBA
 by_cases hok:chipOk z qs=true
 ·rw[hok]
  go_wp2_with fail
  refine(l1In_any sq 0 ((n:Int)-1) w1).mono ?_
  rintro e w2 ⟨rfl,rfl⟩
  by_cases hin:inB sq 0 ((n:Int)-1)=true
  ·rw[hin]
   have hin2:=hin
   unfold inB at hin2
   simp only[Bool.and_eq_true,decide_eq_true_eq] at hin2
   obtain⟨i,rfl⟩:∃i:Nat,sq=(i:Int):=⟨sq.toNat,by omega⟩
   have hlt:i<n:=by omega
   have hql:i<qs.length:=by rw[HL.out];exact hlt
   obtain⟨_,A,C,hx,ht⟩:=HS1.out
   obtain⟨b,off,rfl,_,hb,hc⟩:=hx.2 (by omega)
   obtain⟨c0,c1,c2⟩:=sq_cells hc (Below.refl w1.heap.size w1) (show b<w1.heap.size by have:=hx.1;omega) hlt
   have hfi:=sq_fits HF.out hql
   have hl9:=hfi.2.1
   unfold maxLen at hl9
   have HTX:=hide (ht i hlt)
   have HE:Hid (pageAt z qs (i:Int) pg=if inB pg 0 (((sqAt qs i).1.length:Int)-1) then(sqAt qs i).1.getD pg.toNat ByteArray.empty else ByteArray.empty):=by
    show _=_
    unfold pageAt
    rw[HL.out,hok,hin]
    simp
   clear hc hx ht hfi hin hin2
   generalize sqAt qs i=y at *
   obtain⟨ts,zw,bd⟩:=y
   dsimp only at c0 c1 c2 hl9 HTX HE
   go_wp2_with fail
   refine(l1In_any pg 0 ((ts.length:Int)-1) w1).mono ?_
   rintro e w2 ⟨rfl,rfl⟩
   by_cases hip:inB pg 0 ((ts.length:Int)-1)=true
   ·rw[hip]
    rw[hip] at HE
    unfold inB at hip
    simp only[Bool.and_eq_true,decide_eq_true_eq] at hip
    obtain⟨j,rfl⟩:∃j:Nat,pg=(j:Int):=⟨pg.toNat,by omega⟩
    have hjl:j<ts.length:=by omega
    obtain⟨b2,off2,hAk,_,hb2,hc2⟩:=HTX.out.2.2 (by omega)
    have hcj:w1.cell? ⟨b2,off2+j,none⟩=some (.string (ts.getD j ByteArray.empty)):=hc2 j hjl
    have HE2:Hid (pageAt z qs (i:Int) (j:Int)=ts.getD j ByteArray.empty):=HE.out
    rw[hAk] at c0 ⊢
    clear hc2 HTX HE
    generalize ts.getD j ByteArray.empty=x at *
    go_wp2_with fail
    go_ret
    exact⟨by rw[HE2.out];rfl,HB1.out⟩
   ·have hip':inB pg 0 ((ts.length:Int)-1)=false:=by simpa using hip
    rw[hip']
    rw[hip'] at HE
    have HNO:Hid (pageAt z qs (i:Int) pg=ByteArray.empty):=HE.out
    clear HE
    go_wp2_with fail
    go_ret
    exact⟨by rw[HNO.out];rfl,HB1.out⟩
  ·have hin':inB sq 0 ((n:Int)-1)=false:=by simpa using hin
   have HNO:Hid (pageAt z qs sq pg=ByteArray.empty):=by show _=_;unfold pageAt;rw[HL.out,hin'];simp
   rw[hin']
   go_wp2_with fail
   go_ret
   exact⟨by rw[HNO.out];rfl,HB1.out⟩
 ·have hok':chipOk z qs=false:=by simpa using hok
  have HNO:Hid (pageAt z qs sq pg=ByteArray.empty):=by show _=_;unfold pageAt;rw[hok'];rfl
  rw[hok']
  go_wp2_with fail
  go_ret
  exact⟨by rw[HNO.out];rfl,HB1.out⟩
end Go.Proofs.YtgjoepdfhadmcaaGreatDoor
end

section
namespace Go.Proofs.YtgjoepdfhadmcaaGreatDoor
open Go.RowKit
set_option linter.unusedVariables false
set_option maxRecDepth 20000
def canK (z:Int)(q:Sq)(kd:Int)(tx:ByteArray):Bool :=
 if kd=1 then decide ((q.1.length:Int)<z)&&txOk tx else if kd=2 then decide (q.2.1<1000000) else decide (kd=3)
def canJ (z:Int)(qs:List Sq)(j:Jb):Bool:=inB j.2.1 0 ((qs.length:Int)-1)&&(!(sqAt qs j.2.1.toNat).2.2&&canK z (sqAt qs j.2.1.toNat) j.1 j.2.2)
set_option maxHeartbeats 1600000 in
theorem l8Can_any (z:Int)(a:Option Addr)(n cap:Nat)(qs:List Sq)(kd sq:Int)(tx:ByteArray)(w:World){lo hi:Nat}(h:Squares lo hi w a n qs)(hhi:hi<=w.heap.size)(hn:n<=1048576)(hf:∀x∈qs,sqFits x)(htx:tx.size<=maxLen) :
  Calls Tryz.prog 129 #[.agg #[.int .i64 z,.slice a n cap],.agg #[.int .i64 kd,.int .i64 sq,.string tx]] w fun e w'=>e=.returned (.bool (canJ z qs (kd,sq,tx)))∧Below w.heap.size w w':=by
 obtain⟨wA,hwA⟩:∃wA,wA=(w.alloc (.cells #[.int .i64 z,.slice a n cap] 26)).alloc (.cells #[.int .i64 kd,.int .i64 sq,.string tx] 98):=⟨_,rfl⟩
 have hzA:wA.heap.size=w.heap.size+1+1:=by rw[hwA];simp
 have HBA:Hid (Below w.heap.size w wA):=by rw[hwA];exact((Below.refl _ _).alloc (Nat.le_refl _) _).alloc (by simp) _
 have H1:Hid (wA.heap[w.heap.size]?=some (.cells #[.int .i64 z,.slice a n cap] 26)):=by rw[hwA];exact heap_old (heap_new _ _)
 have H2:Hid (wA.heap[w.heap.size+1]?=some (.cells #[.int .i64 kd,.int .i64 sq,.string tx] 98)):=by rw[hwA];exact heap_at (by simp)
 have HSQ:=hide (h.later HBA.out hhi)
 have HL:=hide h.1
 have HF:=hide hf
 unfold maxLen at htx
 clear h hf
 go_enter Tryz.func129,Tryz.ntmps129
 go_wp2_with fail
 rw[<- hwA]
 clear hwA
 refine(l1In_any sq 0 ((n:Int)-1) wA).mono ?_
 rintro e w1 ⟨rfl,rfl⟩
 obtain⟨a0,a1⟩:=two_cells H1.out
 obtain⟨b0,b1,b2⟩:=three_cells H2.out
 by_cases hin:inB sq 0 ((n:Int)-1)=true
 ·rw[hin]
  have hin2:=hin
  unfold inB at hin2
  simp only[Bool.and_eq_true,decide_eq_true_eq] at hin2
  obtain⟨i,rfl⟩:∃i:Nat,sq=(i:Int):=⟨sq.toNat,by omega⟩
  have hlt:i<n:=by omega
  have hql:i<qs.length:=by rw[HL.out];exact hlt
  obtain⟨_,A,C,hx,ht⟩:=HSQ.out
  obtain⟨b,off,rfl,_,hb,hc⟩:=hx.2 (by omega)
  obtain⟨c0,c1,c2⟩:=sq_cells hc (Below.refl wA.heap.size wA) (show b<wA.heap.size by have:=hx.1;omega) hlt
  have hfi:=sq_fits HF.out hql
  have hl9:=hfi.2.1
  unfold maxLen at hl9
  have HE:Hid (canJ z qs (kd,(i:Int),tx)=(!(sqAt qs i).2.2&&canK z (sqAt qs i) kd tx)):=by
   show _=_
   unfold canJ
   dsimp only
   rw[HL.out,hin]
   simp
  clear hc hx ht hfi hin hin2
  generalize sqAt qs i=y at *
  obtain⟨ts,zw,bd⟩:=y
  dsimp only at c0 c1 c2 hl9
  cases bd with
  | true =>
   go_wp2_with fail
   go_ret
   exact⟨ret_bool (by rw[HE.out];rfl),HBA.out⟩
  | false =>
   have hb0:w.heap.size<wA.heap.size:=by omega
   have hb1:w.heap.size+1<wA.heap.size:=by omega
   have HBB:=hide ((Below.refl wA.heap.size wA).alloc (Nat.le_refl _) (.cells #[.slice (A i) ts.length (C i),.int .i64 zw,.bool false] 42))
   have a0':=(HBB.out.cell (p:=⟨w.heap.size,0,none⟩) hb0).trans a0
   have b0':=(HBB.out.cell (p:=⟨w.heap.size+1,0,none⟩) hb1).trans b0
   have b2':=(HBB.out.cell (p:=⟨w.heap.size+1,2,none⟩) hb1).trans b2
   have HBF:=hide (below_here HBA.out HBB.out)
   have HE2:Hid (canJ z qs (kd,(i:Int),tx)=canK z (ts,zw,false) kd tx):=HE.out
   clear HE
   by_cases k1:kd=1
   ·subst k1
    by_cases m1:(ts.length:Int)<z
    ·by_cases m2:1<=tx.size
     ·have g1:decide ((ts.length:Int)<z)=true:=by simpa using m1
      have g2:decide ((1:Int)<=(tx.size:Int))=true:=by simp;omega
      have g2':decide ((tx.size:Int)>=1)=true:=g2
      have HV:Hid (canK z (ts,zw,false) 1 tx=decide ((tx.size:Int)<=200)):=by
       show _=_
       unfold canK txOk
       rw[if_pos rfl,g1,decide_eq_true m2]
       simp
       omega
      go_wp2_with fail
      go_ret
      exact⟨ret_bool (by rw[HE2.out,HV.out]),HBF.out⟩
     ·have g1:decide ((ts.length:Int)<z)=true:=by simpa using m1
      have g2:decide ((1:Int)<=(tx.size:Int))=false:=by simp;omega
      have g2':decide ((tx.size:Int)>=1)=false:=g2
      have HV:Hid (canK z (ts,zw,false) 1 tx=false):=by
       show _=_
       unfold canK txOk
       rw[if_pos rfl,decide_eq_false m2]
       simp
      go_wp2_with fail
      go_ret
      exact⟨ret_bool (by rw[HE2.out,HV.out]),HBF.out⟩
    ·have g1:decide ((ts.length:Int)<z)=false:=by simpa using m1
     have HV:Hid (canK z (ts,zw,false) 1 tx=false):=by
      show _=_
      unfold canK
      rw[if_pos rfl,g1]
      rfl
     go_wp2_with fail
     go_ret
     exact⟨ret_bool (by rw[HE2.out,HV.out]),HBF.out⟩
   ·by_cases k2:kd=2
    ·subst k2
     go_wp2_with fail
     go_ret
     exact⟨ret_bool (by rw[HE2.out];rfl),HBF.out⟩
    ·have g1:(kd==1)=false:=by simpa using k1
     have g2:(kd==2)=false:=by simpa using k2
     have HV:Hid (canK z (ts,zw,false) kd tx=(kd==3)):=by
      show _=_
      unfold canK
      rw[if_neg k1,if_neg k2]
      rfl
     go_wp2_with fail
     go_ret
     exact⟨ret_bool (by rw[HE2.out,HV.out]),HBF.out⟩
 ·have hin':inB sq 0 ((n:Int)-1)=false:=by simpa using hin
  rw[hin']
  have HNO:Hid (canJ z qs (kd,sq,tx)=false):=by show _=_;unfold canJ;dsimp only;rw[HL.out,hin'];rfl
  go_wp2_with fail
  go_ret
  exact⟨ret_bool HNO.out.symm,HBA.out⟩
end Go.Proofs.YtgjoepdfhadmcaaGreatDoor
end

section
namespace Go.Proofs.YtgjoepdfhadmcaaGreatDoor
open Go.RowKit
set_option linter.unusedVariables false
abbrev Rk:=Int×Int×Int
def lessR (a b:Rk):Prop:=a.1<b.1∨a.1=b.1∧(a.2.1<b.2.1∨a.2.1=b.2.1∧a.2.2<b.2.2)
instance (a b:Rk):Decidable (lessR a b):=by unfold lessR;infer_instance
theorem lessR_asymm {a b:Rk}(h:lessR a b)(k:lessR b a):False:=by unfold lessR at h k;omega
theorem leR_trans {a b c:Rk}(h:¬lessR b a)(k:¬lessR c b):¬lessR c a:=by unfold lessR at *;omega
theorem leR_of_less {a b:Rk}(h:lessR a b):¬lessR b a:=fun k=>lessR_asymm h k
theorem leR_anti {a b:Rk}(h:¬lessR a b)(k:¬lessR b a):a=b:=by
 obtain⟨a1,a2,a3⟩:=a
 obtain⟨b1,b2,b3⟩:=b
 unfold lessR at *
 dsimp only at *
 have e1:a1=b1:=by omega
 have e2:a2=b2:=by omega
 have e3:a3=b3:=by omega
 rw[e1,e2,e3]
def swp (f:Nat->Rk)(i j:Nat)(k:Nat):Rk:=if k=i then f j else if k=j then f i else f k
theorem swp_l (f:Nat->Rk)(i j:Nat):swp f i j i=f j:=by simp[swp]
theorem swp_r (f:Nat->Rk)(i j:Nat):swp f i j j=f i:=by
 unfold swp;by_cases h:j=i
 ·rw[if_pos h,h]
 ·rw[if_neg h,if_pos rfl]
theorem swp_o (f:Nat->Rk)(i j:Nat){k:Nat}(h1:k≠i)(h2:k≠j):swp f i j k=f k:=by simp[swp,h1,h2]
theorem swp_at (f:Nat->Rk)(i j k:Nat):∃m,swp f i j k=f m∧(k=i∧m=j∨k=j∧m=i∨k≠i∧k≠j∧m=k):=by
 by_cases h1:k=i
 ·exact⟨j,by rw[h1,swp_l],.inl ⟨h1,rfl⟩⟩
 ·by_cases h2:k=j
  ·exact⟨i,by rw[h2,swp_r],.inr (.inl ⟨h2,rfl⟩)⟩
  ·exact⟨k,swp_o f i j h1 h2,.inr (.inr ⟨h1,h2,rfl⟩)⟩
def SameR (n:Nat)(f g:Nat->Rk):Prop:=∃p q:Nat->Nat,(∀i,i<n->p i<n∧q i<n∧q (p i)=i∧p (q i)=i∧g i=f (p i))
theorem SameR.refl (n:Nat)(f:Nat->Rk):SameR n f f:=⟨id,id,fun i hi=>⟨hi,hi,rfl,rfl,rfl⟩⟩
theorem SameR.trans {n:Nat}{f g h:Nat->Rk}(a:SameR n f g)(b:SameR n g h):SameR n f h:=by
 obtain⟨p,q,hp⟩:=a
 obtain⟨r,s,hr⟩:=b
 refine⟨fun i=>p (r i),fun i=>s (q i),fun i hi=>?_⟩
 obtain⟨r1,r2,r3,r4,r5⟩:=hr i hi
 obtain⟨p1,p2,p3,p4,p5⟩:=hp (r i) r1
 obtain⟨q1,q2,q3,q4,q5⟩:=hp i hi
 refine⟨p1,(hr _ q2).2.1,?_,?_,by rw[r5,p5]⟩
 ·show s (q (p (r i)))=i
  rw[p3,r3]
 ·show p (r (s (q i)))=i
  rw[(hr _ q2).2.2.2.1,q4]
theorem SameR.swp {n:Nat}(f:Nat->Rk){i j:Nat}(hi:i<n)(hj:j<n):SameR n f (swp f i j):=by
 refine⟨fun k=>if k=i then j else if k=j then i else k,fun k=>if k=i then j else if k=j then i else k,fun k hk=>?_⟩
 have e:∀k,k<n->(if k=i then j else if k=j then i else k)<n∧(if(if k=i then j else if k=j then i else k)=i then j else if(if k=i then j else if k=j then i else k)=j then i else(if k=i then j else if k=j then i else k))=k:=by
  intro k hk
  by_cases h1:k=i
  ·subst h1;simp
   exact hj
  ·by_cases h2:k=j
   ·subst h2;simp[h1];exact hi
   ·simp[h1,h2];exact hk
 refine⟨(e k hk).1,(e k hk).1,(e k hk).2,(e k hk).2,?_⟩
 show Go.Proofs.YtgjoepdfhadmcaaGreatDoor.swp f i j k=_
 unfold Go.Proofs.YtgjoepdfhadmcaaGreatDoor.swp
 show _=f (if k=i then j else if k=j then i else k)
 by_cases h1:k=i
 ·rw[if_pos h1,if_pos h1]
 ·by_cases h2:k=j
  ·rw[if_neg h1,if_neg h1,if_pos h2,if_pos h2]
  ·rw[if_neg h1,if_neg h1,if_neg h2,if_neg h2]
theorem SameR.mem {n:Nat}{f g:Nat->Rk}(a:SameR n f g)(x:Rk):(∃i,i<n∧g i=x)↔(∃i,i<n∧f i=x):=by
 obtain⟨p,q,hp⟩:=a
 constructor
 ·rintro⟨i,hi,e⟩
  exact⟨p i,(hp i hi).1,by rw[<- (hp i hi).2.2.2.2,e]⟩
 ·rintro⟨i,hi,e⟩
  obtain⟨q1,q2,q3,q4,q5⟩:=hp i hi
  exact⟨q i,q2,by rw[(hp _ q2).2.2.2.2,q4,e]⟩
def InjR (n:Nat)(f:Nat->Rk):Prop:=∀i j,i<n->j<n->f i=f j->i=j
theorem SameR.inj {n:Nat}{f g:Nat->Rk}(a:SameR n f g)(h:InjR n f):InjR n g:=by
 obtain⟨p,q,hp⟩:=a
 intro i j hi hj e
 rw[(hp i hi).2.2.2.2,(hp j hj).2.2.2.2] at e
 have:=h _ _ (hp i hi).1 (hp j hj).1 e
 rw[<- (hp i hi).2.2.1,<- (hp j hj).2.2.1,this]
def HeapR (n:Nat)(f:Nat->Rk):Prop:=∀k,0<k->k<n->¬lessR (f k) (f ((k-1) / 2))
def UpR (n:Nat)(f:Nat->Rk)(j:Nat):Prop :=
 (∀k,0<k->k<n->k≠j->¬lessR (f k) (f ((k-1) / 2)))∧(∀k,0<k->k<n->(k-1) / 2=j->0<j->¬lessR (f k) (f ((j-1) / 2)))
theorem UpR.start {n:Nat}{f:Nat->Rk}(h:HeapR n f):UpR (n+1) f n :=
 ⟨fun k h1 h2 h3=>h k h1 (by omega),fun k h1 h2 h3 _=>by omega⟩
theorem UpR.stop {n:Nat}{f:Nat->Rk}{j:Nat}(h:UpR n f j)(hj:j=0∨¬lessR (f j) (f ((j-1) / 2))):HeapR n f:=by
 intro k h1 h2
 by_cases e:k=j
 ·subst e
  rcases hj with h0|h0
  ·omega
  ·exact h0
 ·exact h.1 k h1 h2 e
theorem UpR.step {n:Nat}{f:Nat->Rk}{j:Nat}(h:UpR n f j)(hj:0<j)(hn:j<n)(hl:lessR (f j) (f ((j-1) / 2))):UpR n (swp f ((j-1) / 2) j) ((j-1) / 2):=by
 have hpar:(j-1) / 2<j:=by omega
 generalize hi:(j-1) / 2=i at *
 refine⟨fun k h1 h2 h3=>?_,fun k h1 h2 h3 h4=>?_⟩
 ·by_cases e:k=j
  ·subst e
   rw[swp_r,hi,swp_l]
   exact leR_of_less hl
  ·rw[swp_o f i j h3 e]
   by_cases e1:(k-1) / 2=i
   ·rw[e1,swp_l]
    have:=h.1 k h1 h2 e
    rw[e1] at this
    exact leR_trans (leR_of_less hl) this
   ·by_cases e2:(k-1) / 2=j
    ·rw[e2,swp_r]
     have:=h.2 k h1 h2 e2 hj
     rw[hi] at this
     exact this
    ·rw[swp_o f i j e1 e2]
     exact h.1 k h1 h2 e
 ·have hii:(i-1) / 2≠i:=by omega
  have hij:(i-1) / 2≠j:=by omega
  rw[swp_o f i j hii hij]
  have hi2:=h.1 i h4 (by omega) (by omega)
  by_cases e:k=j
  ·subst e
   rw[swp_r]
   exact hi2
  ·rw[swp_o f i j (by omega) e]
   have:=h.1 k h1 h2 e
   rw[h3] at this
   exact leR_trans hi2 this
def DownR (n:Nat)(f:Nat->Rk)(i:Nat):Prop :=
 (∀k,0<k->k<n->(k-1) / 2≠i->¬lessR (f k) (f ((k-1) / 2)))∧(∀k,0<k->k<n->(k-1) / 2=i->0<i->¬lessR (f k) (f ((i-1) / 2)))
theorem DownR.start {n:Nat}{f g:Nat->Rk}(h:HeapR (n+1) f)(hg:∀k,0<k->k<n->g k=f k):DownR n g 0:=by
 refine⟨fun k h1 h2 h3=>?_,fun k h1 h2 h3 h4=>by omega⟩
 rw[hg k h1 h2,hg ((k-1) / 2) (by omega) (by omega)]
 exact h k h1 (by omega)
theorem DownR.stop {n:Nat}{f:Nat->Rk}{i:Nat}(h:DownR n f i)(h1:2*i+1<n->¬lessR (f (2*i+1)) (f i))(h2:2*i+2<n->¬lessR (f (2*i+2)) (f i)):HeapR n f:=by
 intro k hk hn
 by_cases e:(k-1) / 2=i
 ·rw[e]
  by_cases e1:k=2*i+1
  ·subst e1;exact h1 hn
  ·obtain rfl:k=2*i+2:=by omega
   exact h2 hn
 ·exact h.1 k hk hn e
theorem DownR.step {n:Nat}{f:Nat->Rk}{i j:Nat}(h:DownR n f i)(hj:j=2*i+1∨j=2*i+2)(hn:j<n)(hl:lessR (f j) (f i))
  (hm:∀k,(k=2*i+1∨k=2*i+2)->k<n->¬lessR (f k) (f j)):DownR n (swp f i j) j:=by
 have hpj:(j-1) / 2=i:=by omega
 have hij:i<j:=by omega
 refine⟨fun k h1 h2 h3=>?_,fun k h1 h2 h3 h4=>?_⟩
 ·by_cases e1:(k-1) / 2=i
  ·rw[e1,swp_l]
   by_cases e2:k=j
   ·subst e2
    rw[swp_r]
    exact leR_of_less hl
   ·rw[swp_o f i j (by omega) e2]
    exact hm k (by omega) h2
  ·rw[swp_o f i j e1 h3]
   by_cases e2:k=i
   ·subst e2
    rw[swp_l]
    have:=h.2 j (by omega) hn hpj h1
    exact this
   ·have e3:k≠j:=fun e=>e1 (by rw[e];exact hpj)
    rw[swp_o f i j e2 e3]
    exact h.1 k h1 h2 e1
 ·rw[hpj,swp_l]
  have e1:k≠i:=by omega
  have e2:k≠j:=by omega
  rw[swp_o f i j e1 e2]
  have:=h.1 k h1 h2 (by omega)
  rw[h3] at this
  exact this
theorem HeapR.least {n:Nat}{f:Nat->Rk}(h:HeapR n f):∀k,k<n->¬lessR (f k) (f 0):=by
 intro k
 induction k using Nat.strongRecOn with
 | ind k ih =>
  intro hk
  by_cases e:k=0
  ·subst e;exact fun hh=>lessR_asymm hh hh
  ·have h1:=h k (by omega) hk
   have h2:=ih ((k-1) / 2) (by omega) (by omega)
   exact leR_trans h2 h1
theorem HeapR.none (f:Nat->Rk):HeapR 0 f:=fun k _ h=>absurd h (by omega)
end Go.Proofs.YtgjoepdfhadmcaaGreatDoor
end

section
namespace Go.Proofs.YtgjoepdfhadmcaaGreatDoor
open Go.RowKit Go.ChangeShapes Go.WideShapes Go.ChangeAt Go.Deep
set_option linter.unusedVariables false
theorem array5 {α:Type}{cs:Array α}(h:cs.size=5):∃c0 c1 c2 c3 c4,cs=#[c0,c1,c2,c3,c4]:=by
 obtain⟨l⟩:=cs
 match l,h with
 | [c0,c1,c2,c3,c4],_=>exact⟨c0,c1,c2,c3,c4,rfl⟩
theorem ftl_read {H:Type}{enc:TypeId×Value->H}{P:Program}{W:World}{r:Reach}{b0:Nat}{T e s pe:TypeId}{h0 h1 h2 h3 g0 g1 f0 f1 f2 p0 p1:Field}{v:Value}{d:DataW H}{ps:List MemPlace}
  (hT:P.underlying T=some (.struct #[h0,h1,h2,h3])) (hC:P.cellsOf T=5) (offs:(h0.offset,h1.offset,h2.offset,h3.offset)=(0,2,3,4)) (szs:(P.cellsOf h0.type,P.cellsOf h1.type,P.cellsOf h2.type,P.cellsOf h3.type)=(2,1,1,1))
  (hc:P.underlying h0.type=some (.struct #[g0,g1])) (honeT:oneCellFields P #[g0,g1]=true) (hg0:P.underlying g0.type=some (.int .i64))
  (ht:P.underlying g1.type=some (.slice e)) (he:P.underlying e=some (.struct #[f0,f1,f2])) (ce:P.cellsOf e=3) (hone:oneCellFields P #[f0,f1,f2]=true)
  (k0:P.underlying f0.type=some (.slice s)) (hs:P.underlying s=some .string) (cs1:P.cellsOf s=1) (k1:P.underlying f1.type=some (.int .i64)) (k2:P.underlying f2.type=some .bool)
  (hp:P.underlying h1.type=some (.slice pe)) (hpe:P.underlying pe=some (.struct #[p0,p1])) (cpe:P.cellsOf pe=2) (honep:oneCellFields P #[p0,p1]=true)
  (hp0:P.underlying p0.type=some (.int .i64)) (hp1:P.underlying p1.type=some (.int .i64)) (ho:P.underlying h2.type=some (.int .i64)) (hst:P.underlying h3.type=some (.int .i64))
  (hv:Value.okWide P W r b0 T v) (h:DataW.Trod enc P W 0 (fun _=>true) true T v d ps) :
  ∃(z:Int) (a:Option Addr) (len cap:Nat) (qs:List Sq) (am:Option Addr) (m cm:Nat) (pl:List Pl) (op st:Int),v=.agg #[.int .i64 z,.slice a len cap,.slice am m cm,.int .i64 op,.int .i64 st]∧(Lit.int .i64 z).wf=true∧Squares 0 W.heap.size W a len qs∧(∀x∈qs,sqFits x)∧len<=maxLen ∧
   Places 0 W.heap.size W am m pl∧(∀x∈pl,plFits x)∧m<=maxLen∧(Lit.int .i64 op).wf=true∧(Lit.int .i64 st).wf=true:=by
 simp only[Prod.mk.injEq] at offs szs
 obtain⟨o0,o1,o2,o3⟩:=offs
 obtain⟨c0,c1,c2,c3⟩:=szs
 obtain⟨cs,rfl,hsz⟩:=Go.WideShapes.okWide_struct hT hv
 obtain⟨x0,x1,x2,x3,x4,rfl⟩:=array5 (hsz.trans hC)
 obtain⟨fuel,hf⟩:=h
 obtain⟨y0,y1,y2,y3,n,_,_,t0,t1,t2,t3⟩:=Go.Joins.trod_struct4 hT hf
 rw[o0,c0] at t0
 rw[o1,c1] at t1
 rw[o2,c2] at t2
 rw[o3,c3] at t3
 simp[Value.cells] at t0 t1 t2 t3
 obtain⟨u0,u1,n',_,_,s0,s1⟩:=trod_struct2 hc t0
 obtain⟨q0,r0⟩:=hone_of honeT 0 g0 rfl
 obtain⟨q1,r1⟩:=hone_of honeT 1 g1 rfl
 simp[q0,r0,q1,r1] at s0 s1
 obtain⟨z,e0,_,kz⟩:=DataW.trod_int hg0 s0
 obtain⟨a,len,cap,e1⟩:=Go.Joins.slice_form ht s1
 obtain⟨am,m,cm,e2⟩:=Go.Joins.slice_form hp t1
 obtain⟨op,e3,_,ko⟩:=DataW.trod_int ho t2
 obtain⟨st,e4,_,ks⟩:=DataW.trod_int hst t3
 simp only[List.cons.injEq,and_true] at e0 e1 e2 e3 e4
 subst e0;subst e1;subst e2;subst e3;subst e4
 obtain⟨qs,g3,g4,g5⟩:=squares_read ht he ce hone k0 hs cs1 k1 k2 (show DataW.trod enc P W 0 (fun _=>true) true n' g1.type [.slice a len cap]=some (u1.1,u1.2) from s1)
 obtain⟨pl,g6,g7,g8⟩:=places_read (d:=y1.1) (ps:=y1.2) hp hpe cpe honep hp0 hp1 ⟨n,by simpa[Value.cells] using t1⟩
 exact⟨z,a,len,cap,qs,am,m,cm,pl,op,st,rfl,kz,g3,g4,g5,g6,g7,g8,ko,ks⟩
end Go.Proofs.YtgjoepdfhadmcaaGreatDoor
end

section
namespace Go.Proofs.YtgjoepdfhadmcaaGreatDoor
open Go.RowKit
set_option linter.unusedVariables false
set_option maxRecDepth 20000
theorem five_cells {W:World}{b:Nat}{c0 c1 c2 c3 c4:Value}{t:TypeId}{fr:Nat×Nat}(h:W.heap[b]?=some (.cells #[c0,c1,c2,c3,c4] t fr)) :
  W.cell? ⟨b,0,none⟩=some c0∧W.cell? ⟨b,1,none⟩=some c1∧W.cell? ⟨b,2,none⟩=some c2∧W.cell? ⟨b,3,none⟩=some c3∧W.cell? ⟨b,4,none⟩=some c4:=by
 simp[World.cell?,h]
theorem five_set {W:World}{b:Nat}{c0 c1 c2 c3 c4:Value}{t:TypeId}{fr:Nat×Nat}(h:W.heap[b]?=some (.cells #[c0,c1,c2,c3,c4] t fr))(v0 v1 v2 v3 v4:Value) :
  (((((W.setCell ⟨b,0,none⟩ v0).setCell ⟨b,1,none⟩ v1).setCell ⟨b,2,none⟩ v2).setCell ⟨b,3,none⟩ v3).setCell ⟨b,4,none⟩ v4).heap[b]?=some (.cells #[v0,v1,v2,v3,v4] t fr) :=
 set_block (set_block (set_block (set_block (set_block h 0 v0 (by simp)) 1 v1 (by simp)) 2 v2 (by simp)) 3 v3 (by simp)) 4 v4 (by simp)
theorem five_aside {lo hi b:Nat}{a w:World}(h:Aside lo hi a w)(h1:lo<=b)(h2:b<hi)(v0 v1 v2 v3 v4:Value) :
  Aside lo hi a (((((w.setCell ⟨b,0,none⟩ v0).setCell ⟨b,1,none⟩ v1).setCell ⟨b,2,none⟩ v2).setCell ⟨b,3,none⟩ v3).setCell ⟨b,4,none⟩ v4) :=
 ((((h.setCell (p:=⟨b,0,none⟩) h1 h2 v0).setCell (p:=⟨b,1,none⟩) h1 h2 v1).setCell (p:=⟨b,2,none⟩) h1 h2 v2).setCell (p:=⟨b,3,none⟩) h1 h2 v3).setCell (p:=⟨b,4,none⟩) h1 h2 v4
theorem Places.mk_of {lo hi n:Nat}{w w':World}{a:Option Addr}{ps:List Pl}(h:Places lo hi w a n ps){l r:Nat}(hb:Aside l r w w')(hB:hi<=l∨r<=lo):Places lo hi w' a n ps:=⟨h.1,h.2.aside hb hB⟩
end Go.Proofs.YtgjoepdfhadmcaaGreatDoor
end

section
namespace Go.Proofs.YtgjoepdfhadmcaaGreatDoor
open Go.RowKit
set_option linter.unusedVariables false
set_option maxRecDepth 20000
set_option maxHeartbeats 400000 in
theorem isLayout_any (q z:Int)(w:World) :
  Calls Tryz.prog 134 #[.int .i64 q,.int .i64 z] w fun e w'=>e=.returned (.bool (inB q 1 12&&inB z 1 8))∧w=w':=by
 by_cases h1:1<=q
 ·have g1:decide (q>=1)=true:=by simpa using h1
  by_cases h2:q<=12
  ·by_cases h3:1<=z
   ·have g3:decide (z>=1)=true:=by simpa using h3
    have HE:Hid ((inB q 1 12&&inB z 1 8)=decide (z<=8)):=by show _=_;simp[inB,h1,h2,h3]
    go_enter Tryz.func134,Tryz.ntmps134
    go_wp2_with fail
    go_ret
    exact⟨ret_bool HE.out.symm,rfl⟩
   ·have g3:decide (z>=1)=false:=by simpa using h3
    have HE:Hid ((inB q 1 12&&inB z 1 8)=false):=by show _=_;simp[inB,h3]
    go_enter Tryz.func134,Tryz.ntmps134
    go_wp2_with fail
    go_ret
    exact⟨ret_bool HE.out.symm,rfl⟩
  ·have HE:Hid ((inB q 1 12&&inB z 1 8)=false):=by show _=_;simp[inB,h2]
   go_enter Tryz.func134,Tryz.ntmps134
   go_wp2_with fail
   go_ret
   exact⟨ret_bool HE.out.symm,rfl⟩
 ·have g1:decide (q>=1)=false:=by simpa using h1
  have HE:Hid ((inB q 1 12&&inB z 1 8)=false):=by show _=_;simp[inB,h1]
  go_enter Tryz.func134,Tryz.ntmps134
  go_wp2_with fail
  go_ret
  exact⟨ret_bool HE.out.symm,rfl⟩
set_option maxHeartbeats 400000 in
theorem canBeWritten_any (s:ByteArray)(w:World)(hs:s.size<=maxLen) :
  Calls Tryz.prog 174 #[.string s] w fun e w'=>e=.returned (.bool (txOk s))∧w=w':=by
 unfold maxLen at hs
 by_cases h1:s=⟨#[]⟩
 ·subst h1
  go_enter Tryz.func174,Tryz.ntmps174
  go_wp2_with fail
  go_ret
  exact⟨rfl,rfl⟩
 ·have h2:1<=s.size:=by
   rcases Nat.eq_zero_or_pos s.size with h|h
   ·exact absurd (ByteArray.ext (Array.eq_empty_of_size_eq_zero h)) h1
   ·exact h
  have g1:s.toList.isEmpty=false:=by
   rw[List.isEmpty_eq_false_iff]
   intro e
   rw[ByteArray.toList_eq] at e
   have h3:s.data.toList.length=s.size:=rfl
   rw[e] at h3
   simp at h3
   omega
  clear h1
  have HE:Hid (txOk s=decide ((s.size:Int)<=200)):=by show _=_;unfold txOk;rw[decide_eq_true h2,Bool.true_and];congr 1;apply propext;omega
  go_enter Tryz.func174,Tryz.ntmps174
  go_wp2_with fail
  go_ret
  exact⟨ret_bool HE.out.symm,rfl⟩
set_option maxHeartbeats 800000 in
theorem isSquare_any (a:Option Addr)(cap:Nat)(ts:List ByteArray)(zw:Int)(bd:Bool)(z:Int)(w:World){lo hi:Nat}(h:Texts lo hi w a ts.length ts)(hhi:hi<=w.heap.size)(hn:ts.length<=maxLen)(hts:∀s∈ts,s.size<=maxLen) :
  Calls Tryz.prog 135 #[.agg #[.slice a ts.length cap,.int .i64 zw,.bool bd],.int .i64 z] w fun e w'=>e=.returned (.bool (sqOk z (ts,zw,bd)))∧Below w.heap.size w w':=by
 obtain⟨wA,hwA⟩:∃wA,wA=w.alloc (.cells #[.slice a ts.length cap,.int .i64 zw,.bool bd] 42):=⟨_,rfl⟩
 have hzA:wA.heap.size=w.heap.size+1:=by rw[hwA];simp
 have HBA:Hid (Below w.heap.size w wA):=by rw[hwA];exact(Below.refl _ _).alloc (Nat.le_refl _) _
 have H1:Hid (wA.heap[w.heap.size]?=some (.cells #[.slice a ts.length cap,.int .i64 zw,.bool bd] 42)):=by rw[hwA];exact heap_new _ _
 have HT:=hide (h.later HBA.out hhi)
 have HF:=hide hts
 unfold maxLen at hn
 clear h hts
 obtain⟨c0,c1,c2⟩:=three_cells H1.out
 by_cases hle:(ts.length:Int)<=z
 ·have g1:decide ((ts.length:Int) > z)=false:=by simp;omega
  by_cases h0:0<=zw
  ·have g2:decide (zw<0)=false:=by simp;omega
   by_cases hM:zw<=1000000
   ·have g3:decide (zw > 1000000)=false:=by simp;omega
    have HE:Hid (sqOk z (ts,zw,bd)=ts.all txOk):=by show _=_;unfold sqOk inB;simp[hle,h0,hM]
    go_enter Tryz.func135,Tryz.ntmps135
    go_wp2_with fail
    rw[<- hwA]
    clear hwA c0 c1 c2 g1 g2 g3
    go_loopw [25,6] (fun i _ wr=>∃k:Nat,k<=ts.length∧i=.int .i64 (k:Int)∧(ts.take k).all txOk=true∧wA=wr) (fun i _ _=>ts.length-(intOf i).toNat)
    case atStart=>exact⟨0,Nat.zero_le _,rfl,by simp,rfl⟩
    case round =>
     obtain⟨k,hk,rfl,hall,rfl⟩:=hrel
     have HA:=hide hall
     clear hall
     by_cases hlt:k<ts.length
     ·obtain⟨_,_,hx⟩:=HT.out
      obtain⟨b,off,rfl,_,hb,hc⟩:=hx (by omega)
      have hck:wA.cell? ⟨b,off+k,none⟩=some (.string (ts.getD k ByteArray.empty)):=hc k hlt
      clear hc hx
      have HFJ:=hide (fun h=>tx_all_fall (k:=k) hlt h)
      have HSJ:=hide (fun h=>tx_all_step (k:=k) hlt HA.out h)
      have hx9:(ts.getD k ByteArray.empty).size<=maxLen:=by
       refine HF.out _ ?_
       rw[List.getD_eq_getElem?_getD,List.getElem?_eq_getElem hlt]
       exact List.getElem_mem _
      generalize ts.getD k ByteArray.empty=x at *
      go_wp2_with fail
      refine(canBeWritten_any x wA hx9).mono ?_
      rintro e w1 ⟨rfl,rfl⟩
      cases hx:txOk x with
      | true =>
       have HOK:=hide (HSJ.out hx)
       go_wp2_with fail
       exact⟨⟨k+1,by omega,by go_num,HOK.out,trivial⟩,by simp[intOf];omega⟩
      | false =>
       have HNO:=hide (HFJ.out hx)
       go_wp2_with fail
       go_ret
       exact⟨ret_bool (by rw[HE.out,HNO.out]),HBA.out⟩
     ·go_wp2_with fail
      go_ret
      refine⟨ret_bool ?_,HBA.out⟩
      have h9:=HA.out
      rw[List.take_of_length_le (by omega)] at h9
      rw[HE.out,h9]
   ·have g3:decide (zw > 1000000)=true:=by simp;omega
    have HE:Hid (sqOk z (ts,zw,bd)=false):=by show _=_;unfold sqOk inB;simp[hM]
    go_enter Tryz.func135,Tryz.ntmps135
    go_wp2_with fail
    rw[<- hwA]
    go_ret
    exact⟨ret_bool HE.out.symm,HBA.out⟩
  ·have g2:decide (zw<0)=true:=by simp;omega
   have HE:Hid (sqOk z (ts,zw,bd)=false):=by show _=_;unfold sqOk inB;simp[h0]
   go_enter Tryz.func135,Tryz.ntmps135
   go_wp2_with fail
   rw[<- hwA]
   go_ret
   exact⟨ret_bool HE.out.symm,HBA.out⟩
 ·have g1:decide ((ts.length:Int) > z)=true:=by simp;omega
  have HE:Hid (sqOk z (ts,zw,bd)=false):=by show _=_;unfold sqOk;simp[hle]
  go_enter Tryz.func135,Tryz.ntmps135
  go_wp2_with fail
  rw[<- hwA]
  go_ret
  exact⟨ret_bool HE.out.symm,HBA.out⟩
set_option maxHeartbeats 1600000 in
theorem implChipOk_any (z:Int)(a:Option Addr)(n cap:Nat)(qs:List Sq)(w:World){lo hi:Nat}(h:Squares lo hi w a n qs)(hhi:hi<=w.heap.size)(hn:n<=1048576)(hf:∀x∈qs,sqFits x) :
  Calls Tryz.prog 75 #[.agg #[.int .i64 z,.slice a n cap]] w fun e w'=>e=.returned (.bool (chipOk z qs))∧Below w.heap.size w w':=by
 obtain⟨wA,hwA⟩:∃wA,wA=w.alloc (.cells #[.int .i64 z,.slice a n cap] 26):=⟨_,rfl⟩
 have hzA:wA.heap.size=w.heap.size+1:=by rw[hwA];simp
 have HBA:Hid (Below w.heap.size w wA):=by rw[hwA];exact(Below.refl _ _).alloc (Nat.le_refl _) _
 have H1:Hid (wA.heap[w.heap.size]?=some (.cells #[.int .i64 z,.slice a n cap] 26)):=by rw[hwA];exact heap_new _ _
 have HSQ:=hide (h.later HBA.out hhi)
 have HL:=hide h.1
 have HF:=hide hf
 clear h hf
 obtain⟨a0,a1⟩:=two_cells H1.out
 go_enter Tryz.func75,Tryz.ntmps75
 go_wp2_with fail
 rw[<- hwA]
 clear hwA
 refine(isLayout_any (n:Int) z wA).mono ?_
 rintro e w1 ⟨rfl,rfl⟩
 cases hlay:(inB (n:Int) 1 12&&inB z 1 8) with
 | false =>
  have HNO:Hid (chipOk z qs=false):=by
   show _=_
   unfold chipOk
   rw[HL.out]
   unfold inB at hlay ⊢
   by_cases h1:1<=n<;>by_cases h2:n<=12<;>by_cases h3:1<=z<;>by_cases h4:z<=8<;>simp[h1,h2,h3,h4] at hlay ⊢<;>omega
  go_wp2_with fail
  go_ret
  exact⟨ret_bool HNO.out.symm,HBA.out⟩
 | true =>
  have HYES:Hid (chipOk z qs=qs.all (sqOk z)):=by
   show _=_
   unfold chipOk
   rw[HL.out]
   unfold inB at hlay ⊢
   simp at hlay
   rw[decide_eq_true (show(1:Int)<=z by omega),decide_eq_true (show z<=8 by omega),decide_eq_true (show 1<=n by omega),decide_eq_true (show n<=12 by omega)]
   simp
  clear hlay
  go_wp2_with fail
  clear a0 a1
  go_loopw [15,4] (fun i _ wr=>∃k:Nat,k<=n∧i=.int .i64 (k:Int)∧(qs.take k).all (sqOk z)=true∧Below wA.heap.size wA wr) (fun i _ _=>n-(intOf i).toNat)
  case atStart=>exact⟨0,Nat.zero_le _,rfl,by simp,Below.refl _ _⟩
  case round =>
   obtain⟨k,hk,rfl,hall,hbel⟩:=hrel
   have HAL:=hide hall
   have HBB:=hide hbel
   clear hall
   by_cases hlt:k<n
   ·have hql:k<qs.length:=by rw[HL.out];exact hlt
    obtain⟨_,A,C,hx,ht⟩:=HSQ.out
    obtain⟨b,off,rfl,_,hb,hc⟩:=hx.2 (by omega)
    obtain⟨c0,c1,c2⟩:=sq_cells hc hbel (show b<wA.heap.size by omega) hlt
    have HTX:=hide ((ht k hlt).later hbel (by omega))
    have HFI:=hide (sq_fits HF.out hql)
    have HFA:=hide (fun h=>sq_all_fall (z:=z) hql h)
    have HST:=hide (fun h=>sq_all_step (z:=z) hql HAL.out h)
    clear hc hx ht
    generalize sqAt qs k=y at *
    obtain⟨ts,zw,bd⟩:=y
    dsimp only at c0 c1 c2
    obtain⟨wB,hwB⟩:∃wB,wB=wr.alloc (.cells #[.slice (A k) ts.length (C k),.int .i64 zw,.bool bd] 42):=⟨_,rfl⟩
    have HB1:Hid (Below wr.heap.size wr wB):=by rw[hwB];exact(Below.refl _ _).alloc (Nat.le_refl _) _
    have HB0:Hid (wB.heap[wr.heap.size]?=some (.cells #[.slice (A k) ts.length (C k),.int .i64 zw,.bool bd] 42)):=by rw[hwB];exact heap_new _ _
    obtain⟨a0,a1⟩:=two_cells (block_on (block_on H1.out hbel) HB1.out)
    have HTB:=hide (HTX.out.later HB1.out HTX.out.2.1)
    have hzB:wB.heap.size=wr.heap.size+1:=by rw[hwB];simp
    rw[hwB] at a0 a1
    go_wp2_with fail
    rw[<- hwB]
    clear a0 a1 c0 c1 c2 hwB
    refine(isSquare_any (A k) (C k) ts zw bd z wB HTB.out (by have:=HTX.out.2.1;omega) HFI.out.2.1 HFI.out.1).mono ?_
    rintro e w2 ⟨rfl,b2⟩
    have HB2:=hide (below_here (below_here HBB.out HB1.out) b2)
    clear b2 hbel
    cases hok:sqOk z (ts,zw,bd) with
    | true =>
     have HOK:=hide (HST.out hok)
     go_wp2_with fail
     exact⟨⟨k+1,by omega,by go_num,HOK.out,HB2.out⟩,by simp[intOf];omega⟩
    | false =>
     have HNO:=hide (HFA.out hok)
     go_wp2_with fail
     go_ret
     exact⟨ret_bool HNO.out.symm,below_here HBA.out HB2.out⟩
   ·go_wp2_with fail
    go_ret
    refine⟨ret_bool ?_,below_here HBA.out HBB.out⟩
    have h9:=HAL.out
    rw[List.take_of_length_le (by rw[HL.out];omega)] at h9
    rw[HYES.out,h9]
set_option maxHeartbeats 400000 in
theorem hasSquare_any (z:Int)(a:Option Addr)(n cap:Nat)(q:Int)(w:World) :
  Calls Tryz.prog 144 #[.agg #[.int .i64 z,.slice a n cap],.int .i64 q] w fun e w'=>e=.returned (.bool (inB q 0 ((n:Int)-1)))∧Below w.heap.size w w':=by
 have HBA:=hide ((Below.refl w.heap.size w).alloc (Nat.le_refl _) (.cells #[.int .i64 z,.slice a n cap] 26))
 by_cases h0:0<=q
 ·have g0:decide (q>=0)=true:=by simpa using h0
  have HE:Hid (inB q 0 ((n:Int)-1)=decide (q<(n:Int))):=by show _=_;unfold inB;rw[decide_eq_true h0,Bool.true_and];congr 1;apply propext;omega
  go_enter Tryz.func144,Tryz.ntmps144
  go_wp2_with fail
  go_ret
  exact⟨ret_bool HE.out.symm,HBA.out⟩
 ·have g0:decide (q>=0)=false:=by simpa using h0
  have HE:Hid (inB q 0 ((n:Int)-1)=false):=by show _=_;unfold inB;rw[decide_eq_false h0,Bool.false_and]
  go_enter Tryz.func144,Tryz.ntmps144
  go_wp2_with fail
  go_ret
  exact⟨ret_bool HE.out.symm,HBA.out⟩
end Go.Proofs.YtgjoepdfhadmcaaGreatDoor
end

section
namespace Go.Proofs.YtgjoepdfhadmcaaGreatDoor
open Go.RowKit
set_option linter.unusedVariables false
set_option maxRecDepth 20000
theorem sqAt_new (n i:Nat):sqAt (List.replicate n (([],0,false):Sq)) i=([],0,false):=by
 unfold sqAt
 rw[List.getD_eq_getElem?_getD,List.getElem?_replicate]
 split<;>rfl
theorem cellQ_new (n j:Nat):zero3 j=cellQ (fun _=>none) (fun _=>0) (List.replicate n (([],0,false):Sq)) j:=by
 unfold cellQ zero3
 rw[sqAt_new]
 rfl
theorem squares_new {lo g n:Nat}{w:World}(h:Owned g (g+1) w (some ⟨g,0,none⟩) (3*n) zero3)(hlo:lo<=g):OwnSquares lo w.heap.size w (some ⟨g,0,none⟩) n (List.replicate n ([],0,false)):=by
 have hs:=h.1
 refine⟨g,0,fun _=>none,fun _=>0,fun _=>g,⟨by simp,h.congr (fun j _=>cellQ_new n j),fun _=>rfl,fun i _=>?_,fun i _=>by rw[sqAt_new];exact Nat.le_refl _,⟨hlo,by omega⟩,fun i _=>⟨hlo,by omega⟩,fun i _ h'=>?_,fun i j _ _ _ h'=>?_,Nat.le_refl _⟩⟩
 ·rw[sqAt_new]
  exact⟨rfl,hs,fun h'=>absurd h' (by simp)⟩
 ·rw[sqAt_new] at h'
  exact absurd h' (by simp)
 ·rw[sqAt_new] at h'
  exact absurd h' (by simp)
set_option maxHeartbeats 1600000 in
theorem specNewChip_any (n:Nat)(z:Int)(w:World)(h1:1<=n)(h2:n<=12)(hz:inB z 1 8=true) :
  Calls Tryz.prog 94 #[.int .i64 (n:Int),.int .i64 z] w fun e w'=>∃a,e=.returned (.tuple #[.agg #[.int .i64 z,.slice a n n],.bool true])∧OwnSquares w.heap.size w'.heap.size w' a n (List.replicate n ([],0,false))∧Below w.heap.size w w':=by
 obtain⟨wA,hwA⟩:∃wA,wA=w.alloc (.cells #[.int .i64 0,.slice none 0 0] 26):=⟨_,rfl⟩
 have hzA:wA.heap.size=w.heap.size+1:=by rw[hwA];simp
 have HBA:Hid (Below w.heap.size w wA):=by rw[hwA];exact(Below.refl _ _).alloc (Nat.le_refl _) _
 have H1:Hid (wA.heap[w.heap.size]?=some (.cells #[.int .i64 0,.slice none 0 0] 26)):=by rw[hwA];exact heap_new _ _
 have hi:inB (n:Int) 1 12=true:=by unfold inB;simp;omega
 have hmk:=make3 (P:=Tryz.prog) 24 42 (.slice none 0 0) (.int .i64 0) (.bool false) 40 Tryz.underlying24 Tryz.infoSq n (by omega) (by omega) wA
 go_enter Tryz.func94,Tryz.ntmps94
 go_wp2_with fail
 rw[<- hwA]
 clear hwA
 refine(l1In_any (n:Int) 1 12 wA).mono ?_
 rintro e w1 ⟨rfl,rfl⟩
 rw[hi]
 go_wp2_with fail
 refine(l1In_any z 1 8 wA).mono ?_
 rintro e w1 ⟨rfl,rfl⟩
 rw[hz]
 obtain⟨a0,a1⟩:=two_cells H1.out
 have f0:=four_frozen H1.out 0
 have f1:=four_frozen H1.out 1
 go_wp2_with fail
 have HRS:=hide (two_set H1.out (.int .i64 z) (.slice (some ⟨w.heap.size+1,0,none⟩) n n))
 have HAS:=hide (two_aside (b:=w.heap.size) (Aside.refl w.heap.size (w.heap.size+1) wA) (Nat.le_refl _) (Nat.lt_succ_self _) (.int .i64 z) (.slice (some ⟨w.heap.size+1,0,none⟩) n n))
 have hsW:((wA.setCell ⟨w.heap.size,0,none⟩ (.int .i64 z)).setCell ⟨w.heap.size,1,none⟩ (.slice (some ⟨w.heap.size+1,0,none⟩) n n)).heap.size=w.heap.size+1:=by rw[Go.Deep.nblk_setCell,Go.Deep.nblk_setCell,hzA]
 have HBW:=hide (HBA.out.trans (HAS.out.below (Nat.le_refl _) (by omega)))
 have HOW:=hide (made3 ((wA.setCell ⟨w.heap.size,0,none⟩ (.int .i64 z)).setCell ⟨w.heap.size,1,none⟩ (.slice (some ⟨w.heap.size+1,0,none⟩) n n)) n 42)
 rw[hsW] at HOW
 refine bodyPost_ret (results_ct rfl rfl (run_loadVar_row _ _ _ _ _ _ _ (heap_old HRS.out) Tryz.underlying26 rfl (by kernel_rfl))) rfl ⟨_,rfl,squares_new HOW.out (by omega),HBW.out.alloc (by omega) _⟩
set_option maxHeartbeats 800000 in
theorem specNewChip_no (q z:Int)(w:World)(h:(inB q 1 12&&inB z 1 8)=false) :
  Calls Tryz.prog 94 #[.int .i64 q,.int .i64 z] w fun e w'=>e=.returned (.tuple #[.agg #[.int .i64 0,.slice none 0 0],.bool false])∧Below w.heap.size w w':=by
 obtain⟨wA,hwA⟩:∃wA,wA=w.alloc (.cells #[.int .i64 0,.slice none 0 0] 26):=⟨_,rfl⟩
 have hzA:wA.heap.size=w.heap.size+1:=by rw[hwA];simp
 have HBA:Hid (Below w.heap.size w wA):=by rw[hwA];exact(Below.refl _ _).alloc (Nat.le_refl _) _
 have H1:Hid (wA.heap[w.heap.size]?=some (.cells #[.int .i64 0,.slice none 0 0] 26)):=by rw[hwA];exact heap_new _ _
 obtain⟨a0,a1⟩:=two_cells H1.out
 have f0:=four_frozen H1.out 0
 have f1:=four_frozen H1.out 1
 have HRS:=hide (two_set H1.out (.int .i64 0) (.slice none 0 0))
 have HAS:=hide (two_aside (b:=w.heap.size) (Aside.refl w.heap.size (w.heap.size+1) wA) (Nat.le_refl _) (Nat.lt_succ_self _) (.int .i64 0) (.slice none 0 0))
 have HBW:=hide (HBA.out.trans (HAS.out.below (Nat.le_refl _) (by omega)))
 go_enter Tryz.func94,Tryz.ntmps94
 go_wp2_with fail
 rw[<- hwA]
 clear hwA
 refine(l1In_any q 1 12 wA).mono ?_
 rintro e w1 ⟨rfl,rfl⟩
 by_cases hq:inB q 1 12=true
 ·rw[hq] at h ⊢
  have hz:inB z 1 8=false:=by simpa using h
  go_wp2_with fail
  refine(l1In_any z 1 8 wA).mono ?_
  rintro e w1 ⟨rfl,rfl⟩
  rw[hz]
  go_wp2_with fail
  refine bodyPost_ret (results_ct rfl rfl (run_loadVar_row _ _ _ _ _ _ _ HRS.out Tryz.underlying26 rfl (by kernel_rfl))) rfl ⟨rfl,HBW.out⟩
 ·have hq':inB q 1 12=false:=by simpa using hq
  rw[hq']
  go_wp2_with fail
  refine bodyPost_ret (results_ct rfl rfl (run_loadVar_row _ _ _ _ _ _ _ HRS.out Tryz.underlying26 rfl (by kernel_rfl))) rfl ⟨rfl,HBW.out⟩
end Go.Proofs.YtgjoepdfhadmcaaGreatDoor
end

section
namespace Go.Proofs.YtgjoepdfhadmcaaGreatDoor
open Go.RowKit
set_option linter.unusedVariables false
set_option maxRecDepth 20000
set_option maxHeartbeats 800000 in
theorem mul64_one (n:Nat)(h:n<=64)(w:World) :
  Calls Tryz.prog 207 #[.int .u64 1,.int .u64 (n:Int)] w fun e w'=>e=.returned (.tuple #[.int .u64 0,.int .u64 (n:Int)])∧w'=w:=by
 have m1:bits .and .u64 (n:Int) 4294967295=(n:Int):=by
  have h:=bits_and_u64_nat n 4294967295 (by omega) (by omega)
  have e:n&&&4294967295=n % 4294967296:=Nat.and_two_pow_sub_one_eq_mod n 32
  rw[e,Nat.mod_eq_of_lt (by omega)] at h
  exact h
 have m2:(n:Int) / 4294967296=0:=by omega
 have m3:IntKind.u64.wrap (n:Int)=(n:Int):=by rw[IntKind.wrap_u64];omega
 have m0:bits .and .u64 1 4294967295=1:=by decide
 have m4:bits .and .u64 0 4294967295=0:=by decide
 have m5:IntKind.u64.wrap 0=0:=by decide
 go_enter Tryz.func207,Tryz.ntmps207
 go_wp2_with fail
 go_ret2
 exact⟨by simp,rfl⟩
set_option maxHeartbeats 800000 in
theorem mul_one (n:Nat)(h:n<=64)(w:World) :
  Calls Tryz.prog 173 #[.int .u64 1,.int .u64 (n:Int)] w fun e w'=>e=.returned (.tuple #[.int .u64 0,.int .u64 (n:Int)])∧w'=w:=by
 go_enter Tryz.func173,Tryz.ntmps173
 go_wp2_with fail
 refine(mul64_one n h w).mono ?_
 rintro e w' ⟨rfl,hw⟩
 rw[hw]
 go_wp2_with fail
 go_ret2
 exact⟨rfl,rfl⟩
theorem copy_two {P:Program}(w:World)(dT sT ty elem:TypeId)(b o dLen dCap:Nat)(a:Addr)(sLen sCap c:Nat)(cs:List Value)
  (hu:P.underlying dT=some (.slice elem)) (hs:(P.info? elem).map (·.size)=some 2) (hc0:c=Nat.min sLen dLen) (hn:cs.length=c*2)
  (hsrc:∀j v,cs[j]?=some v->w.cell? (a.add j)=some v) (hc:∀j,j<cs.length->(w.cell? ⟨b,o+j,none⟩).isSome=true) (hf:∀j,j<cs.length->w.frozen? ⟨b,o+j,none⟩=false) (h1:∀v∈cs,v.oneCell'=true) :
  (Builtin.copy_ #[dT,sT] ty #[.slice (some ⟨b,o,none⟩) dLen dCap,.slice (some a) sLen sCap]).run P w=.ok (goInt c) (w.setCells b o cs):=by
 have hl:=run_loadCells_list (P:=P) w a cs hsrc
 have hst:=run_storeCells_cells (P:=P) b o cs 0 w (by simpa using hc) (by simpa using hf) h1
 cases hq:P.info? elem with
 | none=>simp[hq] at hs
 | some i =>
  have hi:i.size=2:=by simpa[hq] using hs
  simp[Builtin.copy_,run_underlying hu,Builtin.lenOf,Builtin.firstCells,sizeOf,typeInfo,hq,hi,<- hc0,<- hn,hl,hst]
theorem setCells_aside (g:Nat):∀(vs:List Value) (o:Nat) (w:World),Aside g (g+1) w (w.setCells g o vs)
 | [],o,w=>Aside.refl _ _ _
 | v::r,o,w=>((Aside.refl g (g+1) w).setCell (p:=⟨g,o,none⟩) (Nat.le_refl _) (Nat.lt_succ_self _) v).trans (setCells_aside g r (o+1) _)
theorem owned_setCells {lo hi g N o:Nat}{w:World}{f f':Nat->Value}(h:Owned lo hi w (some ⟨g,0,none⟩) N f)(cs:List Value)(hN:0<N)(hfit:o+cs.length<=N)(hin:∀j,j<cs.length->cs[j]?=some (f' (o+j)))(hout:∀i,i<N->i<o∨o+cs.length<=i->f' i=f i):Owned lo hi (w.setCells g o cs) (some ⟨g,0,none⟩) N f':=by
 have hA:=setCells_aside g cs o w
 obtain⟨b,off,e,h1,h2,h3⟩:=h.2 hN
 simp only[Option.some.injEq,Addr.mk.injEq,and_true] at e
 obtain⟨rfl,rfl⟩:=e
 refine⟨Nat.le_trans h.1 hA.size,fun _=>⟨g,0,rfl,h1,h2,fun i hi=>⟨?_,?_⟩⟩⟩
 ·rw[Nat.zero_add]
  by_cases hc:i<o∨o+cs.length<=i
  ·rw[World.cell?_setCells_out g cs o w _ (fun _ _=>hc),hout i hi hc]
   have:=(h3 i hi).1
   rw[Nat.zero_add] at this
   exact this
  ·have hj:i-o<cs.length:=by omega
   have:=World.cell?_setCells_in g cs o w (fun j hj=>by have:=(h3 (o+j) (by omega)).1;rw[Nat.zero_add] at this;rw[this];rfl) (i-o) hj
   rw[show o+(i-o)=i by omega] at this
   rw[this]
   have h9:=hin (i-o) hj
   rw[show o+(i-o)=i by omega] at h9
   rw[<- h9,List.getElem?_eq_getElem hj]
 ·rw[World.frozen?_setCells]
  exact(h3 i hi).2
def fillP (k j:Nat):Value:=if j<2*k∧j % 2=0 then .int .i64 (-1) else .int .i64 0
theorem fillP_one (k j:Nat):(fillP k j).oneCell'=true:=by unfold fillP;split<;>rfl
theorem fillP_all (n j:Nat)(h:j<2*n):fillP n j=cellP (List.replicate n (-1,0)) j:=by
 have hp:plAt (List.replicate n ((-1:Int),(0:Int))) (j / 2)=(-1,0):=by
  unfold plAt
  rw[List.getD_eq_getElem?_getD,List.getElem?_replicate]
  split<;>simp
  omega
 unfold fillP
 rcases(show j % 2=0∨j % 2=1 by omega) with h1|h1
 ·rw[if_pos ⟨h,h1⟩]
  have e:j=2*(j / 2):=by omega
  rw[e,cellP0,hp]
 ·rw[if_neg (by omega)]
  have e:j=2*(j / 2)+1:=by omega
  rw[e,cellP1,hp]
theorem copy_fill {lo hi g n k c:Nat}{w:World}(elem dT sT ty:TypeId)(hu:Tryz.prog.underlying dT=some (.slice elem))(hs:(Tryz.prog.info? elem).map (·.size)=some 2)(h:Owned lo hi w (some ⟨g,0,none⟩) (2*n) (fillP k))(hk:k<n)(hk0:1<=k)(hc:c=Nat.min k (n-k)) :
  ∃w1,(Builtin.copy_ #[dT,sT] ty #[.slice (some ⟨g,k*2,none⟩) (n-k) (n-k),.slice (some ⟨g,0,none⟩) k n]).run Tryz.prog w=.ok (goInt c) w1∧Owned lo hi w1 (some ⟨g,0,none⟩) (2*n) (fillP (k+c))∧Aside g (g+1) w w1:=by
 have hck:c<=k:=by rw[hc];exact Nat.min_le_left _ _
 have hcn:c<=n-k:=by rw[hc];exact Nat.min_le_right _ _
 obtain⟨b,off,e,h1,h2,h3⟩:=h.2 (by omega)
 simp only[Option.some.injEq,Addr.mk.injEq,and_true] at e
 obtain⟨rfl,rfl⟩:=e
 have hl:((List.range (c*2)).map (fillP k)).length=c*2:=by simp
 have hrun:=copy_two (P:=Tryz.prog) w dT sT ty elem g (k*2) (n-k) (n-k) ⟨g,0,none⟩ k n c ((List.range (c*2)).map (fillP k)) hu hs hc hl
  (fun j v hj=>by
   have hj2:j<c*2:=by
    rcases Nat.lt_or_ge j (c*2) with h' | h'
    ·exact h'
    ·rw[List.getElem?_eq_none (by rw[hl];exact h')] at hj;simp at hj
   have hadd:(⟨g,0,none⟩:Addr).add j=⟨g,0+j,none⟩:=by unfold Addr.add;split<;>simp_all
   rw[hadd,(h3 j (by omega)).1]
   simpa[hj2] using hj)
  (fun j hj=>by rw[hl] at hj;have:=(h3 (k*2+j) (by omega)).1;rw[Nat.zero_add] at this;rw[this];rfl)
  (fun j hj=>by rw[hl] at hj;have:=(h3 (k*2+j) (by omega)).2;rw[Nat.zero_add] at this;exact this)
  (fun v hv=>by rw[List.mem_map] at hv;obtain⟨i,_,rfl⟩:=hv;exact fillP_one k i)
 refine⟨_,hrun,owned_setCells h _ (by omega) (by rw[hl];omega) (fun j hj=>?_) (fun i hi ho=>?_),setCells_aside g _ _ w⟩
 ·rw[hl] at hj
  rw[List.getElem?_map,List.getElem?_range hj]
  simp only[Option.map_some,Option.some.injEq]
  unfold fillP
  by_cases e:j % 2=0
  ·rw[if_pos (by omega),if_pos (by omega)]
  ·rw[if_neg (by omega),if_neg (by omega)]
 ·rw[hl] at ho
  unfold fillP
  by_cases e:i<2*k∧i % 2=0
  ·rw[if_pos e,if_pos (by omega)]
  ·rw[if_neg e,if_neg (by omega)]
theorem copy_first {lo hi lo' hi' g n:Nat}{w:World}{ad:Addr}{cap:Nat}(elem dT sT ty:TypeId)(hu:Tryz.prog.underlying dT=some (.slice elem))(hs:(Tryz.prog.info? elem).map (·.size)=some 2)(h:Owned lo hi w (some ⟨g,0,none⟩) (2*n) (fun _=>.int .i64 0))(hn:1<=n)(hx:Places lo' hi' w (some ad) 1 [(-1,0)]) :
  ∃w1,(Builtin.copy_ #[dT,sT] ty #[.slice (some ⟨g,0,none⟩) n n,.slice (some ad) 1 cap]).run Tryz.prog w=.ok (goInt 1) w1∧Owned lo hi w1 (some ⟨g,0,none⟩) (2*n) (fillP 1)∧Aside g (g+1) w w1:=by
 obtain⟨b,off,e,h1,h2,h3⟩:=h.2 (by omega)
 simp only[Option.some.injEq,Addr.mk.injEq,and_true] at e
 obtain⟨rfl,rfl⟩:=e
 obtain⟨b,off,e,_,_,h4⟩:=hx.2.2 (by omega)
 simp only[Option.some.injEq] at e
 subst e
 have c0:=h4 0 (by omega)
 have c1:=h4 1 (by omega)
 have hrun:=copy_two (P:=Tryz.prog) w dT sT ty elem g 0 n n ⟨b,off,none⟩ 1 cap 1 [.int .i64 (-1),.int .i64 0] hu hs (by show 1=Nat.min 1 n;exact(Nat.min_eq_left hn).symm) rfl
  (fun j v hj=>by
   rcases j with _|_|j
   ·have e:v=.int .i64 (-1):=by simpa using hj.symm
    rw[e]
    exact c0
   ·have e:v=.int .i64 0:=by simpa using hj.symm
    rw[e]
    have hadd:(⟨b,off,none⟩:Addr).add (0+1)=⟨b,off+1,none⟩:=by unfold Addr.add;split<;>simp_all
    rw[hadd]
    exact c1
   ·simp at hj)
  (fun j hj=>by have hj':j<2:=hj;have:=(h3 j (by omega)).1;rw[this];rfl)
  (fun j hj=>by have hj':j<2:=hj;exact(h3 j (by omega)).2)
  (fun v hv=>by simp at hv;rcases hv with rfl|rfl<;>rfl)
 refine⟨_,hrun,owned_setCells h _ (by omega) (by show 0+2<=2*n;omega) (fun j hj=>?_) (fun i hi ho=>?_),setCells_aside g _ _ w⟩
 ·have hj':j<2:=hj
  rcases j with _|_|j
  ·rfl
  ·rfl
  ·omega
 ·have ho':i<0∨0+2<=i:=ho
  unfold fillP
  rw[if_neg (by omega)]
theorem slice_rest2 {P:Program}(t e:TypeId)(ht:P.underlying t=some (.slice e))(hs:∀w,(sizeOf e).run P w=.ok 2 w)(g n k:Nat)(hk:k<n) :
  ∀w,(Instr.sliceAt t (.slice (some ⟨g,0,none⟩) n n) (some (.int .i64 (k:Int))) none none).run P w=.ok (.slice (some ⟨g,k*2,none⟩) (n-k) (n-k)) w:=by
 intro w
 have he:P.elem t=e:=by simp[Program.elem,ht]
 have ht':P.underlying t=some (.slice (P.elem t)):=by rw[he];exact ht
 rw[run_sliceAt_slice w t _ _ _ _ ht',run_slice_l (P:=P) w t _ n n ht' .i64 (k:Int) (by omega) (by omega),he,hs]
 have:n≠k:=by omega
 simp[sliced,Result.andThen,Addr.add,this]
 omega
theorem slice_first2 {P:Program}(t e:TypeId)(ht:P.underlying t=some (.slice e))(hs:∀w,(sizeOf e).run P w=.ok 2 w)(g n k:Nat)(hk:k<=n) :
  ∀w,(Instr.sliceAt t (.slice (some ⟨g,0,none⟩) n n) none (some (.int .i64 (k:Int))) none).run P w=.ok (.slice (some ⟨g,0,none⟩) k n) w:=by
 intro w
 have he:P.elem t=e:=by simp[Program.elem,ht]
 have ht':P.underlying t=some (.slice (P.elem t)):=by rw[he];exact ht
 rw[run_sliceAt_slice w t _ _ _ _ ht',run_slice_h (P:=P) w t _ n n ht' .i64 (k:Int) (by omega) (by omega),he,hs]
 simp[sliced,Result.andThen,Addr.add]
set_option maxHeartbeats 1600000 in
theorem repeat_any (n:Nat)(w:World){ad:Addr}{lo hi cap:Nat}(hx:Places lo hi w (some ad) 1 [(-1,0)])(hhi:hi<=w.heap.size)(h1:1<=n)(h64:n<=64) :
  Calls Tryz.prog 133 #[.slice (some ad) 1 cap,.int .i64 (n:Int)] w fun e w'=>e=.returned (.slice (some ⟨w.heap.size,0,none⟩) n n)∧OwnPlaces w.heap.size (w.heap.size+1) w' (some ⟨w.heap.size,0,none⟩) n (List.replicate n (-1,0))∧Below w.heap.size w w':=by
 obtain⟨wA,hwA⟩:∃wA,wA=w.alloc (.cells (madeCells #[.int .i64 0,.int .i64 0] (n*2)) 39):=⟨_,rfl⟩
 have HMK:Hid ((Instr.makeSlice 27 (.int .i64 (n:Int)) (.int .i64 (n:Int))).run Tryz.prog w=.ok (.slice (some ⟨w.heap.size,0,none⟩) n n) wA):=by
  rw[hwA]
  exact make2 27 39 (.int .i64 0) (.int .i64 0) 16 (by kernel_rfl) (by kernel_rfl) n (by omega) (by omega) w
 have HB:Hid (Below w.heap.size w wA):=by rw[hwA];exact(Below.refl _ _).alloc (Nat.le_refl _) _
 have HO:Hid (Owned w.heap.size (w.heap.size+1) wA (some ⟨w.heap.size,0,none⟩) (2*n) (fun _=>.int .i64 0)):=by rw[hwA];exact madeP w n _
 have hzA:wA.heap.size=w.heap.size+1:=by rw[hwA];simp
 obtain⟨wB,hcp,hrow,hasd⟩:=copy_first (cap:=cap) 39 27 27 3 (by kernel_rfl) (by kernel_rfl) HO.out h1 (hx.later HB.out hhi)
 have HCP:=hide hcp
 have HR:=hide hrow
 have HA:=hide (aside_new HB.out (lo:=w.heap.size) (hi:=w.heap.size+1)|>.trans hasd)
 clear hcp hrow hasd hx HO HB hwA
 obtain⟨g,hg⟩:∃g,g=w.heap.size:=⟨_,rfl⟩
 have HG:=hide hg
 go_enter Tryz.func133,Tryz.ntmps133
 go_wp2_with fail
 refine(mul_one n h64 w).mono ?_
 rintro e w' ⟨rfl,hw⟩
 rw[hw]
 clear hw
 have hmk:=HMK.out
 have hcp:=HCP.out
 go_wp2_with fail
 clear hmk hcp HMK HCP
 go_loopw [8] (fun t wr=>∃k:Nat,1<=k∧k<=n∧t=.int .i64 (k:Int)∧Owned w.heap.size (w.heap.size+1) wr (some ⟨w.heap.size,0,none⟩) (2*n) (fillP k)∧Aside w.heap.size (w.heap.size+1) w wr) (fun t _=>n-(intOf t).toNat)
 case atStart=>exact⟨1,Nat.le_refl _,h1,rfl,HR.out,HA.out⟩
 case round =>
  obtain⟨k,hk1,hk,rfl,hrow,hasd⟩:=hrel
  have HRW:=hide hrow
  have HAS:=hide hasd
  clear hrow hasd HR HA
  by_cases hlt:k<n
  ·have hlt2:(k:Int)<(n:Int):=by omega
   have hs1:=slice_rest2 (P:=Tryz.prog) 27 39 (by kernel_rfl) (fun _=>by kernel_rfl) w.heap.size n k hlt
   have hs2:=slice_first2 (P:=Tryz.prog) 27 39 (by kernel_rfl) (fun _=>by kernel_rfl) w.heap.size n k (by omega)
   obtain⟨c,hc⟩:∃c,c=Nat.min k (n-k):=⟨_,rfl⟩
   have hc1:1<=c:=by rw[hc];exact Nat.le_min.2 ⟨hk1,by omega⟩
   have hc2:c<=n-k:=by rw[hc];exact Nat.min_le_right _ _
   obtain⟨w1,hcp,hrow,hasd⟩:=copy_fill (w:=wr.drew) 39 27 27 3 (by kernel_rfl) (by kernel_rfl) (show Owned _ _ wr.drew _ _ _ from HRW.out) hlt hk1 hc
   have HN:=hide hrow
   have HNA:Hid (Aside w.heap.size (w.heap.size+1) w w1):=(show Aside _ _ w wr.drew from⟨HAS.out.os,HAS.out.tape,HAS.out.output,HAS.out.size,HAS.out.block⟩).trans hasd
   clear hrow hasd hc
   go_wp2_with fail
   go_region
   go_wp2_with fail
   exact⟨⟨k+c,by omega,by omega,by go_num,HN.out,HNA.out⟩,by simp[intOf];omega⟩
  ·obtain rfl:k=n:=by omega
   go_wp2_with fail
   go_ret
   exact⟨rfl,⟨by simp,HRW.out.congr (fun j hj=>fillP_all k j hj)⟩,HAS.out.below (Nat.le_refl _) (Nat.le_refl _)⟩
end Go.Proofs.YtgjoepdfhadmcaaGreatDoor
end

section
namespace Go.Proofs.YtgjoepdfhadmcaaGreatDoor
open Go.RowKit Go.ChangeShapes Go.WideShapes Go.ChangeAt Go.Deep
set_option linter.unusedVariables false
abbrev Hd:=Int×ByteArray×Bool
def hdAt (hs:List Hd)(i:Nat):Hd:=hs.getD i (0,ByteArray.empty,false)
def cellH (hs:List Hd)(j:Nat):Value :=
 if j % 3=0 then .int .i64 (hdAt hs (j / 3)).1 else if j % 3=1 then .string (hdAt hs (j / 3)).2.1 else .bool (hdAt hs (j / 3)).2.2
theorem cellH0 (hs:List Hd)(i:Nat):cellH hs (3*i)=.int .i64 (hdAt hs i).1:=by
 unfold cellH;rw[if_pos (by omega),show 3*i / 3=i by omega]
theorem cellH1 (hs:List Hd)(i:Nat):cellH hs (3*i+1)=.string (hdAt hs i).2.1:=by
 unfold cellH;rw[if_neg (by omega),if_pos (by omega),show(3*i+1) / 3=i by omega]
theorem cellH2 (hs:List Hd)(i:Nat):cellH hs (3*i+2)=.bool (hdAt hs i).2.2:=by
 unfold cellH;rw[if_neg (by omega),if_neg (by omega),show(3*i+2) / 3=i by omega]
def Helds (lo hi:Nat)(w:World)(a:Option Addr)(n:Nat)(hs:List Hd):Prop:=hs.length=n∧Reads lo hi w a (3*n) (cellH hs)
def OwnHelds (lo hi:Nat)(w:World)(a:Option Addr)(n:Nat)(hs:List Hd):Prop:=hs.length=n∧Owned lo hi w a (3*n) (cellH hs)
def hdFits (h:Hd):Prop:=(Lit.int .i64 h.1).wf=true∧h.2.1.size<=maxLen
section
variable {lo hi n:Nat}{w w':World}{a:Option Addr}{hs:List Hd}
theorem Helds.later (h:Helds lo hi w a n hs){B:Nat}(hb:Below B w w')(hB:hi<=B):Helds lo hi w' a n hs:=⟨h.1,h.2.later hb hB⟩
theorem Helds.aside (h:Helds lo hi w a n hs){l r:Nat}(hb:Aside l r w w')(hB:hi<=l∨r<=lo):Helds lo hi w' a n hs:=⟨h.1,h.2.aside hb hB⟩
theorem OwnHelds.later (h:OwnHelds lo hi w a n hs){B:Nat}(hb:Below B w w')(hB:hi<=B):OwnHelds lo hi w' a n hs:=⟨h.1,h.2.later hb hB⟩
theorem OwnHelds.aside (h:OwnHelds lo hi w a n hs){l r:Nat}(hb:Aside l r w w')(hB:hi<=l∨r<=lo):OwnHelds lo hi w' a n hs:=⟨h.1,h.2.aside hb hB⟩
end
theorem helds_read {H:Type}{enc:TypeId×Value->H}{P:Program}{W:World}{t e:TypeId}{f0 f1 f2:Field}{a:Option Addr}{len cap:Nat}{d:DataW H}{ps:List MemPlace}
  (ht:P.underlying t=some (.slice e)) (he:P.underlying e=some (.struct #[f0,f1,f2])) (ce:P.cellsOf e=3) (hone:oneCellFields P #[f0,f1,f2]=true)
  (h0:P.underlying f0.type=some (.int .i64)) (h1:P.underlying f1.type=some .string) (h2:P.underlying f2.type=some .bool)
  (h:DataW.Trod enc P W 0 (fun _=>true) true t (.slice a len cap) d ps) :
  ∃hs,Helds 0 W.heap.size W a len hs∧(∀x∈hs,hdFits x)∧len<=maxLen:=by
 obtain⟨fuel,hh⟩:=h
 rcases open_slice ht hh with⟨hcs,_⟩|⟨x,l,c,m,k,D,Pl,hcs,_,hl,hm,hmm,_,hr⟩
 ·simp[Value.cells] at hcs
  obtain⟨rfl,rfl,rfl⟩:=hcs
  exact⟨[],⟨rfl,Nat.le_refl _,fun h=>absurd h (by omega)⟩,by simp,Nat.zero_le _⟩
 ·simp[Value.cells] at hcs
  obtain⟨rfl,rfl,rfl⟩:=hcs
  simp only[if_true] at hmm
  obtain⟨o0,k0⟩:=hone_of hone 0 f0 rfl
  obtain⟨o1,k1⟩:=hone_of hone 1 f1 rfl
  obtain⟨o2,k2⟩:=hone_of hone 2 f2 rfl
  obtain⟨f,hf⟩:=pick_below (α:=Hd) (p:=fun i z=>W.cell? (x.add (3*i))=some (.int .i64 z.1)∧W.cell? (x.add (3*i+1))=some (.string z.2.1)∧W.cell? (x.add (3*i+2))=some (.bool z.2.2)∧hdFits z) (n:=len) (0,ByteArray.empty,false) (fun i hi=>by
   obtain⟨cs',hc,hd⟩:=hr i (by omega)
   rw[ce] at hc
   obtain⟨_,hlen,hcell⟩:=World.cells?_some hc
   obtain⟨y0,y1,y2,n',_,_,g0,g1,g2⟩:=trod_struct3 he hd
   match cs',hlen with
   | [v0,v1,v2],_ =>
    simp[o0,o1,o2,k0,k1,k2] at g0 g1 g2
    obtain⟨z,e0,_,w0⟩:=DataW.trod_int h0 g0
    obtain⟨u,e1,_,w1⟩:=DataW.trod_string h1 g1
    obtain⟨b,e2⟩:∃b,v2=.bool b:=bool_form h2 g2
    simp only[List.cons.injEq,and_true] at e0 e1
    subst e0;subst e1;subst e2
    have hadd:∀j,j<3->(x.add (i*3)).add j=x.add (3*i+j):=fun j _=>by rw[add_add,Nat.mul_comm]
    have c0:=hcell 0 (by omega)
    have c1:=hcell 1 (by omega)
    have c2:=hcell 2 (by omega)
    rw[hadd 0 (by omega)] at c0
    rw[hadd 1 (by omega)] at c1
    rw[hadd 2 (by omega)] at c2
    simp at c0 c1 c2
    exact⟨(z,u,b),c0,c1,c2,w0,w1⟩)
  have hg:∀i,i<len->hdAt ((List.range len).map f) i=f i:=fun i hi=>by
   unfold hdAt
   rw[List.getD_eq_getElem?_getD,List.getElem?_map,List.getElem?_range hi];rfl
  refine⟨(List.range len).map f,⟨by simp,reads_of fun j hj=>?_⟩,?_,by omega⟩
  ·have e:j=3*(j / 3)∨j=3*(j / 3)+1∨j=3*(j / 3)+2:=by omega
   have hq:=hf (j / 3) (by omega)
   rcases e with e|e|e
   ·rw[e,cellH0,hg _ (by omega)];exact hq.1
   ·rw[e,cellH1,hg _ (by omega)];exact hq.2.1
   ·rw[e,cellH2,hg _ (by omega)];exact hq.2.2.1
  ·intro y hy
   obtain⟨i,hi,rfl⟩:=List.mem_map.1 hy
   exact(hf i (List.mem_range.1 hi)).2.2.2
theorem array7 {α:Type}{cs:Array α}(h:cs.size=7):∃c0 c1 c2 c3 c4 c5 c6,cs=#[c0,c1,c2,c3,c4,c5,c6]:=by
 obtain⟨l⟩:=cs
 match l,h with
 | [c0,c1,c2,c3,c4,c5,c6],_=>exact⟨c0,c1,c2,c3,c4,c5,c6,rfl⟩
theorem cache_read {H:Type}{enc:TypeId×Value->H}{P:Program}{W:World}{r:Reach}{b0:Nat}{TC he' e s pe:TypeId}{j0 j1 j2 d0 d1 d2 h0 h1 h2 h3 g0 g1 f0 f1 f2 p0 p1:Field}{v:Value}{d:DataW H}{ps:List MemPlace}
  (hTC:P.underlying TC=some (.struct #[j0,j1,j2])) (hCC:P.cellsOf TC=7) (offsC:(j0.offset,j1.offset,j2.offset)=(0,1,2)) (szsC:(P.cellsOf j0.type,P.cellsOf j1.type,P.cellsOf j2.type)=(1,1,5)) (hj0:P.underlying j0.type=some (.int .i64))
  (hj1:P.underlying j1.type=some (.slice he')) (hhe:P.underlying he'=some (.struct #[d0,d1,d2])) (che:P.cellsOf he'=3) (honeh:oneCellFields P #[d0,d1,d2]=true)
  (hd0:P.underlying d0.type=some (.int .i64)) (hd1:P.underlying d1.type=some .string) (hd2:P.underlying d2.type=some .bool)
  (hT:P.underlying j2.type=some (.struct #[h0,h1,h2,h3])) (offs:(h0.offset,h1.offset,h2.offset,h3.offset)=(0,2,3,4)) (szs:(P.cellsOf h0.type,P.cellsOf h1.type,P.cellsOf h2.type,P.cellsOf h3.type)=(2,1,1,1))
  (hc:P.underlying h0.type=some (.struct #[g0,g1])) (honeT:oneCellFields P #[g0,g1]=true) (hg0:P.underlying g0.type=some (.int .i64))
  (ht:P.underlying g1.type=some (.slice e)) (he:P.underlying e=some (.struct #[f0,f1,f2])) (ce:P.cellsOf e=3) (hone:oneCellFields P #[f0,f1,f2]=true)
  (k0:P.underlying f0.type=some (.slice s)) (hs:P.underlying s=some .string) (cs1:P.cellsOf s=1) (k1:P.underlying f1.type=some (.int .i64)) (k2:P.underlying f2.type=some .bool)
  (hp:P.underlying h1.type=some (.slice pe)) (hpe:P.underlying pe=some (.struct #[p0,p1])) (cpe:P.cellsOf pe=2) (honep:oneCellFields P #[p0,p1]=true)
  (hp0:P.underlying p0.type=some (.int .i64)) (hp1:P.underlying p1.type=some (.int .i64)) (ho:P.underlying h2.type=some (.int .i64)) (hst:P.underlying h3.type=some (.int .i64))
  (hv:Value.okWide P W r b0 TC v) (h:DataW.Trod enc P W 0 (fun _=>true) true TC v d ps) :
  ∃(rm:Int) (ai:Option Addr) (ni ci:Nat) (hs:List Hd) (z:Int) (a:Option Addr) (len cap:Nat) (qs:List Sq) (am:Option Addr) (m cm:Nat) (pl:List Pl) (op st:Int),v=.agg #[.int .i64 rm,.slice ai ni ci,.int .i64 z,.slice a len cap,.slice am m cm,.int .i64 op,.int .i64 st]∧(Lit.int .i64 rm).wf=true∧Helds 0 W.heap.size W ai ni hs∧(∀x∈hs,hdFits x)∧ni<=maxLen∧(Lit.int .i64 z).wf=true∧Squares 0 W.heap.size W a len qs∧(∀x∈qs,sqFits x)∧len<=maxLen ∧
   Places 0 W.heap.size W am m pl∧(∀x∈pl,plFits x)∧m<=maxLen∧(Lit.int .i64 op).wf=true∧(Lit.int .i64 st).wf=true:=by
 simp only[Prod.mk.injEq] at offs szs offsC szsC
 obtain⟨o0,o1,o2,o3⟩:=offs
 obtain⟨c0,c1,c2,c3⟩:=szs
 obtain⟨oC0,oC1,oC2⟩:=offsC
 obtain⟨cC0,cC1,cC2⟩:=szsC
 obtain⟨cs,rfl,hsz⟩:=Go.WideShapes.okWide_struct hTC hv
 obtain⟨xr,xi,x0,x1,x2,x3,x4,rfl⟩:=array7 (hsz.trans hCC)
 obtain⟨fuel,hf⟩:=h
 obtain⟨yC0,yC1,yC2,nC,_,_,tC0,tC1,tC2⟩:=trod_struct3 hTC hf
 rw[oC0,cC0] at tC0
 rw[oC1,cC1] at tC1
 rw[oC2,cC2] at tC2
 simp[Value.cells] at tC0 tC1 tC2
 obtain⟨rm,eR,_,kR⟩:=DataW.trod_int hj0 tC0
 obtain⟨ai,ni,ci,eI⟩:=Go.Joins.slice_form hj1 tC1
 obtain⟨y0,y1,y2,y3,n,_,_,t0,t1,t2,t3⟩:=Go.Joins.trod_struct4 hT tC2
 rw[o0,c0] at t0
 rw[o1,c1] at t1
 rw[o2,c2] at t2
 rw[o3,c3] at t3
 simp at t0 t1 t2 t3
 obtain⟨u0,u1,n',_,_,s0,s1⟩:=trod_struct2 hc t0
 obtain⟨q0,r0⟩:=hone_of honeT 0 g0 rfl
 obtain⟨q1,r1⟩:=hone_of honeT 1 g1 rfl
 simp[q0,r0,q1,r1] at s0 s1
 obtain⟨z,e0,_,kz⟩:=DataW.trod_int hg0 s0
 obtain⟨a,len,cap,e1⟩:=Go.Joins.slice_form ht s1
 obtain⟨am,m,cm,e2⟩:=Go.Joins.slice_form hp t1
 obtain⟨op,e3,_,ko⟩:=DataW.trod_int ho t2
 obtain⟨st,e4,_,ks⟩:=DataW.trod_int hst t3
 simp only[List.cons.injEq,and_true] at e0 e1 e2 e3 e4 eR eI
 subst e0;subst e1;subst e2;subst e3;subst e4;subst eR;subst eI
 obtain⟨qs,g3,g4,g5⟩:=squares_read ht he ce hone k0 hs cs1 k1 k2 (show DataW.trod enc P W 0 (fun _=>true) true n' g1.type [.slice a len cap]=some (u1.1,u1.2) from s1)
 obtain⟨pl,g6,g7,g8⟩:=places_read (d:=y1.1) (ps:=y1.2) hp hpe cpe honep hp0 hp1 ⟨n,by simpa[Value.cells] using t1⟩
 obtain⟨hl,g9,g10,g11⟩:=helds_read (d:=yC1.1) (ps:=yC1.2) hj1 hhe che honeh hd0 hd1 hd2 ⟨nC,by simpa[Value.cells] using tC1⟩
 exact⟨rm,ai,ni,ci,hl,z,a,len,cap,qs,am,m,cm,pl,op,st,rfl,kR,g9,g10,g11,kz,g3,g4,g5,g6,g7,g8,ko,ks⟩
end Go.Proofs.YtgjoepdfhadmcaaGreatDoor
end

