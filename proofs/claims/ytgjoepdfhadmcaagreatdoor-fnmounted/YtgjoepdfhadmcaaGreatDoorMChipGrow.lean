/- Several texts in one: ChipGrow, ChipCopyS, ChipOnly, HeapGath, WearLaw, PlaceOwn, WearSpecA, WearSpecC, ChipDoS. -/
import Derived.Test.YtgjoepdfhadmcaaGreatDoorMChipOwn2
import Derived.Laws.OwnMore
import Derived.Maps.AppendAt
import Derived.OneCell
import Derived.Lib.OwnKind
import Derived.Deep.Onto
import Derived.RegionTactic
import Derived.Deep.DeepCutAuto
import Derived.Deep.QuietTactic
import Derived.BigQuiet
import Derived.Lib.QuietBelow
import Derived.Deep.RegionWith
import Derived.Laws.StructEq
import Derived.Deep.RegionLaw
import Derived.Deep.AppendLies
section
namespace Go.Proofs.YtgjoepdfhadmcaaGreatDoor
open Go.RowKit
set_option linter.unusedVariables false
def oB (a:Option Addr):Option Nat:=a.map (·.block)
theorem ownBlock_slice (a:Option Addr)(n c:Nat):(Value.slice a n c).ownBlock=oB a:=by cases a<;>rfl
def pgV (ts:List ByteArray):List Value:=ts.map Value.string
theorem pgV_set (ts:List ByteArray)(k:Nat)(x:ByteArray):(pgV ts).set k (.string x)=pgV (ts.set k x):=by unfold pgV;rw[List.map_set]
theorem pgV_snoc (ts:List ByteArray)(x:ByteArray):pgV ts++[.string x]=pgV (ts++[x]):=by unfold pgV;simp
abbrev PgOwn (B:Nat)(w:World)(a:Option Addr)(c:Nat)(ts:List ByteArray):Prop:=w.ownsRow B 9 1 (.slice a ts.length c) ts.length (pgV ts)
theorem pg_form {B:Nat}{w:World}{a:Option Addr}{c:Nat}{ts:List ByteArray}(h:PgOwn B w a c ts):(a=none∧ts=[]∧c=0)∨∃p,a=some ⟨p,0,none⟩∧B<=p∧p<w.heap.size∧ts.length<=c:=by
 rcases h.2 with⟨e,h0⟩|⟨p,cap,cur,e,hb,hg,hn,_⟩
 ·simp only[Value.slice.injEq] at e
  exact .inl ⟨e.1,List.eq_nil_of_length_eq_zero h0,e.2.2⟩
 ·simp only[Value.slice.injEq] at e
  exact .inr ⟨p,e.1,hb,(Array.getElem?_eq_some_iff.1 hg).1,by omega⟩
theorem pg_room {B:Nat}{w:World}{a:Option Addr}{c:Nat}{ts:List ByteArray}(h:PgOwn B w a c ts):ts.length<=c:=by
 rcases pg_form h with⟨_,rfl,rfl⟩|⟨_,_,_,_,h⟩
 ·exact Nat.le_refl _
 ·exact h
theorem pg_lt {B:Nat}{w:World}{a:Option Addr}{c:Nat}{ts:List ByteArray}(h:PgOwn B w a c ts):∀k,oB a=some k->B<=k∧k<w.heap.size:=by
 intro k hk
 exact h.lt k (by rw[ownBlock_slice];exact hk)
theorem pg_own {B g:Nat}{w:World}{a:Option Addr}{c:Nat}{ts:List ByteArray}(h:PgOwn B w a c ts)(hg:g<w.heap.size):OwnTexts ((oB a).getD g) ((oB a).getD g+1) w a ts.length ts:=by
 rcases pg_form h with⟨rfl,rfl,rfl⟩|⟨p,rfl,hb,hp,hc⟩
 ·exact⟨rfl,by show g+1<=_;omega,fun h'=>absurd h' (by simp)⟩
 ·refine⟨rfl,by show p+1<=_;omega,fun _=>⟨p,0,rfl,Nat.le_refl _,Nat.lt_succ_self _,fun i hi=>⟨?_,by rw[Nat.zero_add];exact h.frozenAt i⟩⟩⟩
  rw[Nat.zero_add,h.cellAt i (by omega)]
  unfold pgV cellT
  rw[List.getElem?_map,List.getD_eq_getElem?_getD,List.getElem?_eq_getElem hi]
  rfl
theorem pg_keep {B:Nat}{w w':World}{a:Option Addr}{c:Nat}{ts:List ByteArray}{row:Option Nat}(h:PgOwn B w a c ts)(hg:w.grownBy w' row)(hne:∀k,oB a=some k->row≠some k):PgOwn B w' a c ts:=by
 refine h.kept hg ?_
 rw[ownBlock_slice]
 cases hb:oB a with
 | none=>exact .inl rfl
 | some k=>exact .inr (fun e=>hne k hb e.symm)
theorem grown_below {w w':World}(h:Below w.heap.size w w')(row:Option Nat):w.grownBy w' row:=⟨h.os,h.tape,h.output,h.size,fun k hk _=>h.block k hk⟩
theorem grown_set (w:World)(p:Addr)(v:Value):w.grownBy (w.setCell p v) (some p.block) :=
 ⟨rfl,rfl,rfl,by rw[Go.Deep.nblk_setCell];exact Nat.le_refl _,fun k _ hk=>Go.Deep.blk_setCell_other _ _ _ _ (fun e=>hk (by rw[e]))⟩
structure Pgs (B:Nat)(w:World)(k:Nat)(qs:List Sq)(A:Nat->Option Addr)(C:Nat->Nat):Prop where
 own:∀i,i<k->PgOwn B w (A i) (C i) (sqAt qs i).1
 apart:∀i j m,i<k->j<k->i≠j->oB (A i)=some m->oB (A j)≠some m
def upd {α:Type}(A:Nat->α)(i:Nat)(a:α):Nat->α:=fun j=>if j=i then a else A j
theorem upd_same {α:Type}(A:Nat->α)(i:Nat)(a:α):upd A i a i=a:=by unfold upd;rw[if_pos rfl]
theorem upd_other {α:Type}(A:Nat->α){i j:Nat}(a:α)(h:j≠i):upd A i a j=A j:=by unfold upd;rw[if_neg h]
theorem Pgs.nil (B:Nat)(w:World)(qs:List Sq)(A:Nat->Option Addr)(C:Nat->Nat):Pgs B w 0 qs A C:=⟨fun i hi=>absurd hi (by omega),fun i j m hi=>absurd hi (by omega)⟩
theorem Pgs.keep {B k:Nat}{w w':World}{qs:List Sq}{A:Nat->Option Addr}{C:Nat->Nat}{row:Option Nat}(h:Pgs B w k qs A C)(hg:w.grownBy w' row)(hne:∀i m,i<k->oB (A i)=some m->row≠some m):Pgs B w' k qs A C :=
 ⟨fun i hi=>pg_keep (h.own i hi) hg (fun m hm=>hne i m hi hm),h.apart⟩
theorem Pgs.later {B k:Nat}{w w':World}{qs:List Sq}{A:Nat->Option Addr}{C:Nat->Nat}(h:Pgs B w k qs A C)(hb:Below w.heap.size w w'):Pgs B w' k qs A C :=
 h.keep (grown_below hb none) (fun i m hi hm=>by simp)
theorem Pgs.snoc {B k c':Nat}{w w':World}{qs:List Sq}{A:Nat->Option Addr}{C:Nat->Nat}{a':Option Addr}(h:Pgs B w k qs A C)(hb:Below w.heap.size w w')(ho:PgOwn B w' a' c' (sqAt qs k).1)(hf:∀m,oB a'=some m->w.heap.size<=m):Pgs B w' (k+1) qs (upd A k a') (upd C k c'):=by
 refine⟨fun i hi=>?_,fun i j m hi hj hne him hjm=>?_⟩
 ·by_cases e:i=k
  ·subst e;rw[upd_same,upd_same];exact ho
  ·rw[upd_other _ _ e,upd_other _ _ e];exact(h.later hb).own i (by omega)
 ·by_cases e:i=k
  ·subst e
   rw[upd_same] at him
   rw[upd_other _ _ (Ne.symm hne)] at hjm
   have h1:=hf m him
   have h2:=(pg_lt (h.own j (by omega)) m hjm).2
   omega
  ·rw[upd_other _ _ e] at him
   by_cases e':j=k
   ·subst e'
    rw[upd_same] at hjm
    have h1:=hf m hjm
    have h2:=(pg_lt (h.own i (by omega)) m him).2
    omega
   ·rw[upd_other _ _ e'] at hjm
    exact h.apart i j m (by omega) (by omega) hne him hjm
structure GrowSqs (B:Nat)(w:World)(n:Nat)(qs:List Sq)(g:Nat)(A:Nat->Option Addr)(C:Nat->Nat):Prop where
 len:qs.length=n
 row:Owned g (g+1) w (some ⟨g,0,none⟩) (3*n) (cellQ A C qs)
 pages:Pgs B w n qs A C
 atG:B<=g
 apartG:∀i,i<n->oB (A i)≠some g
theorem GrowSqs.own {B n g:Nat}{w:World}{qs:List Sq}{A:Nat->Option Addr}{C:Nat->Nat}(h:GrowSqs B w n qs g A C):OwnSqs B w.heap.size w (some ⟨g,0,none⟩) n qs g 0 A C (fun i=>(oB (A i)).getD g):=by
 have hs:=h.row.1
 have hP:∀i,i<n->0<(sqAt qs i).1.length->∃p,oB (A i)=some p:=fun i hi hp=>by
  rcases pg_form (h.pages.own i hi) with⟨_,e,_⟩|⟨p,e,_⟩
  ·rw[e] at hp;exact absurd hp (by simp)
  ·exact⟨p,by rw[e];rfl⟩
 refine⟨h.len,h.row,fun _=>rfl,fun i hi=>pg_own (h.pages.own i hi) (by omega),fun i hi=>pg_room (h.pages.own i hi),⟨h.atG,by omega⟩,fun i hi=>?_,fun i hi hp=>?_,fun i j hi hj hne hp hp'=>?_,Nat.le_refl _⟩
 ·cases hb:oB (A i) with
  | none=>exact⟨h.atG,by show g<_;omega⟩
  | some k=>exact pg_lt (h.pages.own i hi) k hb
 ·obtain⟨p,hb⟩:=hP i hi hp
  have:=h.apartG i hi
  rw[hb] at this ⊢
  exact fun e=>this (by rw[<- e];rfl)
 ·obtain⟨p,hb⟩:=hP i hi hp
  obtain⟨q,hb'⟩:=hP j hj hp'
  have:=h.pages.apart i j p hi hj hne hb
  rw[hb'] at this
  rw[hb,hb']
  exact fun e=>this (by rw[show p=q from e])
theorem GrowSqs.ownS {B n g:Nat}{w:World}{qs:List Sq}{A:Nat->Option Addr}{C:Nat->Nat}(h:GrowSqs B w n qs g A C):OwnSquares B w.heap.size w (some ⟨g,0,none⟩) n qs:=⟨_,_,_,_,_,h.own⟩
theorem GrowSqs.later {B n g:Nat}{w w':World}{qs:List Sq}{A:Nat->Option Addr}{C:Nat->Nat}(h:GrowSqs B w n qs g A C)(hb:Below w.heap.size w w'):GrowSqs B w' n qs g A C :=
 ⟨h.len,h.row.later hb h.row.1,h.pages.later hb,h.atG,h.apartG⟩
theorem sqAt_set (qs:List Sq){i:Nat}(x:Sq)(h:i<qs.length)(k:Nat):sqAt (qs.set i x) k=if k=i then x else sqAt qs k:=by
 unfold sqAt
 rw[List.getD_eq_getElem?_getD,List.getElem?_set]
 by_cases e:k=i
 ·subst e;simp[h]
 ·rw[if_neg e,if_neg (Ne.symm e),List.getD_eq_getElem?_getD]
def cell3 (a:Option Addr)(c:Nat)(x:Sq)(r:Nat):Value:=if r=0 then .slice a x.1.length c else if r=1 then .int .i64 x.2.1 else .bool x.2.2
theorem cellQ_cell3 (A:Nat->Option Addr)(C:Nat->Nat)(qs:List Sq)(j:Nat):cellQ A C qs j=cell3 (A (j / 3)) (C (j / 3)) (sqAt qs (j / 3)) (j % 3):=rfl
theorem cellQ_put (A:Nat->Option Addr)(C:Nat->Nat)(qs:List Sq){i:Nat}(h:i<qs.length)(a':Option Addr)(c':Nat)(x:Sq)(j:Nat) :
  cellQ (upd A i a') (upd C i c') (qs.set i x) j=if j / 3=i then cell3 a' c' x (j % 3) else cellQ A C qs j:=by
 rw[cellQ_cell3,cellQ_cell3,sqAt_set qs x h]
 by_cases e:j / 3=i
 ·rw[if_pos e,if_pos e,e,upd_same,upd_same]
 ·rw[if_neg e,if_neg e,upd_other _ _ e,upd_other _ _ e]
theorem upd_id {α:Type}(A:Nat->α)(i:Nat):upd A i (A i)=A:=by
 funext j;unfold upd;split
 ·rename_i e;rw[e]
 ·rfl
theorem cellQ_put' (A:Nat->Option Addr)(C:Nat->Nat)(qs:List Sq){i:Nat}(h:i<qs.length)(x:Sq)(j:Nat) :
  cellQ A C (qs.set i x) j=if j / 3=i then cell3 (A i) (C i) x (j % 3) else cellQ A C qs j:=by
 have:=cellQ_put A C qs h (A i) (C i) x j
 rwa [upd_id,upd_id] at this
section
variable {B n g:Nat}{w w1:World}{qs:List Sq}{A:Nat->Option Addr}{C:Nat->Nat}
theorem GrowSqs.setPages (h:GrowSqs B w n qs g A C){i:Nat}(hi:i<n){a':Option Addr}{c':Nat}{ts':List ByteArray}(hg:w.grownBy w1 (oB (A i)))(ho:PgOwn B w1 a' c' ts')(hat:∀m,oB a'=some m->oB (A i)=some m∨w.heap.size<=m) :
  GrowSqs B (w1.setCell ⟨g,i*3,none⟩ (.slice a' ts'.length c')) n (qs.set i (ts',(sqAt qs i).2.1,(sqAt qs i).2.2)) g (upd A i a') (upd C i c'):=by
 have hs:=h.row.1
 have hil:i<qs.length:=by rw[h.len];exact hi
 have hgw:∀j m,j<n->j≠i->oB (A j)=some m->oB (A i)≠some m:=fun j m hj hne hm=>h.pages.apart j i m hj hi hne hm
 have hag:oB a'≠some g:=fun e=>by
  rcases hat g e with e' | e'
  ·exact h.apartG i hi e'
  ·omega
 have hrow1:Owned g (g+1) w1 (some ⟨g,0,none⟩) (3*n) (cellQ A C qs):=h.row.of hg.size (fun k h1 h2=>hg.block k (by omega) (fun e=>h.apartG i hi (by rw[<- e];congr 1;omega)))
 refine⟨by rw[List.length_set];exact h.len,(hrow1.set0 (show i*3<3*n by omega) _).congr (fun j hj=>?_),⟨fun j hj=>?_,fun j k m hj hk hne hjm hkm=>?_⟩,h.atG,fun j hj=>?_⟩
 ·rw[cellQ_put A C qs hil]
  by_cases e:j=i*3
  ·subst e
   rw[if_pos rfl,if_pos (by omega),show i*3 % 3=0 by omega]
   rfl
  ·rw[if_neg e]
   by_cases e':j / 3=i
   ·rw[if_pos e',cellQ_cell3,e']
    unfold cell3
    have h3:¬j % 3=0:=by omega
    rw[if_neg h3,if_neg h3]
   ·rw[if_neg e']
 ·rw[sqAt_set qs _ hil]
  by_cases e:j=i
  ·subst e
   rw[if_pos rfl,upd_same,upd_same]
   exact pg_keep ho (grown_set w1 ⟨g,j*3,none⟩ _) (fun k hk e=>hag (by rw[hk];exact e.symm))
  ·rw[if_neg e,upd_other _ _ e,upd_other _ _ e]
   exact pg_keep (pg_keep (h.pages.own j hj) hg (fun k hk=>hgw j k hj e hk)) (grown_set w1 ⟨g,i*3,none⟩ _) (fun k hk e'=>h.apartG j hj (by rw[hk];exact e'.symm))
 ·by_cases e:j=i
  ·subst e
   rw[upd_same] at hjm
   rw[upd_other _ _ (Ne.symm hne)] at hkm
   rcases hat m hjm with e' | e'
   ·exact hgw k m hk (Ne.symm hne) hkm e'
   ·have:=(pg_lt (h.pages.own k hk) m hkm).2;omega
  ·rw[upd_other _ _ e] at hjm
   by_cases e':k=i
   ·subst e'
    rw[upd_same] at hkm
    rcases hat m hkm with e'' | e''
    ·exact hgw j m hj hne hjm e''
    ·have:=(pg_lt (h.pages.own j hj) m hjm).2;omega
   ·rw[upd_other _ _ e'] at hkm
    exact h.pages.apart j k m hj hk hne hjm hkm
 ·by_cases e:j=i
  ·subst e;rw[upd_same];exact hag
  ·rw[upd_other _ _ e];exact h.apartG j hj
theorem GrowSqs.setOne (h:GrowSqs B w n qs g A C){i r:Nat}(hi:i<n)(hr:r<3)(hr0:r≠0){x:Sq}{v:Value}(hx:x.1=(sqAt qs i).1)(hv:cell3 (A i) (C i) x r=v)(hv':∀s,s<3->s≠r->cell3 (A i) (C i) x s=cell3 (A i) (C i) (sqAt qs i) s) :
  GrowSqs B (w.setCell ⟨g,i*3+r,none⟩ v) n (qs.set i x) g A C:=by
 have hil:i<qs.length:=by rw[h.len];exact hi
 refine⟨by rw[List.length_set];exact h.len,(h.row.set0 (show i*3+r<3*n by omega) _).congr (fun j hj=>?_),⟨fun j hj=>?_,h.pages.apart⟩,h.atG,h.apartG⟩
 ·rw[cellQ_put' A C qs hil]
  by_cases e:j=i*3+r
  ·subst e
   rw[if_pos rfl,if_pos (by omega),show(i*3+r) % 3=r by omega,hv]
  ·rw[if_neg e]
   by_cases e':j / 3=i
   ·rw[if_pos e',hv' _ (by omega) (by omega),cellQ_cell3,e']
   ·rw[if_neg e']
 ·have hk:=pg_keep (h.pages.own j hj) (grown_set w ⟨g,i*3+r,none⟩ v) (fun k hk e'=>h.apartG j hj (by rw[hk];exact e'.symm))
  rw[sqAt_set qs _ hil]
  by_cases e:j=i
  ·subst e
   rw[if_pos rfl,hx]
   exact hk
  ·rw[if_neg e]
   exact hk
theorem GrowSqs.setWipes (h:GrowSqs B w n qs g A C){i:Nat}(hi:i<n)(z:Int):GrowSqs B (w.setCell ⟨g,i*3+1,none⟩ (.int .i64 z)) n (qs.set i ((sqAt qs i).1,z,(sqAt qs i).2.2)) g A C :=
 h.setOne hi (by omega) (by omega) rfl rfl (fun s hs hne=>by unfold cell3;by_cases e:s=0<;>simp[e,hne])
theorem GrowSqs.setBad (h:GrowSqs B w n qs g A C){i:Nat}(hi:i<n)(b:Bool):GrowSqs B (w.setCell ⟨g,i*3+2,none⟩ (.bool b)) n (qs.set i ((sqAt qs i).1,(sqAt qs i).2.1,b)) g A C :=
 h.setOne hi (by omega) (by omega) rfl rfl (fun s hs hne=>by unfold cell3;by_cases e:s=0<;>by_cases e1:s=1<;>simp[e,e1]<;>omega)
theorem GrowSqs.setText (h:GrowSqs B w n qs g A C){i k p:Nat}(hi:i<n)(hp:A i=some ⟨p,0,none⟩)(x:ByteArray) :
  GrowSqs B (w.setCell ⟨p,k,none⟩ (.string x)) n (qs.set i ((sqAt qs i).1.set k x,(sqAt qs i).2.1,(sqAt qs i).2.2)) g A C:=by
 have hil:i<qs.length:=by rw[h.len];exact hi
 have hob:oB (A i)=some p:=by rw[hp];rfl
 have hpg:p≠g:=fun e=>h.apartG i hi (by rw[hob,e])
 have ho:=h.pages.own i hi
 have ho':w.ownsRow B 9 1 (.slice (some ⟨p,0,none⟩) (sqAt qs i).1.length (C i)) (sqAt qs i).1.length (pgV (sqAt qs i).1):=by rw[<- hp];exact ho
 obtain⟨hst,hgr⟩:=ho'.stored k (.string x)
 refine⟨by rw[List.length_set];exact h.len,(h.row.of hgr.size (fun k h1 h2=>hgr.block k (by have:=h.row.1;omega) (fun e=>hpg (by simp only[Option.some.injEq] at e;omega)))).congr (fun j hj=>?_),⟨fun j hj=>?_,h.pages.apart⟩,h.atG,h.apartG⟩
 ·rw[cellQ_put' A C qs hil]
  by_cases e':j / 3=i
  ·rw[if_pos e',cellQ_cell3,e']
   unfold cell3
   rw[List.length_set]
  ·rw[if_neg e']
 ·rw[sqAt_set qs _ hil]
  by_cases e:j=i
  ·subst e
   rw[if_pos rfl]
   show World.ownsRow _ _ _ _ (.slice (A j) ((sqAt qs j).1.set k x).length (C j)) ((sqAt qs j).1.set k x).length (pgV ((sqAt qs j).1.set k x))
   rw[List.length_set,<- pgV_set,hp]
   exact hst
  ·rw[if_neg e]
   exact pg_keep (h.pages.own j hj) hgr (fun m hm e'=>h.pages.apart j i m hj hi e hm (by rw[hob];exact e'))
theorem GrowSqs.cells (h:GrowSqs B w n qs g A C){i:Nat}(hi:i<n) :
  w.cell? ⟨g,i*3,none⟩=some (.slice (A i) (sqAt qs i).1.length (C i))∧w.cell? ⟨g,i*3+1,none⟩=some (.int .i64 (sqAt qs i).2.1)∧w.cell? ⟨g,i*3+2,none⟩=some (.bool (sqAt qs i).2.2):=by
 have c0:=(h.row.at0 (show 3*i<3*n by omega)).1
 have c1:=(h.row.at0 (show 3*i+1<3*n by omega)).1
 have c2:=(h.row.at0 (show 3*i+2<3*n by omega)).1
 rw[cellQ0] at c0
 rw[cellQ1] at c1
 rw[cellQ2] at c2
 rw[Nat.mul_comm] at c0 c1 c2
 exact⟨c0,c1,c2⟩
theorem GrowSqs.open_ (h:GrowSqs B w n qs g A C){j:Nat}(hj:j<3*n):w.frozen? ⟨g,j,none⟩=false:=(h.row.at0 hj).2.1
theorem GrowSqs.aside (h:GrowSqs B w n qs g A C){l r:Nat}(hb:Aside l r w w1)(hr:r<=B∨w.heap.size<=l):GrowSqs B w1 n qs g A C:=by
 have hs:=h.row.1
 have hG:=h.atG
 have hbl:∀k,B<=k->k<w.heap.size->w1.heap[k]?=w.heap[k]?:=fun k h1 h2=>hb.block k h2 (by omega)
 refine⟨h.len,h.row.of hb.size (fun k h1 h2=>hbl k (by omega) (by omega)),⟨fun i hi=>?_,h.pages.apart⟩,h.atG,h.apartG⟩
 have ho:=h.pages.own i hi
 refine⟨ho.1,?_⟩
 rcases ho.2 with h' | ⟨p,cap,cur,e,h1,h2,h3⟩
 ·exact .inl h'
 ·exact .inr ⟨p,cap,cur,e,h1,(hbl p h1 (Array.getElem?_eq_some_iff.1 h2).1).trans h2,h3⟩
end
end Go.Proofs.YtgjoepdfhadmcaaGreatDoor
end

section
namespace Go.Proofs.YtgjoepdfhadmcaaGreatDoor
open Go.RowKit
set_option linter.unusedVariables false
set_option maxRecDepth 20000
theorem pg_ne {B:Nat}{w:World}{a:Option Addr}{c:Nat}{ts:List ByteArray}(h:PgOwn B w a c ts){p:Nat}{cs:Array Value}{T:TypeId}{fr:Nat×Nat}(hp:w.heap[p]?=some (.cells cs T fr))(hT:T≠9):oB a≠some p:=by
 intro e
 obtain⟨c',fz,h2⟩:=Go.Lib.ownsRow_kind h p (by rw[ownBlock_slice];exact e)
 rw[hp] at h2
 simp only[Option.some.injEq,Obj.cells.injEq] at h2
 exact hT h2.2.1
theorem Pgs.keepT {B k p:Nat}{w w':World}{qs:List Sq}{A:Nat->Option Addr}{C:Nat->Nat}(h:Pgs B w k qs A C)(hg:w.grownBy w' (some p)){cs:Array Value}{T:TypeId}{fr:Nat×Nat}(hp:w.heap[p]?=some (.cells cs T fr))(hT:T≠9):Pgs B w' k qs A C :=
 h.keep hg (fun i m hi hm e=>pg_ne (h.own i hi) hp hT (by rw[hm];exact e.symm))
theorem GrowSqs.mono {B B' n g:Nat}{w:World}{qs:List Sq}{A:Nat->Option Addr}{C:Nat->Nat}(h:GrowSqs B w n qs g A C)(hB:B'<=B):GrowSqs B' w n qs g A C :=
 ⟨h.len,h.row,⟨fun i hi=>(h.pages.own i hi).mono hB,h.pages.apart⟩,Nat.le_trans hB h.atG,h.apartG⟩
def rowL (A:Nat->Option Addr)(C:Nat->Nat)(qs:List Sq)(k:Nat):List Value:=(List.range (3*k)).map (cellQ A C qs)
theorem rowL_snoc (A:Nat->Option Addr)(C:Nat->Nat)(qs:List Sq)(k:Nat)(a':Option Addr)(c':Nat) :
  rowL A C qs k++[.slice a' (sqAt qs k).1.length c',.int .i64 (sqAt qs k).2.1,.bool (sqAt qs k).2.2]=rowL (upd A k a') (upd C k c') qs (k+1):=by
 unfold rowL
 rw[show 3*(k+1)=3*k+1+1+1 by omega,List.range_succ,List.range_succ,List.range_succ]
 simp only[List.map_append,List.map_cons,List.map_nil,List.append_assoc]
 rw[cellQ0,cellQ1,show 3*k+1+1=3*k+2 from rfl,cellQ2,upd_same,upd_same]
 have:(List.range (3*k)).map (cellQ A C qs)=(List.range (3*k)).map (cellQ (upd A k a') (upd C k c') qs):=by
  apply List.map_congr_left
  intro j hj
  rw[List.mem_range] at hj
  rw[cellQ_cell3,cellQ_cell3,upd_other _ _ (show j / 3≠k by omega),upd_other _ _ (show j / 3≠k by omega)]
 rw[this]
 rfl
theorem grow_of_row {B n:Nat}{w:World}{v:Value}{qs:List Sq}{A:Nat->Option Addr}{C:Nat->Nat}(hn:0<n)(hl:qs.length=n)(h:w.ownsRow B 42 3 v n (rowL A C qs n))(hp:Pgs B w n qs A C)(hT:42≠9) :
  ∃g c,v=.slice (some ⟨g,0,none⟩) n c∧GrowSqs B w n qs g A C:=by
 obtain⟨g,c,rfl⟩:=Go.Joins.ownsRow_form h hn
 refine⟨g,c,rfl,hl,?_,hp,(h.lt g rfl).1,fun i hi e=>?_⟩
 ·have:=(h.lt g rfl).2
  refine⟨by omega,fun _=>⟨g,0,rfl,Nat.le_refl _,Nat.lt_succ_self _,fun j hj=>⟨?_,by rw[Nat.zero_add];exact h.frozenAt j⟩⟩⟩
  rw[Nat.zero_add,h.cellAt j (by omega)]
  unfold rowL
  simp[hj]
 ·obtain⟨cs,fz,h2⟩:=Go.Lib.ownsRow_kind h g rfl
  exact pg_ne (hp.own i hi) h2 hT e
theorem append_pages {P:Program}(hinfo:(P.info? 9).map (fun i=>(i.zero,i.size,i.bytes))=some (some (.string ByteArray.empty),1,16)){t:TypeId}(ht:P.underlying t=some (.slice 9)){B g:Nat}{w:World}(ho:w.ownsRow B 9 1 (.slice (some ⟨g,0,none⟩) 0 0) 0 [])(hB:B<=w.heap.size)
  {lo hi:Nat} {a:Option Addr} {c:Nat} {ts:List ByteArray} (hx:Texts lo hi w a ts.length ts) (hn:ts.length<=1048576) :
  ∃a' c' w',(Builtin.append_ #[t,t] t #[.slice (some ⟨g,0,none⟩) 0 0,.slice a ts.length c]).run P w=.ok (.slice a' ts.length c') w'∧PgOwn B w' a' c' ts∧w.grownBy w' (some g)∧(∀m,oB a'=some m->m=g∨m=w.heap.size):=by
 obtain⟨i0,hi0,hz0,hz1,hz2⟩:=info_parts hinfo
 cases a with
 | none =>
  have h0:ts.length=0:=by
   rcases Nat.eq_zero_or_pos ts.length with h|h
   ·exact h
   ·obtain⟨b,off,e,_⟩:=hx.2.2 h;cases e
  have hts:ts=[]:=List.eq_nil_of_length_eq_zero h0
  subst hts
  refine⟨some ⟨g,0,none⟩,0,w,?_,ho,⟨rfl,rfl,rfl,Nat.le_refl _,fun _ _ _=>rfl⟩,fun m hm=>.inl (by have e:some g=some m:=hm;simp at e;exact e.symm)⟩
  simp[Builtin.append_,run_underlying ht,sizeOf,typeInfo,hi0,Builtin.lenOf,Builtin.firstCells,storeCells]
 | some x =>
  have hnews:∀(j:Nat) u,(pgV ts)[j]?=some u->w.cell? (x.add j)=some u:=by
   intro j u hj
   have hjl:j<ts.length:=by
    rcases Nat.lt_or_ge j ts.length with h|h
    ·exact h
    ·rw[List.getElem?_eq_none (by unfold pgV;simpa using h)] at hj;simp at hj
   obtain⟨b,off,e,_,_,hc⟩:=hx.2.2 (by omega)
   simp only[Option.some.injEq] at e
   subst e
   have hadd:(⟨b,off,none⟩:Addr).add j=⟨b,off+j,none⟩:=by unfold Addr.add;split<;>simp_all
   rw[hadd,hc j hjl,<- hj]
   unfold pgV cellT
   rw[List.getElem?_map,List.getD_eq_getElem?_getD,List.getElem?_eq_getElem hjl]
   rfl
  obtain⟨v',w',h1,h2,h3,h4,h5⟩:=run_append_own_at (P:=P) w B t t 9 i0 (.string ByteArray.empty) 1 16 ht hi0 hz0 hz1 hz2 rfl (by decide) _ 0 [] ho x ts.length c (pgV ts) (by unfold pgV;simp) hnews
   (fun u hu=>by unfold pgV at hu;rw[List.mem_map] at hu;obtain⟨s,_,rfl⟩:=hu;rfl) (by unfold maxLen;omega) (by omega) hB
  rw[Nat.zero_add,List.nil_append] at h2
  obtain⟨a',c',rfl⟩:∃a' c',v'=.slice a' ts.length c':=by
   rcases Go.Joins.ownsRow_forms h2 with⟨rfl,h0⟩|⟨g',c',rfl⟩
   ·exact⟨none,0,by rw[h0]⟩
   ·exact⟨_,c',rfl⟩
  refine⟨a',c',w',h1,h2,h3,fun m hm=>?_⟩
  rw[ownBlock_slice,ownBlock_slice,hm] at h5
  rcases h5 with h5|h5
  ·exact .inl (by have e:some m=some g:=h5;simp at e;exact e)
  ·exact .inr (by simp at h5;exact h5)
theorem cell_three_new (w:World)(x y z:Value)(t:TypeId):∀j u,[x,y,z][j]?=some u->(w.alloc (.cells #[x,y,z] t)).cell? ((⟨w.heap.size,0,none⟩:Addr).add j)=some u:=by
 intro j u hj
 match j,hj with
 | 0,hj=>simp at hj;subst hj;simp[Addr.add]
 | 1,hj=>simp at hj;subst hj;simp[Addr.add]
 | 2,hj=>simp at hj;subst hj;simp[Addr.add]
theorem three_one (a:Option Addr)(n c:Nat)(z:Int)(b:Bool):∀u∈[Value.slice a n c,.int .i64 z,.bool b],u.oneCell'=true:=by
 intro u hu
 simp only[List.mem_cons,List.not_mem_nil,or_false] at hu
 rcases hu with rfl|rfl|rfl<;>rfl
theorem chipOk_parts {z:Int}{qs:List Sq}(h:chipOk z qs=true):1<=z∧z<=8∧1<=qs.length∧qs.length<=12∧∀q∈qs,sqOk z q=true:=by
 unfold chipOk inB at h
 simp only[Bool.and_eq_true,decide_eq_true_eq,List.all_eq_true] at h
 exact⟨h.1.1,h.1.2,h.2.1,h.2.2.1,h.2.2.2⟩
theorem sqOk_parts {z:Int}{q:Sq}(h:sqOk z q=true):(q.1.length:Int)<=z∧0<=q.2.1∧q.2.1<=1000000∧∀s∈q.1,1<=s.size∧s.size<=200:=by
 unfold sqOk inB at h
 simp only[Bool.and_eq_true,decide_eq_true_eq,List.all_eq_true] at h
 refine⟨h.1,h.2.1.1,h.2.1.2,fun s hs=>?_⟩
 have:=h.2.2 s hs
 unfold txOk at this
 simpa using this
theorem sqAt_mem {qs:List Sq}{k:Nat}(h:k<qs.length):sqAt qs k∈qs:=by
 unfold sqAt;rw[List.getD_eq_getElem?_getD,List.getElem?_eq_getElem h];exact List.getElem_mem h
theorem chipOk_at {z:Int}{qs:List Sq}(h:chipOk z qs=true){k:Nat}(hk:k<qs.length):sqOk z (sqAt qs k)=true:=(chipOk_parts h).2.2.2.2 _ (sqAt_mem hk)
theorem chipOk_fits {z:Int}{qs:List Sq}(h:chipOk z qs=true):∀x∈qs,sqFits x:=by
 intro x hx
 obtain⟨_,h2,_,_,h5⟩:=chipOk_parts h
 obtain⟨k1,k2,k3,k4⟩:=sqOk_parts (h5 x hx)
 refine⟨fun s hs=>?_,?_,?_⟩
 ·have:=(k4 s hs).2;unfold maxLen;omega
 ·unfold maxLen;omega
 ·show(decide _&&decide _)=true;rw[Bool.and_eq_true,decide_eq_true_eq,decide_eq_true_eq];refine⟨Int.le_trans (by decide) k2,Int.le_trans k3 (by decide)⟩
theorem Tryz.infoStrC:(Tryz.prog.info? 9).map (fun i=>(i.zero,i.size,i.bytes))=some (some (.string ByteArray.empty),1,16):=by kernel_rfl
set_option maxHeartbeats 1600000 in
theorem l8Copy_any (z:Int)(a:Option Addr)(n cap:Nat)(qs:List Sq)(w:World){lo hi:Nat}(h:Squares lo hi w a n qs)(hhi:hi<=w.heap.size)(hok:chipOk z qs=true) :
  Calls Tryz.prog 61 #[.agg #[.int .i64 z,.slice a n cap]] w fun e w'=>∃g c A C,e=.returned (.agg #[.int .i64 z,.slice (some ⟨g,0,none⟩) n c])∧GrowSqs w.heap.size w' n qs g A C∧Below w.heap.size w w':=by
 obtain⟨wA,hwA⟩:∃wA,wA=((w.alloc (.cells #[.int .i64 z,.slice a n cap] 26)).alloc (.cells #[.int .i64 0,.slice none 0 0] 26)).alloc (.cells #[.int .i64 z,.slice none 0 0] 26):=⟨_,rfl⟩
 have hzA:wA.heap.size=w.heap.size+1+1+1:=by rw[hwA];simp
 have HBA:Hid (Below w.heap.size w wA):=by rw[hwA];exact((((Below.refl _ _).alloc (Nat.le_refl _) _).alloc (by simp) _).alloc (by simp;omega) _)
 have H0:Hid (wA.heap[w.heap.size]?=some (.cells #[.int .i64 z,.slice a n cap] 26)):=by rw[hwA];exact heap_old (heap_old (heap_new _ _))
 have H1:Hid (wA.heap[w.heap.size+1]?=some (.cells #[.int .i64 0,.slice none 0 0] 26)):=by rw[hwA];exact heap_old (heap_at (by simp))
 have H2:Hid (wA.heap[w.heap.size+1+1]?=some (.cells #[.int .i64 z,.slice none 0 0] 26)):=by rw[hwA];exact heap_at (by simp)
 obtain⟨hz1,hz8,hn1,hn12,_⟩:=chipOk_parts hok
 have HL:=hide h.1
 have hnl:=h.1
 rw[hnl] at hn1 hn12
 have HSQ:=hide h
 have HOK:=hide hok
 clear h hok hnl
 obtain⟨i0,hi0,hzz0,hzz1,hzz2⟩:=info_parts Tryz.infoSq
 go_enter Tryz.func61,Tryz.ntmps61
 go_wp2_with fail
 rw[<- hwA]
 clear hwA
 go_loopw [4] (fun i wr=>∃(k:Nat) (V:Value) (A:Nat->Option Addr) (C:Nat->Nat),k<=n∧i=.int .i64 (k:Int)∧wr.heap[w.heap.size]?=some (.cells #[.int .i64 z,.slice a n cap] 26)∧wr.heap[w.heap.size+1]?=some (.cells #[.int .i64 0,.slice none 0 0] 26)∧wr.heap[w.heap.size+1+1]?=some (.cells #[.int .i64 z,V] 26) ∧
  wr.ownsRow (w.heap.size+3) 42 3 V k (rowL A C qs k)∧Pgs (w.heap.size+3) wr k qs A C∧w.heap.size+3<=wr.heap.size∧Below w.heap.size w wr) (fun i _=>n-(intOf i).toNat)
 case atStart=>exact⟨0,.slice none 0 0,fun _=>none,fun _=>0,Nat.zero_le _,rfl,H0.out,H1.out,H2.out,World.ownsRow_nil _ _ _ _,Pgs.nil _ _ _ _ _,by omega,HBA.out⟩
 case round =>
  obtain⟨k,V,A,C,hk,rfl,hb0,hb1,hb2,hown,hpg,hsz,hbel⟩:=hrel
  clear H0 H1 H2 HBA
  obtain⟨c0,c1⟩:=two_cells hb0
  have K0:=hide hb0
  have K1:=hide hb1
  have K2:=hide hb2
  have HOW:=hide hown
  have HPG:=hide hpg
  have HBB:=hide hbel
  clear hb0 hb1 hb2 hown hpg
  by_cases hlt:k<n
  ·have hql:k<qs.length:=by rw[HL.out];exact hlt
   obtain⟨_,A0,C0,hx,ht⟩:=HSQ.out
   obtain⟨b,off,rfl,_,hb,hc⟩:=hx.2 (by omega)
   obtain⟨d0,d1,d2⟩:=sq_cells hc hbel (show b<w.heap.size by omega) hlt
   have HTX:=hide ((ht k hlt).later hbel (by omega))
   have hl8:(sqAt qs k).1.length<=8:=by have:=(sqOk_parts (chipOk_at HOK.out hql)).1;omega
   have HSN:=hide (fun a' c'=>rowL_snoc A C qs k a' c')
   have HPS:=hide (fun (a':Option Addr) (c':Nat) (w':World) (hb:Below wr.heap.size wr w') (ho:PgOwn (w.heap.size+3) w' a' c' (sqAt qs k).1) (hf:∀m,oB a'=some m->wr.heap.size<=m)=>HPG.out.snoc hb ho hf)
   clear hc hx ht hbel HPG
   generalize sqAt qs k=y at *
   obtain⟨ts,zw,bd⟩:=y
   dsimp only at d0 d1 d2 hl8 HTX HSN HPS
   obtain⟨wB,hwB⟩:∃wB,wB=(wr.alloc (.cells #[.slice (A0 k) ts.length (C0 k),.int .i64 zw,.bool bd] 42)).alloc (.cells #[] 9):=⟨_,rfl⟩
   have hzB:wB.heap.size=wr.heap.size+1+1:=by rw[hwB];simp
   have HB1:Hid (Below wr.heap.size wr wB):=by rw[hwB];exact(((Below.refl _ _).alloc (Nat.le_refl _) _).alloc (by simp) _)
   have HS0:Hid (wB.heap[wr.heap.size]?=some (.cells #[.slice (A0 k) ts.length (C0 k),.int .i64 zw,.bool bd] 42)):=by rw[hwB];exact heap_old (heap_new _ _)
   have hmade:wB.ownsRow (w.heap.size+3) 9 1 (.slice (some ⟨wr.heap.size+1,0,none⟩) 0 0) 0 []:=by
    have:=own_made0 (wr.alloc (.cells #[.slice (A0 k) ts.length (C0 k),.int .i64 zw,.bool bd] 42)) 9
    rw[<- hwB] at this
    have e:(wr.alloc (.cells #[.slice (A0 k) ts.length (C0 k),.int .i64 zw,.bool bd] 42)).heap.size=wr.heap.size+1:=by simp
    rw[e] at this
    exact this.mono (by omega)
   obtain⟨a',c',w2,hap,hpo,hgr,hfr⟩:=append_pages (P:=Tryz.prog) Tryz.infoStrC Tryz.underlying40 hmade (by omega) (c:=C0 k) (HTX.out.later HB1.out HTX.out.2.1) (by omega)
   have hzB2:=hgr.size
   have HAP:=hide hap
   have HB2:=hide (HB1.out.grown hgr (by omega) (fun m hm=>by simp only[Option.some.injEq] at hm;omega))
   have HS2:Hid (w2.heap[wr.heap.size]?=some (.cells #[.slice (A0 k) ts.length (C0 k),.int .i64 zw,.bool bd] 42)):=(hgr.block wr.heap.size (by omega) (fun e=>by simp only[Option.some.injEq] at e;omega)).trans HS0.out
   have HP2:=hide (HPS.out a' c' w2 HB2.out hpo (fun m hm=>by have:=hfr m hm;omega))
   obtain⟨s0,s1,s2⟩:=three_cells HS0.out
   obtain⟨u0,u1,u2⟩:=three_cells HS2.out
   have fz:=four_frozen HS2.out 0
   clear hap hpo hgr hfr HPS hmade
   rw[hwB] at s0 s1 s2
   go_upto_region 7 with(at_builtin;(first|rw[<- hwB]|skip);refine wpList_append_eq rfl (.tmp 21) (.tmp 23) 40 rfl _ _ _ w2 rfl rfl HAP.out ?_)
   have HS3:=hide (set_block HS2.out 0 (.slice a' ts.length c') (by simp))
   have K03:=hide (set_other (block_on K0.out HB2.out) (show wr.heap.size≠w.heap.size by omega) (o:=0) (.slice a' ts.length c'))
   have K13:=hide (set_other (block_on K1.out HB2.out) (show wr.heap.size≠w.heap.size+1 by omega) (o:=0) (.slice a' ts.length c'))
   have K23:=hide (set_other (block_on K2.out HB2.out) (show wr.heap.size≠w.heap.size+1+1 by omega) (o:=0) (.slice a' ts.length c'))
   have HP3:=hide (HP2.out.keepT (grown_set w2 ⟨wr.heap.size,0,none⟩ (.slice a' ts.length c')) HS2.out (by decide))
   have HO3:=hide (ownsRow_setCell_other (HOW.out.kept (grown_below HB2.out none) (by cases hv:V.ownBlock with|none=>exact .inl rfl|some q=>exact .inr (by simp))) (a:=⟨wr.heap.size,0,none⟩) (by intro e;have:=(HOW.out.lt _ e).2;simp at this) (.slice a' ts.length c'))
   have HB3:=hide (HB2.out.setCell (p:=⟨wr.heap.size,0,none⟩) (Nat.le_refl _) (.slice a' ts.length c'))
   have hz3:w2.heap.size=(w2.setCell ⟨wr.heap.size,0,none⟩ (.slice a' ts.length c')).heap.size:=(Go.Deep.nblk_setCell _ _ _).symm
   clear HS2 HP2 K0 K1 K2 HOW HB2 HS0 HB1 HAP s0 s1 s2 u0 u1 u2 fz hwB c0 c1
   generalize w2.setCell ⟨wr.heap.size,0,none⟩ (.slice a' ts.length c')=w3 at *
   obtain⟨s0,s1,s2⟩:=three_cells (show w3.heap[wr.heap.size]?=some (.cells #[.slice a' ts.length c',.int .i64 zw,.bool bd] 42) from HS3.out)
   obtain⟨o0,o1⟩:=two_cells K23.out
   have HO4:=hide (HO3.out.alloc (.cells #[.slice a' ts.length c',.int .i64 zw,.bool bd] 42))
   have HB4:=hide ((Below.refl w3.heap.size w3).alloc (Nat.le_refl _) (.cells #[.slice a' ts.length c',.int .i64 zw,.bool bd] 42))
   have hz4:(w3.alloc (.cells #[.slice a' ts.length c',.int .i64 zw,.bool bd] 42)).heap.size=w3.heap.size+1:=by simp
   go_wp2_with (at_builtin;(refine wpList_append_own_at _ rfl (.tmp 27) (.tmp 29) 24 rfl (w.heap.size+3) 42 i0 (.agg #[.slice none 0 0,.int .i64 0,.bool false]) 3 40 Tryz.underlying24 hi0 hzz0 hzz1 hzz2 rfl (by decide) V k (rowL A C qs k) rfl HO4.out ⟨w3.heap.size,0,none⟩ 1 1 [.slice a' ts.length c',.int .i64 zw,.bool bd] rfl rfl (cell_three_new _ _ _ _ _) (three_one _ _ _ _ _) (by unfold maxLen;omega) (by omega) (by omega) ?_);intro v' w5 hown5 hgr5 _ _;obtain⟨g',q',rfl⟩:=Go.Joins.ownsRow_form hown5 (Nat.succ_pos k);have HOW5:=hide hown5;have HGR5:=hide hgr5;have K25:Hid (w5.heap[w.heap.size+1+1]?=some (.cells #[.int .i64 z,V] 26)):=(hgr5.block _ (by omega) (fun e=>by have:=(HO4.out.lt _ e.symm).1;omega)).trans (block_on K23.out HB4.out);obtain⟨o2,o3⟩:=two_cells K25.out;have f5:=four_frozen K25.out 1;clear hown5 hgr5)
   have hz5:=HGR5.out.size
   have hV:∀m,V.ownBlock=some m->w.heap.size+3<=m:=fun m hm=>(HO4.out.lt m hm).1
   obtain⟨v',hv'⟩:∃v',v'=Value.slice (some ⟨g',0,none⟩) (k+1) q':=⟨_,rfl⟩
   rw[<- hv'] at HOW5 ⊢
   refine⟨⟨k+1,v',upd A k a',upd C k c',by omega,by go_num,?_,?_,set_block K25.out 1 v' (by simp),?_,?_,?_,?_⟩,by simp[intOf];omega⟩
   ·exact set_other ((HGR5.out.block _ (by omega) (fun e=>by have:=hV _ e.symm;omega)).trans (block_on K03.out HB4.out)) (by omega) _
   ·exact set_other ((HGR5.out.block _ (by omega) (fun e=>by have:=hV _ e.symm;omega)).trans (block_on K13.out HB4.out)) (by omega) _
   ·rw[<- HSN.out];exact ownsRow_setCell_below HOW5.out (a:=⟨w.heap.size+1+1,1,none⟩) (by show w.heap.size+1+1<_;omega) v'
   ·refine((HP3.out.later HB4.out).keep HGR5.out (fun i m hi hm e=>?_)).keepT (grown_set w5 ⟨w.heap.size+1+1,1,none⟩ v') K25.out (by decide)
    obtain⟨cs,fz,h2⟩:=Go.Lib.ownsRow_kind HO4.out m e
    exact pg_ne ((HP3.out.later HB4.out).own i hi) h2 (by decide) hm
   ·rw[Go.Deep.nblk_setCell];omega
   ·exact((below_here (HBB.out.trans (HB3.out.mono (by omega))) HB4.out).grown HGR5.out (by omega) (fun m hm=>by have:=hV m hm;omega)).setCell (p:=⟨w.heap.size+1+1,1,none⟩) (by show w.heap.size<=w.heap.size+1+1;omega) v'
  ·obtain rfl:k=n:=by omega
   obtain⟨g,c,rfl,hG⟩:=grow_of_row (by omega) HL.out HOW.out HPG.out (by decide)
   obtain⟨o0,o1⟩:=two_cells K2.out
   obtain⟨p0,p1⟩:=two_cells K1.out
   have f0:=four_frozen K1.out 0
   have f1:=four_frozen K1.out 1
   have HRS:=hide (two_set K1.out (.int .i64 z) (.slice (some ⟨g,0,none⟩) k c))
   have HAS:=hide (two_aside (b:=w.heap.size+1) (Aside.refl (w.heap.size+1) (w.heap.size+2) wr) (by omega) (by omega) (.int .i64 z) (.slice (some ⟨g,0,none⟩) k c))
   have HGG:=hide ((hG.aside HAS.out (.inl (by omega))).mono (show w.heap.size<=w.heap.size+3 by omega))
   have HBF:=hide (HBB.out.trans (HAS.out.below (B:=w.heap.size) (by omega) (by omega)))
   clear hG
   go_wp2_with fail
   refine bodyPost_ret (results_cell rfl rfl (run_loadVar_row _ _ _ _ _ _ _ HRS.out Tryz.underlying26 rfl (by kernel_rfl))) rfl ⟨g,c,A,C,rfl,HGG.out,HBF.out⟩
end Go.Proofs.YtgjoepdfhadmcaaGreatDoor
end

section
namespace Go.Proofs.YtgjoepdfhadmcaaGreatDoor
open Go.RowKit
set_option linter.unusedVariables false
structure Only (B g:Nat)(w w':World):Prop where
 below:Below B w w'
 other:∀k cs T fr,k≠g->T≠9->w.heap[k]?=some (.cells cs T fr)->w'.heap[k]?=some (.cells cs T fr)
section
variable {B g:Nat}{w w1 w2:World}
theorem Only.refl (B g:Nat)(w:World):Only B g w w:=⟨Below.refl _ _,fun _ _ _ _ _ _ h=>h⟩
theorem Only.trans (h:Only B g w w1)(k:Only B g w1 w2):Only B g w w2:=⟨h.below.trans k.below,fun q cs T fr h1 h2 h3=>k.other q cs T fr h1 h2 (h.other q cs T fr h1 h2 h3)⟩
theorem Only.on (h:Only B g w w1)(hb:Below w1.heap.size w1 w2)(hB:B<=w1.heap.size):Only B g w w2 :=
 ⟨h.below.trans (hb.mono hB),fun q cs T fr h1 h2 h3=>block_on (h.other q cs T fr h1 h2 h3) hb⟩
theorem only_of_below (h:Below w.heap.size w w1)(hB:B<=w.heap.size):Only B g w w1:=(Only.refl B g w).on h hB
theorem Only.grown (h:Only B g w w1){a:Option Addr}{c:Nat}{ts:List ByteArray}(hp:PgOwn B w1 a c ts)(hg:w1.grownBy w2 (oB a))(hB:B<=w1.heap.size):Only B g w w2 :=
 ⟨h.below.grown hg hB (fun k hk=>(pg_lt hp k hk).1),fun q cs T fr h1 h2 h3=>by
  have h4:=h.other q cs T fr h1 h2 h3
  rw[hg.block q (Array.getElem?_eq_some_iff.1 h4).1 (fun e=>pg_ne hp h4 h2 e.symm)]
  exact h4⟩
theorem Only.set (h:Only B g w w1)(hg:B<=g)(j:Nat)(v:Value):Only B g w (w1.setCell ⟨g,j,none⟩ v) :=
 ⟨h.below.setCell (p:=⟨g,j,none⟩) hg v,fun q cs T fr h1 h2 h3=>set_other (h.other q cs T fr h1 h2 h3) (Ne.symm h1) v⟩
theorem Only.setPg (h:Only B g w w1){p c:Nat}{ts:List ByteArray}(hp:PgOwn B w1 (some ⟨p,0,none⟩) c ts)(k:Nat)(v:Value):Only B g w (w1.setCell ⟨p,k,none⟩ v) :=
 ⟨h.below.setCell (p:=⟨p,k,none⟩) (pg_lt hp p rfl).1 v,fun q cs T fr h1 h2 h3=>by
  have h4:=h.other q cs T fr h1 h2 h3
  exact set_other h4 (fun e=>pg_ne hp h4 h2 (by rw[<- e];rfl)) v⟩
end
def sqDo (q:Sq)(kd:Int)(tx:ByteArray):Sq:=if kd=1 then(q.1++[tx],q.2.1,q.2.2) else if kd=2 then([],q.2.1+1,q.2.2) else(q.1,q.2.1,true)
def doJ (z:Int)(qs:List Sq)(j:Jb):List Sq:=if canJ z qs j then qs.set j.2.1.toNat (sqDo (sqAt qs j.2.1.toNat) j.1 j.2.2) else qs
theorem canJ_parts {z:Int}{qs:List Sq}{j:Jb}(h:canJ z qs j=true):∃i:Nat,j.2.1=(i:Int)∧i<qs.length∧(sqAt qs i).2.2=false∧canK z (sqAt qs i) j.1 j.2.2=true:=by
 unfold canJ inB at h
 simp only[Bool.and_eq_true,decide_eq_true_eq,Bool.not_eq_true'] at h
 obtain⟨⟨h1,h2⟩,h3,h4⟩:=h
 exact⟨j.2.1.toNat,by omega,by omega,h3,h4⟩
theorem canK_kind {z:Int}{q:Sq}{kd:Int}{tx:ByteArray}(h:canK z q kd tx=true):(kd=1∧(q.1.length:Int)<z∧1<=tx.size∧tx.size<=200)∨(kd=2∧q.2.1<1000000)∨kd=3:=by
 unfold canK txOk at h
 by_cases h1:kd=1
 ·rw[if_pos h1] at h
  simp only[Bool.and_eq_true,decide_eq_true_eq] at h
  exact .inl ⟨h1,h.1,h.2.1,h.2.2⟩
 ·rw[if_neg h1] at h
  by_cases h2:kd=2
  ·rw[if_pos h2] at h
   exact .inr (.inl ⟨h2,by simpa using h⟩)
  ·rw[if_neg h2] at h
   exact .inr (.inr (by simpa using h))
theorem doJ_yes {z:Int}{qs:List Sq}{kd:Int}{i:Nat}{tx:ByteArray}(h:canJ z qs (kd,(i:Int),tx)=true):doJ z qs (kd,(i:Int),tx)=qs.set i (sqDo (sqAt qs i) kd tx):=by
 unfold doJ;rw[if_pos h];simp
theorem doJ_no {z:Int}{qs:List Sq}{j:Jb}(h:canJ z qs j=false):doJ z qs j=qs:=by
 unfold doJ;rw[if_neg (by rw[h];simp)]
theorem set_ok {z:Int}{qs:List Sq}{i:Nat}{x:Sq}(h:chipOk z qs=true)(hx:sqOk z x=true):chipOk z (qs.set i x)=true:=by
 obtain⟨h1,h2,h3,h4,h5⟩:=chipOk_parts h
 unfold chipOk inB
 simp only[Bool.and_eq_true,decide_eq_true_eq,List.all_eq_true,List.length_set]
 refine⟨⟨h1,h2⟩,h3,h4,fun q hq=>?_⟩
 rcases List.mem_or_eq_of_mem_set hq with h|h
 ·exact h5 q h
 ·rw[h];exact hx
theorem sqDo_ok {z:Int}{q:Sq}{kd:Int}{tx:ByteArray}(h:sqOk z q=true)(hk:canK z q kd tx=true)(hz:1<=z):sqOk z (sqDo q kd tx)=true:=by
 have h0:=h
 unfold sqOk inB at h ⊢
 simp only[Bool.and_eq_true,decide_eq_true_eq,List.all_eq_true] at h ⊢
 obtain⟨h1,⟨h2,h3⟩,h4⟩:=h
 rcases canK_kind hk with⟨rfl,k1,k2,k3⟩|⟨rfl,k1⟩|rfl
 ·unfold sqDo
  rw[if_pos rfl]
  refine⟨by simp;omega,⟨h2,h3⟩,fun s hs=>?_⟩
  simp only[List.mem_append,List.mem_singleton] at hs
  rcases hs with hs|rfl
  ·exact h4 s hs
  ·unfold txOk;simp[k2,k3]
 ·unfold sqDo
  rw[if_neg (by decide),if_pos rfl]
  exact⟨by simp;omega,⟨by show 0<=q.2.1+1;omega,by show q.2.1+1<=1000000;omega⟩,fun s hs=>absurd hs (by simp)⟩
 ·unfold sqDo
  rw[if_neg (by decide),if_neg (by decide)]
  exact⟨h1,⟨h2,h3⟩,h4⟩
theorem doJ_ok {z:Int}{qs:List Sq}{j:Jb}(h:chipOk z qs=true):chipOk z (doJ z qs j)=true:=by
 cases hc:canJ z qs j with
 | false=>rw[doJ_no hc];exact h
 | true =>
  obtain⟨i,hi,hl,_,hk⟩:=canJ_parts hc
  obtain⟨kd,sq,tx⟩:=j
  dsimp only at hi hk
  subst hi
  rw[doJ_yes hc]
  exact set_ok h (sqDo_ok (chipOk_at h hl) hk (chipOk_parts h).1)
theorem total_small {ts:List ByteArray}{n:Nat}(hl:ts.length<=n)(h:∀s∈ts,s.size<=200):total ts<=n*200:=by
 induction ts generalizing n with
 | nil=>simp[total]
 | cons t ts ih =>
  cases n with
  | zero=>simp at hl
  | succ n =>
   have h1:=ih (n:=n) (by simpa using hl) (fun s hs=>h s (by simp[hs]))
   have h2:=h t (by simp)
   unfold total at h1 ⊢
   simp only[List.map_cons,List.sum_cons]
   omega
theorem weight_small {qs:List Sq}{n:Nat}(hl:qs.length<=n)(h:∀q∈qs,q.1.length+total q.1<=1608):weight qs<=n*1608:=by
 induction qs generalizing n with
 | nil=>simp[weight]
 | cons t ts ih =>
  cases n with
  | zero=>simp at hl
  | succ n =>
   have h1:=ih (n:=n) (by simpa using hl) (fun s hs=>h s (by simp[hs]))
   have h2:=h t (by simp)
   unfold weight at h1 ⊢
   simp only[List.map_cons,List.sum_cons]
   omega
theorem chipOk_fit {z:Int}{qs:List Sq}(h:chipOk z qs=true):qs.length+weight qs<=1048576:=by
 obtain⟨h1,h2,h3,h4,h5⟩:=chipOk_parts h
 have:=weight_small (n:=12) h4 (fun q hq=>by
  obtain⟨k1,_,_,k4⟩:=sqOk_parts (h5 q hq)
  have k5:q.1.length<=8:=by omega
  have:=total_small k5 (fun s hs=>(k4 s hs).2)
  omega)
 omega
end Go.Proofs.YtgjoepdfhadmcaaGreatDoor
end

section
namespace Go.Proofs.YtgjoepdfhadmcaaGreatDoor
open Go.RowKit
set_option linter.unusedVariables false
structure Gath (P:Nat->Bool)(r:Nat->Rk)(k m:Nat)(f:Nat->Rk):Prop where
 mem:∀x,(∃i,i<m∧f i=x)↔∃j,j<k∧P j=true∧r j=x
 inj:InjR m f
 le:m<=k
theorem Gath.nil (P:Nat->Bool)(r f:Nat->Rk):Gath P r 0 0 f :=
 ⟨fun x=>⟨fun ⟨i,hi,_⟩=>absurd hi (by omega),fun ⟨j,hj,_⟩=>absurd hj (by omega)⟩,fun i j hi=>absurd hi (by omega),Nat.le_refl _⟩
theorem Gath.skip {P:Nat->Bool}{r f:Nat->Rk}{k m:Nat}(h:Gath P r k m f)(hp:P k=false):Gath P r (k+1) m f:=by
 refine⟨fun x=>?_,h.inj,by have:=h.le;omega⟩
 rw[h.mem x]
 constructor
 ·rintro⟨j,h1,h2,h3⟩;exact⟨j,by omega,h2,h3⟩
 ·rintro⟨j,h1,h2,h3⟩
  refine⟨j,?_,h2,h3⟩
  by_cases e:j=k
  ·subst e;rw[hp] at h2;cases h2
  ·omega
theorem Gath.push {P:Nat->Bool}{r f f':Nat->Rk}{k m:Nat}(h:Gath P r k m f)(hr:∀i j,r i=r j->i=j)(hp:P k=true)(hs:SameR (m+1) (upd f m (r k)) f'):Gath P r (k+1) (m+1) f':=by
 have hold:∀i,i<m->upd f m (r k) i=f i:=fun i hi=>upd_other _ _ (by omega)
 refine⟨fun x=>?_,hs.inj ?_,by have:=h.le;omega⟩
 ·rw[hs.mem x]
  constructor
  ·rintro⟨i,hi,e⟩
   by_cases ei:i=m
   ·subst ei
    rw[upd_same] at e
    exact⟨k,by omega,hp,e⟩
   ·rw[hold i (by omega)] at e
    obtain⟨j,h1,h2,h3⟩:=(h.mem x).1 ⟨i,by omega,e⟩
    exact⟨j,by omega,h2,h3⟩
  ·rintro⟨j,h1,h2,h3⟩
   by_cases ej:j=k
   ·subst ej
    exact⟨m,by omega,by rw[upd_same,h3]⟩
   ·obtain⟨i,hi,e⟩:=(h.mem x).2 ⟨j,by omega,h2,h3⟩
    exact⟨i,by omega,by rw[hold i hi,e]⟩
 ·intro i j hi hj e
  have hno:∀t,t<m->f t≠r k:=fun t ht et=>by
   obtain⟨j,h1,h2,h3⟩:=(h.mem (r k)).1 ⟨t,ht,et⟩
   have:=hr _ _ h3
   omega
  by_cases ei:i=m
  ·subst ei
   by_cases ej:j=i
   ·exact ej.symm
   ·rw[upd_same,hold j (by omega)] at e
    exact absurd e.symm (hno j (by omega))
  ·rw[hold i (by omega)] at e
   by_cases ej:j=m
   ·subst ej
    rw[upd_same] at e
    exact absurd e (hno i (by omega))
   ·rw[hold j (by omega)] at e
    exact h.inj i j (by omega) (by omega) e
structure Taken (P:Nat->Bool)(r:Nat->Rk)(n:Nat)(l:List Nat)(m:Nat)(f:Nat->Rk):Prop where
 sorted:List.Pairwise (fun i j=>lessR (r i) (r j)) l
 ahead:∀i,i∈l->∀t,t<m->lessR (r i) (f t)
 mem:∀j,(j<n∧P j=true)↔(j∈l∨∃t,t<m∧f t=r j)
 inj:InjR m f
 of:∀t,t<m->∃j,j<n∧P j=true∧r j=f t
theorem Taken.start {P:Nat->Bool}{r f:Nat->Rk}{n m:Nat}(h:Gath P r n m f)(hr:∀i j,r i=r j->i=j):Taken P r n [] m f:=by
 refine⟨List.Pairwise.nil,fun i hi=>by simp at hi,fun j=>?_,h.inj,fun t ht=>(h.mem (f t)).1 ⟨t,ht,rfl⟩⟩
 constructor
 ·rintro⟨h1,h2⟩
  exact .inr ((h.mem (r j)).2 ⟨j,h1,h2,rfl⟩)
 ·rintro(h1|h1)
  ·simp at h1
  ·obtain⟨i,h2,h3,h4⟩:=(h.mem (r j)).1 h1
   have:=hr _ _ h4
   subst this
   exact⟨h2,h3⟩
theorem Taken.next {P:Nat->Bool}{r f f':Nat->Rk}{n m j:Nat}{l:List Nat}(h:Taken P r n l (m+1) f)(hr:∀i j,r i=r j->i=j)(hh:HeapR (m+1) f)(hj:f 0=r j)(hs:SameR m (swp f 0 m) f'):Taken P r n (l++[j]) m f':=by
 have back:∀t,t<m->∃s,0<s∧s<m+1∧f' t=f s:=fun t ht=>by
  obtain⟨i,hi,e⟩:=(hs.mem (f' t)).1 ⟨t,ht,rfl⟩
  obtain⟨s,e2,hc⟩:=swp_at f 0 m i
  refine⟨s,?_,?_,by rw[<- e2,e]⟩
  ·omega
  ·omega
 have forth:∀s,0<s->s<m+1->∃t,t<m∧f' t=f s:=fun s h0 h1=>by
  refine(hs.mem (f s)).2 ?_
  by_cases e:s=m
  ·subst e
   exact⟨0,h0,swp_l _ _ _⟩
  ·exact⟨s,by omega,swp_o f 0 m (by omega) e⟩
 have far:∀s,0<s->s<m+1->lessR (f 0) (f s):=fun s h0 h1=>by
  have h2:=hh.least s h1
  by_cases h3:lessR (f 0) (f s)
  ·exact h3
  ·have e:=leR_anti h3 h2
   have:=h.inj 0 s (by omega) h1 e
   omega
 refine⟨?_,?_,fun i=>?_,?_,fun t ht=>?_⟩
 ·rw[List.pairwise_append]
  refine⟨h.sorted,List.pairwise_singleton _ _,fun a ha b hb=>?_⟩
  rw[List.mem_singleton] at hb
  subst hb
  rw[<- hj]
  exact h.ahead a ha 0 (by omega)
 ·intro i hi t ht
  obtain⟨s,h0,h1,e⟩:=back t ht
  rw[e]
  rw[List.mem_append,List.mem_singleton] at hi
  rcases hi with hi|rfl
  ·exact h.ahead i hi s h1
  ·rw[<- hj];exact far s h0 h1
 ·rw[h.mem i,List.mem_append,List.mem_singleton]
  constructor
  ·rintro(hi|⟨t,ht,e⟩)
   ·exact .inl (.inl hi)
   ·by_cases e0:t=0
    ·subst e0
     rw[hj] at e
     exact .inl (.inr (hr _ _ e).symm)
    ·obtain⟨t',h1,h2⟩:=forth t (by omega) ht
     exact .inr ⟨t',h1,by rw[h2,e]⟩
  ·rintro((hi|rfl)|⟨t,ht,e⟩)
   ·exact .inl hi
   ·exact .inr ⟨0,by omega,hj⟩
   ·obtain⟨s,h0,h1,e2⟩:=back t ht
    exact .inr ⟨s,h1,by rw[<- e2,e]⟩
 ·refine hs.inj ?_
  intro a b ha hb e
  obtain⟨s,e1,hc1⟩:=swp_at f 0 m a
  obtain⟨t,e2,hc2⟩:=swp_at f 0 m b
  rw[e1,e2] at e
  have:=h.inj s t (by omega) (by omega) e
  omega
 ·obtain⟨s,h0,h1,e⟩:=back t ht
  rw[e]
  exact h.of s h1
def rkE (qs:List Sq)(j:Nat):Rk:=(0,(sqAt qs j).2.1,(j:Int))
theorem rkE_inj (qs:List Sq):∀i j,rkE qs i=rkE qs j->i=j:=fun i j h=>by
 have:=congrArg (fun x:Rk=>x.2.2) h
 have h2:(i:Int)=(j:Int):=this
 omega
theorem rkE_less {qs:List Sq}{i j:Nat}(h:lessR (rkE qs i) (rkE qs j)):aheadW qs i j:=by
 unfold lessR rkE at h
 unfold aheadW
 dsimp only at h
 omega
theorem Taken.empty {qs:List Sq}{l:List Nat}{f:Nat->Rk}{n:Nat}(h:Taken (fun j=>isEmpty (sqAt qs j)) (rkE qs) n l 0 f):l=emptyK qs n:=by
 refine sorted_one (h.sorted.imp rkE_less) (emptyK_sorted qs n) (fun x=>?_)
 rw[emptyK_mem,h.mem x]
 constructor
 ·exact fun hx=>.inl hx
 ·rintro(hx|⟨t,ht,_⟩)
  ·exact hx
  ·omega
def rkV9 (qs:List Sq)(ps:List Pl)(j:Nat):Rk:=((liveN ps (j:Int):Int),(sqAt qs j).2.1,(j:Int))
theorem rkV9_inj (qs:List Sq)(ps:List Pl):∀i j,rkV9 qs ps i=rkV9 qs ps j->i=j:=fun i j h=>by
 have:=congrArg (fun x:Rk=>x.2.2) h
 have h2:(i:Int)=(j:Int):=this
 omega
theorem bestK_none {qs:List Sq}{ps:List Pl}{op:Int}:∀{k:Nat},bestK qs ps op k=none->∀j,j<k->mayV qs op j=false
 | 0,_,j,hj=>absurd hj (by omega)
 | k+1,h,j,hj=>by
  unfold bestK at h
  split at h
  ·split at h
   ·cases h
   ·split at h<;>cases h
  ·rename_i hm
   by_cases e:j=k
   ·subst e;simpa using hm
   ·exact bestK_none h j (by omega)
theorem bestK_some {qs:List Sq}{ps:List Pl}{op:Int}:∀{k b:Nat},bestK qs ps op k=some b->mayV qs op b=true∧∀j,j<k->mayV qs op j=true->¬lessR (rkV9 qs ps j) (rkV9 qs ps b)
 | 0,b,h=>by cases h
 | k+1,b,h=>by
  unfold bestK at h
  split at h
  ·rename_i hm
   split at h
   ·rename_i hn
    cases h
    refine⟨hm,fun j hj hv=>?_⟩
    by_cases e:j=k
    ·subst e;exact fun hh=>lessR_asymm hh hh
    ·rw[bestK_none hn j (by omega)] at hv;cases hv
   ·rename_i c hc
    have ih:=bestK_some hc
    have hck:=bestK_lt hc
    split at h
    ·rename_i hb
     cases h
     refine⟨hm,fun j hj hv=>?_⟩
     by_cases e:j=k
     ·subst e;exact fun hh=>lessR_asymm hh hh
     ·have h1:=ih.2 j (by omega) hv
      unfold betterV at hb
      simp only[Bool.or_eq_true,Bool.and_eq_true,decide_eq_true_eq] at hb
      have h2:lessR (rkV9 qs ps k) (rkV9 qs ps c):=by unfold lessR rkV9;dsimp only;omega
      exact leR_trans (leR_of_less h2) h1
    ·rename_i hb
     cases h
     refine⟨ih.1,fun j hj hv=>?_⟩
     by_cases e:j=k
     ·subst e
      unfold betterV at hb
      simp only[Bool.or_eq_true,Bool.and_eq_true,decide_eq_true_eq] at hb
      unfold lessR rkV9
      dsimp only
      omega
     ·exact ih.2 j (by omega) hv
  ·rename_i hm
   have ih:=bestK_some h
   refine⟨ih.1,fun j hj hv=>?_⟩
   by_cases e:j=k
   ·subst e;rw[hv] at hm;exact absurd rfl hm
   ·exact ih.2 j (by omega) hv
theorem Gath.best {qs:List Sq}{ps:List Pl}{op:Int}{n m:Nat}{f:Nat->Rk}(h:Gath (mayV qs op) (rkV9 qs ps) n (m+1) f)(hh:HeapR (m+1) f):∃b,bestK qs ps op n=some b∧f 0=rkV9 qs ps b:=by
 obtain⟨j,h1,h2,h3⟩:=(h.mem (f 0)).1 ⟨0,by omega,rfl⟩
 cases hb:bestK qs ps op n with
 | none=>rw[bestK_none hb j h1] at h2;cases h2
 | some b =>
  refine⟨b,rfl,?_⟩
  have hs:=bestK_some hb
  have hlt:=bestK_lt hb
  obtain⟨t,h4,h5⟩:=(h.mem (rkV9 qs ps b)).2 ⟨b,hlt,hs.1,rfl⟩
  have h6:=hh.least t h4
  rw[h5] at h6
  have h7:=hs.2 j h1 h2
  rw[h3] at h7
  exact leR_anti h7 h6
theorem Gath.none {qs:List Sq}{ps:List Pl}{op:Int}{n:Nat}{f:Nat->Rk}(h:Gath (mayV qs op) (rkV9 qs ps) n 0 f):bestK qs ps op n=none:=by
 cases hb:bestK qs ps op n with
 | none=>rfl
 | some b =>
  have hs:=bestK_some hb
  obtain⟨t,h4,_⟩:=(h.mem (rkV9 qs ps b)).2 ⟨b,bestK_lt hb,hs.1,rfl⟩
  omega
end Go.Proofs.YtgjoepdfhadmcaaGreatDoor
end

section
namespace Go.Proofs.YtgjoepdfhadmcaaGreatDoor
open Go.RowKit
set_option linter.unusedVariables false
theorem nodup_lt:∀(L:Nat) (l:List Nat),l.Nodup->(∀x∈l,x<L)->l.length<=L
 | 0,l,_,h=>by
  cases l with
  | nil=>exact Nat.le_refl _
  | cons x xs=>exact absurd (h x (by simp)) (by omega)
 | L+1,l,hn,h=>by
  by_cases hm:L∈l
  ·have h1:=nodup_lt L (l.erase L) (hn.erase L) (fun x hx=>by
    rw[hn.mem_erase_iff] at hx
    have:=h x hx.2
    have:=hx.1
    omega)
   rw[List.length_erase_of_mem hm] at h1
   omega
  ·have h1:=nodup_lt L l hn (fun x hx=>by
    have:=h x hx
    by_cases e:x=L
    ·subst e;exact absurd hx hm
    ·omega)
   omega
def pagesK (ps:List Pl)(b:Int)(k:Nat):List Nat:=((ps.take k).filter (fun p=>p.1==b)).map (fun p=>p.2.toNat)
theorem take_mem {ps:List Pl}{k:Nat}{x:Pl}(h:x∈ps.take k):∃j,j<k∧j<ps.length∧plAt ps j=x:=by
 obtain⟨j,hj,e⟩:=List.getElem_of_mem h
 rw[List.length_take] at hj
 refine⟨j,by omega,by omega,?_⟩
 rw[List.getElem_take] at e
 unfold plAt
 rw[List.getD_eq_getElem?_getD,List.getElem?_eq_getElem (by omega)]
 exact e
theorem plOk_at {z:Int}{qs:List Sq}{ps:List Pl}(h:mapOk z qs ps=true){i:Nat}(hi:i<ps.length):plOk qs ps i=true:=by
 unfold mapOk at h
 simp only[Bool.and_eq_true] at h
 exact List.all_eq_true.1 h.2.2.2 i (List.mem_range.2 hi)
theorem plOk_page {qs:List Sq}{ps:List Pl}{i b:Nat}(h:plOk qs ps i=true)(hb:(plAt ps i).1=(b:Int)):0<=(plAt ps i).2∧(plAt ps i).2<((sqAt qs b).1.length:Int)∧∀k,k<i->plAt ps k≠plAt ps i:=by
 unfold plOk at h
 rw[Bool.or_eq_true] at h
 rcases h with h|h
 ·have e:plAt ps i=(-1,0):=by simpa using h
  rw[e] at hb
  have:(-1:Int)=(b:Int):=hb
  omega
 ·rw[Bool.and_eq_true] at h
  obtain⟨h1,h2⟩:=h
  unfold plThere inB at h1
  simp only[Bool.and_eq_true,decide_eq_true_eq] at h1
  rw[hb,Int.toNat_natCast] at h1
  refine⟨h1.2.1,by omega,fun k hk e=>?_⟩
  have:=List.all_eq_true.1 h2 k (List.mem_range.2 hk)
  simp[e] at this
theorem pagesK_ok {z:Int}{qs:List Sq}{ps:List Pl}(h:mapOk z qs ps=true)(b:Nat):∀k,k<=ps.length->(pagesK ps (b:Int) k).Nodup∧∀x∈pagesK ps (b:Int) k,x<(sqAt qs b).1.length
 | 0,_=>by unfold pagesK;simp
 | k+1,hk=>by
  have ih:=pagesK_ok h b k (by omega)
  have hkl:k<ps.length:=by omega
  have hok:=plOk_at h hkl
  have hst:pagesK ps (b:Int) (k+1)=pagesK ps (b:Int) k++(if(plAt ps k).1==(b:Int) then [(plAt ps k).2.toNat] else []):=by
   unfold pagesK plAt
   rw[List.take_succ_eq_append_getElem hkl,List.filter_append,List.map_append,List.getD_eq_getElem?_getD,List.getElem?_eq_getElem hkl]
   simp only[Option.getD_some,List.filter_cons,List.filter_nil]
   split<;>simp
  by_cases hb:(plAt ps k).1=(b:Int)
  ·have hpg:=plOk_page hok hb
   have hbb:((plAt ps k).1==(b:Int))=true:=by simpa using hb
   rw[hst,hbb,if_pos rfl]
   refine⟨?_,fun x hx=>?_⟩
   ·rw[List.nodup_append]
    refine⟨ih.1,List.pairwise_singleton _ _,fun x hx y hy=>?_⟩
    rw[List.mem_singleton] at hy
    subst hy
    intro e
    unfold pagesK at hx
    rw[List.mem_map] at hx
    obtain⟨u,hu,hu2⟩:=hx
    rw[List.mem_filter] at hu
    obtain⟨j,hj1,hj2,hj3⟩:=take_mem hu.1
    have hu1:u.1=(b:Int):=by simpa using hu.2
    have hpj:=plOk_page (plOk_at h hj2) (show(plAt ps j).1=(b:Int) by rw[hj3];exact hu1)
    rw[hj3] at hpj
    refine hpg.2.2 j hj1 ?_
    rw[hj3]
    have e2:u.2=(plAt ps k).2:=by omega
    have e1:u.1=(plAt ps k).1:=by rw[hu1,hb]
    exact Prod.ext e1 e2
   ·rw[List.mem_append,List.mem_singleton] at hx
    rcases hx with hx|rfl
    ·exact ih.2 x hx
    ·omega
  ·have hbb:((plAt ps k).1==(b:Int))=false:=by simpa using hb
   rw[hst,hbb]
   simpa using ih
theorem live_le {z:Int}{qs:List Sq}{ps:List Pl}(h:mapOk z qs ps=true)(b:Nat):liveN ps (b:Int)<=(sqAt qs b).1.length:=by
 have h1:=pagesK_ok h b ps.length (Nat.le_refl _)
 have h2:=nodup_lt _ _ h1.1 h1.2
 unfold pagesK at h2
 rw[List.take_of_length_le (Nat.le_refl _),List.length_map] at h2
 exact h2
theorem victim_at {z:Int}{qs:List Sq}{ps:List Pl}{op:Int}(h:0<=victim z qs ps op):∃b:Nat,victim z qs ps op=(b:Int)∧mapOk z qs ps=true∧b<qs.length∧(b:Int)≠op∧(liveN ps (b:Int):Int)<z∧0<(sqAt qs b).1.length∧(sqAt qs b).2.2=false∧∀i,i<qs.length->(i:Int)≠op->0<(sqAt qs i).1.length->(sqAt qs i).2.2=false->liveN ps (b:Int)<=liveN ps (i:Int):=by
 cases hok:mapOk z qs ps with
 | false=>unfold victim at h;rw[hok] at h;simp at h
 | true =>
  have hv:victim z qs ps op=victimV z qs ps op:=by unfold victim;rw[hok];rfl
  rw[hv] at h ⊢
  unfold victimV at h ⊢
  cases hb:bestK qs ps op qs.length with
  | none=>rw[hb] at h;simp at h
  | some b =>
   rw[hb] at h
   dsimp only at h ⊢
   have hs:=bestK_some hb
   have hlt:=bestK_lt hb
   by_cases hz:(liveN ps (b:Int):Int)=z
   ·rw[if_pos hz] at h;omega
   ·rw[if_neg hz]
    have hm:=hs.1
    unfold mayV at hm
    simp only[Bool.and_eq_true,Bool.not_eq_true',beq_eq_false_iff_ne,ne_eq] at hm
    have hle:=live_le hok b
    have hsz:=(sqOk_parts (chipOk_at (mapOk_chip hok) hlt)).1
    refine⟨b,rfl,rfl,hlt,hm.2.2,by omega,by omega,hm.2.1,fun i hi h1 h2 h3=>?_⟩
    have hmi:mayV qs op i=true:=by
     unfold mayV
     have g1:((sqAt qs i).1.length==0)=false:=by simp;intro e;rw[e] at h2;simp at h2
     have g2:((i:Int)==op)=false:=by simpa using h1
     rw[g1,g2,h3];rfl
    have hn:=hs.2 i hi hmi
    unfold lessR rkV9 at hn
    dsimp only at hn
    omega
end Go.Proofs.YtgjoepdfhadmcaaGreatDoor
end

section
namespace Go.Proofs.YtgjoepdfhadmcaaGreatDoor
open Go.RowKit
set_option linter.unusedVariables false
def plL (ps:List Pl):List Value:=(List.range (ps.length*2)).map (cellP ps)
theorem plL_length (ps:List Pl):(plL ps).length=ps.length*2:=by simp[plL]
theorem plL_at (ps:List Pl){j:Nat}(h:j<ps.length*2):(plL ps)[j]?=some (cellP ps j):=by
 unfold plL;rw[List.getElem?_map,List.getElem?_range h];rfl
theorem plAt_snoc_lt (ps:List Pl)(x:Pl){i:Nat}(h:i<ps.length):plAt (ps++[x]) i=plAt ps i:=by
 unfold plAt;rw[List.getD_eq_getElem?_getD,List.getD_eq_getElem?_getD,List.getElem?_append_left h]
theorem plAt_snoc (ps:List Pl)(x:Pl):plAt (ps++[x]) ps.length=x:=by
 unfold plAt;rw[List.getD_eq_getElem?_getD,List.getElem?_append_right (Nat.le_refl _)];simp
theorem plL_snoc (ps:List Pl)(x:Pl):plL ps++[.int .i64 x.1,.int .i64 x.2]=plL (ps++[x]):=by
 have hlen:(ps++[x]).length=ps.length+1:=by simp
 refine List.ext_getElem? fun j=>?_
 by_cases h:j<ps.length*2
 ·rw[List.getElem?_append_left (by rw[plL_length];exact h),plL_at ps h,plL_at _ (by rw[hlen];omega)]
  unfold cellP
  rw[plAt_snoc_lt ps x (show j / 2<ps.length by omega)]
 ·rw[List.getElem?_append_right (by rw[plL_length];omega),plL_length]
  by_cases e0:j=ps.length*2
  ·subst e0
   rw[plL_at _ (by rw[hlen];omega)]
   unfold cellP
   rw[if_pos (by omega),show ps.length*2 / 2=ps.length by omega,plAt_snoc]
   simp
  ·by_cases e1:j=ps.length*2+1
   ·subst e1
    rw[plL_at _ (by rw[hlen];omega)]
    unfold cellP
    rw[if_neg (by omega),show(ps.length*2+1) / 2=ps.length by omega,plAt_snoc]
    simp
   ·rw[List.getElem?_eq_none (by simp;omega),List.getElem?_eq_none (by rw[plL_length,hlen];omega)]
abbrev PlOwn (B:Nat)(w:World)(v:Value)(ps:List Pl):Prop:=w.ownsRow B 39 2 v ps.length (plL ps)
theorem pl_made0 (w:World):PlOwn w.heap.size (w.alloc (.cells #[] 39)) (.slice (some ⟨w.heap.size,0,none⟩) 0 0) []:=by
 have hb:(w.alloc (.cells #[] 39)).heap[w.heap.size]?=some (.cells #[] 39 (0,0)):=heap_new _ _
 exact⟨rfl,.inr ⟨w.heap.size,0,#[],rfl,Nat.le_refl _,hb,Nat.le_refl _,Nat.zero_le _,rfl,rfl⟩⟩
theorem pl_form {B:Nat}{w:World}{v:Value}{ps:List Pl}(h:PlOwn B w v ps):∃a c,v=.slice a ps.length c∧ps.length<=c:=by
 rcases h.2 with⟨e,h0⟩|⟨g,cap,cur,e,_,_,hn,_⟩
 ·exact⟨none,0,by rw[e,h0],by omega⟩
 ·exact⟨_,cap,e,hn⟩
theorem pl_cap {B:Nat}{w:World}{a:Option Addr}{n cm:Nat}{ps:List Pl}(h:PlOwn B w (.slice a n cm) ps):ps.length<=cm:=by
 obtain⟨a',c',e,h2⟩:=pl_form h
 simp only[Value.slice.injEq] at e
 omega
theorem pl_places {B:Nat}{w:World}{a:Option Addr}{c:Nat}{ps:List Pl}(h:PlOwn B w (.slice a ps.length c) ps):Places B w.heap.size w a ps.length ps:=by
 refine⟨rfl,Nat.le_refl _,fun h0=>?_⟩
 rcases h.2 with⟨_,h1⟩|⟨g,cap,cur,e,hg,hgg,_⟩
 ·omega
 ·simp only[Value.slice.injEq,true_and] at e
  obtain⟨rfl,rfl⟩:=e
  refine⟨g,0,rfl,hg,(Array.getElem?_eq_some_iff.1 hgg).1,fun i hi=>?_⟩
  rw[Nat.zero_add,h.cellAt i (by omega),plL_at ps (by omega)]
theorem pl_some {B:Nat}{w:World}{v:Value}{ps:List Pl}(h:PlOwn B w v ps)(h1:1<=ps.length):∃g c,v=.slice (some ⟨g,0,none⟩) ps.length c∧ps.length<=c:=by
 rcases h.2 with⟨e,h0⟩|⟨g,cap,cur,e,_,_,hn,_⟩
 ·omega
 ·exact⟨g,cap,e,hn⟩
theorem cellP_0 (ps:List Pl):cellP ps 0=.int .i64 (plAt ps 0).1:=rfl
theorem cellP_1 (ps:List Pl):cellP ps 1=.int .i64 (plAt ps 0).2:=rfl
theorem Places.wide {lo lo' hi n:Nat}{w:World}{a:Option Addr}{ps:List Pl}(h:Places lo hi w a n ps)(h1:lo'<=lo):Places lo' hi w a n ps :=
 ⟨h.1,h.2.1,fun hn=>by obtain⟨b,off,e,h4,h5,h6⟩:=h.2.2 hn;exact⟨b,off,e,by omega,h5,h6⟩⟩
theorem two_news (w:World)(x y:Int)(t:TypeId):∀j u,[Value.int .i64 x,.int .i64 y][j]?=some u->(w.alloc (.cells #[.int .i64 x,.int .i64 y] t)).cell? ((⟨w.heap.size,0,none⟩:Addr).add j)=some u:=by
 intro j u hj
 have h:=heap_new w (.cells #[.int .i64 x,.int .i64 y] t)
 obtain⟨c0,c1⟩:=two_cells h
 have hadd:(⟨w.heap.size,0,none⟩:Addr).add j=⟨w.heap.size,j,none⟩:=by unfold Addr.add;split<;>simp_all
 rw[hadd]
 match j,hj with
 | 0,hj=>rw[c0];exact hj
 | 1,hj=>rw[c1];exact hj
 | j+2,hj=>simp at hj
theorem two_oneI (x y:Int):∀u∈[Value.int .i64 x,.int .i64 y],u.oneCell'=true:=by
 intro u hu
 simp only[List.mem_cons,List.not_mem_nil,or_false] at hu
 rcases hu with rfl|rfl<;>rfl
theorem own_aside2 {w w':World}{base e s n:Nat}{v:Value}{xs:List Value}(h:w.ownsRow base e s v n xs){l r:Nat}(hb:Aside l r w w')(hr:r<=base):w'.ownsRow base e s v n xs:=by
 obtain⟨h1,h2⟩:=h
 refine⟨h1,?_⟩
 rcases h2 with hn|⟨g,cap,cur,rfl,hbg,hgg,rest⟩
 ·exact .inl hn
 ·exact .inr ⟨g,cap,cur,rfl,hbg,(hb.block g (Array.getElem?_eq_some_iff.1 hgg).1 (.inr (by omega))).trans hgg,rest⟩
theorem Tryz.infoPl9:(Tryz.prog.info? 39).map (fun i=>(i.zero,i.size,i.bytes))=some (some (.agg #[.int .i64 0,.int .i64 0]),2,16):=by kernel_rfl
end Go.Proofs.YtgjoepdfhadmcaaGreatDoor
end

section
namespace Go.Proofs.YtgjoepdfhadmcaaGreatDoor
open Go.RowKit
set_option linter.unusedVariables false
set_option maxRecDepth 20000
set_option maxHeartbeats 800000 in
theorem l9Live_any (a:Option Addr)(n cap:Nat)(ps:List Pl)(s:Int)(w:World){lo hi:Nat}(h:Places lo hi w a n ps)(hn:n<=1048576) :
  Calls Tryz.prog 200 #[.slice a n cap,.int .i64 s] w fun e w'=>e=.returned (.int .i64 (liveN ps s:Int))∧w=w':=by
 obtain⟨hl,hx⟩:=h
 have HL:=hide hl
 have HX:=hide hx
 have hsz:=hx.1
 clear hl hx
 go_enter Tryz.func200,Tryz.ntmps200
 go_wp2_with fail
 go_loopw [5,6] (fun t i wr=>∃k:Nat,k<=n∧i=.int .i64 (k:Int)∧t=.int .i64 (liveN (ps.take k) s:Int)∧w=wr) (fun _ i _=>n-(intOf i).toNat)
 case atStart=>exact⟨0,Nat.zero_le _,rfl,by simp[liveN],rfl⟩
 case round =>
  obtain⟨k,hk,rfl,rfl,rfl⟩:=hrel
  by_cases hlt:k<n
  ·obtain⟨b,off,rfl,_,hb,hc⟩:=HX.out.2 (by omega)
   obtain⟨c0,c1⟩:=pl_cells hc (Below.refl w.heap.size w) (show b<w.heap.size by omega) hlt
   have HS:=hide (liveN_step (show k<ps.length by rw[HL.out];exact hlt) s)
   have hle:=liveN_le (ps.take k) s
   have hle2:liveN (ps.take k) s<=1048576:=by rw[List.length_take] at hle;omega
   clear hc c1 hle
   generalize liveN (ps.take k) s=q at *
   by_cases he:(plAt ps k).1=s
   ·have g:((plAt ps k).1==s)=true:=by simpa using he
    have HE:Hid (liveN (ps.take (k+1)) s=q+1):=by show _=_;rw[HS.out,g];rfl
    generalize (plAt ps k).1=v at *
    subst he
    go_wp2_with fail
    exact⟨⟨k+1,by omega,by go_num,by rw[HE.out];go_num,trivial⟩,by simp[intOf];omega⟩
   ·have g:((plAt ps k).1==s)=false:=by simpa using he
    have HE:Hid (liveN (ps.take (k+1)) s=q):=by show _=_;rw[HS.out,g];rfl
    generalize (plAt ps k).1=v at *
    go_wp2_with fail
    exact⟨⟨k+1,by omega,by go_num,by rw[HE.out],trivial⟩,by simp[intOf];omega⟩
  ·have HE:Hid (liveN (ps.take k) s=liveN ps s):=by show _=_;rw[List.take_of_length_le (by rw[HL.out];omega)]
   generalize liveN (ps.take k) s=q at *
   go_wp2_with fail
   go_ret
   exact⟨by rw[<- HE.out];rfl,rfl⟩
end Go.Proofs.YtgjoepdfhadmcaaGreatDoor
end

section
namespace Go.Proofs.YtgjoepdfhadmcaaGreatDoor
open Go.RowKit
set_option linter.unusedVariables false
set_option maxRecDepth 20000
theorem Tryz.eqPl (a b c d:Int)(w:World):(Op.equalIn 10000 39 (.agg #[.int .i64 a,.int .i64 b]) (.agg #[.int .i64 c,.int .i64 d])).run Tryz.prog w=.ok (a==c&&b==d) w:=by
 have u:=Tryz.underlying2
 have hS:Tryz.prog.underlying 39=some (.struct (Tryz.prog.fieldsOf 39)):=by kernel_rfl
 rw[show(10000:Nat)=9999+1 from rfl,run_equalIn_agg w 9999 _ _ _ hS (by kernel_rfl)]
 simp only[Program.fieldsOf,Tryz.underlying39]
 go_simp
 by_cases h1:a=c<;>by_cases h2:b=d<;>simp[h1,h2]
theorem Tryz.guardPl:Tryz.prog.eqGuardType Tryz.prog.depth 39=false:=by kernel_rfl
theorem l9None_any (w:World):Calls Tryz.prog 69 #[] w fun e w'=>e=.returned (.agg #[.int .i64 (-1),.int .i64 0])∧Below w.heap.size w w':=by
 have HB:=hide ((Below.refl w.heap.size w).alloc (Nat.le_refl _) (.cells #[.int .i64 (-1),.int .i64 0] 39))
 go_enter Tryz.func69,Tryz.ntmps69
 go_wp2_with fail
 refine bodyPost_ret (results_cell rfl rfl (run_loadVar_row _ _ _ _ _ _ _ (heap_new _ _) Tryz.underlying39 rfl (by kernel_rfl))) rfl ⟨rfl,HB.out⟩
set_option maxHeartbeats 1600000 in
theorem l9There_any (z:Int)(a:Option Addr)(n cap:Nat)(qs:List Sq)(p q:Int)(w:World){lo hi:Nat}(h:Squares lo hi w a n qs)(hhi:hi<=w.heap.size)(hn:n<=12)(hf:∀x∈qs,sqFits x) :
  Calls Tryz.prog 131 #[.agg #[.int .i64 z,.slice a n cap],.agg #[.int .i64 p,.int .i64 q]] w fun e w'=>e=.returned (.bool (plThere qs (p,q)))∧Below w.heap.size w w':=by
 obtain⟨wA,hwA⟩:∃wA,wA=(w.alloc (.cells #[.int .i64 z,.slice a n cap] 26)).alloc (.cells #[.int .i64 p,.int .i64 q] 39):=⟨_,rfl⟩
 have hzA:wA.heap.size=w.heap.size+1+1:=by rw[hwA];simp
 have HBA:Hid (Below w.heap.size w wA):=by rw[hwA];exact((Below.refl _ _).alloc (Nat.le_refl _) _).alloc (by simp) _
 have H1:Hid (wA.heap[w.heap.size]?=some (.cells #[.int .i64 z,.slice a n cap] 26)):=by rw[hwA];exact heap_old (heap_new _ _)
 have H2:Hid (wA.heap[w.heap.size+1]?=some (.cells #[.int .i64 p,.int .i64 q] 39)):=by rw[hwA];exact heap_at (by simp)
 have HSQ:=hide (h.later HBA.out hhi)
 have HL:=hide h.1
 have HF:=hide hf
 clear h hf
 obtain⟨a0,a1⟩:=two_cells H1.out
 obtain⟨b0,b1⟩:=two_cells H2.out
 have HI1:∀w9,Hid (Calls Tryz.prog 68 #[.int .i64 p,.int .i64 0,.int .i64 ((n:Int)-1)] w9 fun e w'=>e=.returned (.bool (inB p 0 ((n:Int)-1)))∧w9=w'):=fun w9=>l1In_any _ _ _ w9
 by_cases hin:inB p 0 ((n:Int)-1)=true
 ·have hin2:=hin
  unfold inB at hin2
  simp only[Bool.and_eq_true,decide_eq_true_eq] at hin2
  obtain⟨i,rfl⟩:∃i:Nat,p=(i:Int):=⟨p.toNat,by omega⟩
  have hlt:i<n:=by omega
  have hql:i<qs.length:=by rw[HL.out];exact hlt
  have hlt2:(i:Int)<(n:Int):=by omega
  obtain⟨_,A,C,hx,ht⟩:=HSQ.out
  obtain⟨b,off,rfl,_,hb,hc⟩:=hx.2 (by omega)
  obtain⟨c0,c1,c2⟩:=sq_cells hc (Below.refl wA.heap.size wA) (show b<wA.heap.size by have:=hx.1;omega) hlt
  have hl9:=(sq_fits HF.out hql).2.1
  unfold maxLen at hl9
  have HE:Hid (plThere qs ((i:Int),q)=inB q 0 (((sqAt qs i).1.length:Int)-1)):=by
   show _=_
   unfold plThere
   dsimp only
   rw[HL.out,hin]
   simp
  rw[hin] at HI1
  have HI2:∀w9,Hid (Calls Tryz.prog 68 #[.int .i64 q,.int .i64 0,.int .i64 (((sqAt qs i).1.length:Int)-1)] w9 fun e w'=>e=.returned (.bool (inB q 0 (((sqAt qs i).1.length:Int)-1)))∧w9=w'):=fun w9=>l1In_any _ _ _ w9
  clear hc hx ht hin hin2 c1 c2
  generalize sqAt qs i=y at *
  obtain⟨ts,zw,bd⟩:=y
  dsimp only at c0 hl9 HE HI2
  generalize inB q 0 ((ts.length:Int)-1)=bb at *
  go_enter Tryz.func131,Tryz.ntmps131
  go_upto_region 1 with fail
  rw[<- hwA]
  clear hwA
  go_quiet ((first|(go_at_call_of 68 (Value.int .i64 q);exact Calls.quiet_of_same ((HI2 _).out.mono fun e w' hh=>⟨hh.1,hh.2.symm⟩))|(go_at_call_of 68 (Value.int .i64 (i:Int));exact Calls.quiet_of_same ((HI1 _).out.mono fun e w' hh=>⟨hh.1,hh.2.symm⟩))))
  go_wp2_with fail
  go_ret
  exact⟨ret_bool HE.out.symm,⟨HBA.out.os,HBA.out.tape,HBA.out.output,HBA.out.size,HBA.out.block⟩⟩
 ·have hin':inB p 0 ((n:Int)-1)=false:=by simpa using hin
  have HE:Hid (plThere qs (p,q)=false):=by show _=_;unfold plThere;dsimp only;rw[HL.out,hin'];rfl
  rw[hin'] at HI1
  go_enter Tryz.func131,Tryz.ntmps131
  go_upto_region 1 with fail
  rw[<- hwA]
  clear hwA
  go_quiet ((go_at_call 68;exact Calls.quiet_of_same ((HI1 _).out.mono fun e w' hh=>⟨hh.1,hh.2.symm⟩)))
  go_wp2_with fail
  go_ret
  exact⟨ret_bool HE.out.symm,⟨HBA.out.os,HBA.out.tape,HBA.out.output,HBA.out.size,HBA.out.block⟩⟩
theorem pl_eq (a b:Pl):(a==b)=((a.1==b.1)&&(a.2==b.2)):=by
 obtain⟨a1,a2⟩:=a
 obtain⟨b1,b2⟩:=b
 rfl
set_option maxHeartbeats 3200000 in
theorem specMapOk_any (z:Int)(a:Option Addr)(n cap:Nat)(qs:List Sq)(al:Option Addr)(m capl:Nat)(ps:List Pl)(w:World){lo hi lo' hi':Nat}(h:Squares lo hi w a n qs)(hhi:hi<=w.heap.size)(hn:n<=1048576)(hf:∀x∈qs,sqFits x)(hp:Places lo' hi' w al m ps)(hhi':hi'<=w.heap.size)(hm:m<=1048576) :
  Calls Tryz.prog 67 #[.agg #[.int .i64 z,.slice a n cap],.slice al m capl] w fun e w'=>e=.returned (.bool (mapOk z qs ps))∧Below w.heap.size w w':=by
 obtain⟨wA,hwA⟩:∃wA,wA=w.alloc (.cells #[.int .i64 z,.slice a n cap] 26):=⟨_,rfl⟩
 have hzA:wA.heap.size=w.heap.size+1:=by rw[hwA];simp
 have HBA:Hid (Below w.heap.size w wA):=by rw[hwA];exact(Below.refl _ _).alloc (Nat.le_refl _) _
 have H1:Hid (wA.heap[w.heap.size]?=some (.cells #[.int .i64 z,.slice a n cap] 26)):=by rw[hwA];exact heap_new _ _
 have HSQ:=hide (h.later HBA.out hhi)
 have HPL:=hide (hp.later HBA.out hhi')
 have HL:=hide h.1
 have HLP:=hide hp.1
 have HF:=hide hf
 clear h hf hp
 obtain⟨a0,a1⟩:=two_cells H1.out
 go_enter Tryz.func67,Tryz.ntmps67
 go_upto_region 1 with fail
 rw[<- hwA]
 clear hwA
 go_wp2_with fail
 refine(specChipOk_any z a n cap qs wA HSQ.out (by omega) hn HF.out).mono ?_
 rintro e w1 ⟨rfl,b1⟩
 have K1:=hide (block_on H1.out b1)
 have HS1:=hide (HSQ.out.later b1 (by omega))
 have HP1:=hide (HPL.out.later b1 (by omega))
 have HB1:=hide (below_here HBA.out b1)
 have hs1:=b1.size
 clear b1 H1 HSQ HPL HBA a0 a1
 cases hok:chipOk z qs with
 | false =>
  have HE:Hid (mapOk z qs ps=false):=by show _=_;unfold mapOk;rw[hok];rfl
  go_wp2_with fail
  go_ret
  exact⟨ret_bool HE.out.symm,HB1.out⟩
 | true =>
  have hn12:n<=12:=by have:=(chipOk_parts hok).2.2.2.1;rw[HL.out] at this;exact this
  by_cases h1:1<=m
  ·have g1:decide ((m:Int)<1)=false:=by simp;omega
   by_cases h64:m<=64
   ·have g2:decide ((m:Int) > 64)=false:=by simp;omega
    have HE:Hid (mapOk z qs ps=(List.range ps.length).all (plOk qs ps)):=by
     show _=_
     unfold mapOk
     rw[hok,HLP.out,decide_eq_true h1,decide_eq_true h64]
     rfl
    clear hok
    go_wp2_with fail
    clear g1 g2
    go_loopw [5] (fun i wr=>∃k:Nat,k<=m∧i=.int .i64 (k:Int)∧(List.range k).all (plOk qs ps)=true∧Below w1.heap.size w1 wr) (fun i _=>m-(intOf i).toNat)
    case atStart=>exact⟨0,Nat.zero_le _,rfl,rfl,Below.refl _ _⟩
    case round =>
     obtain⟨k,hk,rfl,hall,hbel⟩:=hrel
     have HAL:=hide hall
     have HBB:=hide hbel
     clear hall
     by_cases hlt:k<m
     ·have hpl:k<ps.length:=by rw[HLP.out];exact hlt
      obtain⟨b,off,rfl,_,hb,hc⟩:=HP1.out.2.2 (by omega)
      obtain⟨c0,c1⟩:=pl_cells hc hbel (show b<w1.heap.size by have:=HP1.out.2.1;omega) hlt
      have HC:=hide hc
      have HFA:Hid (plOk qs ps k=false->mapOk z qs ps=false):=fun hh=>mapOk_fall hpl hh
      have HST:Hid (plOk qs ps k=true->(List.range (k+1)).all (plOk qs ps)=true):=fun hh=>all_range_step HAL.out hh
      have HPO:Hid (plOk qs ps k=((((plAt ps k).1== -1)&&((plAt ps k).2==0))||(plThere qs (plAt ps k)&&(List.range k).all (fun j=>plAt ps j != plAt ps k)))):=by
       show _=_
       unfold plOk
       rw[pl_eq]
      clear hc hbel
      obtain⟨y,hy⟩:∃y,y=plAt ps k:=⟨_,rfl⟩
      have HY:=hide hy
      rw[<- hy] at c0 c1 HPO
      clear hy
      obtain⟨p,q⟩:=y
      dsimp only at c0 c1 HPO
      have cN:∀d os,Calls Tryz.prog 69 #[] (Go.Sort.grow (redrawn wr d) os) fun e w''=>e=.returned (.agg #[.int .i64 (-1),.int .i64 0])∧∃p:Regrown,w''=Go.Sort.grow (redrawn wr p.d) p.os:=fun d os=>Calls.regrown_of (l9None_any _)
      have k0:=cell_regrown c0
      have k1:=cell_regrown c1
      have q1:=Tryz.eqPl p q (-1) 0
      have q2:=Tryz.guardPl
      go_upto_region 6 with fail
      go_cut [31] (fun c wx=>c=.bool ((p== -1)&&(q==0))∧Below wr.heap.size wr wx)
      case first =>
       refine wp_region_quiet_below (by kernel_rfl) (by kernel_rfl) ?_
       repeat (go_big_quiet_step ((go_at_call 69;exact cN _ _)))
       refine wpQuiet_nil ?_
       intro _ hw'
       obtain⟨⟨dq,osq⟩,hw''⟩:=hw'
       subst hw''
       have HBQ:=hide (below_regrown wr dq osq)
       go_wp2_with fail
       go_meet
       exact⟨rfl,HBQ.out⟩
      case rest =>
       obtain⟨rfl,hb2⟩:=hcut
       obtain⟨w2,hw2⟩:∃w2,w2=wc:=⟨_,rfl⟩
       subst hw2
       have HB2:=hide (below_here HBB.out hb2)
       clear hb2 k0 k1 cN q1 c0 c1
       cases hnone:((p== -1)&&(q==0)) with
       | true =>
        have HOK:=hide (HST.out (by rw[HPO.out,hnone];rfl))
        go_wp2_with fail
        exact⟨⟨k+1,by omega,by go_num,HOK.out,HB2.out⟩,by simp[intOf];omega⟩
       | false =>
        have HPO2:Hid (plOk qs ps k=(plThere qs (p,q)&&(List.range k).all (fun j=>plAt ps j != (p,q)))):=by show _=_;rw[HPO.out,hnone];rfl
        obtain⟨c0,c1⟩:=pl_cells HC.out HB2.out (show b<w1.heap.size by have:=HP1.out.2.1;omega) hlt
        rw[<- HY.out] at c0 c1
        dsimp only at c0 c1
        obtain⟨a0,a1⟩:=two_cells (block_on K1.out HB2.out)
        have hs2:=HB2.out.size
        have cT:∀d os,Calls Tryz.prog 131 #[.agg #[.int .i64 z,.slice a n cap],.agg #[.int .i64 p,.int .i64 q]] (Go.Sort.grow (redrawn w2 d) os) fun e w''=>e=.returned (.bool (plThere qs (p,q)))∧∃p:Regrown,w''=Go.Sort.grow (redrawn w2 p.d) p.os:=fun d os=>Calls.regrown_of (l9There_any z a n cap qs p q _ (HS1.out.later (below_here HB2.out (below_regrown w2 d os)) (by omega)) (by have:=(below_regrown w2 d os).size;omega) hn12 HF.out)
        have k0:=cell_regrown a0
        have k1:=cell_regrown a1
        have k2:=cell_regrown c0
        have k3:=cell_regrown c1
        clear hnone
        go_upto_region 7 with fail
        go_cut [38] (fun c wx=>c=.bool (!plThere qs (p,q))∧Below w2.heap.size w2 wx)
        case first =>
         refine wp_region_quiet_below (by kernel_rfl) (by kernel_rfl) ?_
         repeat (go_big_quiet_step ((go_at_call 131;exact cT _ _)))
         refine wpQuiet_nil ?_
         intro _ hw'
         obtain⟨⟨dq,osq⟩,hw''⟩:=hw'
         subst hw''
         have HBQ:=hide (below_regrown w2 dq osq)
         go_wp2_with fail
         go_meet
         exact⟨rfl,HBQ.out⟩
        case rest =>
         obtain⟨rfl,hb3⟩:=hcut
         obtain⟨w3,hw3⟩:∃w3,w3=wc:=⟨_,rfl⟩
         subst hw3
         have HB3:=hide (below_here HB2.out hb3)
         clear hb3 k0 k1 k2 k3 cT c0 c1 a0 a1
         cases hth:plThere qs (p,q) with
         | false =>
          have HNO:=hide (HFA.out (by rw[HPO2.out,hth];rfl))
          go_wp2_with fail
          go_ret
          exact⟨ret_bool HNO.out.symm,below_here HB1.out HB3.out⟩
         | true =>
          have HPO3:Hid (plOk qs ps k=(List.range k).all (fun j=>plAt ps j != (p,q))):=by show _=_;rw[HPO2.out,hth];rfl
          simp only[Bool.not_true]
          clear hth
          go_wp2_with fail
          obtain⟨wo,hwo⟩:∃wo,wo=w3:=⟨_,rfl⟩
          subst hwo
          go_loopw [6] (fun t wx=>∃j:Nat,j<=k∧t=.int .i64 (j:Int)∧(List.range j).all (fun j=>plAt ps j != (p,q))=true∧Below w1.heap.size w1 wx) (fun t _=>k-(intOf t).toNat)
          case atStart=>exact⟨0,Nat.zero_le _,rfl,rfl,HB3.out⟩
          case round =>
           obtain⟨j,hj,rfl,hal,hbj⟩:=hrel
           have HJA:=hide hal
           have HBJ:=hide hbj
           clear hal
           by_cases hjl:j<k
           ·obtain⟨c0,c1⟩:=pl_cells HC.out hbj (show b<w1.heap.size by have:=HP1.out.2.1;omega) hlt
            obtain⟨d0,d1⟩:=pl_cells HC.out hbj (show b<w1.heap.size by have:=HP1.out.2.1;omega) (show j<m by omega)
            rw[<- HY.out] at c0 c1
            dsimp only at c0 c1
            have HJF:Hid ((plAt ps j==(p,q))=true->plOk qs ps k=false):=fun hh=>by rw[HPO3.out];exact all_range_fall hjl (by simp only[bne,hh];rfl)
            have HJS:Hid ((plAt ps j==(p,q))=false->(List.range (j+1)).all (fun j=>plAt ps j != (p,q))=true):=fun hh=>all_range_step HJA.out (by simp only[bne,hh];rfl)
            rw[pl_eq] at HJF HJS
            generalize plAt ps j=y at *
            obtain⟨r,t⟩:=y
            dsimp only at d0 d1 HJF HJS
            have q1:=Tryz.eqPl r t p q
            have hlt2:(k:Int)<(m:Int):=by omega
            have hlt3:(j:Int)<(m:Int):=by omega
            clear hbj
            cases heq:((r==p)&&(t==q)) with
            | true =>
             have HNO:=hide (HFA.out (HJF.out heq))
             rw[heq] at q1
             go_wp2_with fail
             go_quiet (fail)
             go_wp2_with fail
             go_ret
             exact⟨ret_bool HNO.out.symm,by have hh:=below_here HB1.out HBJ.out;exact⟨hh.os,hh.tape,hh.output,hh.size,hh.block⟩⟩
            | false =>
             have HOK:=hide (HJS.out heq)
             rw[heq] at q1
             go_wp2_with fail
             go_quiet (fail)
             go_wp2_with fail
             go_roundw
             case rel=>exact⟨j+1,by omega,by go_num,HOK.out,⟨HBJ.out.os,HBJ.out.tape,HBJ.out.output,HBJ.out.size,HBJ.out.block⟩⟩
             case measure=>simp[intOf];omega
           ·obtain rfl:j=k:=by omega
            have HOK:=hide (HST.out (by rw[HPO3.out];exact HJA.out))
            go_wp2_with fail
            exact⟨⟨j+1,by omega,by go_num,HOK.out,HBJ.out⟩,by simp[intOf];omega⟩
     ·obtain rfl:k=m:=by omega
      have HE2:Hid (mapOk z qs ps=true):=by show _=_;rw[HE.out,HLP.out];exact HAL.out
      go_wp2_with fail
      go_ret
      exact⟨ret_bool HE2.out.symm,below_here HB1.out HBB.out⟩
   ·have g2:decide ((m:Int) > 64)=true:=by simp;omega
    have HE:Hid (mapOk z qs ps=false):=by show _=_;unfold mapOk;rw[HLP.out,decide_eq_false h64];simp
    go_wp2_with fail
    go_ret
    exact⟨ret_bool HE.out.symm,HB1.out⟩
  ·have g1:decide ((m:Int)<1)=true:=by simp;omega
   have HE:Hid (mapOk z qs ps=false):=by show _=_;unfold mapOk;rw[HLP.out,decide_eq_false h1];simp
   go_wp2_with fail
   go_ret
   exact⟨ret_bool HE.out.symm,HB1.out⟩
end Go.Proofs.YtgjoepdfhadmcaaGreatDoor
end

section
namespace Go.Proofs.YtgjoepdfhadmcaaGreatDoor
open Go.RowKit
set_option linter.unusedVariables false
set_option maxRecDepth 20000
theorem GrowSqs.wrote {B n g i g' c':Nat}{w w1:World}{qs:List Sq}{A:Nat->Option Addr}{C:Nat->Nat}{tx:ByteArray}(h:GrowSqs B w n qs g A C)(hi:i<n)(hg:w.grownBy w1 (oB (A i)))
  (ho:w1.ownsRow B 9 1 (.slice (some ⟨g',0,none⟩) ((sqAt qs i).1.length+1) c') ((sqAt qs i).1.length+1) (pgV (sqAt qs i).1++[.string tx])) (hat:oB (A i)=some g'∨w.heap.size<=g') :
  GrowSqs B (w1.setCell ⟨g,i*3,none⟩ (.slice (some ⟨g',0,none⟩) ((sqAt qs i).1.length+1) c')) n (qs.set i ((sqAt qs i).1++[tx],(sqAt qs i).2.1,(sqAt qs i).2.2)) g (upd A i (some ⟨g',0,none⟩)) (upd C i c'):=by
 have e:(sqAt qs i).1.length+1=((sqAt qs i).1++[tx]).length:=by simp
 rw[e,pgV_snoc] at ho
 rw[e]
 exact h.setPages hi hg ho (fun m hm=>by have e':some g'=some m:=hm;simp only[Option.some.injEq] at e';subst e';exact hat)
theorem two_moved (w:World)(o:Obj)(g j k:Nat)(u v:Value)(h:g<w.heap.size):((w.alloc o).setCell ⟨g,j,none⟩ u).setCell ⟨g,k,none⟩ v=((w.setCell ⟨g,j,none⟩ u).setCell ⟨g,k,none⟩ v).alloc o:=by
 rw[World.setCell_alloc_past _ _ _ _ h,World.setCell_alloc_past _ _ _ _ (by rw[Go.Deep.nblk_setCell];exact h)]
theorem cells01 {W:World}{b:Nat}{cs:Array Value}{t:TypeId}{fr:Nat×Nat}{c0 c1:Value}(h:W.heap[b]?=some (.cells cs t fr))(h0:cs[0]?=some c0)(h1:cs[1]?=some c1):W.cell? ⟨b,0,none⟩=some c0∧W.cell? ⟨b,1,none⟩=some c1:=by
 simp[World.cell?,h,h0,h1]
set_option maxHeartbeats 1600000 in
theorem l8Do_at (p c B:Nat)(z:Int)(n:Nat)(qs:List Sq)(g:Nat)(A:Nat->Option Addr)(C:Nat->Nat)(kd sq:Int)(tx:ByteArray)(w:World)(hG:GrowSqs B w n qs g A C)(hB:B<=w.heap.size){ca:Array Value}{ct:TypeId}{cf:Nat×Nat}
  (hp:w.heap[p]?=some (.cells ca ct cf)) (hc0:ca[0]?=some (.int .i64 z)) (hc1:ca[1]?=some (.slice (some ⟨g,0,none⟩) n c)) (hpg:p≠g) (hok:chipOk z qs=true) (htx:tx.size<=maxLen) :
  Calls Tryz.prog 65 #[.pointer (some ⟨p,0,none⟩),.agg #[.int .i64 kd,.int .i64 sq,.string tx]] w fun e w'=>e=.returned (.bool (canJ z qs (kd,sq,tx)))∧∃A' C',GrowSqs B w' n (doJ z qs (kd,sq,tx)) g A' C'∧Only B g w w':=by
 obtain⟨wA,hwA⟩:∃wA,wA=w.alloc (.cells #[.int .i64 kd,.int .i64 sq,.string tx] 98):=⟨_,rfl⟩
 have hzA:wA.heap.size=w.heap.size+1:=by rw[hwA];simp
 have HBA:Hid (Below w.heap.size w wA):=by rw[hwA];exact(Below.refl _ _).alloc (Nat.le_refl _) _
 have HJ:Hid (wA.heap[w.heap.size]?=some (.cells #[.int .i64 kd,.int .i64 sq,.string tx] 98)):=by rw[hwA];exact heap_new _ _
 have HP:=hide (block_on hp HBA.out)
 have HGA:=hide (hG.later HBA.out)
 have hpl:p<w.heap.size:=(Array.getElem?_eq_some_iff.1 hp).1
 have hgl:g<w.heap.size:=by have:=hG.row.1;omega
 have HL:=hide hG.len
 have HOK:=hide hok
 have hn12:n<=12:=by have:=(chipOk_parts hok).2.2.2.1;rw[hG.len] at this;exact this
 have HC:∀w9,Hid (Below wA.heap.size wA w9->Calls Tryz.prog 129 #[.agg #[.int .i64 z,.slice (some ⟨g,0,none⟩) n c],.agg #[.int .i64 kd,.int .i64 sq,.string tx]] w9 fun e w'=>e=.returned (.bool (canJ z qs (kd,sq,tx)))∧Below w9.heap.size w9 w'):=fun w9 h9 =>
  l8Can_any z (some ⟨g,0,none⟩) n c qs kd sq tx w9 ((HGA.out.later h9).ownS.squares) (Nat.le_refl _) (by omega) (chipOk_fits HOK.out) htx
 clear hG hp hok
 obtain⟨a0,a1⟩:=cells01 HP.out hc0 hc1
 obtain⟨j0,j1,j2⟩:=three_cells HJ.out
 go_enter Tryz.func65,Tryz.ntmps65
 go_upto_region 1 with fail
 rw[<- hwA]
 clear hwA
 go_cut [11] (fun d wx=>d=.bool (!canJ z qs (kd,sq,tx))∧Below wA.heap.size wA wx)
 case first =>
  go_region_with (go_at_call 129;refine((HC _).out (by exact(Below.refl _ wA).drew)).mono ?_;rintro e w1 ⟨rfl,b1⟩;have HB1:=hide ((Below.refl wA.heap.size wA).drew.trans b1);clear b1)
  all_goals
   go_wp2_with fail
   go_meet
   exact⟨rfl,HB1.out⟩
 obtain⟨rfl,hcb⟩:=hcut
 obtain⟨w1,hw1⟩:∃w1,w1=wc:=⟨_,rfl⟩
 subst hw1
 have HB1:=hide hcb
 clear hcb
 have hs1:=HB1.out.size
 have HP1:=hide (block_on HP.out HB1.out)
 have HJ1:=hide (block_on HJ.out HB1.out)
 have HG1:=hide (HGA.out.later HB1.out)
 have HW1:=hide (below_here HBA.out HB1.out)
 clear a0 a1 j0 j1 j2 HP HJ HGA HC HB1
 obtain⟨a0,a1⟩:=cells01 HP1.out hc0 hc1
 obtain⟨j0,j1,j2⟩:=three_cells HJ1.out
 cases hcan:canJ z qs (kd,sq,tx) with
 | false =>
  go_wp2_with fail
  go_ret
  exact⟨ret_bool hcan.symm,A,C,by rw[doJ_no hcan];exact HG1.out,only_of_below HW1.out hB⟩
 | true =>
  obtain⟨i,hi,hil,hbad,hkk⟩:=canJ_parts hcan
  dsimp only at hi hkk
  subst hi
  have hin:i<n:=by rw[<- HL.out];exact hil
  have HDO:=hide (doJ_yes hcan)
  obtain⟨c0,c1,c2⟩:=HG1.out.cells hin
  have hsq:=sqOk_parts (chipOk_at HOK.out hil)
  have hl8:(sqAt qs i).1.length<=8:=by have:=hsq.1;have:=(chipOk_parts HOK.out).2.1;omega
  have hzw0:=hsq.2.1
  have hzw1:=hsq.2.2.1
  have HKK:=hide (canK_kind hkk)
  have hlt2:(i:Int)<(n:Int):=by omega
  have HCAN:=hide hcan
  clear hcan hkk hsq
  go_upto_region 3 with fail
  go_quiet (fail)
  have HBQ:Hid (Below w1.heap.size w1 (w1.drewN nq)):=⟨rfl,rfl,rfl,Nat.le_refl _,fun _ _=>rfl⟩
  have hsq:w1.heap.size=(w1.drewN nq).heap.size:=rfl
  generalize w1.drewN nq=wq at *
  have HPQ:=hide (block_on HP1.out HBQ.out)
  have HJQ:=hide (block_on HJ1.out HBQ.out)
  have HGQ:=hide (HG1.out.later HBQ.out)
  have HWQ:=hide (below_here HW1.out HBQ.out)
  clear a0 a1 j0 j1 j2 c0 c1 c2 HP1 HJ1 HG1 HW1 HBQ
  obtain⟨j0,j1,j2⟩:=three_cells HJQ.out
  obtain⟨c0,c1,c2⟩:=HGQ.out.cells hin
  have f0:=HGQ.out.open_ (show i*3<3*n by omega)
  have f1:=HGQ.out.open_ (show i*3+1<3*n by omega)
  have f2:=HGQ.out.open_ (show i*3+2<3*n by omega)
  have HCT:Hid (canJ z qs (kd,(i:Int),tx)=true):=HCAN.out
  have hgq:g<wq.heap.size:=by omega
  rcases HKK.out with⟨rfl,k1,k2,k3⟩|⟨rfl,k1⟩|rfl
  ·have HSQ:Hid (sqDo (sqAt qs i) 1 tx=((sqAt qs i).1++[tx],(sqAt qs i).2.1,(sqAt qs i).2.2)):=rfl
   clear HKK c1 c2 f1 f2 j1
   obtain⟨i0,hi0,hzz0,hzz1,hzz2⟩:=info_parts Tryz.infoStrC
   have HBB:=hide ((Below.refl wq.heap.size wq).alloc (Nat.le_refl _) (.cells #[.string tx] 9))
   have HGB:=hide (HGQ.out.later HBB.out)
   have HPB:=hide (HGB.out.pages.own i hin)
   have HPD:Hid (World.ownsRow (wq.alloc (.cells #[.string tx] 9)).drew B 9 1 (.slice (A i) (sqAt qs i).1.length (C i)) (sqAt qs i).1.length (pgV (sqAt qs i).1)):=(HPB.out).drew
   have hzB:(wq.alloc (.cells #[.string tx] 9)).heap.size=wq.heap.size+1:=by simp
   have c0':=(HBB.out.cell (p:=⟨g,i*3,none⟩) hgq).trans c0
   have f0':=(HBB.out.frozen (p:=⟨g,i*3,none⟩) hgq).trans f0
   have HNE:Hid (some g≠(Value.slice (A i) (sqAt qs i).1.length (C i)).ownBlock):=by show _≠_;rw[ownBlock_slice];exact fun e=>HGQ.out.apartG i hin e.symm
   go_upto_region 6 with fail
   go_region_law (refine step_append_lies _ (by rfl) _ _ _ (by rfl) B 9 i0 (.string ByteArray.empty) 1 16 Tryz.underlying40 hi0 hzz0 hzz1 hzz2 rfl (by decide) (.slice (A i) (sqAt qs i).1.length (C i)) (sqAt qs i).1.length (pgV (sqAt qs i).1) (by rfl) HPD.out ⟨wq.heap.size,0,none⟩ 1 1 [.string tx] (by rfl) rfl (cell_one_new _ _ _) (by simp[Value.oneCell']) (by omega) (by unfold maxLen;omega) (by omega) (by simp;omega) (wq.heap.size+1) (by simp) ?_;intro g' c' w5 hown5 hgr5 hat5 hlt5;have c5:=(hgr5.cell_far ⟨g,i*3,none⟩ (by simp;omega) HNE.out).trans c0';have f5:=(hgr5.frozen_far ⟨g,i*3,none⟩ (by simp;omega) HNE.out).trans f0';have HO5:=hide hown5;have HR5:=hide hgr5;have HA5:=hide hat5;clear hown5 hgr5 hat5)
   all_goals
    have HR6:Hid ((wq.alloc (.cells #[.string tx] 9)).grownBy w5 (oB (A i))):=⟨HR5.out.os,HR5.out.tape,HR5.out.output,HR5.out.size,fun k hk hne=>HR5.out.block k hk (by rw[ownBlock_slice];exact hne)⟩
    have HGF:=hide (HGB.out.wrote hin HR6.out HO5.out (HA5.out.imp (fun e=>by rw[ownBlock_slice] at e;exact e) (fun e=>by omega)))
    have HON:=hide ((((only_of_below (B:=B) (g:=g) HWQ.out hB).on HBB.out (by omega)).grown HPB.out HR6.out (by omega)).set HGQ.out.atG (i*3) (.slice (some ⟨g',0,none⟩) ((sqAt qs i).1.length+1) c'))
    go_wp2_with fail
    go_ret
    exact⟨ret_bool HCT.out.symm,_,_,by rw[HDO.out,HSQ.out];exact HGF.out,HON.out⟩
  ·have HSQ:Hid (sqDo (sqAt qs i) 2 tx=([],(sqAt qs i).2.1+1,(sqAt qs i).2.2)):=rfl
   clear HKK
   have HBB:=hide ((Below.refl wq.heap.size wq).alloc (Nat.le_refl _) (.cells #[] 9))
   have HPB:=hide ((own_made0 wq 9).mono (show B<=wq.heap.size by omega))
   have HG2:=hide (HGQ.out.setPages hin (w1:=wq.alloc (.cells #[] 9)) (a':=some ⟨wq.heap.size,0,none⟩) (c':=0) (ts':=[]) (grown_below HBB.out _) HPB.out (fun m hm=>.inr (by have e:some wq.heap.size=some m:=hm;simp only[Option.some.injEq] at e;omega)))
   have HG3:=hide (HG2.out.setWipes hin ((sqAt qs i).2.1+1))
   have HON:=hide ((((only_of_below (B:=B) (g:=g) HWQ.out hB).on HBB.out (by omega)).set HGQ.out.atG (i*3) (.slice (some ⟨wq.heap.size,0,none⟩) 0 0)).set HGQ.out.atG (i*3+1) (.int .i64 ((sqAt qs i).2.1+1)))
   have HSS:Hid ((qs.set i ([],(sqAt qs i).2.1,(sqAt qs i).2.2)).set i ((sqAt (qs.set i ([],(sqAt qs i).2.1,(sqAt qs i).2.2)) i).1,(sqAt qs i).2.1+1,(sqAt (qs.set i ([],(sqAt qs i).2.1,(sqAt qs i).2.2)) i).2.2)=qs.set i ([],(sqAt qs i).2.1+1,(sqAt qs i).2.2)):=by
    show _=_
    rw[List.set_set,sqAt_set qs _ hil,if_pos rfl]
   have HEQ:=hide (two_moved wq (.cells #[] 9) g (i*3) (i*3+1) (.slice (some ⟨wq.heap.size,0,none⟩) 0 0) (.int .i64 ((sqAt qs i).2.1+1)) hgq)
   have d0:=(HBB.out.cell (p:=⟨g,i*3,none⟩) hgq).trans c0
   have e0:=(HBB.out.frozen (p:=⟨g,i*3,none⟩) hgq).trans f0
   have d1:=(HBB.out.cell (p:=⟨g,i*3+1,none⟩) hgq).trans c1
   have e1:=(HBB.out.frozen (p:=⟨g,i*3+1,none⟩) hgq).trans f1
   generalize hzw:(sqAt qs i).2.1=zw at *
   go_wp2_with fail
   go_ret
   exact⟨ret_bool HCT.out.symm,upd A i (some ⟨wq.heap.size,0,none⟩),upd C i 0,by rw[HDO.out,HSQ.out,<- HSS.out,<- HEQ.out];exact HG3.out,by rw[<- HEQ.out];exact HON.out⟩
  ·have HSQ:Hid (sqDo (sqAt qs i) 3 tx=((sqAt qs i).1,(sqAt qs i).2.1,true)):=rfl
   clear HKK
   have HGF:=hide (HGQ.out.setBad hin true)
   have HON:=hide ((only_of_below (B:=B) (g:=g) HWQ.out hB).set HGQ.out.atG (i*3+2) (.bool true))
   go_wp2_with fail
   go_ret
   exact⟨ret_bool HCT.out.symm,A,C,by rw[HDO.out,HSQ.out];exact HGF.out,HON.out⟩
theorem l8Do_any (p c B:Nat)(z:Int)(n:Nat)(qs:List Sq)(g:Nat)(A:Nat->Option Addr)(C:Nat->Nat)(kd sq:Int)(tx:ByteArray)(w:World)(hG:GrowSqs B w n qs g A C)(hB:B<=w.heap.size)
  (hp:w.heap[p]?=some (.cells #[.int .i64 z,.slice (some ⟨g,0,none⟩) n c] 26)) (hpg:p≠g) (hok:chipOk z qs=true) (htx:tx.size<=maxLen) :
  Calls Tryz.prog 65 #[.pointer (some ⟨p,0,none⟩),.agg #[.int .i64 kd,.int .i64 sq,.string tx]] w fun e w'=>e=.returned (.bool (canJ z qs (kd,sq,tx)))∧∃A' C',GrowSqs B w' n (doJ z qs (kd,sq,tx)) g A' C'∧Only B g w w' :=
 l8Do_at p c B z n qs g A C kd sq tx w hG hB hp rfl rfl hpg hok htx
end Go.Proofs.YtgjoepdfhadmcaaGreatDoor
end

