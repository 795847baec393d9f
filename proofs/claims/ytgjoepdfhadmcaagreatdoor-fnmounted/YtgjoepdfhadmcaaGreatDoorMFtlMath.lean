/- Several texts in one: FtlMath, FtlPlan, FtlKeep, FtlRoom. -/
import Derived.Test.YtgjoepdfhadmcaaGreatDoorMChipOwn2
import Derived.Test.YtgjoepdfhadmcaaGreatDoorMChipGrow
import Derived.Test.YtgjoepdfhadmcaaGreatDoorMDraw7
import Derived.Test.YtgjoepdfhadmcaaGreatDoorMPageMath
section
namespace Go.Proofs.YtgjoepdfhadmcaaGreatDoor
open Go.RowKit
set_option linter.unusedVariables false
def pgOf (z:Int)(qs:List Sq)(p:Pl):Int×Int×Int×ByteArray×Int:=lyP (pageAt z qs p.1 p.2)
def lyWell (k:Int):Bool:=(k==1)||(k==2)
def fpOk (z:Int)(qs:List Sq)(ps:List Pl)(st:Int)(i:Nat):Bool :=
 (plAt ps i==(-1,0))||(lyWell (pgOf z qs (plAt ps i)).2.2.2.2&&(((pgOf z qs (plAt ps i)).2.1==(i:Int))&&!(decide ((pgOf z qs (plAt ps i)).2.2.1 > st))))
def opOk (qs:List Sq)(op:Int):Bool:=!(decide (op>=0)&&(sqAt qs op.toNat).2.2)
def ftlOk (z:Int)(qs:List Sq)(ps:List Pl)(op st:Int):Bool :=
 mapOk z qs ps&&(inB op (-1) ((qs.length:Int)-1)&&(inB st 0 1000000&&(opOk qs op&&(List.range ps.length).all (fpOk z qs ps st))))
theorem ftlOk_map {z:Int}{qs:List Sq}{ps:List Pl}{op st:Int}(h:ftlOk z qs ps op st=true):mapOk z qs ps=true:=by
 unfold ftlOk at h;simp only[Bool.and_eq_true] at h;exact h.1
theorem ftlOk_fall {z:Int}{qs:List Sq}{ps:List Pl}{op st:Int}{i:Nat}(h:i<ps.length)(hf:fpOk z qs ps st i=false):ftlOk z qs ps op st=false:=by
 unfold ftlOk;rw[all_range_fall h hf];simp
def ftlGet (z:Int)(qs:List Sq)(ps:List Pl)(op st at_:Int):ByteArray×Bool :=
 if ftlOk z qs ps op st&&(inB at_ 0 ((ps.length:Int)-1)&&!(plAt ps at_.toNat==(-1,0))) then((pgOf z qs (plAt ps at_.toNat)).2.2.2.1,(pgOf z qs (plAt ps at_.toNat)).1==1) else(ByteArray.empty,false)
theorem pageAt_size {z:Int}{qs:List Sq}{s p:Int}(h:chipOk z qs=true):(pageAt z qs s p).size<=200:=by
 unfold pageAt
 split
 ·rename_i hc
  simp only[Bool.and_eq_true] at hc
  have h1:=hc.2.1
  have h2:=hc.2.2
  unfold inB at h1 h2
  simp only[Bool.and_eq_true,decide_eq_true_eq] at h1 h2
  have hq:s.toNat<qs.length:=by omega
  have hp:p.toNat<(sqAt qs s.toNat).1.length:=by omega
  have h3:=(sqOk_parts (chipOk_at h hq)).2.2.2
  have h4:=h3 ((sqAt qs s.toNat).1.getD p.toNat ByteArray.empty) (by rw[List.getD_eq_getElem?_getD,List.getElem?_eq_getElem hp];exact List.getElem_mem hp)
  exact h4.2
 ·exact Nat.zero_le _
end Go.Proofs.YtgjoepdfhadmcaaGreatDoor
end

section
namespace Go.Proofs.YtgjoepdfhadmcaaGreatDoor
open Go.RowKit
set_option linter.unusedVariables false
structure Kp where
 qs:List Sq
 ps:List Pl
 op:Int
 js:List Jb
def doK (z:Int)(s:Kp)(j:Jb):Option Kp:=if canJ z s.qs j then some ⟨doJ z s.qs j,s.ps,s.op,s.js++[j]⟩ else none
def nextP (s:Kp):Pl:=(s.op,((sqAt s.qs s.op.toNat).1.length:Int))
def putK (z:Int)(s:Kp)(i:Nat)(tx:ByteArray):Option Kp:=(doK z s (1,s.op,tx)).map fun s'=>⟨s'.qs,s'.ps.set i (nextP s),s'.op,s'.js⟩
def txAt (qs:List Sq)(v p:Nat):ByteArray:=(sqAt qs v).1.getD p ByteArray.empty
def moveI (z:Int)(v p:Nat)(s:Kp):Nat->Option Kp
 | 0=>some s
 | k+1=>(moveI z v p s k).bind fun s'=>if plAt s'.ps k=((v:Int),(p:Int)) then putK z s' k (txAt s'.qs v p) else some s'
def moveP (z:Int)(v:Nat)(s:Kp):Nat->Option Kp
 | 0=>some s
 | k+1=>(moveP z v s k).bind fun s'=>moveI z v k s' s'.ps.length
def moveK (z:Int)(v:Nat)(s:Kp):Option Kp:=moveP z v s (sqAt s.qs v).1.length
def withOp (s:Kp)(o:Int):Kp:=⟨s.qs,s.ps,o,s.js⟩
def stepK (z:Int)(s:Kp):Option Kp :=
 if 2<=(emptyK s.qs s.qs.length).length then some (withOp s (((emptyK s.qs s.qs.length).getD 0 0:Nat):Int))
 else if victimV z s.qs s.ps s.op<0 then none
 else if 0<liveN s.ps (victimV z s.qs s.ps s.op) then
  (if(emptyK s.qs s.qs.length).length=0 then none else(moveK z (victimV z s.qs s.ps s.op).toNat (withOp s (((emptyK s.qs s.qs.length).getD 0 0:Nat):Int))).bind fun s'=>doK z s' (2,victimV z s.qs s.ps s.op,ByteArray.empty))
 else doK z s (2,victimV z s.qs s.ps s.op,ByteArray.empty)
def roomy (z:Int)(s:Kp):Bool:=decide (0<=s.op)&&decide (((sqAt s.qs s.op.toNat).1.length:Int)<z)
def roomK (z:Int):Nat->Kp->Option Kp
 | 0,s=>if roomy z s then some s else none
 | k+1,s=>if roomy z s then some s else(stepK z s).bind (roomK z k)
def mayEnt (ps:List Pl)(st kd a:Int)(tx:ByteArray):Bool:=pageOk kd a (st+1) tx&&inB a 0 ((ps.length:Int)-1)
def enterK (z:Int)(s:Kp)(st kd a:Int)(tx:ByteArray):Option Kp :=
 if mayEnt s.ps st kd a tx then(roomK z 20 s).bind fun s'=>putK z s' a.toNat (laid kd a (st+1) tx) else none
theorem plThere_iff {qs:List Sq}{p:Pl}:plThere qs p=true↔∃s k:Nat,p=((s:Int),(k:Int))∧s<qs.length∧k<(sqAt qs s).1.length:=by
 unfold plThere inB
 simp only[Bool.and_eq_true,decide_eq_true_eq]
 constructor
 ·rintro⟨⟨h1,h2⟩,h3,h4⟩
  refine⟨p.1.toNat,p.2.toNat,?_,by omega,by omega⟩
  obtain⟨a,b⟩:=p
  simp only at h1 h3
  simp only[Prod.mk.injEq]
  omega
 ·rintro⟨s,k,rfl,h1,h2⟩
  simp only[Int.toNat_natCast]
  omega
structure MapR (z:Int)(qs:List Sq)(ps:List Pl):Prop where
 chip:chipOk z qs=true
 one:1<=ps.length
 few:ps.length<=64
 there:∀i,i<ps.length->plAt ps i=(-1,0)∨plThere qs (plAt ps i)=true
 apart:∀i j,i<ps.length->j<ps.length->i≠j->plAt ps i=plAt ps j->plAt ps i=(-1,0)
theorem mapR_of {z:Int}{qs:List Sq}{ps:List Pl}(h:mapOk z qs ps=true):MapR z qs ps:=by
 have hp:=fun i (hi:i<ps.length)=>plOk_at h hi
 have hp':∀i,i<ps.length->plAt ps i=(-1,0)∨(plThere qs (plAt ps i)=true∧∀k,k<i->plAt ps k≠plAt ps i):=fun i hi=>by
  have:=hp i hi
  unfold plOk at this
  rw[Bool.or_eq_true,Bool.and_eq_true] at this
  rcases this with h1|⟨h1,h2⟩
  ·exact .inl (by simpa using h1)
  ·refine .inr ⟨h1,fun k hk e=>?_⟩
   have:=List.all_eq_true.1 h2 k (List.mem_range.2 hk)
   simp[e] at this
 refine⟨mapOk_chip h,(mapOk_len h).1,(mapOk_len h).2,fun i hi=>(hp' i hi).imp id (·.1),fun i j hi hj hne he=>?_⟩
 rcases Nat.lt_or_gt_of_ne hne with hlt|hlt
 ·rcases hp' j hj with h1|h1
  ·rw[he];exact h1
  ·exact absurd he (h1.2 i hlt)
 ·rcases hp' i hi with h1|h1
  ·exact h1
  ·exact absurd he.symm (h1.2 j hlt)
theorem MapR.ok {z:Int}{qs:List Sq}{ps:List Pl}(h:MapR z qs ps):mapOk z qs ps=true:=by
 unfold mapOk
 rw[h.chip,decide_eq_true h.one,decide_eq_true h.few,Bool.true_and,Bool.true_and,Bool.true_and,List.all_eq_true]
 intro i hi
 rw[List.mem_range] at hi
 unfold plOk
 rcases h.there i hi with h1|h1
 ·rw[h1];rfl
 ·by_cases e:plAt ps i=(-1,0)
  ·rw[e];rfl
  ·rw[h1,Bool.true_and,Bool.or_eq_true]
   refine .inr (List.all_eq_true.2 fun k hk=>?_)
   rw[List.mem_range] at hk
   rw[bne_iff_ne]
   exact fun e'=>e (h.apart i k hi (by omega) (by omega) e'.symm)
theorem plAt_set (ps:List Pl){i:Nat}(x:Pl)(h:i<ps.length)(k:Nat):plAt (ps.set i x) k=if k=i then x else plAt ps k:=by
 unfold plAt
 rw[List.getD_eq_getElem?_getD,List.getElem?_set]
 by_cases e:k=i
 ·subst e;simp[h]
 ·rw[if_neg e,if_neg (Ne.symm e),List.getD_eq_getElem?_getD]
def txt (qs:List Sq)(p:Pl):ByteArray:=txAt qs p.1.toNat p.2.toNat
def sameAt (qs:List Sq)(ps:List Pl)(qs':List Sq)(ps':List Pl)(i:Nat):Prop :=
 (plAt ps' i=(-1,0)↔plAt ps i=(-1,0))∧(plAt ps i≠(-1,0)->txt qs' (plAt ps' i)=txt qs (plAt ps i))
theorem sameAt_refl (qs:List Sq)(ps:List Pl)(i:Nat):sameAt qs ps qs ps i:=⟨Iff.rfl,fun _=>rfl⟩
theorem sameAt_trans {qs qs' qs'':List Sq}{ps ps' ps'':List Pl}{i:Nat}(h:sameAt qs ps qs' ps' i)(k:sameAt qs' ps' qs'' ps'' i):sameAt qs ps qs'' ps'' i :=
 ⟨k.1.trans h.1,fun hn=>(k.2 (fun e=>hn (h.1.1 e))).trans (h.2 hn)⟩
theorem ne_none {s:Nat}{k:Int}:((s:Int),k)≠((-1:Int),(0:Int)):=by
 intro e;simp only[Prod.mk.injEq] at e;omega
structure KOk (z:Int)(s:Kp):Prop where
 map:MapR z s.qs s.ps
 lo : -1<=s.op
 hi:s.op<(s.qs.length:Int)
 good:opOk s.qs s.op=true
theorem putK_parts {z:Int}{s s':Kp}{i:Nat}{tx:ByteArray}(h:putK z s i tx=some s') :
  ∃o:Nat,s.op=(o:Int)∧o<s.qs.length∧(sqAt s.qs o).2.2=false∧((sqAt s.qs o).1.length:Int)<z∧1<=tx.size∧tx.size<=200∧canJ z s.qs (1,(o:Int),tx)=true ∧
   s'=⟨s.qs.set o ((sqAt s.qs o).1++[tx],(sqAt s.qs o).2.1,(sqAt s.qs o).2.2),s.ps.set i ((o:Int),((sqAt s.qs o).1.length:Int)),(o:Int),s.js++[(1,(o:Int),tx)]⟩:=by
 unfold putK doK at h
 split at h
 ·rename_i hc
  obtain⟨o,ho,hl,hb,hk⟩:=canJ_parts hc
  dsimp only at ho hk
  simp only[Option.map_some,Option.some.injEq] at h
  rw[ho] at hc
  rcases canK_kind hk with⟨_,k1,k2,k3⟩|⟨k1,_⟩|k1
  ·refine⟨o,ho,hl,hb,k1,k2,k3,hc,?_⟩
   rw[<- h]
   unfold nextP
   simp only[ho,Int.toNat_natCast]
   rw[doJ_yes hc]
   rfl
  ·exact absurd k1 (by decide)
  ·exact absurd k1 (by decide)
 ·simp at h
theorem putK_ok {z:Int}{s s':Kp}{i:Nat}{tx:ByteArray}(hK:KOk z s)(hi:i<s.ps.length)(h:putK z s i tx=some s') :
  KOk z s'∧s'.op=s.op∧s'.qs.length=s.qs.length∧s'.ps.length=s.ps.length∧(∀q:Nat,(q:Int)≠s.op->sqAt s'.qs q=sqAt s.qs q)∧(∀j,j≠i->plAt s'.ps j=plAt s.ps j)∧(∀j,j<s.ps.length->j≠i->sameAt s.qs s.ps s'.qs s'.ps j)∧plAt s'.ps i=nextP s∧txt s'.qs (plAt s'.ps i)=tx:=by
 obtain⟨o,ho,hl,hb,hz,t1,t2,hc,rfl⟩:=putK_parts h
 have hm:=hK.map
 have hnx:nextP s=((o:Int),((sqAt s.qs o).1.length:Int)):=by unfold nextP;rw[ho,Int.toNat_natCast]
 have hsq:∀q,sqAt (s.qs.set o ((sqAt s.qs o).1++[tx],(sqAt s.qs o).2.1,(sqAt s.qs o).2.2)) q=if q=o then((sqAt s.qs o).1++[tx],(sqAt s.qs o).2.1,(sqAt s.qs o).2.2) else sqAt s.qs q:=fun q=>sqAt_set s.qs _ hl q
 have hpl:∀j,plAt (s.ps.set i ((o:Int),((sqAt s.qs o).1.length:Int))) j=if j=i then((o:Int),((sqAt s.qs o).1.length:Int)) else plAt s.ps j:=fun j=>plAt_set s.ps _ hi j
 have hth:∀p,plThere s.qs p=true->plThere (s.qs.set o ((sqAt s.qs o).1++[tx],(sqAt s.qs o).2.1,(sqAt s.qs o).2.2)) p=true∧txt (s.qs.set o ((sqAt s.qs o).1++[tx],(sqAt s.qs o).2.1,(sqAt s.qs o).2.2)) p=txt s.qs p∧p≠((o:Int),((sqAt s.qs o).1.length:Int)):=fun p hp=>by
  obtain⟨a,b,rfl,ha,hb'⟩:=plThere_iff.1 hp
  refine⟨plThere_iff.2 ⟨a,b,rfl,by rw[List.length_set];exact ha,?_⟩,?_,?_⟩
  ·rw[hsq]
   split
   ·rename_i e;subst e;simp;omega
   ·exact hb'
  ·unfold txt txAt
   simp only[Int.toNat_natCast]
   rw[hsq]
   split
   ·rename_i e
    subst e
    simp only[List.getD_eq_getElem?_getD]
    rw[List.getElem?_append_left hb']
   ·rfl
  ·intro e
   simp only[Prod.mk.injEq] at e
   have e1:a=o:=by omega
   subst e1
   omega
 refine⟨⟨⟨?_,?_,?_,fun j hj=>?_,fun j k hj hk hne he=>?_⟩,by show -1<=(o:Int);omega,by show(o:Int)<((s.qs.set o _).length:Int);rw[List.length_set];omega,?_⟩,ho.symm,List.length_set,List.length_set,fun q hq=>?_,fun j hj=>?_,fun j hj hne=>?_,?_,?_⟩
 ·have:=doJ_ok (j:=(1,(o:Int),tx)) hm.chip
  rw[doJ_yes hc] at this
  exact this
 ·rw[List.length_set];exact hm.one
 ·rw[List.length_set];exact hm.few
 ·dsimp only at hj ⊢
  rw[List.length_set] at hj
  rw[hpl]
  split
  ·refine .inr (plThere_iff.2 ⟨o,_,rfl,by rw[List.length_set];exact hl,?_⟩)
   rw[hsq,if_pos rfl]
   simp
  ·exact(hm.there j hj).imp id (fun h'=>(hth _ h').1)
 ·dsimp only at hj hk he ⊢
  rw[List.length_set] at hj hk
  rw[hpl,hpl] at he
  rw[hpl]
  by_cases e1:j=i
  ·rw[if_pos e1] at he
   have e2:k≠i:=fun e=>hne (e1.trans e.symm)
   rw[if_neg e2] at he
   rcases hm.there k hk with h1|h1
   ·rw[h1] at he;exact absurd he ne_none
   ·exact absurd he.symm (hth _ h1).2.2
  ·rw[if_neg e1] at he ⊢
   by_cases e2:k=i
   ·rw[if_pos e2] at he
    rcases hm.there j hj with h1|h1
    ·exact h1
    ·exact absurd he (hth _ h1).2.2
   ·rw[if_neg e2] at he
    exact hm.apart j k hj hk hne he
 ·unfold opOk
  simp only[Int.toNat_natCast]
  rw[hsq,if_pos rfl,hb]
  simp
 ·dsimp only
  rw[hsq,if_neg]
  intro e
  rw[e,ho] at hq
  exact hq rfl
 ·dsimp only
  rw[hpl,if_neg hj]
 ·dsimp only
  unfold sameAt
  rw[hpl,if_neg hne]
  refine⟨Iff.rfl,fun hn=>?_⟩
  rcases hm.there j hj with h1|h1
  ·exact absurd h1 hn
  ·exact(hth _ h1).2.1
 ·dsimp only
  rw[hpl,if_pos rfl,hnx]
 ·dsimp only
  rw[hpl,if_pos rfl]
  unfold txt txAt
  simp only[Int.toNat_natCast]
  rw[hsq,if_pos rfl]
  simp
theorem moveI_none {z:Int}{v p:Nat}{s:Kp}:∀{k:Nat},(∀i,i<k->plAt s.ps i≠((v:Int),(p:Int)))->moveI z v p s k=some s
 | 0,_=>rfl
 | k+1,h=>by
  unfold moveI
  rw[moveI_none (fun i hi=>h i (by omega)),Option.bind_some,if_neg (h k (by omega))]
theorem moveI_one {z:Int}{v p:Nat}{s:Kp}(hK:KOk z s){i:Nat}(he:plAt s.ps i=((v:Int),(p:Int))):∀{k:Nat},i<k->k<=s.ps.length->moveI z v p s k=putK z s i (txAt s.qs v p)
 | 0,h,_=>absurd h (by omega)
 | k+1,h,hk=>by
  have hu:∀j,j<s.ps.length->plAt s.ps j=((v:Int),(p:Int))->j=i:=fun j hj e=>by
   by_cases e':j=i
   ·exact e'
   ·have:=hK.map.apart j i hj (by omega) e' (by rw[e,he])
    rw[e] at this
    exact absurd this ne_none
  unfold moveI
  by_cases e:i=k
  ·subst e
   rw[moveI_none (fun j hj e'=>by have:=hu j (by omega) e';omega),Option.bind_some,if_pos he]
  ·rw[moveI_one hK he (by omega) (by omega)]
   cases hp:putK z s i (txAt s.qs v p) with
   | none=>rfl
   | some s' =>
    rw[Option.bind_some,if_neg]
    rw[(putK_ok hK (by omega) hp).2.2.2.2.2.1 k (fun e'=>e e'.symm)]
    exact fun e'=>e (hu k (by omega) e').symm
structure Moved (z:Int)(v k:Nat)(s s':Kp):Prop where
 ok:KOk z s'
 op:s'.op=s.op
 squares:s'.qs.length=s.qs.length
 places:s'.ps.length=s.ps.length
 other:∀q:Nat,(q:Int)≠s.op->sqAt s'.qs q=sqAt s.qs q
 same:∀i,i<s.ps.length->sameAt s.qs s.ps s'.qs s'.ps i
 gone:∀i p,p<k->i<s.ps.length->plAt s'.ps i≠((v:Int),(p:Int))
theorem moveI_moved {z:Int}{v k:Nat}{s s' s'':Kp}(hv:(v:Int)≠s.op)(hM:Moved z v k s s')(h:moveI z v k s' s'.ps.length=some s''):Moved z v (k+1) s s'':=by
 by_cases hex:∃i,i<s'.ps.length∧plAt s'.ps i=((v:Int),(k:Int))
 ·obtain⟨i,hi,he⟩:=hex
  rw[moveI_one hM.ok he hi (Nat.le_refl _)] at h
  obtain⟨h1,h2,h3,h4,h5,h6,h7,h8,h9⟩:=putK_ok hM.ok hi h
  refine⟨h1,h2.trans hM.op,h3.trans hM.squares,h4.trans hM.places,fun q hq=>(h5 q (by rw[hM.op];exact hq)).trans (hM.other q hq),fun j hj=>?_,fun j p hp hj=>?_⟩
  ·by_cases e:j=i
   ·subst e
    refine sameAt_trans (hM.same j hj) ⟨?_,fun _=>?_⟩
    ·rw[h8,he]
     constructor
     ·intro e
      have hop:=hM.ok
      unfold nextP at e
      simp only[Prod.mk.injEq] at e
      obtain⟨o,ho,_⟩:=putK_parts h
      omega
     ·intro e
      exact absurd e ne_none
    ·rw[h9,he]
     rfl
   ·exact sameAt_trans (hM.same j hj) (h7 j (by rw[hM.places];exact hj) e)
  ·by_cases e:j=i
   ·subst e
    rw[h8]
    unfold nextP
    intro e
    simp only[Prod.mk.injEq] at e
    exact hv (by rw[<- hM.op];exact e.1.symm)
   ·rw[h6 j e]
    by_cases e2:p=k
    ·subst e2
     intro e3
     have:=hM.ok.map.apart j i (by rw[hM.places];exact hj) hi e (by rw[e3,he])
     rw[e3] at this
     exact absurd this ne_none
    ·exact hM.gone j p (by omega) hj
 ·have hno:∀i,i<s'.ps.length->plAt s'.ps i≠((v:Int),(k:Int)):=fun i hi e=>hex ⟨i,hi,e⟩
  rw[moveI_none hno] at h
  simp only[Option.some.injEq] at h
  subst h
  refine⟨hM.ok,hM.op,hM.squares,hM.places,hM.other,hM.same,fun i p hp hi=>?_⟩
  by_cases e:p=k
  ·subst e;exact hno i (by rw[hM.places];exact hi)
  ·exact hM.gone i p (by omega) hi
theorem moveP_moved {z:Int}{v:Nat}{s:Kp}(hK:KOk z s)(hv:(v:Int)≠s.op):∀{k:Nat} {s':Kp},moveP z v s k=some s'->Moved z v k s s'
 | 0,s',h=>by
  unfold moveP at h
  simp only[Option.some.injEq] at h
  subst h
  exact⟨hK,rfl,rfl,rfl,fun _ _=>rfl,fun i _=>sameAt_refl _ _ i,fun _ _ hp=>absurd hp (by omega)⟩
 | k+1,s',h=>by
  unfold moveP at h
  cases hp:moveP z v s k with
  | none=>rw[hp] at h;cases h
  | some t =>
   rw[hp,Option.bind_some] at h
   exact moveI_moved hv (moveP_moved hK hv hp) h
theorem moveK_gone {z:Int}{v:Nat}{s s':Kp}(hK:KOk z s)(hv:(v:Int)≠s.op)(h:moveK z v s=some s'):∀i,i<s'.ps.length->(plAt s'.ps i).1≠(v:Int):=by
 intro i hi e
 have hM:=moveP_moved hK hv h
 rcases hM.ok.map.there i hi with h1|h1
 ·rw[h1] at e
  have:(-1:Int)=(v:Int):=e
  omega
 ·obtain⟨a,b,h2,h3,h4⟩:=plThere_iff.1 h1
  rw[h2] at e
  have ea:a=v:=by have:(a:Int)=(v:Int):=e;omega
  subst ea
  rw[hM.other a hv] at h4
  exact hM.gone i b h4 (by rw[<- hM.places];exact hi) h2
theorem liveN_zero {ps:List Pl}{v:Int}:liveN ps v=0↔∀i,i<ps.length->(plAt ps i).1≠v:=by
 unfold liveN
 rw[List.length_eq_zero_iff,List.filter_eq_nil_iff]
 constructor
 ·intro h i hi e
  refine h (plAt ps i) ?_ (by simp[e])
  unfold plAt
  rw[List.getD_eq_getElem?_getD,List.getElem?_eq_getElem hi]
  exact List.getElem_mem hi
 ·intro h p hp hh
  obtain⟨i,hi,e⟩:=List.getElem_of_mem hp
  refine h i hi ?_
  unfold plAt
  rw[List.getD_eq_getElem?_getD,List.getElem?_eq_getElem hi]
  simp only[Option.getD_some]
  rw[e]
  simpa using hh
theorem wipe_parts {z:Int}{s s':Kp}{v:Nat}(h:doK z s (2,(v:Int),ByteArray.empty)=some s') :
  v<s.qs.length∧(sqAt s.qs v).2.2=false∧(sqAt s.qs v).2.1<1000000∧canJ z s.qs (2,(v:Int),ByteArray.empty)=true∧s'=⟨s.qs.set v ([],(sqAt s.qs v).2.1+1,(sqAt s.qs v).2.2),s.ps,s.op,s.js++[(2,(v:Int),ByteArray.empty)]⟩:=by
 unfold doK at h
 split at h
 ·rename_i hc
  obtain⟨o,ho,hl,hb,hk⟩:=canJ_parts hc
  dsimp only at ho hk
  have e:o=v:=by omega
  subst e
  simp only[Option.some.injEq] at h
  rcases canK_kind hk with⟨k1,_⟩|⟨_,k1⟩|k1
  ·exact absurd k1 (by decide)
  ·refine⟨hl,hb,k1,hc,?_⟩
   rw[<- h,doJ_yes hc]
   rfl
  ·exact absurd k1 (by decide)
 ·simp at h
theorem wipe_ok {z:Int}{s s':Kp}{v:Nat}(hK:KOk z s)(hv:∀i,i<s.ps.length->(plAt s.ps i).1≠(v:Int))(h:doK z s (2,(v:Int),ByteArray.empty)=some s') :
  KOk z s'∧s'.op=s.op∧s'.qs.length=s.qs.length∧s'.ps=s.ps∧(∀q:Nat,q≠v->sqAt s'.qs q=sqAt s.qs q)∧(∀j,j<s.ps.length->sameAt s.qs s.ps s'.qs s'.ps j):=by
 obtain⟨hl,hb,hw,hc,rfl⟩:=wipe_parts h
 have hm:=hK.map
 have hsq:∀q,sqAt (s.qs.set v ([],(sqAt s.qs v).2.1+1,(sqAt s.qs v).2.2)) q=if q=v then([],(sqAt s.qs v).2.1+1,(sqAt s.qs v).2.2) else sqAt s.qs q:=fun q=>sqAt_set s.qs _ hl q
 have hne:∀i a b:Nat,i<s.ps.length->plAt s.ps i=((a:Int),(b:Int))->a≠v:=fun i a b hi e e'=>hv i hi (by rw[e,e'])
 refine⟨⟨⟨?_,hm.one,hm.few,fun j hj=>?_,hm.apart⟩,hK.lo,by show s.op<((s.qs.set v _).length:Int);rw[List.length_set];exact hK.hi,?_⟩,rfl,List.length_set,rfl,fun q hq=>by dsimp only;rw[hsq,if_neg hq],fun j hj=>⟨Iff.rfl,fun hn=>?_⟩⟩
 ·have:=doJ_ok (j:=(2,(v:Int),ByteArray.empty)) hm.chip
  rw[doJ_yes hc] at this
  exact this
 ·refine(hm.there j hj).imp id fun h1=>?_
  obtain⟨a,b,h2,h3,h4⟩:=plThere_iff.1 h1
  have:=hne j a b hj h2
  exact plThere_iff.2 ⟨a,b,h2,by rw[List.length_set];exact h3,by rw[hsq,if_neg this];exact h4⟩
 ·have:=hK.good
  unfold opOk at this ⊢
  dsimp only
  rw[hsq]
  split
  ·rename_i e
   rw[hb];simp
  ·exact this
 ·rcases hm.there j hj with h1|h1
  ·exact absurd h1 hn
  ·obtain⟨a,b,h2,h3,h4⟩:=plThere_iff.1 h1
   dsimp only
   rw[h2]
   unfold txt txAt
   simp only[Int.toNat_natCast]
   rw[hsq,if_neg (hne j a b hj h2)]
theorem doK_op {z:Int}{s s':Kp}{j:Jb}(h:doK z s j=some s'):s'.op=s.op∧s'.ps=s.ps:=by
 unfold doK at h;split at h
 ·simp only[Option.some.injEq] at h;rw[<- h];exact⟨rfl,rfl⟩
 ·cases h
theorem empty_first {qs:List Sq}(h:0<(emptyK qs qs.length).length):(emptyK qs qs.length).getD 0 0<qs.length∧(sqAt qs ((emptyK qs qs.length).getD 0 0)).1.length=0∧(sqAt qs ((emptyK qs qs.length).getD 0 0)).2.2=false:=by
 have hm:(emptyK qs qs.length).getD 0 0∈emptyK qs qs.length:=by
  rw[List.getD_eq_getElem?_getD,List.getElem?_eq_getElem h];exact List.getElem_mem h
 have:=(emptyK_mem qs qs.length _).1 hm
 refine⟨this.1,?_⟩
 have h2:=this.2
 unfold isEmpty at h2
 simpa using h2
theorem withOp_ok {z:Int}{s:Kp}(hK:KOk z s){o:Nat}(ho:o<s.qs.length)(hb:(sqAt s.qs o).2.2=false):KOk z (withOp s (o:Int)) :=
 ⟨hK.map,by show -1<=(o:Int);omega,by show(o:Int)<(s.qs.length:Int);omega,by unfold opOk withOp;simp[hb]⟩
theorem victim_parts {z:Int}{qs:List Sq}{ps:List Pl}{op:Int}(hm:MapR z qs ps)(h:¬victimV z qs ps op<0):∃v:Nat,victimV z qs ps op=(v:Int)∧v<qs.length∧(v:Int)≠op∧0<(sqAt qs v).1.length∧(sqAt qs v).2.2=false∧(liveN ps (v:Int):Int)<z∧∀i,i<qs.length->(i:Int)≠op->0<(sqAt qs i).1.length->(sqAt qs i).2.2=false->liveN ps (v:Int)<=liveN ps (i:Int):=by
 have e:victim z qs ps op=victimV z qs ps op:=by unfold victim;rw[hm.ok];rfl
 obtain⟨b,h1,h2,h3,h4,h5,h6,h7,h8⟩:=victim_at (z:=z) (qs:=qs) (ps:=ps) (op:=op) (by rw[e];omega)
 exact⟨b,by rw[<- e];exact h1,h3,h4,h6,h7,h5,h8⟩
structure Stepped (z:Int)(s s':Kp):Prop where
 ok:KOk z s'
 squares:s'.qs.length=s.qs.length
 places:s'.ps.length=s.ps.length
 same:∀i,i<s.ps.length->sameAt s.qs s.ps s'.qs s'.ps i
theorem Stepped.refl {z:Int}{s:Kp}(h:KOk z s):Stepped z s s:=⟨h,rfl,rfl,fun i _=>sameAt_refl _ _ i⟩
theorem Stepped.trans {z:Int}{s s' s'':Kp}(h:Stepped z s s')(k:Stepped z s' s''):Stepped z s s'' :=
 ⟨k.ok,k.squares.trans h.squares,k.places.trans h.places,fun i hi=>sameAt_trans (h.same i hi) (k.same i (by rw[h.places];exact hi))⟩
theorem stepK_ok {z:Int}{s s':Kp}(hK:KOk z s)(h:stepK z s=some s'):Stepped z s s':=by
 unfold stepK at h
 split at h
 ·rename_i h2
  simp only[Option.some.injEq] at h
  obtain⟨e1,e2,e3⟩:=empty_first (qs:=s.qs) (by omega)
  subst h
  exact⟨withOp_ok hK e1 e3,rfl,rfl,fun i _=>sameAt_refl _ _ i⟩
 ·split at h
  ·cases h
  ·rename_i hv
   obtain⟨v,ev,hvl,hvo,hvp,hvb,_,_⟩:=victim_parts hK.map hv
   rw[ev] at h
   split at h
   ·rename_i hlive
    split at h
    ·cases h
    ·rename_i he
     obtain⟨e1,e2,e3⟩:=empty_first (qs:=s.qs) (by omega)
     have hK':=withOp_ok hK e1 e3
     rw[Int.toNat_natCast] at h
     have hne:(v:Int)≠(withOp s (((emptyK s.qs s.qs.length).getD 0 0:Nat):Int)).op:=by
      show(v:Int)≠(((emptyK s.qs s.qs.length).getD 0 0:Nat):Int)
      intro e
      have:v=(emptyK s.qs s.qs.length).getD 0 0:=by omega
      rw[<- this] at e2
      omega
     cases hmv:moveK z v (withOp s (((emptyK s.qs s.qs.length).getD 0 0:Nat):Int)) with
     | none=>rw[hmv] at h;cases h
     | some t =>
      rw[hmv,Option.bind_some] at h
      have hM:=moveP_moved hK' hne hmv
      obtain⟨w1,w2,w3,w4,w5,w6⟩:=wipe_ok hM.ok (moveK_gone hK' hne hmv) h
      exact⟨w1,w3.trans hM.squares,(by rw[w4];exact hM.places),fun i hi=>sameAt_trans (hM.same i hi) (w6 i (by rw[hM.places];exact hi))⟩
   ·rename_i hlive
    obtain⟨w1,w2,w3,w4,w5,w6⟩:=wipe_ok hK (liveN_zero.1 (by omega)) h
    exact⟨w1,w3,by rw[w4],w6⟩
theorem roomK_ok {z:Int}:∀{k:Nat} {s s':Kp},KOk z s->roomK z k s=some s'->Stepped z s s'∧roomy z s'=true
 | 0,s,s',hK,h=>by
  unfold roomK at h
  split at h
  ·rename_i hr
   simp only[Option.some.injEq] at h
   subst h
   exact⟨Stepped.refl hK,hr⟩
  ·cases h
 | k+1,s,s',hK,h=>by
  unfold roomK at h
  split at h
  ·rename_i hr
   simp only[Option.some.injEq] at h
   subst h
   exact⟨Stepped.refl hK,hr⟩
  ·cases hs:stepK z s with
   | none=>rw[hs] at h;cases h
   | some t =>
    rw[hs,Option.bind_some] at h
    have h1:=stepK_ok hK hs
    obtain⟨h2,h3⟩:=roomK_ok h1.ok h
    exact⟨h1.trans h2,h3⟩
end Go.Proofs.YtgjoepdfhadmcaaGreatDoor
end

section
namespace Go.Proofs.YtgjoepdfhadmcaaGreatDoor
open Go.RowKit
set_option linter.unusedVariables false
def jbL (js:List Jb):List Value:=(List.range (js.length*3)).map (cellJ js)
theorem jbL_length (js:List Jb):(jbL js).length=js.length*3:=by simp[jbL]
theorem jbL_at (js:List Jb){j:Nat}(h:j<js.length*3):(jbL js)[j]?=some (cellJ js j):=by
 unfold jbL;rw[List.getElem?_map,List.getElem?_range h];rfl
theorem jbAt_snoc_lt (js:List Jb)(x:Jb){i:Nat}(h:i<js.length):jbAt (js++[x]) i=jbAt js i:=by
 unfold jbAt;rw[List.getD_eq_getElem?_getD,List.getD_eq_getElem?_getD,List.getElem?_append_left h]
theorem jbAt_snoc (js:List Jb)(x:Jb):jbAt (js++[x]) js.length=x:=by
 unfold jbAt;rw[List.getD_eq_getElem?_getD,List.getElem?_append_right (Nat.le_refl _)];simp
theorem jbL_snoc (js:List Jb)(x:Jb):jbL js++[.int .i64 x.1,.int .i64 x.2.1,.string x.2.2]=jbL (js++[x]):=by
 have hlen:(js++[x]).length=js.length+1:=by simp
 refine List.ext_getElem? fun j=>?_
 by_cases h:j<js.length*3
 ·rw[List.getElem?_append_left (by rw[jbL_length];exact h),jbL_at js h,jbL_at _ (by rw[hlen];omega)]
  unfold cellJ
  rw[jbAt_snoc_lt js x (show j / 3<js.length by omega)]
 ·rw[List.getElem?_append_right (by rw[jbL_length];omega),jbL_length]
  by_cases e0:j=js.length*3
  ·subst e0
   rw[jbL_at _ (by rw[hlen];omega)]
   unfold cellJ
   rw[if_pos (by omega),show js.length*3 / 3=js.length by omega,jbAt_snoc]
   simp
  ·by_cases e1:j=js.length*3+1
   ·subst e1
    rw[jbL_at _ (by rw[hlen];omega)]
    unfold cellJ
    rw[if_neg (by omega),if_pos (by omega),show(js.length*3+1) / 3=js.length by omega,jbAt_snoc]
    simp
   ·by_cases e2:j=js.length*3+2
    ·subst e2
     rw[jbL_at _ (by rw[hlen];omega)]
     unfold cellJ
     rw[if_neg (by omega),if_neg (by omega),show(js.length*3+2) / 3=js.length by omega,jbAt_snoc]
     simp
    ·rw[List.getElem?_eq_none (by simp;omega),List.getElem?_eq_none (by rw[jbL_length,hlen];omega)]
abbrev JbOwn (B:Nat)(w:World)(v:Value)(js:List Jb):Prop:=w.ownsRow B 98 3 v js.length (jbL js)
theorem jb_form {B:Nat}{w:World}{v:Value}{js:List Jb}(h:JbOwn B w v js):∃a c,v=.slice a js.length c∧js.length<=c:=by
 rcases h.2 with⟨e,h0⟩|⟨g,cap,cur,e,_,_,hn,_⟩
 ·exact⟨none,0,by rw[e,h0],by omega⟩
 ·exact⟨_,cap,e,hn⟩
theorem job_one (kd sq:Int)(tx:ByteArray):∀u∈[Value.int .i64 kd,.int .i64 sq,.string tx],u.oneCell'=true:=by
 intro u hu
 simp only[List.mem_cons,List.not_mem_nil,or_false] at hu
 rcases hu with rfl|rfl|rfl<;>rfl
theorem cellP_set (ps:List Pl){i:Nat}(hi:i<ps.length)(x:Pl)(j:Nat):cellP (ps.set i x) j=if j=2*i then .int .i64 x.1 else if j=2*i+1 then .int .i64 x.2 else cellP ps j:=by
 by_cases e0:j=2*i
 ·subst e0;rw[if_pos rfl,cellP0,plAt_set ps x hi,if_pos rfl]
 ·rw[if_neg e0]
  by_cases e1:j=2*i+1
  ·subst e1;rw[if_pos rfl,cellP1,plAt_set ps x hi,if_pos rfl]
  ·rw[if_neg e1]
   unfold cellP
   rw[plAt_set ps x hi,if_neg (show ¬j / 2=i by omega)]
theorem plL_set (ps:List Pl){i:Nat}(hi:i<ps.length)(x:Pl):((plL ps).set (2*i) (.int .i64 x.1)).set (2*i+1) (.int .i64 x.2)=plL (ps.set i x):=by
 refine List.ext_getElem? fun j=>?_
 by_cases h:j<ps.length*2
 ·rw[plL_at _ (by rw[List.length_set];exact h),cellP_set ps hi x]
  rw[List.getElem?_set,List.getElem?_set]
  simp only[List.length_set,plL_length]
  by_cases e1:j=2*i+1
  ·subst e1
   rw[if_pos rfl,if_pos h,if_neg (by omega),if_pos rfl]
  ·rw[if_neg (fun e=>e1 e.symm),if_neg e1]
   by_cases e0:j=2*i
   ·subst e0
    rw[if_pos rfl,if_pos h,if_pos rfl]
   ·rw[if_neg (fun e=>e0 e.symm),if_neg e0,plL_at ps h]
 ·rw[List.getElem?_eq_none (by simp[plL_length];omega),List.getElem?_eq_none (by rw[plL_length,List.length_set];omega)]
theorem PlOwn.set {B gm cm:Nat}{w:World}{ps:List Pl}(h:PlOwn B w (.slice (some ⟨gm,0,none⟩) ps.length cm) ps){i:Nat}(hi:i<ps.length)(x:Pl) :
  PlOwn B ((w.setCell ⟨gm,2*i,none⟩ (.int .i64 x.1)).setCell ⟨gm,2*i+1,none⟩ (.int .i64 x.2)) (.slice (some ⟨gm,0,none⟩) (ps.set i x).length cm) (ps.set i x):=by
 obtain⟨h1,g1⟩:=World.ownsRow.stored h (2*i) (.int .i64 x.1)
 obtain⟨h2,g2⟩:=World.ownsRow.stored h1 (2*i+1) (.int .i64 x.2)
 show World.ownsRow _ _ _ _ (.slice (some ⟨gm,0,none⟩) (ps.set i x).length cm) (ps.set i x).length (plL (ps.set i x))
 rw[<- plL_set ps hi x,List.length_set]
 exact h2
theorem GrowSqs.keep {B n g:Nat}{w w':World}{qs:List Sq}{A:Nat->Option Addr}{C:Nat->Nat}(h:GrowSqs B w n qs g A C){row:Option Nat}(hg:w.grownBy w' row)(h1:row≠some g)(h2:∀k,row=some k->∃cs T fr,w.heap[k]?=some (.cells cs T fr)∧T≠9):GrowSqs B w' n qs g A C:=by
 have hs:=h.row.1
 refine⟨h.len,h.row.of hg.size (fun k h3 h4=>hg.block k (by omega) (fun e=>h1 (by rw[<- e];congr 1;omega))),h.pages.keep hg (fun i m hi hm e=>?_),h.atG,h.apartG⟩
 obtain⟨cs,T,fr,h3,h4⟩:=h2 m e
 exact pg_ne (h.pages.own i hi) h3 h4 hm
theorem own_keepBy {w w':World}{base e s n:Nat}{v:Value}{xs:List Value}(h:w.ownsRow base e s v n xs){row:Option Nat}(hg:w.grownBy w' row)(h2:∀k,row=some k->∃cs T fr,w.heap[k]?=some (.cells cs T fr)∧T≠e):w'.ownsRow base e s v n xs:=by
 refine h.kept hg ?_
 cases hb:v.ownBlock with
 | none=>exact .inl rfl
 | some k =>
  refine .inr (fun e'=>?_)
  obtain⟨cs,T,fr,h3,h4⟩:=h2 k e'.symm
  obtain⟨cs',fz,h5⟩:=Go.Lib.ownsRow_kind h k hb
  rw[h3] at h5
  simp only[Option.some.injEq,Obj.cells.injEq] at h5
  exact h4 h5.2.1
structure KpMem (B:Nat)(w:World)(n g gm cm:Nat)(A:Nat->Option Addr)(C:Nat->Nat)(V:Value)(s:Kp):Prop where
 sq:GrowSqs B w n s.qs g A C
 pl:PlOwn B w (.slice (some ⟨gm,0,none⟩) s.ps.length cm) s.ps
 jb:JbOwn B w V s.js
 ne:gm≠g
 nj:V.ownBlock≠some g
section
variable {B n g gm cm:Nat}{w w':World}{A:Nat->Option Addr}{C:Nat->Nat}{V:Value}{s:Kp}
theorem KpMem.kind (h:KpMem B w n g gm cm A C V s):∃cs fz,w.heap[gm]?=some (.cells cs 39 fz):=Go.Lib.ownsRow_kind h.pl gm rfl
theorem KpMem.later (h:KpMem B w n g gm cm A C V s)(hb:Below w.heap.size w w'):KpMem B w' n g gm cm A C V s :=
 ⟨h.sq.later hb,own_keepBy h.pl (grown_below hb none) (fun k e=>by cases e),own_keepBy h.jb (grown_below hb none) (fun k e=>by cases e),h.ne,h.nj⟩
theorem KpMem.keep (h:KpMem B w n g gm cm A C V s){p:Nat}(hg:w.grownBy w' (some p))(hp:p≠g){cs:Array Value}{T:TypeId}{fr:Nat×Nat}(hT:w.heap[p]?=some (.cells cs T fr))(h1:T≠9)(h2:T≠39)(h3:T≠98):KpMem B w' n g gm cm A C V s :=
 ⟨h.sq.keep hg (fun e=>hp (by simpa using e)) (fun k e=>by simp only[Option.some.injEq] at e;subst e;exact⟨_,_,_,hT,h1⟩),own_keepBy h.pl hg (fun k e=>by simp only[Option.some.injEq] at e;subst e;exact⟨_,_,_,hT,h2⟩),own_keepBy h.jb hg (fun k e=>by simp only[Option.some.injEq] at e;subst e;exact⟨_,_,_,hT,h3⟩),h.ne,h.nj⟩
theorem KpMem.set (h:KpMem B w n g gm cm A C V s){p o:Nat}(v:Value)(hp:p≠g){cs:Array Value}{T:TypeId}{fr:Nat×Nat}(hT:w.heap[p]?=some (.cells cs T fr))(h1:T≠9)(h2:T≠39)(h3:T≠98):KpMem B (w.setCell ⟨p,o,none⟩ v) n g gm cm A C V s :=
 h.keep (grown_set w ⟨p,o,none⟩ v) hp hT h1 h2 h3
theorem KpMem.did (h:KpMem B w n g gm cm A C V s){qs':List Sq}{A':Nat->Option Addr}{C':Nat->Nat}(hG:GrowSqs B w' n qs' g A' C')(hO:Only B g w w')(hB:B<=w.heap.size):KpMem B w' n g gm cm A' C' V ⟨qs',s.ps,s.op,s.js⟩:=by
 have hk:∀{e sz n':Nat} {v:Value} {xs:List Value},w.ownsRow B e sz v n' xs->e≠9->v.ownBlock≠some g->w'.ownsRow B e sz v n' xs:=by
  intro e sz n' v xs ho hT hb
  refine⟨ho.1,?_⟩
  rcases ho.2 with h' | ⟨p,cap,cur,e',h1,h2,h3⟩
  ·exact .inl h'
  ·refine .inr ⟨p,cap,cur,e',h1,hO.other p _ _ _ (fun e2=>hb ?_) hT h2,h3⟩
   rw[e',e2];rfl
 exact⟨hG,hk h.pl (by decide) (fun e=>h.ne (by simpa[Value.ownBlock] using e)),hk h.jb (by decide) h.nj,h.ne,h.nj⟩
theorem KpMem.noted (h:KpMem B w n g gm cm A C V s){V':Value}{j:Jb}(hg:w.grownBy w' V.ownBlock)(ho:JbOwn B w' V' (s.js++[j]))(hat:V'.ownBlock=V.ownBlock∨∃k,V'.ownBlock=some k∧w.heap.size<=k):KpMem B w' n g gm cm A C V' ⟨s.qs,s.ps,s.op,s.js++[j]⟩:=by
 have hk:∀k,V.ownBlock=some k->∃cs T fr,w.heap[k]?=some (.cells cs T fr)∧T=98:=fun k e=>by
  obtain⟨cs,fz,h2⟩:=Go.Lib.ownsRow_kind h.jb k e
  exact⟨cs,_,fz,h2,rfl⟩
 refine⟨h.sq.keep hg h.nj (fun k e=>by obtain⟨cs,T,fr,h1,h2⟩:=hk k e;exact⟨cs,T,fr,h1,by rw[h2];decide⟩),own_keepBy h.pl hg (fun k e=>by obtain⟨cs,T,fr,h1,h2⟩:=hk k e;exact⟨cs,T,fr,h1,by rw[h2];decide⟩),ho,h.ne,fun e=>?_⟩
 rcases hat with h1|⟨k,h1,h2⟩
 ·rw[h1] at e;exact h.nj e
 ·rw[h1] at e
  simp only[Option.some.injEq] at e
  have:=h.sq.row.1
  omega
theorem KpMem.led (h:KpMem B w n g gm cm A C V s){i:Nat}(hi:i<s.ps.length)(x:Pl):KpMem B ((w.setCell ⟨gm,i*2,none⟩ (.int .i64 x.1)).setCell ⟨gm,i*2+1,none⟩ (.int .i64 x.2)) n g gm cm A C V ⟨s.qs,s.ps.set i x,s.op,s.js⟩:=by
 rw[Nat.mul_comm i 2]
 obtain⟨cs,fz,hk⟩:=h.kind
 have g1:=grown_set w ⟨gm,2*i,none⟩ (.int .i64 x.1)
 have g2:=grown_set (w.setCell ⟨gm,2*i,none⟩ (.int .i64 x.1)) ⟨gm,2*i+1,none⟩ (.int .i64 x.2)
 obtain⟨h1,_⟩:=World.ownsRow.stored h.pl (2*i) (.int .i64 x.1)
 obtain⟨cs',fz',hk'⟩:=Go.Lib.ownsRow_kind h1 gm rfl
 refine⟨(h.sq.keep g1 (fun e=>h.ne (by simpa using e)) (fun k e=>by simp only[Option.some.injEq] at e;subst e;exact⟨_,_,_,hk,by decide⟩)).keep g2 (fun e=>h.ne (by simpa using e)) (fun k e=>by simp only[Option.some.injEq] at e;subst e;exact⟨_,_,_,hk',by decide⟩),PlOwn.set h.pl hi x,own_keepBy (own_keepBy h.jb g1 (fun k e=>by simp only[Option.some.injEq] at e;subst e;exact⟨_,_,_,hk,by decide⟩)) g2 (fun k e=>by simp only[Option.some.injEq] at e;subst e;exact⟨_,_,_,hk',by decide⟩),h.ne,h.nj⟩
theorem KpMem.cells (h:KpMem B w n g gm cm A C V s){i:Nat}(hi:i<s.ps.length):w.cell? ⟨gm,i*2,none⟩=some (.int .i64 (plAt s.ps i).1)∧w.cell? ⟨gm,i*2+1,none⟩=some (.int .i64 (plAt s.ps i).2)∧w.frozen? ⟨gm,i*2,none⟩=false∧w.frozen? ⟨gm,i*2+1,none⟩=false:=by
 rw[Nat.mul_comm i 2]
 have c0:=World.ownsRow.cellAt h.pl (2*i) (by omega)
 have c1:=World.ownsRow.cellAt h.pl (2*i+1) (by omega)
 rw[plL_at s.ps (by omega),cellP0] at c0
 rw[plL_at s.ps (by omega),cellP1] at c1
 exact⟨c0,c1,World.ownsRow.frozenAt h.pl _,World.ownsRow.frozenAt h.pl _⟩
end
structure Frame (B:Nat)(L:List Nat)(w w':World):Prop where
 below:Below B w w'
 other:∀(k:Nat) (cs:Array Value) (T:TypeId) (fr:Nat×Nat),k ∉ L->T≠9->T≠98->w.heap[k]?=some (.cells cs T fr)->w'.heap[k]?=some (.cells cs T fr)
section
variable {B:Nat}{L:List Nat}{w w1 w2:World}
theorem Frame.refl (B:Nat)(L:List Nat)(w:World):Frame B L w w:=⟨Below.refl _ _,fun _ _ _ _ _ _ _ h=>h⟩
theorem Frame.trans (h:Frame B L w w1)(k:Frame B L w1 w2):Frame B L w w2:=⟨h.below.trans k.below,fun q cs T fr h1 h2 h3 h4=>k.other q cs T fr h1 h2 h3 (h.other q cs T fr h1 h2 h3 h4)⟩
theorem Frame.on (h:Frame B L w w1)(hb:Below w1.heap.size w1 w2)(hB:B<=w1.heap.size):Frame B L w w2 :=
 ⟨h.below.trans (hb.mono hB),fun q cs T fr h1 h2 h3 h4=>block_on (h.other q cs T fr h1 h2 h3 h4) hb⟩
theorem frame_of_below (h:Below w.heap.size w w1)(hB:B<=w.heap.size):Frame B L w w1:=(Frame.refl B L w).on h hB
theorem frame_of_only {g:Nat}(h:Only B g w w1)(hg:g∈L):Frame B L w w1:=⟨h.below,fun q cs T fr h1 h2 h3 h4=>h.other q cs T fr (fun e=>h1 (by rw[e];exact hg)) h2 h4⟩
theorem Frame.noted (h:Frame B L w w1){v:Value}{js:List Jb}(ho:JbOwn B w1 v js)(hr:w1.grownBy w2 v.ownBlock)(hB:B<=w1.heap.size):Frame B L w w2 :=
 ⟨h.below.grown hr hB (fun m hm=>(World.ownsRow.lt ho m hm).1),fun q cs T fr h1 h2 h3 h4=>by
  have h5:=h.other q cs T fr h1 h2 h3 h4
  rw[hr.block q (Array.getElem?_eq_some_iff.1 h5).1 (fun e=>?_)]
  ·exact h5
  ·obtain⟨cs',fz,h6⟩:=Go.Lib.ownsRow_kind ho q e.symm
   rw[h5] at h6
   simp only[Option.some.injEq,Obj.cells.injEq] at h6
   exact h3 h6.2.1⟩
theorem Frame.set (h:Frame B L w w1){p:Nat}(hp:p∈L)(hB:B<=p)(o:Nat)(v:Value):Frame B L w (w1.setCell ⟨p,o,none⟩ v) :=
 ⟨h.below.setCell (p:=⟨p,o,none⟩) hB v,fun q cs T fr h1 h2 h3 h4=>set_other (h.other q cs T fr h1 h2 h3 h4) (fun e=>h1 (by rw[<- e];exact hp)) v⟩
end
theorem putK_len {z:Int}{s s':Kp}{i:Nat}{tx:ByteArray}(h:putK z s i tx=some s'):s'.js.length=s.js.length+1∧s'.ps.length=s.ps.length:=by
 obtain⟨o,_,_,_,_,_,_,_,rfl⟩:=putK_parts h
 exact⟨by simp,List.length_set⟩
theorem moveI_len {z:Int}{v p:Nat}{s:Kp}:∀{k:Nat} {s':Kp},moveI z v p s k=some s'->s'.js.length<=s.js.length+k∧s'.ps.length=s.ps.length
 | 0,s',h=>by unfold moveI at h;simp only[Option.some.injEq] at h;subst h;exact⟨Nat.le_refl _,rfl⟩
 | k+1,s',h=>by
  unfold moveI at h
  cases hp:moveI z v p s k with
  | none=>rw[hp] at h;cases h
  | some t =>
   have:=moveI_len hp
   rw[hp,Option.bind_some] at h
   split at h
   ·have:=putK_len h;omega
   ·simp only[Option.some.injEq] at h;subst h;omega
theorem moveP_len {z:Int}{v:Nat}{s:Kp}:∀{k:Nat} {s':Kp},moveP z v s k=some s'->s'.js.length<=s.js.length+k*s.ps.length∧s'.ps.length=s.ps.length
 | 0,s',h=>by unfold moveP at h;simp only[Option.some.injEq] at h;subst h;exact⟨by omega,rfl⟩
 | k+1,s',h=>by
  unfold moveP at h
  cases hp:moveP z v s k with
  | none=>rw[hp] at h;cases h
  | some t =>
   obtain⟨h1,h2⟩:=moveP_len hp
   rw[hp,Option.bind_some] at h
   obtain⟨h3,h4⟩:=moveI_len h
   rw[h2] at h3 h4
   exact⟨by rw[Nat.succ_mul];omega,h4⟩
theorem doK_len {z:Int}{s s':Kp}{j:Jb}(h:doK z s j=some s'):s'.js.length=s.js.length+1∧s'.ps.length=s.ps.length:=by
 unfold doK at h;split at h
 ·simp only[Option.some.injEq] at h;rw[<- h];exact⟨by simp,rfl⟩
 ·cases h
theorem stepK_len {z:Int}{s s':Kp}(hK:KOk z s)(h:stepK z s=some s'):s'.js.length<=s.js.length+513:=by
 unfold stepK at h
 split at h
 ·simp only[Option.some.injEq] at h;subst h;show s.js.length<=_;omega
 ·split at h
  ·cases h
  ·rename_i hv
   obtain⟨v,ev,hvl,_⟩:=victim_parts hK.map hv
   have hl:(sqAt s.qs v).1.length<=8:=by
    have h1:=(sqOk_parts (chipOk_at hK.map.chip hvl)).1
    have h2:=(chipOk_parts hK.map.chip).2.1
    omega
   rw[ev] at h
   split at h
   ·split at h
    ·cases h
    ·rw[Int.toNat_natCast] at h
     cases hmv:moveK z v (withOp s (((emptyK s.qs s.qs.length).getD 0 0:Nat):Int)) with
     | none=>rw[hmv] at h;cases h
     | some t =>
      rw[hmv,Option.bind_some] at h
      have h1:=(doK_len h).1
      have h2:=(moveP_len hmv).1
      have h3:(sqAt (withOp s (((emptyK s.qs s.qs.length).getD 0 0:Nat):Int)).qs v).1.length*s.ps.length<=8*64:=Nat.mul_le_mul hl hK.map.few
      have h4:(withOp s (((emptyK s.qs s.qs.length).getD 0 0:Nat):Int)).js.length=s.js.length:=rfl
      have h5:(withOp s (((emptyK s.qs s.qs.length).getD 0 0:Nat):Int)).ps.length=s.ps.length:=rfl
      rw[h4,h5] at h2
      omega
   ·have:=(doK_len h).1;omega
theorem moveI_part {z:Int}{v p:Nat}{s:Kp}(hK:KOk z s)(hv:(v:Int)≠s.op):∀{k:Nat} {s':Kp},k<=s.ps.length->moveI z v p s k=some s'->KOk z s'∧s'.op=s.op∧s'.qs.length=s.qs.length∧s'.ps.length=s.ps.length∧∀q:Nat,(q:Int)≠s.op->sqAt s'.qs q=sqAt s.qs q
 | 0,s',_,h=>by unfold moveI at h;simp only[Option.some.injEq] at h;subst h;exact⟨hK,rfl,rfl,rfl,fun _ _=>rfl⟩
 | k+1,s',hk,h=>by
  unfold moveI at h
  cases hp:moveI z v p s k with
  | none=>rw[hp] at h;cases h
  | some t =>
   obtain⟨h1,h2,h3,h4,h5⟩:=moveI_part hK hv (by omega) hp
   rw[hp,Option.bind_some] at h
   split at h
   ·obtain⟨k1,k2,k3,k4,k5,_⟩:=putK_ok h1 (by omega) h
    exact⟨k1,k2.trans h2,k3.trans h3,k4.trans h4,fun q hq=>(k5 q (by rw[h2];exact hq)).trans (h5 q hq)⟩
   ·simp only[Option.some.injEq] at h;subst h;exact⟨h1,h2,h3,h4,h5⟩
theorem moveI_step_no {z:Int}{v p:Nat}{s t:Kp}{k:Nat}(h:moveI z v p s k=some t)(hn:plAt t.ps k≠((v:Int),(p:Int))):moveI z v p s (k+1)=some t:=by
 show(moveI z v p s k).bind _=_
 rw[h,Option.bind_some,if_neg hn]
theorem moveI_step_yes {z:Int}{v p:Nat}{s t:Kp}{k:Nat}(h:moveI z v p s k=some t)(hn:plAt t.ps k=((v:Int),(p:Int))):moveI z v p s (k+1)=putK z t k (txAt t.qs v p):=by
 show(moveI z v p s k).bind _=_
 rw[h,Option.bind_some,if_pos hn]
theorem moveI_fall {z:Int}{v p:Nat}{s:Kp}{k:Nat}(h:moveI z v p s k=none):∀{m:Nat},k<=m->moveI z v p s m=none
 | 0,hm=>by
  have e:k=0:=by omega
  subst e;exact h
 | m+1,hm=>by
  by_cases e:k=m+1
  ·subst e;exact h
  ·show(moveI z v p s m).bind _=_
   rw[moveI_fall h (by omega)];rfl
theorem moveP_step {z:Int}{v:Nat}{s t:Kp}{k:Nat}(h:moveP z v s k=some t):moveP z v s (k+1)=moveI z v k t t.ps.length:=by
 show(moveP z v s k).bind _=_
 rw[h,Option.bind_some]
theorem moveP_fall {z:Int}{v:Nat}{s:Kp}{k:Nat}(h:moveP z v s k=none):∀{m:Nat},k<=m->moveP z v s m=none
 | 0,hm=>by
  have e:k=0:=by omega
  subst e;exact h
 | m+1,hm=>by
  by_cases e:k=m+1
  ·subst e;exact h
  ·show(moveP z v s m).bind _=_
   rw[moveP_fall h (by omega)];rfl
end Go.Proofs.YtgjoepdfhadmcaaGreatDoor
end

section
namespace Go.Proofs.YtgjoepdfhadmcaaGreatDoor
open Go.RowKit
set_option linter.unusedVariables false
theorem roomK_yes {z:Int}{s:Kp}(h:roomy z s=true):∀k,roomK z k s=some s
 | 0=>by unfold roomK;rw[if_pos h]
 | k+1=>by unfold roomK;rw[if_pos h]
theorem roomK_end {z:Int}{s:Kp}(h:roomy z s=false):roomK z 0 s=none:=by unfold roomK;rw[if_neg (by rw[h];simp)]
theorem roomK_next {z:Int}{s:Kp}(h:roomy z s=false)(k:Nat):roomK z (k+1) s=(stepK z s).bind (roomK z k):=by
 show(if roomy z s then some s else _)=_
 rw[if_neg (by rw[h];simp)]
theorem stepK_wipe {z:Int}{s:Kp}{v:Nat}(h2:¬2<=(emptyK s.qs s.qs.length).length)(hv:victimV z s.qs s.ps s.op=(v:Int))(hl:liveN s.ps (v:Int)=0):stepK z s=doK z s (2,(v:Int),ByteArray.empty):=by
 unfold stepK
 rw[if_neg h2,hv,if_neg (by omega),if_neg (by omega)]
theorem stepK_stuck {z:Int}{s:Kp}{v:Nat}(h2:(emptyK s.qs s.qs.length).length=0)(hv:victimV z s.qs s.ps s.op=(v:Int))(hl:0<liveN s.ps (v:Int)):stepK z s=none:=by
 unfold stepK
 rw[if_neg (by omega),hv,if_neg (by omega),if_pos hl,if_pos h2]
theorem stepK_move {z:Int}{s:Kp}{v:Nat}(h2:¬2<=(emptyK s.qs s.qs.length).length)(h0:(emptyK s.qs s.qs.length).length≠0)(hv:victimV z s.qs s.ps s.op=(v:Int))(hl:0<liveN s.ps (v:Int)) :
  stepK z s=(moveK z v (withOp s (((emptyK s.qs s.qs.length).getD 0 0:Nat):Int))).bind fun s'=>doK z s' (2,(v:Int),ByteArray.empty):=by
 unfold stepK
 rw[if_neg h2,hv,if_neg (by omega),if_pos hl,if_neg h0,Int.toNat_natCast]
theorem enterK_no {z:Int}{s:Kp}{st kd a:Int}{tx:ByteArray}(h:mayEnt s.ps st kd a tx=false):enterK z s st kd a tx=none:=by unfold enterK;rw[if_neg (by rw[h];simp)]
theorem enterK_yes {z:Int}{s:Kp}{st kd a:Int}{tx:ByteArray}(h:mayEnt s.ps st kd a tx=true):enterK z s st kd a tx=(roomK z 20 s).bind fun s'=>putK z s' a.toNat (laid kd a (st+1) tx):=by unfold enterK;rw[if_pos h]
theorem roomK_len {z:Int}:∀{k:Nat} {s s':Kp},KOk z s->roomK z k s=some s'->s'.js.length<=s.js.length+513*k
 | 0,s,s',hK,h=>by
  unfold roomK at h
  split at h
  ·simp only[Option.some.injEq] at h;subst h;omega
  ·cases h
 | k+1,s,s',hK,h=>by
  unfold roomK at h
  split at h
  ·simp only[Option.some.injEq] at h;subst h;omega
  ·cases hs:stepK z s with
   | none=>rw[hs] at h;cases h
   | some t =>
    rw[hs,Option.bind_some] at h
    have h1:=stepK_len hK hs
    have h2:=roomK_len (stepK_ok hK hs).ok h
    omega
theorem laidB_small (K A S:Nat)(x:ByteArray)(h:x.size<=24):(laidB K A S x).size<=200:=by
 have h1:=woven_size_le (str (spreadL (bodyB K A S x).data.toList)) 2
 have h2:(str (spreadL (bodyB K A S x).data.toList)).size=2*(bodyB K A S x).size:=by rw[spread_len];rfl
 have h3:=bodyB_size K A S x
 have h4:(str (spreadL [UInt8.ofNat (x.size+8)])).size=2:=by rw[spread_len];rfl
 unfold laidB
 rw[ByteArray.size_append]
 omega
end Go.Proofs.YtgjoepdfhadmcaaGreatDoor
end

