/- Several texts in one: FtlOwnP, FtlLaw, FtlEnt, MountMath, FtlNew. -/
import Derived.Test.YtgjoepdfhadmcaaGreatDoorMFtlMath
import Derived.Test.YtgjoepdfhadmcaaGreatDoorMChipAns
import Derived.Test.YtgjoepdfhadmcaaGreatDoorMBase
import Derived.Test.YtgjoepdfhadmcaaGreatDoorMDraw7
import Derived.Test.YtgjoepdfhadmcaaGreatDoorMChipOwn2
import Derived.Test.YtgjoepdfhadmcaaGreatDoorMChipGrow
import Derived.Test.YtgjoepdfhadmcaaGreatDoorMInfo
import Derived.Deep.RegionHeld3
import Derived.Deep.RegionLaw
import Derived.Deep.AppendLies
section
namespace Go.Proofs.YtgjoepdfhadmcaaGreatDoor
open Go.RowKit
set_option linter.unusedVariables false
theorem ftlOk_parts {z:Int}{qs:List Sq}{ps:List Pl}{op st:Int}(h:ftlOk z qs ps op st=true):mapOk z qs ps=true∧ -1<=op∧op<(qs.length:Int)∧0<=st∧st<=1000000∧opOk qs op=true∧∀i,i<ps.length->fpOk z qs ps st i=true:=by
 unfold ftlOk inB at h
 simp only[Bool.and_eq_true,decide_eq_true_eq] at h
 obtain⟨h1,⟨h2,h3⟩,⟨h4,h5⟩,h6,h7⟩:=h
 exact⟨h1,h2,by omega,h4,h5,h6,fun i hi=>List.all_eq_true.1 h7 i (List.mem_range.2 hi)⟩
theorem kok_of {z:Int}{qs:List Sq}{ps:List Pl}{op st:Int}(h:ftlOk z qs ps op st=true)(js:List Jb):KOk z ⟨qs,ps,op,js⟩:=by
 obtain⟨h1,h2,h3,_,_,h6,_⟩:=ftlOk_parts h
 exact⟨mapR_of h1,h2,h3,h6⟩
def planR (z:Int)(qs:List Sq)(ps:List Pl)(op st kd a:Int)(tx:ByteArray):Option Kp:=if ftlOk z qs ps op st then enterK z ⟨qs,ps,op,[]⟩ st kd a tx else none
def entF (z:Int)(qs:List Sq)(ps:List Pl)(op st kd a:Int)(tx:ByteArray):Fv :=
 if ftlOk z qs ps op st then(match enterK z ⟨qs,ps,op,[]⟩ st kd a tx with|none=>⟨z,qs,ps,op,st⟩|some s=>⟨z,s.qs,s.ps,s.op,st+1⟩) else⟨0,[],[],0,0⟩
theorem own_of_parts {B n g gm cm:Nat}{w:World}{A:Nat->Option Addr}{C:Nat->Nat}{qs:List Sq}{ps:List Pl}(sq:GrowSqs B w n qs g A C)(pl:PlOwn B w (.slice (some ⟨gm,0,none⟩) ps.length cm) ps)(ne:gm≠g):FtlOwn B w.heap.size w (some ⟨g,0,none⟩) (some ⟨gm,0,none⟩) qs ps:=by
 obtain⟨cs,fz,hk⟩:=Go.Lib.ownsRow_kind pl gm rfl
 have hgm:gm<w.heap.size:=(Array.getElem?_eq_some_iff.1 hk).1
 refine⟨Nat.le_refl _,.inr ⟨g,0,A,C,fun i=>(oB (A i)).getD g,gm,?_,⟨rfl,by omega,fun h0=>⟨gm,0,rfl,Nat.le_refl _,Nat.lt_succ_self _,fun i hi=>⟨?_,by rw[Nat.zero_add];exact World.ownsRow.frozenAt pl i⟩⟩⟩,(World.ownsRow.lt pl gm rfl).1,hgm,ne,fun i hi h0 e=>?_⟩⟩
 ·have:=sq.own
  rw[sq.len]
  exact this
 ·rw[Nat.zero_add,World.ownsRow.cellAt pl i (by omega),plL_at ps (by omega)]
 ·rw[sq.len] at hi
  have ho:=sq.pages.own i hi
  rcases pg_form ho with⟨_,e1,_⟩|⟨p,e1,_⟩
  ·rw[e1] at h0;simp at h0
  ·dsimp only at e
   rw[e1] at e
   have e2:gm=p:=e
   have:=pg_ne ho hk (by decide)
   rw[e1,e2] at this
   exact this rfl
theorem own_of_kp {B n g gm cm:Nat}{w:World}{A:Nat->Option Addr}{C:Nat->Nat}{V:Value}{s:Kp}(h:KpMem B w n g gm cm A C V s):FtlOwn B w.heap.size w (some ⟨g,0,none⟩) (some ⟨gm,0,none⟩) s.qs s.ps:=own_of_parts h.sq h.pl h.ne
end Go.Proofs.YtgjoepdfhadmcaaGreatDoor
end

section
namespace Go.Proofs.YtgjoepdfhadmcaaGreatDoor
open Go.RowKit
set_option linter.unusedVariables false
theorem planR_some {z:Int}{qs:List Sq}{ps:List Pl}{op st kd a:Int}{tx:ByteArray}{s:Kp}(h:planR z qs ps op st kd a tx=some s):ftlOk z qs ps op st=true∧mayEnt ps st kd a tx=true∧∃s1,roomK z 20 ⟨qs,ps,op,[]⟩=some s1∧putK z s1 a.toNat (laid kd a (st+1) tx)=some s:=by
 unfold planR at h
 cases hf:ftlOk z qs ps op st with
 | false=>rw[hf] at h;cases h
 | true =>
  rw[hf,if_pos rfl] at h
  cases hm:mayEnt ps st kd a tx with
  | false=>rw[enterK_no (s:=⟨qs,ps,op,[]⟩) hm] at h;cases h
  | true =>
   rw[enterK_yes (s:=⟨qs,ps,op,[]⟩) hm] at h
   cases hr:roomK z 20 ⟨qs,ps,op,[]⟩ with
   | none=>rw[hr] at h;cases h
   | some s1=>rw[hr] at h;exact⟨rfl,rfl,s1,rfl,h⟩
end Go.Proofs.YtgjoepdfhadmcaaGreatDoor
end

section
namespace Go.Proofs.YtgjoepdfhadmcaaGreatDoor
open Go.RowKit
set_option linter.unusedVariables false
theorem pageAt_there {z:Int}{qs:List Sq}{p:Pl}(hc:chipOk z qs=true)(h:plThere qs p=true):pageAt z qs p.1 p.2=txt qs p:=by
 unfold plThere at h
 unfold pageAt txt txAt
 rw[hc,h]
 rfl
theorem pgOf_thereE {z:Int}{qs:List Sq}{p:Pl}(hc:chipOk z qs=true)(h:plThere qs p=true):pgOf z qs p=lyP (txt qs p):=by
 unfold pgOf;rw[pageAt_there hc h]
theorem fpOk_iff {z:Int}{qs:List Sq}{ps:List Pl}{st:Int}{i:Nat}:fpOk z qs ps st i=true↔plAt ps i=(-1,0)∨(lyWell (pgOf z qs (plAt ps i)).2.2.2.2=true∧(pgOf z qs (plAt ps i)).2.1=(i:Int)∧(pgOf z qs (plAt ps i)).2.2.1<=st):=by
 unfold fpOk
 rw[Bool.or_eq_true,Bool.and_eq_true,Bool.and_eq_true,beq_iff_eq,beq_iff_eq]
 simp
theorem ftlOk_of {z:Int}{qs:List Sq}{ps:List Pl}{op st:Int}{js:List Jb}(h:KOk z ⟨qs,ps,op,js⟩)(h0:0<=st)(h1:st<=1000000)(hf:∀i,i<ps.length->fpOk z qs ps st i=true):ftlOk z qs ps op st=true:=by
 have a1:=h.map.ok
 have a2:=h.lo
 have a3:=h.hi
 have a4:=h.good
 dsimp only at a1 a2 a3 a4
 unfold ftlOk inB
 rw[a1,a4,decide_eq_true a2,decide_eq_true (show op<=(qs.length:Int)-1 by omega),decide_eq_true h0,decide_eq_true h1]
 simp only[Bool.true_and,List.all_eq_true,List.mem_range]
 exact hf
theorem get_same {z:Int}{qs qs':List Sq}{ps ps':List Pl}{op op' st st':Int}(h:ftlOk z qs ps op st=true)(h':ftlOk z qs' ps' op' st'=true)(hl:ps'.length=ps.length){i:Nat}(hi:i<ps.length)(hs:sameAt qs ps qs' ps' i):ftlGet z qs' ps' op' st' (i:Int)=ftlGet z qs ps op st (i:Int):=by
 have hm:=mapR_of (ftlOk_map h)
 have hm':=mapR_of (ftlOk_map h')
 have b1:inB (i:Int) 0 ((ps.length:Int)-1)=true:=by unfold inB;simp;omega
 have b2:inB (i:Int) 0 ((ps'.length:Int)-1)=true:=by unfold inB;simp;omega
 unfold ftlGet
 rw[h,h',b1,b2,Int.toNat_natCast]
 by_cases e:plAt ps i=(-1,0)
 ·have e':=hs.1.2 e
  rw[e,e']
  rfl
 ·have e':plAt ps' i≠(-1,0):=fun k=>e (hs.1.1 k)
  have t1:=(hm.there i hi).resolve_left e
  have t2:=(hm'.there i (by omega)).resolve_left e'
  rw[pgOf_thereE hm.chip t1,pgOf_thereE hm'.chip t2,hs.2 e]
  have n1:(plAt ps i==(-1,0))=false:=by simpa using e
  have n2:(plAt ps' i==(-1,0))=false:=by simpa using e'
  rw[n1,n2]
theorem same_ok {z:Int}{qs qs':List Sq}{ps ps':List Pl}{st st':Int}(hm:MapR z qs ps)(hm':MapR z qs' ps')(hl:ps'.length=ps.length)(hst:st<=st'){i:Nat}(hi:i<ps.length)(hf:fpOk z qs ps st i=true)(hs:sameAt qs ps qs' ps' i):fpOk z qs' ps' st' i=true:=by
 rw[fpOk_iff] at hf ⊢
 rcases hf with e|⟨h1,h2,h3⟩
 ·exact .inl (hs.1.2 e)
 ·by_cases e:plAt ps' i=(-1,0)
  ·exact .inl e
  ·have e0:plAt ps i≠(-1,0):=fun k=>e (hs.1.2 k)
   have t1:=(hm.there i hi).resolve_left e0
   have t2:=(hm'.there i (by omega)).resolve_left e
   rw[pgOf_thereE hm.chip t1] at h1 h2 h3
   rw[pgOf_thereE hm'.chip t2,hs.2 e0]
   exact .inr ⟨h1,h2,by omega⟩
structure Entd (z:Int)(qs:List Sq)(ps:List Pl)(op st kd a:Int)(tx:ByteArray)(s:Kp):Prop where
 ok:ftlOk z s.qs s.ps s.op (st+1)=true
 squares:s.qs.length=qs.length
 places:s.ps.length=ps.length
 at0:0<=a
 at1:a<(ps.length:Int)
 here:ftlGet z s.qs s.ps s.op (st+1) a=(tx,kd==1)
 else_:∀i:Nat,i<ps.length->(i:Int)≠a->ftlGet z s.qs s.ps s.op (st+1) (i:Int)=ftlGet z qs ps op st (i:Int)
theorem entd_of {z:Int}{qs:List Sq}{ps:List Pl}{op st kd a:Int}{tx:ByteArray}{s:Kp}(h:planR z qs ps op st kd a tx=some s):Entd z qs ps op st kd a tx s:=by
 obtain⟨hf,hm,s1,h1,h2⟩:=planR_some h
 have hK0:=kok_of hf []
 obtain⟨_,_,_,hst0,hst1,_,hfp⟩:=ftlOk_parts hf
 have hS:=(roomK_ok hK0 h1).1
 have hm0:MapR z qs ps:=hK0.map
 unfold mayEnt at hm
 rw[Bool.and_eq_true] at hm
 obtain⟨hpo,hin⟩:=hm
 unfold inB at hin
 simp only[Bool.and_eq_true,decide_eq_true_eq] at hin
 have hsp:s1.ps.length=ps.length:=hS.places
 have hsq:s1.qs.length=qs.length:=hS.squares
 have ha:a.toNat<s1.ps.length:=by omega
 obtain⟨k1,k2,k3,k4,k5,k6,k7,k8,k9⟩:=putK_ok hS.ok ha h2
 have hst:st+1<=1000000:=by
  obtain⟨K,A,S,_,_,e,_,_,_,hS1,_⟩:=page_ok hpo
  omega
 obtain⟨hly,hlz⟩:=ly_laid hpo
 have hall:∀i,i<ps.length->i≠a.toNat->sameAt qs ps s.qs s.ps i:=fun i hi hne=>sameAt_trans (hS.same i hi) (k7 i (by omega) hne)
 have hna:plAt s.ps a.toNat≠(-1,0):=by
  rw[k8]
  obtain⟨o,ho,_⟩:=putK_parts h2
  unfold nextP
  rw[ho]
  exact ne_none
 have hth:=(k1.map.there a.toNat (by omega)).resolve_left hna
 have hpg:pgOf z s.qs (plAt s.ps a.toNat)=(kd,a,st+1,tx,1):=by rw[pgOf_thereE k1.map.chip hth,k9,hly]
 have hok:ftlOk z s.qs s.ps s.op (st+1)=true:=by
  refine ftlOk_of (js:=s.js) k1 (by omega) hst fun i hi=>?_
  by_cases e:i=a.toNat
  ·subst e
   rw[fpOk_iff,hpg]
   refine .inr ⟨rfl,?_,Int.le_refl _⟩
   show a=_
   omega
  ·exact same_ok hm0 k1.map (by omega) (by omega) (by omega) (hfp i (by omega)) (hall i (by omega) e)
 refine⟨hok,k3.trans hsq,k4.trans hsp,by omega,by omega,?_,fun i hi hne=>get_same hf hok (by omega) hi (hall i hi (by omega))⟩
 unfold ftlGet
 have n2:(plAt s.ps a.toNat==(-1,0))=false:=by simpa using hna
 have b2:inB a 0 ((s.ps.length:Int)-1)=true:=by unfold inB;simp;omega
 rw[hok,n2,b2,hpg]
 rfl
end Go.Proofs.YtgjoepdfhadmcaaGreatDoor
end

section
namespace Go.Proofs.YtgjoepdfhadmcaaGreatDoor
open Go.RowKit
set_option linter.unusedVariables false
structure Mt where
 st:List Int
 ps:List Pl
 S:Int
def stAt (st:List Int)(i:Nat):Int:=st.getD i 0
theorem stAt_set (st:List Int){i:Nat}(x:Int)(h:i<st.length)(k:Nat):stAt (st.set i x) k=if k=i then x else stAt st k:=by
 unfold stAt
 rw[List.getD_eq_getElem?_getD,List.getElem?_set]
 by_cases e:k=i
 ·subst e;simp[h]
 ·rw[if_neg e,if_neg (Ne.symm e),List.getD_eq_getElem?_getD]
def mtHit (n:Nat)(r:Int×Int×Int×ByteArray×Int):Bool:=lyWell r.2.2.2.2&&!decide (r.2.1>=(n:Int))
def maxI (a b:Int):Int:=if a > b then a else b
def mtOne (n:Nat)(i k:Nat)(r:Int×Int×Int×ByteArray×Int)(s:Mt):Mt :=
 if mtHit n r then(if r.2.2.1 > stAt s.st r.2.1.toNat then⟨s.st.set r.2.1.toNat r.2.2.1,s.ps.set r.2.1.toNat ((i:Int),(k:Int)),maxI s.S r.2.2.1⟩ else⟨s.st,s.ps,maxI s.S r.2.2.1⟩) else s
def mtPages (n:Nat)(qs:List Sq)(i:Nat)(s:Mt):Nat->Mt
 | 0=>s
 | k+1=>mtOne n i k (lyP (txAt qs i k)) (mtPages n qs i s k)
def mtSqs (n:Nat)(qs:List Sq):Nat->Mt
 | 0=>⟨List.replicate n 0,List.replicate n (-1,0),0⟩
 | i+1=>mtPages n qs i (mtSqs n qs i) (sqAt qs i).1.length
def mtAll (n:Nat)(qs:List Sq):Mt:=mtSqs n qs qs.length
def mountF (z:Int)(qs:List Sq)(n:Int):Fv:=if chipOk z qs&&inB n 1 64 then⟨z,qs,(mtAll n.toNat qs).ps,-1,(mtAll n.toNat qs).S⟩ else⟨0,[],[],0,0⟩
theorem lyP_well {s:ByteArray}(h:lyWell (lyP s).2.2.2.2=true):0<=(lyP s).2.1∧(lyP s).2.1<=63∧1<=(lyP s).2.2.1∧(lyP s).2.2.1<=1000000:=by
 by_cases h0:s.size=0
 ·rw[lyP_blank h0] at h;exact absurd h (by decide)
 ·cases hg:goodL s with
  | false=>rw[lyP_torn h0 hg] at h;exact absurd h (by decide)
  | true =>
   rw[lyP_good h0 hg]
   simp only[goodL,Bool.and_eq_true] at hg
   have hb:=hg.2.2.2.2
   simp only[bodyOk,Bool.and_eq_true] at hb
   have hp:=hb.2.2.2
   rw[pageOk_iff] at hp
   have hp:=of_decide_eq_true hp
   dsimp only
   omega
structure MtOk (n:Nat)(qs:List Sq)(s:Mt):Prop where
 st:s.st.length=n
 ps:s.ps.length=n
 each:∀j,j<n->(plAt s.ps j=(-1,0)∧stAt s.st j=0)∨∃i k:Nat,plAt s.ps j=((i:Int),(k:Int))∧i<qs.length∧k<(sqAt qs i).1.length∧lyWell (lyP (txAt qs i k)).2.2.2.2=true∧(lyP (txAt qs i k)).2.1=(j:Int)∧(lyP (txAt qs i k)).2.2.1=stAt s.st j
 top:∀j,j<n->stAt s.st j<=s.S
 lo:0<=s.S
 hi:s.S<=1000000
theorem mtOne_ok {n i k:Nat}{qs:List Sq}{s:Mt}(h:MtOk n qs s)(hi:i<qs.length)(hk:k<(sqAt qs i).1.length):MtOk n qs (mtOne n i k (lyP (txAt qs i k)) s):=by
 unfold mtOne
 cases hh:mtHit n (lyP (txAt qs i k)) with
 | false=>exact h
 | true =>
  rw[if_pos rfl]
  unfold mtHit at hh
  simp only[Bool.and_eq_true,Bool.not_eq_true',decide_eq_false_iff_not] at hh
  obtain⟨hw,ha⟩:=hh
  obtain⟨w1,w2,w3,w4⟩:=lyP_well hw
  have hlo:=h.lo
  have hhi:=h.hi
  have hm1:s.S<=maxI s.S (lyP (txAt qs i k)).2.2.1:=by unfold maxI;split<;>omega
  have hm2:(lyP (txAt qs i k)).2.2.1<=maxI s.S (lyP (txAt qs i k)).2.2.1:=by unfold maxI;split<;>omega
  have hm3:maxI s.S (lyP (txAt qs i k)).2.2.1<=1000000:=by unfold maxI;split<;>omega
  split
  ·have hal:(lyP (txAt qs i k)).2.1.toNat<n:=by omega
   refine⟨by rw[List.length_set];exact h.st,by rw[List.length_set];exact h.ps,fun j hj=>?_,fun j hj=>?_,by dsimp only;omega,hm3⟩
   ·dsimp only
    rw[plAt_set s.ps _ (by rw[h.ps];exact hal),stAt_set s.st _ (by rw[h.st];exact hal)]
    by_cases e:j=(lyP (txAt qs i k)).2.1.toNat
    ·rw[if_pos e,if_pos e]
     exact .inr ⟨i,k,rfl,hi,hk,hw,by omega,rfl⟩
    ·rw[if_neg e,if_neg e]
     exact h.each j hj
   ·dsimp only
    rw[stAt_set s.st _ (by rw[h.st];exact hal)]
    split
    ·exact hm2
    ·have:=h.top j hj;omega
  ·refine⟨h.st,h.ps,h.each,fun j hj=>?_,by dsimp only;omega,hm3⟩
   have:=h.top j hj
   dsimp only
   omega
theorem mtPages_ok {n i:Nat}{qs:List Sq}{s:Mt}(h:MtOk n qs s)(hi:i<qs.length):∀k,k<=(sqAt qs i).1.length->MtOk n qs (mtPages n qs i s k)
 | 0,_=>h
 | k+1,hk=>mtOne_ok (mtPages_ok h hi k (by omega)) hi (by omega)
theorem mtSqs_ok {n:Nat}{qs:List Sq}:∀i,i<=qs.length->MtOk n qs (mtSqs n qs i)
 | 0,_=>by
  have hp:∀j,j<n->plAt (List.replicate n ((-1:Int),(0:Int))) j=(-1,0):=fun j hj=>by
   unfold plAt;rw[List.getD_eq_getElem?_getD,List.getElem?_replicate,if_pos hj];rfl
  have hs:∀j,stAt (List.replicate n (0:Int)) j=0:=fun j=>by
   unfold stAt;rw[List.getD_eq_getElem?_getD,List.getElem?_replicate];split<;>rfl
  exact⟨List.length_replicate,List.length_replicate,fun j hj=>.inl ⟨hp j hj,hs j⟩,fun j _=>by show stAt (List.replicate n 0) j<=0;rw[hs j];exact Int.le_refl _,Int.le_refl _,by show(0:Int)<=1000000;omega⟩
 | i+1,hi=>mtPages_ok (mtSqs_ok i (by omega)) (by omega) _ (Nat.le_refl _)
theorem mtAll_ok (n:Nat)(qs:List Sq):MtOk n qs (mtAll n qs):=mtSqs_ok _ (Nat.le_refl _)
theorem mounted_ok {z:Int}{qs:List Sq}{n:Nat}(hc:chipOk z qs=true)(h1:1<=n)(h64:n<=64):ftlOk z qs (mtAll n qs).ps (-1) (mtAll n qs).S=true:=by
 have h:=mtAll_ok n qs
 have hlen:=h.ps
 have hth:∀j,j<n->∀i k:Nat,plAt (mtAll n qs).ps j=((i:Int),(k:Int))->i<qs.length->k<(sqAt qs i).1.length->plThere qs (plAt (mtAll n qs).ps j)=true:=fun j _ i k e hi hk=>plThere_iff.2 ⟨i,k,e,hi,hk⟩
 refine ftlOk_of (js:=[]) ⟨⟨hc,by show 1<=(mtAll n qs).ps.length;omega,by show(mtAll n qs).ps.length<=64;omega,fun j hj=>?_,fun j j' hj hj' hne he=>?_⟩,by show(-1:Int)<= -1;omega,by show(-1:Int)<_;omega,by unfold opOk;simp⟩ h.lo h.hi (fun j hj=>?_)
 ·rcases h.each j (by have h9:j<(mtAll n qs).ps.length:=hj;omega) with e|⟨i,k,e,hi,hk,_⟩
  ·exact .inl e.1
  ·exact .inr (plThere_iff.2 ⟨i,k,e,hi,hk⟩)
 ·have hj1:j<n:=by have h9:j<(mtAll n qs).ps.length:=hj;omega
  have hj2:j'<n:=by have h9:j'<(mtAll n qs).ps.length:=hj';omega
  rcases h.each j hj1 with e|⟨i,k,e,hi,hk,_,ea,_⟩
  ·exact e.1
  ·rcases h.each j' hj2 with e' | ⟨i',k',e',hi',hk',_,ea',_⟩
   ·have he2:plAt (mtAll n qs).ps j=plAt (mtAll n qs).ps j':=he
    show plAt (mtAll n qs).ps j=_
    rw[he2];exact e'.1
   ·exfalso
    have he2:plAt (mtAll n qs).ps j=plAt (mtAll n qs).ps j':=he
    rw[e,e'] at he2
    simp only[Prod.mk.injEq] at he2
    have e1:i=i':=by omega
    have e2:k=k':=by omega
    subst e1
    subst e2
    rw[ea] at ea'
    omega
 ·have hj1:j<n:=by omega
  rw[fpOk_iff]
  rcases h.each j hj1 with e|⟨i,k,e,hi,hk,hw,ea,es⟩
  ·exact .inl e.1
  ·refine .inr ?_
   have ht:=plThere_iff.2 ⟨i,k,e,hi,hk⟩
   rw[pgOf_thereE hc ht,e]
   show lyWell (lyP (txAt qs (i:Int).toNat (k:Int).toNat)).2.2.2.2=true∧(lyP (txAt qs (i:Int).toNat (k:Int).toNat)).2.1=_∧(lyP (txAt qs (i:Int).toNat (k:Int).toNat)).2.2.1<=_
   rw[Int.toNat_natCast,Int.toNat_natCast]
   exact⟨hw,ea,by rw[es];exact h.top j hj1⟩
end Go.Proofs.YtgjoepdfhadmcaaGreatDoor
end

section
namespace Go.Proofs.YtgjoepdfhadmcaaGreatDoor
open Go.RowKit
set_option linter.unusedVariables false
set_option maxRecDepth 20000
def nfOk (q z n:Int):Bool:=newOk q z&&inB n 1 64
def newF (q z n:Int):Fv:=if nfOk q z n then⟨z,newQ q z,List.replicate n.toNat (-1,0),-1,0⟩ else⟨0,[],[],0,0⟩
theorem own_of_ans {lo hi gm:Nat}{w:World}{a am:Option Addr}{qs:List Sq}{ps:List Pl}(h:AnsQ lo hi w a qs.length qs)(hne:qs≠[])(hp:OwnPlaces gm (gm+1) w am ps.length ps)(h1:hi<=gm)(h2:gm<w.heap.size)(hP:∀i,i<qs.length->(sqAt qs i).1.length=0):FtlOwn lo w.heap.size w a am qs ps:=by
 obtain⟨h3,h4|⟨g,off,A,C,P,h4⟩⟩:=h
 ·exact absurd h4.2 hne
 ·have hg:=h4.atG
  exact⟨Nat.le_refl _,.inr ⟨g,off,A,C,P,gm,h4.wide (Nat.le_refl _) (by omega) (Nat.le_refl _),hp,by omega,h2,by omega,fun i hi h0=>absurd h0 (by rw[hP i hi];omega)⟩⟩
theorem newQ_none (q z:Int):∀i,i<(newQ q z).length->(sqAt (newQ q z) i).1.length=0:=by
 intro i hi
 unfold newQ at hi ⊢
 split at hi
 ·rename_i h
  rw[if_pos h]
  unfold sqAt
  rw[List.getD_eq_getElem?_getD,List.getElem?_replicate]
  rw[List.length_replicate] at hi
  rw[if_pos hi]
  rfl
 ·simp at hi
theorem newQ_ne {q z:Int}(h:newOk q z=true):newQ q z≠[]:=by
 obtain⟨n,rfl,h1,h2,_⟩:=newOk_nat h
 unfold newQ
 rw[if_pos h]
 intro e
 have:=congrArg List.length e
 rw[List.length_replicate] at this
 simp at this
 omega
theorem five_other {w:World}{k b:Nat}{o:Obj}(h:w.heap[k]?=some o)(hne:b≠k)(v0 v1 v2 v3 v4:Value):(((((w.setCell ⟨b,0,none⟩ v0).setCell ⟨b,1,none⟩ v1).setCell ⟨b,2,none⟩ v2).setCell ⟨b,3,none⟩ v3).setCell ⟨b,4,none⟩ v4).heap[k]?=some o :=
 set_other (set_other (set_other (set_other (set_other h hne _) hne _) hne _) hne _) hne _
set_option maxHeartbeats 3200000 in
theorem implNewFtl_any (q z n:Int)(w:World) :
  Calls Tryz.prog 74 #[.int .i64 q,.int .i64 z,.int .i64 n] w fun e w'=>∃v,e=.returned (.tuple #[v,.bool (nfOk q z n)])∧FtlAns w (newF q z n) v w':=by
 obtain⟨fv,hfv⟩:∃fv,fv=newF q z n:=⟨_,rfl⟩
 have HFV:=hide hfv
 rw[<- hfv]
 clear hfv
 obtain⟨B,hB⟩:∃B,B=nfOk q z n:=⟨_,rfl⟩
 have HBV:=hide hB
 rw[<- hB]
 clear hB
 obtain⟨wA,hwA⟩:∃wA,wA=w.alloc (.cells #[.int .i64 0,.slice none 0 0,.slice none 0 0,.int .i64 0,.int .i64 0] 29):=⟨_,rfl⟩
 have hzA:wA.heap.size=w.heap.size+1:=by rw[hwA];simp
 have HBA:Hid (Below w.heap.size w wA):=by rw[hwA];exact(Below.refl _ _).alloc (Nat.le_refl _) _
 have H0:Hid (wA.heap[w.heap.size]?=some (.cells #[.int .i64 0,.slice none 0 0,.slice none 0 0,.int .i64 0,.int .i64 0] 29)):=by rw[hwA];exact heap_new _ _
 have HCN:=hide (implNewChip_ans q z wA)
 have HNE:=hide (fun h=>newQ_ne (q:=q) (z:=z) h)
 have HNN:=hide (newQ_none q z)
 obtain⟨Z,hZ⟩:∃Z,Z=newZ q z:=⟨_,rfl⟩
 obtain⟨Q,hQ⟩:∃Q,Q=newQ q z:=⟨_,rfl⟩
 have HZ:=hide hZ
 have HQ:=hide hQ
 rw[<- hZ,<- hQ] at HCN
 rw[<- hQ] at HNE HNN
 clear hZ hQ
 go_enter Tryz.func74,Tryz.ntmps74
 go_wp2_with fail
 rw[<- hwA]
 clear hwA
 refine HCN.out.mono ?_
 rintro e w1 ⟨v,rfl,p,c,rfl,ho,hb⟩
 obtain⟨wC,hwC⟩:∃wC,wC=w1.alloc (.cells #[.int .i64 Z,.slice p Q.length c] 26):=⟨_,rfl⟩
 have hzC:wC.heap.size=w1.heap.size+1:=by rw[hwC];simp
 have HBC:Hid (Below w1.heap.size w1 wC):=by rw[hwC];exact(Below.refl _ _).alloc (Nat.le_refl _) _
 have HC:Hid (wC.heap[w1.heap.size]?=some (.cells #[.int .i64 Z,.slice p Q.length c] 26)):=by rw[hwC];exact heap_new _ _
 have K0:=hide (block_on (block_on H0.out hb) HBC.out)
 have HAQ:=hide (ho.later HBC.out (Nat.le_refl _))
 have HB1:=hide (below_here (below_here HBA.out hb) HBC.out)
 have hs1:=hb.size
 clear ho hb HBC H0 HBA HCN
 obtain⟨d0,d1⟩:=two_cells HC.out
 obtain⟨p0,p1,p2,p3,p4⟩:=five_cells K0.out
 have f0:=four_frozen K0.out 0
 have f1:=four_frozen K0.out 1
 have f2:=four_frozen K0.out 2
 have f3:=four_frozen K0.out 3
 have f4:=four_frozen K0.out 4
 have HRS:=hide (five_set K0.out (.int .i64 0) (.slice none 0 0) (.slice none 0 0) (.int .i64 0) (.int .i64 0))
 have HAS:=hide (five_aside (b:=w.heap.size) (Aside.refl (w.heap.size) (w.heap.size+1) wC) (Nat.le_refl _) (Nat.lt_succ_self _) (.int .i64 0) (.slice none 0 0) (.slice none 0 0) (.int .i64 0) (.int .i64 0))
 have HBF:=hide (HB1.out.trans (HAS.out.below (B:=w.heap.size) (Nat.le_refl _) (by omega)))
 rw[hwC] at d0 d1 p0 p1 p2 p3 p4 f0 f1 f2 f3 f4
 have HZC:=hide hzC
 clear hzC
 cases hok:newOk q z with
 | false =>
  have HE:Hid (B=false):=by show _=_;rw[HBV.out];unfold nfOk;rw[hok];rfl
  have HFE:Hid (fv=⟨0,[],[],0,0⟩):=by show _=_;rw[HFV.out];unfold newF nfOk;rw[hok];rfl
  go_wp2_with fail
  rw[<- hwC]
  refine bodyPost_ret (results_ct rfl rfl (run_loadVar_row _ _ _ _ _ _ _ HRS.out Tryz.underlying29 rfl (by kernel_rfl))) rfl ⟨.agg #[.int .i64 0,.slice none 0 0,.slice none 0 0,.int .i64 0,.int .i64 0],by rw[HE.out];rfl,none,0,none,0,by rw[HFE.out];rfl,⟨Nat.le_refl _,.inl ?_⟩,HBF.out,by rw[HFE.out];exact Nat.le_refl _⟩
  rw[HFE.out];exact⟨rfl,rfl⟩
 | true =>
  by_cases hn:1<=n∧n<=64
  ·obtain⟨N,rfl⟩:∃N:Nat,n=(N:Int):=⟨n.toNat,by omega⟩
   have HE:Hid (B=true):=by show _=_;rw[HBV.out];unfold nfOk inB;rw[hok];simp;omega
   have HFE:Hid (fv=⟨Z,Q,List.replicate N (-1,0),-1,0⟩):=by
    show _=_
    have e1:nfOk q z (N:Int)=true:=by rw[<- HBV.out];exact HE.out
    have e2:newZ q z=z:=by unfold newZ;rw[hok];rfl
    rw[HFV.out,HZ.out,HQ.out,e2];unfold newF;rw[e1,if_pos rfl,Int.toNat_natCast]
   have HQN:=hide (HNE.out hok)
   have g1:decide ((N:Int)<1)=false:=by simp;omega
   have g2:decide ((64:Int)<(N:Int))=false:=by simp;omega
   clear HRS HAS HBF HNE
   go_upto_region 4 with fail
   rw[<- hwC]
   rw[<- hwC] at d0 d1 p0 p1 p2 p3 p4 f0 f1 f2 f3 f4
   clear hwC
   obtain⟨wP,hwP⟩:∃wP,wP=wC.alloc (.cells #[.int .i64 (-1),.int .i64 0] 39):=⟨_,rfl⟩
   have hzP:wP.heap.size=wC.heap.size+1:=by rw[hwP];simp
   have HBP:Hid (Below wC.heap.size wC wP):=by rw[hwP];exact(Below.refl _ _).alloc (Nat.le_refl _) _
   have HPP:Hid (Places wC.heap.size (wC.heap.size+1) wP (some ⟨wC.heap.size,0,none⟩) 1 [(-1,0)]):=by
    rw[hwP]
    refine⟨rfl,by simp,fun _=>⟨wC.heap.size,0,rfl,Nat.le_refl _,Nat.lt_succ_self _,fun j hj=>?_⟩⟩
    obtain⟨k0,k1⟩:=two_cells (heap_new wC (.cells #[.int .i64 (-1),.int .i64 0] 39))
    rcases j with _|_|j
    ·exact k0
    ·exact k1
    ·omega
   have HCR:Hid (Calls Tryz.prog 133 #[.slice (some ⟨wC.heap.size,0,none⟩) 1 1,.int .i64 (N:Int)] (wC.alloc (.cells #[.int .i64 (-1),.int .i64 0] 39)).drew fun e w'=>e=.returned (.slice (some ⟨wP.heap.size,0,none⟩) N N)∧OwnPlaces wP.heap.size (wP.heap.size+1) w' (some ⟨wP.heap.size,0,none⟩) N (List.replicate N (-1,0))∧Below wP.heap.size wP w'):=by
    rw[<- hwP]
    refine(repeat_any N wP.drew (cap:=1) (show Places _ _ wP.drew _ _ _ from HPP.out) (by show _<=wP.heap.size;omega) (by omega) (by omega)).mono ?_
    rintro e w' ⟨h1,h2,h3⟩
    exact⟨h1,h2,h3.os,h3.tape,h3.output,h3.size,h3.block⟩
   clear HPP hwP
   have hne1:w.heap.size≠w1.heap.size:=by omega
   have HZP:=hide hzP
   clear hzP
   have HKC:∀w9:World,Hid (w9.heap[w1.heap.size]?=some (.cells #[.int .i64 Z,.slice p Q.length c] 26)->w9.cell? ⟨w1.heap.size,0,none⟩=some (.int .i64 Z)∧w9.cell? ⟨w1.heap.size,1,none⟩=some (.slice p Q.length c)):=fun w9 h9=>two_cells h9
   have CD:Hid (wC.drew.heap[w1.heap.size]?=some (.cells #[.int .i64 Z,.slice p Q.length c] 26)):=HC.out
   have CP:Hid ((wC.alloc (.cells #[.int .i64 (-1),.int .i64 0] 39)).heap[w1.heap.size]?=some (.cells #[.int .i64 Z,.slice p Q.length c] 26)):=heap_old HC.out
   have CPD:Hid ((wC.alloc (.cells #[.int .i64 (-1),.int .i64 0] 39)).drew.heap[w1.heap.size]?=some (.cells #[.int .i64 Z,.slice p Q.length c] 26)):=heap_old HC.out
   go_region_held3 (fun w9=>w9.cell? ⟨w1.heap.size,0,none⟩=some (.int .i64 Z)∧w9.cell? ⟨w1.heap.size,1,none⟩=some (.slice p Q.length c))
    (first|with_reducible exact(HKC _).out HC.out|with_reducible exact(HKC _).out CD.out|with_reducible exact(HKC _).out CP.out|with_reducible exact(HKC _).out CPD.out|with_reducible exact(HKC _).out C5.out|with_reducible exact(HKC _).out (five_other C5.out hne1 _ _ _ _ _)|fail)
    (first
    | (go_at_call 133;refine HCR.out.mono ?_;rintro e w5 ⟨rfl,hP5,b5⟩;have K5:=hide (block_on (block_on K0.out HBP.out) b5);have C5:=hide (block_on (block_on HC.out HBP.out) b5);have HP5:=hide hP5;have HB5:=hide (below_here HBP.out b5);obtain⟨q0,q1,q2,q3,q4⟩:=five_cells K5.out;have g0:=four_frozen K5.out 0;have g1':=four_frozen K5.out 1;have g2':=four_frozen K5.out 2;have g3:=four_frozen K5.out 3;have g4:=four_frozen K5.out 4;have hs5:=b5.size;clear hP5 b5))
   all_goals
    have hzC:=HZC.out
    have hzP:=HZP.out
    have HRS:=hide (five_set K5.out (.int .i64 Z) (.slice p Q.length c) (.slice (some ⟨wP.heap.size,0,none⟩) N N) (.int .i64 (-1)) (.int .i64 0))
    have HAS:=hide (five_aside (b:=w.heap.size) (Aside.refl (w.heap.size) (w.heap.size+1) w5) (Nat.le_refl _) (Nat.lt_succ_self _) (.int .i64 Z) (.slice p Q.length c) (.slice (some ⟨wP.heap.size,0,none⟩) N N) (.int .i64 (-1)) (.int .i64 0))
    have HBF:=hide ((below_here HB1.out HB5.out).trans (HAS.out.below (B:=w.heap.size) (Nat.le_refl _) (by omega)))
    have hlt5:wP.heap.size<w5.heap.size:=by have:=HP5.out.2.1;omega
    have HOF:=hide (own_of_ans (ps:=List.replicate N (-1,0)) (HAQ.out.later HB5.out (by omega)) HQN.out (by rw[List.length_replicate];exact HP5.out) (by omega) hlt5 HNN.out)
    clear hzP
    go_wp2_with fail
    have hzP:=HZP.out
    refine bodyPost_ret (results_ct rfl rfl (run_loadVar_row _ _ _ _ _ _ _ HRS.out Tryz.underlying29 rfl (by kernel_rfl))) rfl ⟨.agg #[.int .i64 Z,.slice p Q.length c,.slice (some ⟨wP.heap.size,0,none⟩) N N,.int .i64 (-1),.int .i64 0],by rw[HE.out];rfl,p,c,some ⟨wP.heap.size,0,none⟩,N,by rw[HFE.out];unfold fvV;dsimp only;rw[List.length_replicate],?_,HBF.out,by rw[HFE.out];show(List.replicate N _).length<=N;rw[List.length_replicate];exact Nat.le_refl _⟩
    rw[HFE.out]
    exact(HOF.out.aside HAS.out (.inl (by omega))).wide (by omega) HAS.out.size (Nat.le_refl _)
  ·have HE:Hid (B=false):=by show _=_;rw[HBV.out];unfold nfOk inB;rw[hok];simp;omega
   have HFE:Hid (fv=⟨0,[],[],0,0⟩):=by
    show _=_
    have e1:nfOk q z n=false:=by rw[<- HBV.out];exact HE.out
    rw[HFV.out];unfold newF;rw[e1];rfl
   by_cases hn1:n<1
   ·go_wp2_with fail
    rw[<- hwC]
    refine bodyPost_ret (results_ct rfl rfl (run_loadVar_row _ _ _ _ _ _ _ HRS.out Tryz.underlying29 rfl (by kernel_rfl))) rfl ⟨.agg #[.int .i64 0,.slice none 0 0,.slice none 0 0,.int .i64 0,.int .i64 0],by rw[HE.out];rfl,none,0,none,0,by rw[HFE.out];rfl,⟨Nat.le_refl _,.inl ?_⟩,HBF.out,by rw[HFE.out];exact Nat.le_refl _⟩
    rw[HFE.out];exact⟨rfl,rfl⟩
   ·have hn2:(64:Int)<n:=by omega
    have hn3:decide (n<1)=false:=by simpa using hn1
    go_wp2_with fail
    rw[<- hwC]
    refine bodyPost_ret (results_ct rfl rfl (run_loadVar_row _ _ _ _ _ _ _ HRS.out Tryz.underlying29 rfl (by kernel_rfl))) rfl ⟨.agg #[.int .i64 0,.slice none 0 0,.slice none 0 0,.int .i64 0,.int .i64 0],by rw[HE.out];rfl,none,0,none,0,by rw[HFE.out];rfl,⟨Nat.le_refl _,.inl ?_⟩,HBF.out,by rw[HFE.out];exact Nat.le_refl _⟩
    rw[HFE.out];exact⟨rfl,rfl⟩
theorem own_places_of {B n gm cm:Nat}{w:World}{ps:List Pl}(pl:PlOwn B w (.slice (some ⟨gm,0,none⟩) n cm) ps):OwnPlaces gm (gm+1) w (some ⟨gm,0,none⟩) ps.length ps∧B<=gm∧gm<w.heap.size:=by
 obtain⟨a',c',e,_⟩:=pl_form pl
 simp only[Value.slice.injEq] at e
 obtain⟨_,rfl,_⟩:=e
 obtain⟨cs,fz,hk⟩:=Go.Lib.ownsRow_kind pl gm rfl
 have hgm:gm<w.heap.size:=(Array.getElem?_eq_some_iff.1 hk).1
 refine⟨⟨rfl,by omega,fun h0=>⟨gm,0,rfl,Nat.le_refl _,Nat.lt_succ_self _,fun i hi=>⟨?_,by rw[Nat.zero_add];exact World.ownsRow.frozenAt pl i⟩⟩⟩,(World.ownsRow.lt pl gm rfl).1,hgm⟩
 rw[Nat.zero_add,World.ownsRow.cellAt pl i (by omega),plL_at ps (by omega)]
theorem rep_snoc (k:Nat)(x:Pl):List.replicate k x++[x]=List.replicate (k+1) x:=by rw[List.replicate_succ']
theorem below_grown {X n s:Nat}{w w':World}{v:Value}{xs:List Value}{e:TypeId}(ho:w.ownsRow (X+1) e s v n xs)(hg:w.grownBy w' v.ownBlock)(hX:X<=w.heap.size):Below X w w' :=
 ⟨hg.os,hg.tape,hg.output,hg.size,fun k hk=>hg.block k (by omega) (fun e=>by have:=(World.ownsRow.lt ho k e.symm).1;omega)⟩
set_option maxHeartbeats 3200000 in
theorem specNewFtl_any (q z n:Int)(w:World) :
  Calls Tryz.prog 25 #[.int .i64 q,.int .i64 z,.int .i64 n] w fun e w'=>∃v,e=.returned (.tuple #[v,.bool (nfOk q z n)])∧FtlAns w (newF q z n) v w':=by
 obtain⟨fv,hfv⟩:∃fv,fv=newF q z n:=⟨_,rfl⟩
 have HFV:=hide hfv
 rw[<- hfv]
 clear hfv
 obtain⟨B,hB⟩:∃B,B=nfOk q z n:=⟨_,rfl⟩
 have HBV:=hide hB
 rw[<- hB]
 clear hB
 obtain⟨wA,hwA⟩:∃wA,wA=w.alloc (.cells #[.int .i64 0,.slice none 0 0,.slice none 0 0,.int .i64 0,.int .i64 0] 29):=⟨_,rfl⟩
 have hzA:wA.heap.size=w.heap.size+1:=by rw[hwA];simp
 have HBA:Hid (Below w.heap.size w wA):=by rw[hwA];exact(Below.refl _ _).alloc (Nat.le_refl _) _
 have H0:Hid (wA.heap[w.heap.size]?=some (.cells #[.int .i64 0,.slice none 0 0,.slice none 0 0,.int .i64 0,.int .i64 0] 29)):=by rw[hwA];exact heap_new _ _
 have HCN:=hide (specNewChip_ans q z wA)
 have HNE:=hide (fun h=>newQ_ne (q:=q) (z:=z) h)
 have HNN:=hide (newQ_none q z)
 obtain⟨Z,hZ⟩:∃Z,Z=newZ q z:=⟨_,rfl⟩
 obtain⟨Q,hQ⟩:∃Q,Q=newQ q z:=⟨_,rfl⟩
 have HZ:=hide hZ
 have HQ:=hide hQ
 rw[<- hZ,<- hQ] at HCN
 rw[<- hQ] at HNE HNN
 clear hZ hQ
 go_enter Tryz.func25,Tryz.ntmps25
 go_wp2_with fail
 rw[<- hwA]
 clear hwA
 refine HCN.out.mono ?_
 rintro e w1 ⟨v,rfl,p,c,rfl,ho,hb⟩
 obtain⟨wC,hwC⟩:∃wC,wC=w1.alloc (.cells #[.int .i64 Z,.slice p Q.length c] 26):=⟨_,rfl⟩
 have hzC:wC.heap.size=w1.heap.size+1:=by rw[hwC];simp
 have HBC:Hid (Below w1.heap.size w1 wC):=by rw[hwC];exact(Below.refl _ _).alloc (Nat.le_refl _) _
 have HC:Hid (wC.heap[w1.heap.size]?=some (.cells #[.int .i64 Z,.slice p Q.length c] 26)):=by rw[hwC];exact heap_new _ _
 have K0:=hide (block_on (block_on H0.out hb) HBC.out)
 have HAQ:=hide (ho.later HBC.out (Nat.le_refl _))
 have HB1:=hide (below_here (below_here HBA.out hb) HBC.out)
 have hs1:=hb.size
 clear ho hb HBC H0 HBA HCN
 obtain⟨d0,d1⟩:=two_cells HC.out
 obtain⟨p0,p1,p2,p3,p4⟩:=five_cells K0.out
 have f0:=four_frozen K0.out 0
 have f1:=four_frozen K0.out 1
 have f2:=four_frozen K0.out 2
 have f3:=four_frozen K0.out 3
 have f4:=four_frozen K0.out 4
 have HRS:=hide (five_set K0.out (.int .i64 0) (.slice none 0 0) (.slice none 0 0) (.int .i64 0) (.int .i64 0))
 have HAS:=hide (five_aside (b:=w.heap.size) (Aside.refl (w.heap.size) (w.heap.size+1) wC) (Nat.le_refl _) (Nat.lt_succ_self _) (.int .i64 0) (.slice none 0 0) (.slice none 0 0) (.int .i64 0) (.int .i64 0))
 have HBF:=hide (HB1.out.trans (HAS.out.below (B:=w.heap.size) (Nat.le_refl _) (by omega)))
 rw[hwC] at d0 d1 p0 p1 p2 p3 p4 f0 f1 f2 f3 f4
 have HZC:=hide hzC
 clear hzC
 cases hok:newOk q z with
 | false =>
  have HE:Hid (B=false):=by show _=_;rw[HBV.out];unfold nfOk;rw[hok];rfl
  have HFE:Hid (fv=⟨0,[],[],0,0⟩):=by show _=_;rw[HFV.out];unfold newF nfOk;rw[hok];rfl
  go_wp2_with fail
  rw[<- hwC]
  refine bodyPost_ret (results_ct rfl rfl (run_loadVar_row _ _ _ _ _ _ _ HRS.out Tryz.underlying29 rfl (by kernel_rfl))) rfl ⟨.agg #[.int .i64 0,.slice none 0 0,.slice none 0 0,.int .i64 0,.int .i64 0],by rw[HE.out];rfl,none,0,none,0,by rw[HFE.out];rfl,⟨Nat.le_refl _,.inl ?_⟩,HBF.out,by rw[HFE.out];exact Nat.le_refl _⟩
  rw[HFE.out];exact⟨rfl,rfl⟩
 | true =>
  go_upto_region 2 with fail
  rw[<- hwC]
  rw[<- hwC] at d0 d1 p0 p1 p2 p3 p4 f0 f1 f2 f3 f4
  clear hwC
  go_wp2_with fail
  refine(l1In_any n 1 64 wC).mono ?_
  rintro e w2 ⟨rfl,rfl⟩
  cases hin:inB n 1 64 with
  | false =>
   have HE:Hid (B=false):=by show _=_;rw[HBV.out];unfold nfOk;rw[hok,hin];rfl
   have HFE:Hid (fv=⟨0,[],[],0,0⟩):=by show _=_;rw[HFV.out];unfold newF nfOk;rw[hok,hin];rfl
   go_wp2_with fail
   refine bodyPost_ret (results_ct rfl rfl (run_loadVar_row _ _ _ _ _ _ _ HRS.out Tryz.underlying29 rfl (by kernel_rfl))) rfl ⟨.agg #[.int .i64 0,.slice none 0 0,.slice none 0 0,.int .i64 0,.int .i64 0],by rw[HE.out];rfl,none,0,none,0,by rw[HFE.out];rfl,⟨Nat.le_refl _,.inl ?_⟩,HBF.out,by rw[HFE.out];exact Nat.le_refl _⟩
   rw[HFE.out];exact⟨rfl,rfl⟩
  | true =>
   have hn:1<=n∧n<=64:=by unfold inB at hin;simpa using hin
   obtain⟨N,rfl⟩:∃N:Nat,n=(N:Int):=⟨n.toNat,by omega⟩
   have HE:Hid (B=true):=by show _=_;rw[HBV.out];unfold nfOk;rw[hok,hin];rfl
   have HFE:Hid (fv=⟨Z,Q,List.replicate N (-1,0),-1,0⟩):=by
    show _=_
    have e1:nfOk q z (N:Int)=true:=by rw[<- HBV.out];exact HE.out
    have e2:newZ q z=z:=by unfold newZ;rw[hok];rfl
    rw[HFV.out,HZ.out,HQ.out,e2];unfold newF;rw[e1,if_pos rfl,Int.toNat_natCast]
   have HQN:=hide (HNE.out hok)
   have hN64:N<=64:=by omega
   have hN1:1<=N:=by omega
   clear HRS HAS HBF HNE hin hok hn
   obtain⟨wF,hwF⟩:∃wF,wF=wC.alloc (.cells #[.int .i64 Z,.slice p Q.length c,.slice none 0 0,.int .i64 (-1),.int .i64 0] 29):=⟨_,rfl⟩
   have hzF:wF.heap.size=wC.heap.size+1:=by rw[hwF];simp
   have HBW:Hid (Below wC.heap.size wC wF):=by rw[hwF];exact(Below.refl _ _).alloc (Nat.le_refl _) _
   have HF:Hid (wF.heap[wC.heap.size]?=some (.cells #[.int .i64 Z,.slice p Q.length c,.slice none 0 0,.int .i64 (-1),.int .i64 0] 29)):=by rw[hwF];exact heap_new _ _
   have HZF:=hide hzF
   clear hzF
   obtain⟨X,hX⟩:∃X,X=wC.heap.size:=⟨_,rfl⟩
   have HXE:=hide hX
   go_upto_region 5 with fail
   rw[<- hwF]
   clear hwF p0 p1 p2 p3 p4 f0 f1 f2 f3 f4 d0 d1
   rw[<- hX]
   rw[<- hX] at HF
   clear hX
   go_loopw [2] (fun t wr=>∃r k:Nat,k+r=N∧t=.int .i64 (r:Int)∧∃am cm,PlOwn (X+1) wr (.slice am k cm) (List.replicate k (-1,0))∧wr.heap[X]?=some (.cells #[.int .i64 Z,.slice p Q.length c,.slice am k cm,.int .i64 (-1),.int .i64 0] 29)∧Below X wF wr) (fun t _=>(intOf t).toNat)
   case atStart=>exact⟨N,0,by omega,rfl,none,0,⟨rfl,.inl ⟨rfl,rfl⟩⟩,HF.out,Below.refl _ _⟩
   case round =>
    obtain⟨r,k,hkr,rfl,am,cm,hown,hf,hbel⟩:=hrel
    have HO:=hide hown
    have HV:=hide hf
    have HBL:=hide hbel
    have hXl:X<wr.heap.size:=(Array.getElem?_eq_some_iff.1 hf).1
    clear hown hf hbel HF
    by_cases hr:0<r
    ·have hr2:(0:Int)<(r:Int):=by omega
     obtain⟨i0,hi0,hzz0,hzz1,hzz2⟩:=info_parts Tryz.infoPl9
     obtain⟨y0,y1,y2,y3,y4⟩:=five_cells HV.out
     have HNX:Hid (some X≠(Value.slice am k cm).ownBlock):=fun e=>by
      obtain⟨cs,fz,h2⟩:=Go.Lib.ownsRow_kind HO.out X e.symm
      rw[HV.out] at h2
      simp only[Option.some.injEq,Obj.cells.injEq] at h2
      exact absurd h2.2.1 (by decide)
     go_wp2_with fail
     go_region_law (first
      | (refine step_append_lies _ (by rfl) _ _ _ (by rfl) (X+1) 39 i0 (.agg #[.int .i64 0,.int .i64 0]) 2 16 Tryz.underlying27 hi0 hzz0 hzz1 hzz2 rfl (by decide) (.slice am k cm) k (plL (List.replicate k (-1,0))) (by rfl) HO5.out ⟨w4.heap.size,0,none⟩ 1 1 [.int .i64 (-1),.int .i64 0] (by rfl) rfl (two_news _ _ _ _) (two_oneI _ _) (by omega) (by unfold maxLen;omega) (by omega) (by simp;omega) (w4.heap.size+1) (by simp) ?_;intro g' c' w6 hown6 hgr6 hat6 hlt6;have c6:=(hgr6.cell_far ⟨X,2,none⟩ (by simp;omega) HNX.out).trans z2;have f6:=(hgr6.frozen_far ⟨X,2,none⟩ (by simp;omega) HNX.out).trans l2;have HO6:=hide hown6;have HR6:=hide hgr6;clear hown6 hgr6 hat6)
      | (go_simp;go_at_call 69;refine(l9None_any _).mono ?_;rintro e w4 ⟨rfl,b4⟩;have B4:Hid (Below wr.heap.size wr w4):=⟨b4.os,b4.tape,b4.output,b4.size,b4.block⟩;have hs4:=B4.out.size;have V4:=hide (block_on HV.out B4.out);obtain⟨x0,x1,x2,x3,x4⟩:=five_cells V4.out;have HBA4:=hide ((Below.refl w4.heap.size w4).alloc (Nat.le_refl _) (.cells #[.int .i64 (-1),.int .i64 0] 39));have V5:=hide (block_on V4.out HBA4.out);obtain⟨z0,z1,z2,z3,z4⟩:=five_cells V5.out;have l2:=four_frozen V5.out 2;have HO5:Hid (World.ownsRow (w4.alloc (.cells #[.int .i64 (-1),.int .i64 0] 39)) (X+1) 39 2 (.slice am k cm) k (plL (List.replicate k (-1,0)))):=(by have h9:=own_keepBy (own_keepBy HO.out (grown_below B4.out none) (fun k e=>by cases e)) (grown_below HBA4.out none) (fun k e=>by cases e);rw[List.length_replicate] at h9;exact h9);dsimp only))
     all_goals
      have HA1:=hide ((Aside.refl X (X+1) w6).setCell (p:=⟨X,2,none⟩) (Nat.le_refl _) (Nat.lt_succ_self _) (.slice (some ⟨g',0,none⟩) (k+1) c'))
      have HON:Hid (PlOwn (X+1) (w6.setCell ⟨X,2,none⟩ (.slice (some ⟨g',0,none⟩) (k+1) c')) (.slice (some ⟨g',0,none⟩) (k+1) c') (List.replicate (k+1) (-1,0))):=by
       have h9:=HO6.out
       rw[plL_snoc (List.replicate k (-1,0)) (-1,0),rep_snoc] at h9
       have h8:=own_aside2 h9 HA1.out (Nat.le_refl _)
       show World.ownsRow _ _ _ _ _ _ _
       rw[List.length_replicate]
       exact h8
      have HXN:Hid ((w6.setCell ⟨X,2,none⟩ (.slice (some ⟨g',0,none⟩) (k+1) c')).heap[X]?=some (.cells #[.int .i64 Z,.slice p Q.length c,.slice (some ⟨g',0,none⟩) (k+1) c',.int .i64 (-1),.int .i64 0] 29)) :=
       set_block ((HR6.out.block X (by simp;omega) HNX.out).trans V5.out) 2 _ (by simp)
      have HBN:Hid (Below X wF (w6.setCell ⟨X,2,none⟩ (.slice (some ⟨g',0,none⟩) (k+1) c'))) :=
       (((HBL.out.trans (B4.out.mono (Nat.le_of_lt hXl))).trans (HBA4.out.mono (by omega))).trans (below_grown HO5.out HR6.out (by simp;omega))).setCell (p:=⟨X,2,none⟩) (Nat.le_refl _) _
      go_wp2_with fail
      exact⟨⟨r-1,k+1,by omega,by rw[show((r-1:Nat):Int)=(r:Int)-1 by omega],some ⟨g',0,none⟩,c',HON.out,HXN.out,HBN.out⟩,by simp[intOf];omega⟩
    ·obtain rfl:r=0:=by omega
     obtain rfl:k=N:=by omega
     obtain⟨gm,cm',e9,_⟩:=pl_some HO.out (by rw[List.length_replicate];omega)
     simp only[Value.slice.injEq] at e9
     obtain⟨rfl,e8,rfl⟩:=e9
     clear e8
     obtain⟨hop,hg1,hg2⟩:=own_places_of HO.out
     have HOP:=hide hop
     clear hop
     have hzC:=HZC.out
     have hzF:=HZF.out
     have hXE:=HXE.out
     have KR:Hid (wr.heap[w.heap.size]?=some (.cells #[.int .i64 0,.slice none 0 0,.slice none 0 0,.int .i64 0,.int .i64 0] 29)):=(HBL.out.block _ (by omega)).trans (block_on K0.out HBW.out)
     have HRS:=hide (five_set KR.out (.int .i64 Z) (.slice p Q.length c) (.slice (some ⟨gm,0,none⟩) k cm) (.int .i64 (-1)) (.int .i64 0))
     have HAS:=hide (five_aside (b:=w.heap.size) (Aside.refl (w.heap.size) (w.heap.size+1) wr) (Nat.le_refl _) (Nat.lt_succ_self _) (.int .i64 Z) (.slice p Q.length c) (.slice (some ⟨gm,0,none⟩) k cm) (.int .i64 (-1)) (.int .i64 0))
     have hsr:=HBL.out.size
     have HBF:=hide (((below_here HB1.out HBW.out).trans (HBL.out.mono (show w.heap.size<=X by omega))).trans (HAS.out.below (B:=w.heap.size) (Nat.le_refl _) (by omega)))
     have HOF:=hide (own_of_ans (ps:=List.replicate k (-1,0)) ((HAQ.out.later HBW.out (by omega)).later HBL.out (by omega)) HQN.out HOP.out (by omega) hg2 HNN.out)
     have HCAP:=hide (pl_cap HO.out)
     obtain⟨p0,p1,p2,p3,p4⟩:=five_cells KR.out
     have f0:=four_frozen KR.out 0
     have f1:=four_frozen KR.out 1
     have f2:=four_frozen KR.out 2
     have f3:=four_frozen KR.out 3
     have f4:=four_frozen KR.out 4
     obtain⟨y0,y1,y2,y3,y4⟩:=five_cells HV.out
     clear hzC hzF hXE hkr
     simp only[show((0:Nat):Int)=0 from rfl]
     go_wp2_with fail
     have hzC:=HZC.out
     have hzF:=HZF.out
     have hXE:=HXE.out
     refine bodyPost_ret (results_ct rfl rfl (run_loadVar_row _ _ _ _ _ _ _ HRS.out Tryz.underlying29 rfl (by kernel_rfl))) rfl ⟨.agg #[.int .i64 Z,.slice p Q.length c,.slice (some ⟨gm,0,none⟩) k cm,.int .i64 (-1),.int .i64 0],by rw[HE.out];rfl,p,c,some ⟨gm,0,none⟩,cm,by rw[HFE.out];unfold fvV;dsimp only;rw[List.length_replicate],?_,HBF.out,by rw[HFE.out];exact HCAP.out⟩
     rw[HFE.out]
     exact(HOF.out.aside HAS.out (.inl (by omega))).wide (by omega) HAS.out.size (Nat.le_refl _)
end Go.Proofs.YtgjoepdfhadmcaaGreatDoor
end

