/- Several texts in one: ChipAns, FtlMark. -/
import Derived.Test.YtgjoepdfhadmcaaGreatDoorMChipOwn2
import Derived.Test.YtgjoepdfhadmcaaGreatDoorMChipImplB
import Derived.Test.YtgjoepdfhadmcaaGreatDoorMChipGrow
section
namespace Go.Proofs.YtgjoepdfhadmcaaGreatDoor
open Go.RowKit
set_option linter.unusedVariables false
set_option maxRecDepth 20000
def AnsQ (lo hi:Nat)(w:World)(a:Option Addr)(n:Nat)(qs:List Sq):Prop:=hi<=w.heap.size∧((n=0∧qs=[])∨OwnSquares lo hi w a n qs)
section
variable {lo hi n:Nat}{w w':World}{a:Option Addr}{qs:List Sq}
theorem AnsQ.squares (h:AnsQ lo hi w a n qs):Squares lo hi w a n qs:=by
 obtain⟨h1,⟨rfl,rfl⟩|h2⟩:=h
 ·exact⟨rfl,fun _=>none,fun _=>0,⟨h1,fun h=>absurd h (by omega)⟩,fun i hi=>absurd hi (by omega)⟩
 ·exact h2.squares
theorem AnsQ.later (h:AnsQ lo hi w a n qs){B:Nat}(hb:Below B w w')(hB:hi<=B):AnsQ lo hi w' a n qs :=
 ⟨Nat.le_trans h.1 hb.size,h.2.elim .inl (fun h=>.inr (h.later hb hB))⟩
theorem AnsQ.aside (h:AnsQ lo hi w a n qs){l r:Nat}(hb:Aside l r w w')(hB:r<=lo∨hi<=l):AnsQ lo hi w' a n qs :=
 ⟨Nat.le_trans h.1 hb.size,h.2.elim .inl (fun h=>.inr (h.aside hb hB))⟩
theorem AnsQ.wide (h:AnsQ lo hi w a n qs){lo' hi':Nat}(h1:lo'<=lo)(h2:hi<=hi')(h3:hi'<=w.heap.size):AnsQ lo' hi' w a n qs :=
 ⟨h3,h.2.elim .inl (fun h=>.inr (h.wide h1 h2 h3))⟩
end
def ChipAns (w:World)(z:Int)(qs:List Sq)(v:Value)(w':World):Prop:=∃a c,v=.agg #[.int .i64 z,.slice a qs.length c]∧AnsQ w.heap.size w'.heap.size w' a qs.length qs∧Below w.heap.size w w'
def newOk (q z:Int):Bool:=inB q 1 12&&inB z 1 8
def newZ (q z:Int):Int:=if newOk q z then z else 0
def newQ (q z:Int):List Sq:=if newOk q z then List.replicate q.toNat ([],0,false) else []
theorem newOk_nat {q z:Int}(h:newOk q z=true):∃n:Nat,q=(n:Int)∧1<=n∧n<=12∧inB z 1 8=true:=by
 unfold newOk at h
 simp only[Bool.and_eq_true] at h
 obtain⟨h1,h2⟩:=h
 have h3:=h1
 unfold inB at h3
 simp only[Bool.and_eq_true,decide_eq_true_eq] at h3
 exact⟨q.toNat,by omega,by omega,by omega,h2⟩
theorem specNewChip_ans (q z:Int)(w:World):Calls Tryz.prog 94 #[.int .i64 q,.int .i64 z] w fun e w'=>∃v,e=.returned (.tuple #[v,.bool (newOk q z)])∧ChipAns w (newZ q z) (newQ q z) v w':=by
 cases h:newOk q z with
 | true =>
  obtain⟨n,rfl,h1,h2,h3⟩:=newOk_nat h
  refine(specNewChip_any n z w h1 h2 h3).mono ?_
  rintro e w1 ⟨a,rfl,ho,hb⟩
  refine⟨_,rfl,a,n,?_,⟨Nat.le_refl _,.inr ?_⟩,hb⟩
  ·unfold newZ newQ;rw[h];simp
  ·unfold newQ;rw[h];simpa using ho
 | false =>
  refine(specNewChip_no q z w h).mono ?_
  rintro e w1 ⟨rfl,hb⟩
  refine⟨_,rfl,none,0,?_,⟨Nat.le_refl _,.inl ?_⟩,hb⟩
  ·unfold newZ newQ;rw[h];rfl
  ·unfold newQ;rw[h];exact⟨rfl,rfl⟩
theorem implNewChip_ans (q z:Int)(w:World):Calls Tryz.prog 132 #[.int .i64 q,.int .i64 z] w fun e w'=>∃v,e=.returned (.tuple #[v,.bool (newOk q z)])∧ChipAns w (newZ q z) (newQ q z) v w':=by
 cases h:newOk q z with
 | true =>
  obtain⟨n,rfl,h1,h2,h3⟩:=newOk_nat h
  refine(implNewChip_any n z w h1 h2 h3).mono ?_
  rintro e w1 ⟨a,rfl,ho,hb⟩
  refine⟨_,rfl,a,n,?_,⟨Nat.le_refl _,.inr ?_⟩,hb⟩
  ·unfold newZ newQ;rw[h];simp
  ·unfold newQ;rw[h];simpa using ho
 | false =>
  refine(implNewChip_no q z w h).mono ?_
  rintro e w1 ⟨rfl,hb⟩
  refine⟨_,rfl,none,0,?_,⟨Nat.le_refl _,.inl ?_⟩,hb⟩
  ·unfold newZ newQ;rw[h];rfl
  ·unfold newQ;rw[h];exact⟨rfl,rfl⟩
end Go.Proofs.YtgjoepdfhadmcaaGreatDoor
end

section
namespace Go.Proofs.YtgjoepdfhadmcaaGreatDoor
open Go.RowKit
set_option linter.unusedVariables false
set_option maxRecDepth 20000
def FtlOwn (lo hi:Nat)(w:World)(a am:Option Addr)(qs:List Sq)(ps:List Pl):Prop :=
 hi<=w.heap.size∧((qs=[]∧ps=[])∨∃g off A C P gm,OwnSqs lo hi w a qs.length qs g off A C P∧OwnPlaces gm (gm+1) w am ps.length ps∧lo<=gm∧gm<hi∧gm≠g∧∀i,i<qs.length->0<(sqAt qs i).1.length->gm≠P i)
section
variable {lo hi:Nat}{w w':World}{a am:Option Addr}{qs:List Sq}{ps:List Pl}
theorem FtlOwn.squares (h:FtlOwn lo hi w a am qs ps):Squares lo hi w a qs.length qs:=by
 obtain⟨h1,⟨rfl,rfl⟩|⟨g,off,A,C,P,gm,h2,_⟩⟩:=h
 ·exact(AnsQ.squares ⟨h1,.inl ⟨rfl,rfl⟩⟩)
 ·exact AnsQ.squares ⟨h1,.inr ⟨g,off,A,C,P,h2⟩⟩
theorem FtlOwn.places (h:FtlOwn lo hi w a am qs ps):Places lo hi w am ps.length ps:=by
 obtain⟨h1,⟨rfl,rfl⟩|⟨g,off,A,C,P,gm,_,h2,h3,h4,_⟩⟩:=h
 ·exact⟨rfl,h1,fun h=>absurd h (by simp)⟩
 ·exact⟨rfl,h1,fun hn=>by obtain⟨b,off,e,h5,h6,h7⟩:=h2.2.reads.2 hn;exact⟨b,off,e,by omega,by omega,h7⟩⟩
theorem FtlOwn.later (h:FtlOwn lo hi w a am qs ps){B:Nat}(hb:Below B w w')(hB:hi<=B):FtlOwn lo hi w' a am qs ps:=by
 obtain⟨h1,h2|⟨g,off,A,C,P,gm,h2,h3,h4,h5,h6⟩⟩:=h
 ·exact⟨Nat.le_trans h1 hb.size,.inl h2⟩
 ·exact⟨Nat.le_trans h1 hb.size,.inr ⟨g,off,A,C,P,gm,h2.later hb hB,h3.later hb (by omega),h4,h5,h6⟩⟩
theorem FtlOwn.aside (h:FtlOwn lo hi w a am qs ps){l r:Nat}(hb:Aside l r w w')(hB:r<=lo∨hi<=l):FtlOwn lo hi w' a am qs ps:=by
 obtain⟨h1,h2|⟨g,off,A,C,P,gm,h2,h3,h4,h5,h6⟩⟩:=h
 ·exact⟨Nat.le_trans h1 hb.size,.inl h2⟩
 ·exact⟨Nat.le_trans h1 hb.size,.inr ⟨g,off,A,C,P,gm,h2.aside hb hB,h3.aside hb (by omega),h4,h5,h6⟩⟩
theorem FtlOwn.wide (h:FtlOwn lo hi w a am qs ps){lo' hi':Nat}(h1':lo'<=lo)(h2':hi<=hi')(h3':hi'<=w.heap.size):FtlOwn lo' hi' w a am qs ps:=by
 obtain⟨h1,h2|⟨g,off,A,C,P,gm,h2,h3,h4,h5,h6⟩⟩:=h
 ·exact⟨h3',.inl h2⟩
 ·exact⟨h3',.inr ⟨g,off,A,C,P,gm,h2.wide h1' h2' h3',h3,by omega,by omega,h6⟩⟩
end
structure Fv where
 z:Int
 qs:List Sq
 ps:List Pl
 op:Int
 st:Int
def fvV (f:Fv)(a:Option Addr)(c:Nat)(am:Option Addr)(cm:Nat):Value:=.agg #[.int .i64 f.z,.slice a f.qs.length c,.slice am f.ps.length cm,.int .i64 f.op,.int .i64 f.st]
def FtlAns (w:World)(f:Fv)(v:Value)(w':World):Prop:=∃a c am cm,v=fvV f a c am cm∧FtlOwn w.heap.size w'.heap.size w' a am f.qs f.ps∧Below w.heap.size w w'∧f.ps.length<=cm
end Go.Proofs.YtgjoepdfhadmcaaGreatDoor
end

