/- Several texts in one: FtlOwnP, FtlLaw, FtlEnt, MountMath, FtlVar, FtlSpace, RoomLaw, SameW, RotMath, ScrubMath, ScrubLaw, ScrubRow, RotSpec, ScrubFit. -/
import Derived.Test.YtgjoepdfhadmcaaGreatDoorSFtlMath
import Derived.Test.YtgjoepdfhadmcaaGreatDoorSChipAns
import Derived.Test.YtgjoepdfhadmcaaGreatDoorSBase
import Derived.Test.YtgjoepdfhadmcaaGreatDoorSPageMath
import Derived.Test.YtgjoepdfhadmcaaGreatDoorSTextEq
import Derived.Test.YtgjoepdfhadmcaaGreatDoorSChipGrow
section
namespace Go.Proofs.YtgjoepdfhadmcaaGreatDoor
open Go.RowKit
set_option linter.unusedVariables false
theorem ftlOk_parts {z : Int} {qs : List Sq} {ps : List Pl} {op st : Int} (h : ftlOk z qs ps op st = true) : mapOk z qs ps = true ∧ -1 <= op ∧ op < (qs.length : Int) ∧ 0 <= st ∧ st <= 1000000 ∧ opOk qs op = true ∧ ∀ i,i < ps.length -> fpOk z qs ps st i = true := by
 unfold ftlOk inB at h
 simp only [Bool.and_eq_true,decide_eq_true_eq] at h
 obtain ⟨h1,⟨h2,h3⟩,⟨h4,h5⟩,h6,h7⟩ := h
 exact ⟨h1,h2,by omega,h4,h5,h6,fun i hi => List.all_eq_true.1 h7 i (List.mem_range.2 hi)⟩
theorem kok_of {z : Int} {qs : List Sq} {ps : List Pl} {op st : Int} (h : ftlOk z qs ps op st = true) (js : List Jb) : KOk z ⟨qs,ps,op,js⟩ := by
 obtain ⟨h1,h2,h3,_,_,h6,_⟩ := ftlOk_parts h
 exact ⟨mapR_of h1,h2,h3,h6⟩
def planR (z : Int) (qs : List Sq) (ps : List Pl) (op st kd a : Int) (tx : ByteArray) : Option Kp := if ftlOk z qs ps op st then enterK z ⟨qs,ps,op,[]⟩ st kd a tx else none
def entF (z : Int) (qs : List Sq) (ps : List Pl) (op st kd a : Int) (tx : ByteArray) : Fv :=
 if ftlOk z qs ps op st then (match enterK z ⟨qs,ps,op,[]⟩ st kd a tx with | none => ⟨z,qs,ps,op,st⟩ | some s => ⟨z,s.qs,s.ps,s.op,st + 1⟩) else ⟨0,[],[],0,0⟩
theorem own_of_parts {B n g gm cm : Nat} {w : World} {A : Nat -> Option Addr} {C : Nat -> Nat} {qs : List Sq} {ps : List Pl} (sq : GrowSqs B w n qs g A C) (pl : PlOwn B w (.slice (some ⟨gm,0,none⟩) ps.length cm) ps) (ne : gm ≠ g) : FtlOwn B w.heap.size w (some ⟨g,0,none⟩) (some ⟨gm,0,none⟩) qs ps := by
 obtain ⟨cs,fz,hk⟩ := Go.Lib.ownsRow_kind pl gm rfl
 have hgm : gm < w.heap.size := (Array.getElem?_eq_some_iff.1 hk).1
 refine ⟨Nat.le_refl _,.inr ⟨g,0,A,C,fun i => (oB (A i)).getD g,gm,?_,⟨rfl,by omega,fun h0 => ⟨gm,0,rfl,Nat.le_refl _,Nat.lt_succ_self _,fun i hi => ⟨?_,by rw [Nat.zero_add]; exact World.ownsRow.frozenAt pl i⟩⟩⟩,(World.ownsRow.lt pl gm rfl).1,hgm,ne,fun i hi h0 e => ?_⟩⟩
 ·have := sq.own
  rw [sq.len]
  exact this
 ·rw [Nat.zero_add,World.ownsRow.cellAt pl i (by omega),plL_at ps (by omega)]
 ·rw [sq.len] at hi
  have ho := sq.pages.own i hi
  rcases pg_form ho with ⟨_,e1,_⟩ | ⟨p,e1,_⟩
  ·rw [e1] at h0; simp at h0
  ·dsimp only at e
   rw [e1] at e
   have e2 : gm = p := e
   have := pg_ne ho hk (by decide)
   rw [e1,e2] at this
   exact this rfl
theorem own_of_kp {B n g gm cm : Nat} {w : World} {A : Nat -> Option Addr} {C : Nat -> Nat} {V : Value} {s : Kp} (h : KpMem B w n g gm cm A C V s) : FtlOwn B w.heap.size w (some ⟨g,0,none⟩) (some ⟨gm,0,none⟩) s.qs s.ps := own_of_parts h.sq h.pl h.ne
end Go.Proofs.YtgjoepdfhadmcaaGreatDoor
end

section
namespace Go.Proofs.YtgjoepdfhadmcaaGreatDoor
open Go.RowKit
set_option linter.unusedVariables false
theorem planR_some {z : Int} {qs : List Sq} {ps : List Pl} {op st kd a : Int} {tx : ByteArray} {s : Kp} (h : planR z qs ps op st kd a tx = some s) : ftlOk z qs ps op st = true ∧ mayEnt ps st kd a tx = true ∧ ∃ s1,roomK z 20 ⟨qs,ps,op,[]⟩ = some s1 ∧ putK z s1 a.toNat (laid kd a (st + 1) tx) = some s := by
 unfold planR at h
 cases hf : ftlOk z qs ps op st with
 | false => rw [hf] at h; cases h
 | true =>
  rw [hf,if_pos rfl] at h
  cases hm : mayEnt ps st kd a tx with
  | false => rw [enterK_no (s := ⟨qs,ps,op,[]⟩) hm] at h; cases h
  | true =>
   rw [enterK_yes (s := ⟨qs,ps,op,[]⟩) hm] at h
   cases hr : roomK z 20 ⟨qs,ps,op,[]⟩ with
   | none => rw [hr] at h; cases h
   | some s1 => rw [hr] at h; exact ⟨rfl,rfl,s1,rfl,h⟩
end Go.Proofs.YtgjoepdfhadmcaaGreatDoor
end

section
namespace Go.Proofs.YtgjoepdfhadmcaaGreatDoor
open Go.RowKit
set_option linter.unusedVariables false
theorem pageAt_there {z : Int} {qs : List Sq} {p : Pl} (hc : chipOk z qs = true) (h : plThere qs p = true) : pageAt z qs p.1 p.2 = txt qs p := by
 unfold plThere at h
 unfold pageAt txt txAt
 rw [hc,h]
 rfl
theorem pgOf_thereE {z : Int} {qs : List Sq} {p : Pl} (hc : chipOk z qs = true) (h : plThere qs p = true) : pgOf z qs p = lyP (txt qs p) := by
 unfold pgOf; rw [pageAt_there hc h]
theorem fpOk_iff {z : Int} {qs : List Sq} {ps : List Pl} {st : Int} {i : Nat} : fpOk z qs ps st i = true ↔ plAt ps i = (-1,0) ∨ (lyWell (pgOf z qs (plAt ps i)).2.2.2.2 = true ∧ (pgOf z qs (plAt ps i)).2.1 = (i : Int) ∧ (pgOf z qs (plAt ps i)).2.2.1 <= st) := by
 unfold fpOk
 rw [Bool.or_eq_true,Bool.and_eq_true,Bool.and_eq_true,beq_iff_eq,beq_iff_eq]
 simp
theorem ftlOk_of {z : Int} {qs : List Sq} {ps : List Pl} {op st : Int} {js : List Jb} (h : KOk z ⟨qs,ps,op,js⟩) (h0 : 0 <= st) (h1 : st <= 1000000) (hf : ∀ i,i < ps.length -> fpOk z qs ps st i = true) : ftlOk z qs ps op st = true := by
 have a1 := h.map.ok
 have a2 := h.lo
 have a3 := h.hi
 have a4 := h.good
 dsimp only at a1 a2 a3 a4
 unfold ftlOk inB
 rw [a1,a4,decide_eq_true a2,decide_eq_true (show op <= (qs.length : Int) - 1 by omega),decide_eq_true h0,decide_eq_true h1]
 simp only [Bool.true_and,List.all_eq_true,List.mem_range]
 exact hf
theorem get_same {z : Int} {qs qs' : List Sq} {ps ps' : List Pl} {op op' st st' : Int} (h : ftlOk z qs ps op st = true) (h' : ftlOk z qs' ps' op' st' = true) (hl : ps'.length = ps.length) {i : Nat} (hi : i < ps.length) (hs : sameAt qs ps qs' ps' i) : ftlGet z qs' ps' op' st' (i : Int) = ftlGet z qs ps op st (i : Int) := by
 have hm := mapR_of (ftlOk_map h)
 have hm' := mapR_of (ftlOk_map h')
 have b1 : inB (i : Int) 0 ((ps.length : Int) - 1) = true := by unfold inB; simp; omega
 have b2 : inB (i : Int) 0 ((ps'.length : Int) - 1) = true := by unfold inB; simp; omega
 unfold ftlGet
 rw [h,h',b1,b2,Int.toNat_natCast]
 by_cases e : plAt ps i = (-1,0)
 ·have e' := hs.1.2 e
  rw [e,e']
  rfl
 ·have e' : plAt ps' i ≠ (-1,0) := fun k => e (hs.1.1 k)
  have t1 := (hm.there i hi).resolve_left e
  have t2 := (hm'.there i (by omega)).resolve_left e'
  rw [pgOf_thereE hm.chip t1,pgOf_thereE hm'.chip t2,hs.2 e]
  have n1 : (plAt ps i == (-1,0)) = false := by simpa using e
  have n2 : (plAt ps' i == (-1,0)) = false := by simpa using e'
  rw [n1,n2]
theorem same_ok {z : Int} {qs qs' : List Sq} {ps ps' : List Pl} {st st' : Int} (hm : MapR z qs ps) (hm' : MapR z qs' ps') (hl : ps'.length = ps.length) (hst : st <= st') {i : Nat} (hi : i < ps.length) (hf : fpOk z qs ps st i = true) (hs : sameAt qs ps qs' ps' i) : fpOk z qs' ps' st' i = true := by
 rw [fpOk_iff] at hf ⊢
 rcases hf with e | ⟨h1,h2,h3⟩
 ·exact .inl (hs.1.2 e)
 ·by_cases e : plAt ps' i = (-1,0)
  ·exact .inl e
  ·have e0 : plAt ps i ≠ (-1,0) := fun k => e (hs.1.2 k)
   have t1 := (hm.there i hi).resolve_left e0
   have t2 := (hm'.there i (by omega)).resolve_left e
   rw [pgOf_thereE hm.chip t1] at h1 h2 h3
   rw [pgOf_thereE hm'.chip t2,hs.2 e0]
   exact .inr ⟨h1,h2,by omega⟩
structure Entd (z : Int) (qs : List Sq) (ps : List Pl) (op st kd a : Int) (tx : ByteArray) (s : Kp) : Prop where
 ok : ftlOk z s.qs s.ps s.op (st + 1) = true
 squares : s.qs.length = qs.length
 places : s.ps.length = ps.length
 at0 : 0 <= a
 at1 : a < (ps.length : Int)
 here : ftlGet z s.qs s.ps s.op (st + 1) a = (tx,kd == 1)
 else_ : ∀ i : Nat,i < ps.length -> (i : Int) ≠ a -> ftlGet z s.qs s.ps s.op (st + 1) (i : Int) = ftlGet z qs ps op st (i : Int)
theorem entd_of {z : Int} {qs : List Sq} {ps : List Pl} {op st kd a : Int} {tx : ByteArray} {s : Kp} (h : planR z qs ps op st kd a tx = some s) : Entd z qs ps op st kd a tx s := by
 obtain ⟨hf,hm,s1,h1,h2⟩ := planR_some h
 have hK0 := kok_of hf []
 obtain ⟨_,_,_,hst0,hst1,_,hfp⟩ := ftlOk_parts hf
 have hS := (roomK_ok hK0 h1).1
 have hm0 : MapR z qs ps := hK0.map
 unfold mayEnt at hm
 rw [Bool.and_eq_true] at hm
 obtain ⟨hpo,hin⟩ := hm
 unfold inB at hin
 simp only [Bool.and_eq_true,decide_eq_true_eq] at hin
 have hsp : s1.ps.length = ps.length := hS.places
 have hsq : s1.qs.length = qs.length := hS.squares
 have ha : a.toNat < s1.ps.length := by omega
 obtain ⟨k1,k2,k3,k4,k5,k6,k7,k8,k9⟩ := putK_ok hS.ok ha h2
 have hst : st + 1 <= 1000000 := by
  obtain ⟨K,A,S,_,_,e,_,_,_,hS1,_⟩ := page_ok hpo
  omega
 obtain ⟨hly,hlz⟩ := ly_laid hpo
 have hall : ∀ i,i < ps.length -> i ≠ a.toNat -> sameAt qs ps s.qs s.ps i := fun i hi hne => sameAt_trans (hS.same i hi) (k7 i (by omega) hne)
 have hna : plAt s.ps a.toNat ≠ (-1,0) := by
  rw [k8]
  obtain ⟨o,ho,_⟩ := putK_parts h2
  unfold nextP
  rw [ho]
  exact ne_none
 have hth := (k1.map.there a.toNat (by omega)).resolve_left hna
 have hpg : pgOf z s.qs (plAt s.ps a.toNat) = (kd,a,st + 1,tx,1) := by rw [pgOf_thereE k1.map.chip hth,k9,hly]
 have hok : ftlOk z s.qs s.ps s.op (st + 1) = true := by
  refine ftlOk_of (js := s.js) k1 (by omega) hst fun i hi => ?_
  by_cases e : i = a.toNat
  ·subst e
   rw [fpOk_iff,hpg]
   refine .inr ⟨rfl,?_,Int.le_refl _⟩
   show a = _
   omega
  ·exact same_ok hm0 k1.map (by omega) (by omega) (by omega) (hfp i (by omega)) (hall i (by omega) e)
 refine ⟨hok,k3.trans hsq,k4.trans hsp,by omega,by omega,?_,fun i hi hne => get_same hf hok (by omega) hi (hall i hi (by omega))⟩
 unfold ftlGet
 have n2 : (plAt s.ps a.toNat == (-1,0)) = false := by simpa using hna
 have b2 : inB a 0 ((s.ps.length : Int) - 1) = true := by unfold inB; simp; omega
 rw [hok,n2,b2,hpg]
 rfl
end Go.Proofs.YtgjoepdfhadmcaaGreatDoor
end

section
namespace Go.Proofs.YtgjoepdfhadmcaaGreatDoor
open Go.RowKit
set_option linter.unusedVariables false
structure Mt where
 st : List Int
 ps : List Pl
 S : Int
def stAt (st : List Int) (i : Nat) : Int := st.getD i 0
theorem stAt_set (st : List Int) {i : Nat} (x : Int) (h : i < st.length) (k : Nat) : stAt (st.set i x) k = if k = i then x else stAt st k := by
 unfold stAt
 rw [List.getD_eq_getElem?_getD,List.getElem?_set]
 by_cases e : k = i
 ·subst e; simp [h]
 ·rw [if_neg e,if_neg (Ne.symm e),List.getD_eq_getElem?_getD]
def mtHit (n : Nat) (r : Int × Int × Int × ByteArray × Int) : Bool := lyWell r.2.2.2.2 && !decide (r.2.1 >= (n : Int))
def maxI (a b : Int) : Int := if a > b then a else b
def mtOne (n : Nat) (i k : Nat) (r : Int × Int × Int × ByteArray × Int) (s : Mt) : Mt :=
 if mtHit n r then (if r.2.2.1 > stAt s.st r.2.1.toNat then ⟨s.st.set r.2.1.toNat r.2.2.1,s.ps.set r.2.1.toNat ((i : Int),(k : Int)),maxI s.S r.2.2.1⟩ else ⟨s.st,s.ps,maxI s.S r.2.2.1⟩) else s
def mtPages (n : Nat) (qs : List Sq) (i : Nat) (s : Mt) : Nat -> Mt
 | 0 => s
 | k + 1 => mtOne n i k (lyP (txAt qs i k)) (mtPages n qs i s k)
def mtSqs (n : Nat) (qs : List Sq) : Nat -> Mt
 | 0 => ⟨List.replicate n 0,List.replicate n (-1,0),0⟩
 | i + 1 => mtPages n qs i (mtSqs n qs i) (sqAt qs i).1.length
def mtAll (n : Nat) (qs : List Sq) : Mt := mtSqs n qs qs.length
def mountF (z : Int) (qs : List Sq) (n : Int) : Fv := if chipOk z qs && inB n 1 64 then ⟨z,qs,(mtAll n.toNat qs).ps,-1,(mtAll n.toNat qs).S⟩ else ⟨0,[],[],0,0⟩
theorem lyP_well {s : ByteArray} (h : lyWell (lyP s).2.2.2.2 = true) : 0 <= (lyP s).2.1 ∧ (lyP s).2.1 <= 63 ∧ 1 <= (lyP s).2.2.1 ∧ (lyP s).2.2.1 <= 1000000 := by
 by_cases h0 : s.size = 0
 ·rw [lyP_blank h0] at h; exact absurd h (by decide)
 ·cases hg : goodL s with
  | false => rw [lyP_torn h0 hg] at h; exact absurd h (by decide)
  | true =>
   rw [lyP_good h0 hg]
   simp only [goodL,Bool.and_eq_true] at hg
   have hb := hg.2.2.2.2
   simp only [bodyOk,Bool.and_eq_true] at hb
   have hp := hb.2.2.2
   rw [pageOk_iff] at hp
   have hp := of_decide_eq_true hp
   dsimp only
   omega
structure MtOk (n : Nat) (qs : List Sq) (s : Mt) : Prop where
 st : s.st.length = n
 ps : s.ps.length = n
 each : ∀ j,j < n -> (plAt s.ps j = (-1,0) ∧ stAt s.st j = 0) ∨ ∃ i k : Nat,plAt s.ps j = ((i : Int),(k : Int)) ∧ i < qs.length ∧ k < (sqAt qs i).1.length ∧ lyWell (lyP (txAt qs i k)).2.2.2.2 = true ∧ (lyP (txAt qs i k)).2.1 = (j : Int) ∧ (lyP (txAt qs i k)).2.2.1 = stAt s.st j
 top : ∀ j,j < n -> stAt s.st j <= s.S
 lo : 0 <= s.S
 hi : s.S <= 1000000
theorem mtOne_ok {n i k : Nat} {qs : List Sq} {s : Mt} (h : MtOk n qs s) (hi : i < qs.length) (hk : k < (sqAt qs i).1.length) : MtOk n qs (mtOne n i k (lyP (txAt qs i k)) s) := by
 unfold mtOne
 cases hh : mtHit n (lyP (txAt qs i k)) with
 | false => exact h
 | true =>
  rw [if_pos rfl]
  unfold mtHit at hh
  simp only [Bool.and_eq_true,Bool.not_eq_true',decide_eq_false_iff_not] at hh
  obtain ⟨hw,ha⟩ := hh
  obtain ⟨w1,w2,w3,w4⟩ := lyP_well hw
  have hlo := h.lo
  have hhi := h.hi
  have hm1 : s.S <= maxI s.S (lyP (txAt qs i k)).2.2.1 := by unfold maxI; split <;> omega
  have hm2 : (lyP (txAt qs i k)).2.2.1 <= maxI s.S (lyP (txAt qs i k)).2.2.1 := by unfold maxI; split <;> omega
  have hm3 : maxI s.S (lyP (txAt qs i k)).2.2.1 <= 1000000 := by unfold maxI; split <;> omega
  split
  ·have hal : (lyP (txAt qs i k)).2.1.toNat < n := by omega
   refine ⟨by rw [List.length_set]; exact h.st,by rw [List.length_set]; exact h.ps,fun j hj => ?_,fun j hj => ?_,by dsimp only; omega,hm3⟩
   ·dsimp only
    rw [plAt_set s.ps _ (by rw [h.ps]; exact hal),stAt_set s.st _ (by rw [h.st]; exact hal)]
    by_cases e : j = (lyP (txAt qs i k)).2.1.toNat
    ·rw [if_pos e,if_pos e]
     exact .inr ⟨i,k,rfl,hi,hk,hw,by omega,rfl⟩
    ·rw [if_neg e,if_neg e]
     exact h.each j hj
   ·dsimp only
    rw [stAt_set s.st _ (by rw [h.st]; exact hal)]
    split
    ·exact hm2
    ·have := h.top j hj; omega
  ·refine ⟨h.st,h.ps,h.each,fun j hj => ?_,by dsimp only; omega,hm3⟩
   have := h.top j hj
   dsimp only
   omega
theorem mtPages_ok {n i : Nat} {qs : List Sq} {s : Mt} (h : MtOk n qs s) (hi : i < qs.length) : ∀ k,k <= (sqAt qs i).1.length -> MtOk n qs (mtPages n qs i s k)
 | 0,_ => h
 | k + 1,hk => mtOne_ok (mtPages_ok h hi k (by omega)) hi (by omega)
theorem mtSqs_ok {n : Nat} {qs : List Sq} : ∀ i,i <= qs.length -> MtOk n qs (mtSqs n qs i)
 | 0,_ => by
  have hp : ∀ j,j < n -> plAt (List.replicate n ((-1 : Int),(0 : Int))) j = (-1,0) := fun j hj => by
   unfold plAt; rw [List.getD_eq_getElem?_getD,List.getElem?_replicate,if_pos hj]; rfl
  have hs : ∀ j,stAt (List.replicate n (0 : Int)) j = 0 := fun j => by
   unfold stAt; rw [List.getD_eq_getElem?_getD,List.getElem?_replicate]; split <;> rfl
  exact ⟨List.length_replicate,List.length_replicate,fun j hj => .inl ⟨hp j hj,hs j⟩,fun j _ => by show stAt (List.replicate n 0) j <= 0; rw [hs j]; exact Int.le_refl _,Int.le_refl _,by show (0 : Int) <= 1000000; omega⟩
 | i + 1,hi => mtPages_ok (mtSqs_ok i (by omega)) (by omega) _ (Nat.le_refl _)
theorem mtAll_ok (n : Nat) (qs : List Sq) : MtOk n qs (mtAll n qs) := mtSqs_ok _ (Nat.le_refl _)
theorem mounted_ok {z : Int} {qs : List Sq} {n : Nat} (hc : chipOk z qs = true) (h1 : 1 <= n) (h64 : n <= 64) : ftlOk z qs (mtAll n qs).ps (-1) (mtAll n qs).S = true := by
 have h := mtAll_ok n qs
 have hlen := h.ps
 have hth : ∀ j,j < n -> ∀ i k : Nat,plAt (mtAll n qs).ps j = ((i : Int),(k : Int)) -> i < qs.length -> k < (sqAt qs i).1.length -> plThere qs (plAt (mtAll n qs).ps j) = true := fun j _ i k e hi hk => plThere_iff.2 ⟨i,k,e,hi,hk⟩
 refine ftlOk_of (js := []) ⟨⟨hc,by show 1 <= (mtAll n qs).ps.length; omega,by show (mtAll n qs).ps.length <= 64; omega,fun j hj => ?_,fun j j' hj hj' hne he => ?_⟩,by show (-1 : Int) <= -1; omega,by show (-1 : Int) < _; omega,by unfold opOk; simp⟩ h.lo h.hi (fun j hj => ?_)
 ·rcases h.each j (by have h9 : j < (mtAll n qs).ps.length := hj; omega) with e | ⟨i,k,e,hi,hk,_⟩
  ·exact .inl e.1
  ·exact .inr (plThere_iff.2 ⟨i,k,e,hi,hk⟩)
 ·have hj1 : j < n := by have h9 : j < (mtAll n qs).ps.length := hj; omega
  have hj2 : j' < n := by have h9 : j' < (mtAll n qs).ps.length := hj'; omega
  rcases h.each j hj1 with e | ⟨i,k,e,hi,hk,_,ea,_⟩
  ·exact e.1
  ·rcases h.each j' hj2 with e' | ⟨i',k',e',hi',hk',_,ea',_⟩
   ·have he2 : plAt (mtAll n qs).ps j = plAt (mtAll n qs).ps j' := he
    show plAt (mtAll n qs).ps j = _
    rw [he2]; exact e'.1
   ·exfalso
    have he2 : plAt (mtAll n qs).ps j = plAt (mtAll n qs).ps j' := he
    rw [e,e'] at he2
    simp only [Prod.mk.injEq] at he2
    have e1 : i = i' := by omega
    have e2 : k = k' := by omega
    subst e1
    subst e2
    rw [ea] at ea'
    omega
 ·have hj1 : j < n := by omega
  rw [fpOk_iff]
  rcases h.each j hj1 with e | ⟨i,k,e,hi,hk,hw,ea,es⟩
  ·exact .inl e.1
  ·refine .inr ?_
   have ht := plThere_iff.2 ⟨i,k,e,hi,hk⟩
   rw [pgOf_thereE hc ht,e]
   show lyWell (lyP (txAt qs (i : Int).toNat (k : Int).toNat)).2.2.2.2 = true ∧ (lyP (txAt qs (i : Int).toNat (k : Int).toNat)).2.1 = _ ∧ (lyP (txAt qs (i : Int).toNat (k : Int).toNat)).2.2.1 <= _
   rw [Int.toNat_natCast,Int.toNat_natCast]
   exact ⟨hw,ea,by rw [es]; exact h.top j hj1⟩
end Go.Proofs.YtgjoepdfhadmcaaGreatDoor
end

section
namespace Go.Proofs.YtgjoepdfhadmcaaGreatDoor
open Go.RowKit
set_option linter.unusedVariables false
abbrev zF : Obj := .cells #[.int .i64 0,.slice none 0 0,.slice none 0 0,.int .i64 0,.int .i64 0] 29
structure VarF (s b lo hi : Nat) (z : Int) (qs : List Sq) (ps : List Pl) (op st : Int) (a : Option Addr) (c : Nat) (am : Option Addr) (cm : Nat) (w : World) : Prop where
 var : w.heap[b]? = some (.cells #[.int .i64 z,.slice a qs.length c,.slice am ps.length cm,.int .i64 op,.int .i64 st] 29)
 own : FtlOwn lo hi w a am qs ps
 apart : b < lo ∨ hi <= b
 atB : s <= b
 atL : s <= lo
section
variable {s b lo hi c cm : Nat} {z op st : Int} {qs : List Sq} {ps : List Pl} {a am : Option Addr} {w w' : World}
theorem VarF.lt (h : VarF s b lo hi z qs ps op st a c am cm w) : b < w.heap.size := (Array.getElem?_eq_some_iff.1 h.var).1
theorem VarF.on (h : VarF s b lo hi z qs ps op st a c am cm w) (hb : Below w.heap.size w w') : VarF s b lo hi z qs ps op st a c am cm w' := ⟨block_on h.var hb,h.own.later hb h.own.1,h.apart,h.atB,h.atL⟩
theorem VarF.aside (h : VarF s b lo hi z qs ps op st a c am cm w) {l r : Nat} (hb : Aside l r w w') (h1 : b < l ∨ r <= b) (h2 : r <= lo ∨ hi <= l) : VarF s b lo hi z qs ps op st a c am cm w' :=
 ⟨(hb.block b h.lt h1).trans h.var,h.own.aside hb h2,h.apart,h.atB,h.atL⟩
theorem VarF.cells (h : VarF s b lo hi z qs ps op st a c am cm w) : w.cell? ⟨b,0,none⟩ = some (.int .i64 z) ∧ w.cell? ⟨b,1,none⟩ = some (.slice a qs.length c) ∧ w.cell? ⟨b,2,none⟩ = some (.slice am ps.length cm) ∧ w.cell? ⟨b,3,none⟩ = some (.int .i64 op) ∧ w.cell? ⟨b,4,none⟩ = some (.int .i64 st) := five_cells h.var
theorem VarF.squares (h : VarF s b lo hi z qs ps op st a c am cm w) : Squares lo hi w a qs.length qs := h.own.squares
theorem VarF.places (h : VarF s b lo hi z qs ps op st a c am cm w) : Places lo hi w am ps.length ps := h.own.places
theorem VarF.hi_le (h : VarF s b lo hi z qs ps op st a c am cm w) : hi <= w.heap.size := h.own.1
theorem varF_new {w1 : World} (hq : FtlOwn w1.heap.size w'.heap.size w' a am qs ps) (hs : s <= w1.heap.size) (h1 : w1.heap.size <= w'.heap.size) :
  VarF s w'.heap.size w1.heap.size w'.heap.size z qs ps op st a c am cm (w'.alloc (.cells #[.int .i64 z,.slice a qs.length c,.slice am ps.length cm,.int .i64 op,.int .i64 st] 29)) :=
 ⟨heap_new _ _,hq.later ((Below.refl w'.heap.size w').alloc (Nat.le_refl _) _) (Nat.le_refl _),.inr (Nat.le_refl _),Nat.le_trans hs h1,hs⟩
end
theorem squares_wide {lo hi lo' hi' n : Nat} {w : World} {a : Option Addr} {qs : List Sq} (h : Squares lo hi w a n qs) (h1 : lo' <= lo) (h2 : hi <= hi') (h3 : hi' <= w.heap.size) : Squares lo' hi' w a n qs := by
 obtain ⟨h4,A,C,h5,h6⟩ := h
 exact ⟨h4,A,C,reads_wide h5 h1 h2 h3,fun i hi => ⟨(h6 i hi).1,reads_wide (h6 i hi).2 h1 h2 h3⟩⟩
theorem places_wide {lo hi lo' hi' n : Nat} {w : World} {a : Option Addr} {ps : List Pl} (h : Places lo hi w a n ps) (h1 : lo' <= lo) (h2 : hi <= hi') (h3 : hi' <= w.heap.size) : Places lo' hi' w a n ps := ⟨h.1,reads_wide h.2 h1 h2 h3⟩
end Go.Proofs.YtgjoepdfhadmcaaGreatDoor
end

section
namespace Go.Proofs.YtgjoepdfhadmcaaGreatDoor
open Go.RowKit
set_option linter.unusedVariables false
def isE (qs : List Sq) (e : Nat) : Prop := e < qs.length ∧ (sqAt qs e).1.length = 0 ∧ (sqAt qs e).2.2 = false
structure Rm (z : Int) (qs : List Sq) (ps : List Pl) (op : Int) (k : Nat) : Prop where
 good : ∀ i,i < qs.length -> (sqAt qs i).2.2 = false
 wipes : ∀ i,i < qs.length -> (sqAt qs i).2.1 <= (k : Int)
 one : ∃ e,isE qs e
 first : op = -1 -> 2 <= (emptyK qs qs.length).length
 last : 0 <= op -> 0 < (sqAt qs op.toNat).1.length ∧ ∃ i,i < ps.length ∧ (plAt ps i).1 = op
 spare : (ps.length : Int) <= ((qs.length : Int) - 2) * z
end Go.Proofs.YtgjoepdfhadmcaaGreatDoor
end

section
namespace Go.Proofs.YtgjoepdfhadmcaaGreatDoor
open Go.RowKit
set_option linter.unusedVariables false
theorem plAt_rep {N i : Nat} (x : Pl) (h : i < N) : plAt (List.replicate N x) i = x := by
 unfold plAt
 rw [List.getD_eq_getElem?_getD,List.getElem?_replicate,if_pos h]
 rfl
theorem chip_rep {z : Int} {N : Nat} (hz1 : 1 <= z) (hz8 : z <= 8) (h1 : 1 <= N) (h12 : N <= 12) : chipOk z (List.replicate N ([],0,false)) = true := by
 unfold chipOk inB
 rw [List.length_replicate,decide_eq_true hz1,decide_eq_true hz8,decide_eq_true h1,decide_eq_true h12]
 simp only [Bool.true_and,List.all_eq_true]
 intro q hq
 have e := List.eq_of_mem_replicate hq
 rw [e]
 unfold sqOk inB
 simp
 omega
def KeptG (z : Int) (qs : List Sq) (ps : List Pl) (op st : Int) (n : Nat) (lst : Nat -> ByteArray) : Prop := ∀ j : Nat,j < n -> ftlGet z qs ps op st (j : Int) = (lst j,decide (1 <= (lst j).size))
def setL (lst : Nat -> ByteArray) (i : Nat) (x : ByteArray) (j : Nat) : ByteArray := if j = i then x else lst j
structure RoomAt (w : World) (bF gL Q n : Nat) (z : Int) (k : Nat) (qs : List Sq) (ps : List Pl) (op : Int) (a : Option Addr) (c : Nat) (am : Option Addr) (cm lo hi : Nat) (lst : Nat -> ByteArray) (wr : World) : Prop where
 var : VarF w.heap.size bF lo hi z qs ps op (k : Int) a c am cm wr
 cap : ps.length <= cm
 row : Owned gL (gL + 1) wr (some ⟨gL,0,none⟩) n (fun j => .string (lst j))
 rowA : gL < lo ∨ hi <= gL
 ok : ftlOk z qs ps op (k : Int) = true
 room : Rm z qs ps op k
 len : ps.length = n
 lenQ : qs.length = Q
 kept : KeptG z qs ps op (k : Int) n lst
 below : Below w.heap.size w wr
theorem RoomAt.on {w : World} {bF gL Q n k c cm lo hi : Nat} {z op : Int} {qs : List Sq} {ps : List Pl} {a am : Option Addr} {lst : Nat -> ByteArray} {wr w' : World} (h : RoomAt w bF gL Q n z k qs ps op a c am cm lo hi lst wr) (hb : Below wr.heap.size wr w') : RoomAt w bF gL Q n z k qs ps op a c am cm lo hi lst w' :=
 ⟨h.var.on hb,h.cap,h.row.later hb h.row.1,h.rowA,h.ok,h.room,h.len,h.lenQ,h.kept,below_here h.below hb⟩
theorem RoomAt.next {w : World} {bF gL Q n k c cm lo hi lo' hi' c' cm' X : Nat} {z op : Int} {qs : List Sq} {ps : List Pl} {a am a' am' : Option Addr} {lst : Nat -> ByteArray} {wr w5 : World} {s : Kp} {tx : ByteArray} (h : RoomAt w bF gL Q n z k qs ps op a c am cm lo hi lst wr)
  (hA : Aside bF (bF + 1) wr w5) (hv : w5.heap[bF]? = some (.cells #[.int .i64 z,.slice a' s.qs.length c',.slice am' s.ps.length cm',.int .i64 s.op,.int .i64 ((k : Int) + 1)] 29))
  (ho : FtlOwn lo' hi' wr a' am' s.qs s.ps) (h1 : bF < lo') (h2 : gL < lo') (hne : bF < gL) (hX : X < n) (hcap : s.ps.length <= cm') (hok : ftlOk z s.qs s.ps s.op ((k : Int) + 1) = true) (hR : Rm z s.qs s.ps s.op (k + 1)) (hl : s.ps.length = n) (hq : s.qs.length = qs.length) (hK : KeptG z s.qs s.ps s.op ((k : Int) + 1) n (setL lst X tx)) :
  RoomAt w bF gL Q n z (k + 1) s.qs s.ps s.op a' c' am' cm' lo' hi' (setL lst X tx) (w5.setCell ⟨gL,X,none⟩ (.string tx)) := by
 have hwB := h.var.atB
 have hwl := h.var.lt
 have hrow := h.row.aside hA (by omega)
 have hB := (Aside.refl gL (gL + 1) w5).setCell (p := ⟨gL,X,none⟩) (Nat.le_refl _) (Nat.lt_succ_self _) (.string tx)
 have hgl : gL < wr.heap.size := by have := h.row.1; omega
 have e1 : ((k + 1 : Nat) : Int) = (k : Int) + 1 := by omega
 have hsz := hA.size
 refine ⟨⟨?_,(ho.aside hA (.inl (by omega))).aside hB (.inl (by omega)),.inl h1,hwB,by omega⟩,hcap,?_,.inl h2,by rw [e1]; exact hok,hR,hl,hq.trans h.lenQ,by rw [e1]; exact hK,h.below.trans ((hA.below (B := w.heap.size) hwB (by omega)).trans (hB.below (B := w.heap.size) (by omega) (by omega)))⟩
 ·rw [e1]
  exact (hB.block bF (by omega) (by omega)).trans hv
 ·exact (hrow.set0 hX (.string tx)).congr (fun j _ => by
   show (if j = X then Value.string tx else Value.string (lst j)) = Value.string (setL lst X tx j)
   unfold setL
   split <;> rfl)
end Go.Proofs.YtgjoepdfhadmcaaGreatDoor
end

section
namespace Go.Proofs.YtgjoepdfhadmcaaGreatDoor
open Go.RowKit
set_option linter.unusedVariables false
set_option maxRecDepth 20000
def sameG (f g : Fv) (i : Nat) : Bool := decide (ftlGet f.z f.qs f.ps f.op f.st (i : Int) = ftlGet g.z g.qs g.ps g.op g.st (i : Int))
def okF (f : Fv) : Bool := ftlOk f.z f.qs f.ps f.op f.st
def sameF (f g : Fv) : Bool := okF f && (okF g && (decide (f.ps.length = g.ps.length) && (List.range f.ps.length).all (sameG f g)))
theorem sameG_of {f g : Fv} {i : Nat} {s t : ByteArray} {b c : Bool} (h1 : (s,b) = ftlGet f.z f.qs f.ps f.op f.st (i : Int)) (h2 : (t,c) = ftlGet g.z g.qs g.ps g.op g.st (i : Int)) : sameG f g i = (decide (s = t) && (b == c)) := by
 unfold sameG
 rw [<- h1,<- h2]
 by_cases e : s = t
 ·subst e; cases b <;> cases c <;> simp
 ·simp [e]
theorem sameF_fall {f g : Fv} {i : Nat} (h : i < f.ps.length) (hf : sameG f g i = false) : sameF f g = false := by
 unfold sameF; rw [all_range_fall h hf]; simp
end Go.Proofs.YtgjoepdfhadmcaaGreatDoor
end

section
namespace Go.Proofs.YtgjoepdfhadmcaaGreatDoor
open Go.RowKit
set_option linter.unusedVariables false
def rotN (z : Int) (qs : List Sq) (ps : List Pl) (i : Nat) : Bool := (pgOf z qs (plAt ps i)).2.2.2.2 == 2
def rotL (z : Int) (qs : List Sq) (ps : List Pl) (k : Nat) : List Nat := (List.range k).filter (rotN z qs ps)
def rotF (z : Int) (qs : List Sq) (ps : List Pl) (op st : Int) : List Nat := if ftlOk z qs ps op st then rotL z qs ps ps.length else []
theorem rotL_succ (z : Int) (qs : List Sq) (ps : List Pl) (k : Nat) : rotL z qs ps (k + 1) = if rotN z qs ps k then rotL z qs ps k ++ [k] else rotL z qs ps k := by
 unfold rotL
 rw [List.range_succ,List.filter_append]
 cases h : rotN z qs ps k <;> simp [h]
theorem rotL_le (z : Int) (qs : List Sq) (ps : List Pl) (k : Nat) : (rotL z qs ps k).length <= k := by
 have := List.length_filter_le (rotN z qs ps) (List.range k)
 rw [List.length_range] at this
 exact this
theorem rotL_mem {z : Int} {qs : List Sq} {ps : List Pl} {k i : Nat} : i ∈ rotL z qs ps k ↔ i < k ∧ rotN z qs ps i = true := by
 unfold rotL; rw [List.mem_filter,List.mem_range]
theorem pg_none (z : Int) (qs : List Sq) : pgOf z qs (-1,0) = (0,0,0,⟨#[]⟩,0) := by
 unfold pgOf
 refine lyP_blank ?_
 unfold pageAt
 rw [if_neg]
 ·rfl
 ·simp [inB]
theorem rotN_none {z : Int} {qs : List Sq} {ps : List Pl} {k : Nat} (h : plAt ps k = (-1,0)) : rotN z qs ps k = false := by
 unfold rotN; rw [h,pg_none]; rfl
theorem rotF_len (z : Int) (qs : List Sq) (ps : List Pl) (op st : Int) : (rotF z qs ps op st).length <= 64 := by
 unfold rotF
 split
 ·rename_i h
  have := rotL_le z qs ps ps.length
  have := (mapOk_len (ftlOk_map h)).2
  omega
 ·simp
end Go.Proofs.YtgjoepdfhadmcaaGreatDoor
end

section
namespace Go.Proofs.YtgjoepdfhadmcaaGreatDoor
open Go.RowKit
set_option linter.unusedVariables false
structure Entd2 (z : Int) (qs : List Sq) (ps : List Pl) (st kd a : Int) (tx : ByteArray) (s : Kp) : Prop where
 all : ∀ i,i < ps.length -> i ≠ a.toNat -> sameAt qs ps s.qs s.ps i
 none_ : plAt s.ps a.toNat ≠ (-1,0)
 page : pgOf z s.qs (plAt s.ps a.toNat) = (kd,a,st + 1,tx,1)
theorem entd2_of {z : Int} {qs : List Sq} {ps : List Pl} {op st kd a : Int} {tx : ByteArray} {s : Kp} (h : planR z qs ps op st kd a tx = some s) : Entd2 z qs ps st kd a tx s := by
 obtain ⟨hf,hm,s1,h1,h2⟩ := planR_some h
 have hK0 := kok_of hf []
 have hS := (roomK_ok hK0 h1).1
 unfold mayEnt at hm
 rw [Bool.and_eq_true] at hm
 obtain ⟨hpo,hin⟩ := hm
 unfold inB at hin
 simp only [Bool.and_eq_true,decide_eq_true_eq] at hin
 have hsp : s1.ps.length = ps.length := hS.places
 have ha : a.toNat < s1.ps.length := by omega
 obtain ⟨k1,k2,k3,k4,k5,k6,k7,k8,k9⟩ := putK_ok hS.ok ha h2
 obtain ⟨hly,hlz⟩ := ly_laid hpo
 have hna : plAt s.ps a.toNat ≠ (-1,0) := by
  rw [k8]
  obtain ⟨o,ho,_⟩ := putK_parts h2
  unfold nextP
  rw [ho]
  exact ne_none
 have hth := (k1.map.there a.toNat (by omega)).resolve_left hna
 exact ⟨fun i hi hne => sameAt_trans (hS.same i hi) (k7 i (by omega) hne),hna,by rw [pgOf_thereE k1.map.chip hth,k9,hly]⟩
def entS (g : Fv) (kd a : Int) (tx : ByteArray) : Option Fv := (enterK g.z ⟨g.qs,g.ps,g.op,[]⟩ g.st kd a tx).map fun s => ⟨g.z,s.qs,s.ps,s.op,g.st + 1⟩
def pgN (f : Fv) (i : Nat) : Int × Int × Int × ByteArray × Int := pgOf f.z f.qs (plAt f.ps i)
def scrubK (f : Fv) (l : List Nat) : Nat -> Option Fv
 | 0 => some f
 | k + 1 => (scrubK f l k).bind fun g => entS g (pgN f (l.getD k 0)).1 (pgN f (l.getD k 0)).2.1 (pgN f (l.getD k 0)).2.2.2.1
def rotV (f : Fv) : List Nat := rotF f.z f.qs f.ps f.op f.st
def scrubF (f : Fv) : Fv := if okF f then (scrubK f (rotV f) (rotV f).length).getD f else ⟨0,[],[],0,0⟩
def scrubB (f : Fv) : Bool := okF f && (scrubK f (rotV f) (rotV f).length).isSome
theorem scrubK_none {f : Fv} {l : List Nat} {k : Nat} (h : scrubK f l k = none) : ∀ m,k <= m -> scrubK f l m = none
 | 0,hm => by
  obtain rfl : k = 0 := by omega
  exact h
 | m + 1,hm => by
  by_cases e : k = m + 1
  ·subst e; exact h
  ·unfold scrubK; rw [scrubK_none h m (by omega)]; rfl
structure ScrubI (f : Fv) (l : List Nat) (k : Nat) (g : Fv) : Prop where
 ok : okF g = true
 z : g.z = f.z
 sq : g.qs.length = f.qs.length
 pl : g.ps.length = f.ps.length
 st : g.st = f.st + (k : Int)
 same : ∀ i,i < f.ps.length -> (∀ j,j < k -> l.getD j 0 ≠ i) -> sameAt f.qs f.ps g.qs g.ps i
 got : ∀ i,i < f.ps.length -> ftlGet g.z g.qs g.ps g.op g.st (i : Int) = ftlGet f.z f.qs f.ps f.op f.st (i : Int)
 good : ∀ j,j < k -> (pgN g (l.getD j 0)).2.2.2.2 = 1
theorem scrubI_start {f : Fv} (h : okF f = true) (l : List Nat) : ScrubI f l 0 f := ⟨h,rfl,rfl,rfl,by simp,fun i _ _ => sameAt_refl _ _ i,fun _ _ => rfl,fun j hj => absurd hj (by omega)⟩
theorem rot_parts {f : Fv} (h : okF f = true) {i : Nat} (hi : i < f.ps.length) (hr : rotN f.z f.qs f.ps i = true) : plAt f.ps i ≠ (-1,0) ∧ (pgN f i).2.1 = (i : Int) ∧ (pgN f i).2.2.2.2 = 2 := by
 have hn : plAt f.ps i ≠ (-1,0) := fun e => by rw [rotN_none e] at hr; cases hr
 have h2 : (pgN f i).2.2.2.2 = 2 := by unfold rotN at hr; unfold pgN; exact by simpa using hr
 have h3 := (ftlOk_parts h).2.2.2.2.2.2 i hi
 rw [fpOk_iff] at h3
 rcases h3 with e | ⟨_,e,_⟩
 ·exact absurd e hn
 ·exact ⟨hn,e,h2⟩
theorem pg_same {f g : Fv} (hf : okF f = true) (hg : okF g = true) (hz : g.z = f.z) (hl : g.ps.length = f.ps.length) {i : Nat} (hi : i < f.ps.length) (hn : plAt f.ps i ≠ (-1,0)) (hs : sameAt f.qs f.ps g.qs g.ps i) : pgN g i = pgN f i := by
 have hm := mapR_of (ftlOk_map hf)
 have hm' := mapR_of (ftlOk_map hg)
 have e' : plAt g.ps i ≠ (-1,0) := fun k => hn (hs.1.1 k)
 have t1 := (hm.there i hi).resolve_left hn
 have t2 := (hm'.there i (by omega)).resolve_left e'
 unfold pgN
 rw [pgOf_thereE hm.chip t1,pgOf_thereE hm'.chip t2,hs.2 hn]
theorem entS_plan {g : Fv} (hg : okF g = true) (kd a : Int) (tx : ByteArray) : entS g kd a tx = (planR g.z g.qs g.ps g.op g.st kd a tx).map fun s => ⟨g.z,s.qs,s.ps,s.op,g.st + 1⟩ := by
 have hg' : ftlOk g.z g.qs g.ps g.op g.st = true := hg
 unfold entS planR
 rw [if_pos hg']
structure RotL (f : Fv) (l : List Nat) : Prop where
 lt : ∀ j,j < l.length -> l.getD j 0 < f.ps.length
 rot : ∀ j,j < l.length -> rotN f.z f.qs f.ps (l.getD j 0) = true
 apart : ∀ i j,i < j -> j < l.length -> l.getD i 0 ≠ l.getD j 0
theorem rotL_of {f : Fv} (h : okF f = true) : RotL f (rotV f) := by
 have e : rotV f = rotL f.z f.qs f.ps f.ps.length := by unfold rotV rotF; exact if_pos h
 rw [e]
 have hm : ∀ j,j < (rotL f.z f.qs f.ps f.ps.length).length -> (rotL f.z f.qs f.ps f.ps.length).getD j 0 ∈ rotL f.z f.qs f.ps f.ps.length := fun j hj => by
  rw [List.getD_eq_getElem?_getD,List.getElem?_eq_getElem hj]; exact List.getElem_mem hj
 refine ⟨fun j hj => (rotL_mem.1 (hm j hj)).1,fun j hj => (rotL_mem.1 (hm j hj)).2,fun i j hij hj => ?_⟩
 have hp : (rotL f.z f.qs f.ps f.ps.length).Pairwise (· < ·) := List.pairwise_lt_range.filter _
 have := List.pairwise_iff_getElem.1 hp i j (by omega) hj hij
 have hi : i < (rotL f.z f.qs f.ps f.ps.length).length := by omega
 rw [List.getD_eq_getElem?_getD,List.getD_eq_getElem?_getD,List.getElem?_eq_getElem hj,List.getElem?_eq_getElem hi]
 simp only [Option.getD_some]
 omega
theorem scrubI_step {f g g' : Fv} {l : List Nat} {k : Nat} (hf : okF f = true) (hl : RotL f l) (hk : k < l.length) (hI : ScrubI f l k g) (he : entS g (pgN f (l.getD k 0)).1 (pgN f (l.getD k 0)).2.1 (pgN f (l.getD k 0)).2.2.2.1 = some g') : ScrubI f l (k + 1) g' := by
 have hi := hl.lt k hk
 obtain ⟨hn,ha,h2⟩ := rot_parts hf hi (hl.rot k hk)
 rw [entS_plan hI.ok] at he
 cases hp : planR g.z g.qs g.ps g.op g.st (pgN f (l.getD k 0)).1 (pgN f (l.getD k 0)).2.1 (pgN f (l.getD k 0)).2.2.2.1 with
 | none => rw [hp] at he; cases he
 | some s =>
  rw [hp] at he
  simp only [Option.map_some,Option.some.injEq] at he
  have hE := entd_of hp
  have hE2 := entd2_of hp
  rw [ha] at hE hE2
  obtain ⟨i,hie⟩ : ∃ i,i = l.getD k 0 := ⟨_,rfl⟩
  rw [<- hie] at hE hE2 hn ha h2 hi
  subst he
  have hpl := hI.pl
  refine ⟨hE.ok,hI.z,hE.squares.trans hI.sq,hE.places.trans hI.pl,by show g.st + 1 = _; rw [hI.st]; push_cast; omega,fun j hj hne => ?_,fun j hj => ?_,fun j hj => ?_⟩
  ·have h3 : j ≠ i := fun e => hne k (by omega) (by rw [e,hie])
   exact sameAt_trans (hI.same j hj (fun q hq => hne q (by omega))) (hE2.all j (by omega) (by rw [Int.toNat_natCast]; exact h3))
  ·by_cases e : j = i
   ·subst e
    show ftlGet g.z s.qs s.ps s.op (g.st + 1) (j : Int) = _
    rw [hE.here]
    have b1 : inB (j : Int) 0 ((f.ps.length : Int) - 1) = true := by unfold inB; simp; omega
    have n1 : (plAt f.ps j == (-1,0)) = false := by simpa using hn
    have hf' : ftlOk f.z f.qs f.ps f.op f.st = true := hf
    unfold ftlGet
    rw [hf',b1,Int.toNat_natCast,n1]
    rfl
   ·show ftlGet g.z s.qs s.ps s.op (g.st + 1) (j : Int) = _
    rw [hE.else_ j (by omega) (by omega)]
    exact hI.got j hj
  ·by_cases e : j = k
   ·subst e
    rw [<- hie]
    unfold pgN
    dsimp only
    have h9 := hE2.page
    rw [Int.toNat_natCast] at h9
    rw [h9]
   ·have hj' : j < k := by omega
    have h3 : l.getD j 0 ≠ i := by rw [hie]; exact hl.apart j k hj' hk
    have h4 := hl.lt j (by omega)
    have h5 := hI.good j hj'
    have h6 := hE2.all (l.getD j 0) (by omega) (by rw [Int.toNat_natCast]; exact h3)
    have h7 : plAt g.ps (l.getD j 0) ≠ (-1,0) := fun e9 => by
     have : (pgN g (l.getD j 0)).2.2.2.2 = 0 := by unfold pgN; rw [e9,pg_none]
     omega
    rw [pg_same (f := g) (g := ⟨g.z,s.qs,s.ps,s.op,g.st + 1⟩) hI.ok hE.ok rfl hE.places (by omega) h7 h6]
    exact h5
theorem scrubI_of {f : Fv} (hf : okF f = true) : ∀ {k : Nat} {g : Fv},k <= (rotV f).length -> scrubK f (rotV f) k = some g -> ScrubI f (rotV f) k g
 | 0,g,_,h => by simp only [scrubK,Option.some.injEq] at h; subst h; exact scrubI_start hf _
 | k + 1,g,hk,h => by
  unfold scrubK at h
  cases hp : scrubK f (rotV f) k with
  | none => rw [hp] at h; cases h
  | some g0 =>
   rw [hp] at h
   simp only [Option.bind_some] at h
   exact scrubI_step hf (rotL_of hf) (by omega) (scrubI_of hf (by omega) hp) h
end Go.Proofs.YtgjoepdfhadmcaaGreatDoor
end

section
namespace Go.Proofs.YtgjoepdfhadmcaaGreatDoor
open Go.RowKit
set_option linter.unusedVariables false
theorem getD_of_mem {l : List Nat} {i : Nat} (h : i ∈ l) : ∃ j,j < l.length ∧ l.getD j 0 = i := by
 obtain ⟨j,hj,e⟩ := List.mem_iff_getElem.1 h
 exact ⟨j,hj,by rw [List.getD_eq_getElem?_getD,List.getElem?_eq_getElem hj]; exact e⟩
theorem scrubB_some {f : Fv} (h : scrubB f = true) : okF f = true ∧ ScrubI f (rotV f) (rotV f).length (scrubF f) := by
 unfold scrubB at h
 rw [Bool.and_eq_true] at h
 obtain ⟨h1,h2⟩ := h
 obtain ⟨g,hg⟩ := Option.isSome_iff_exists.1 h2
 have e : scrubF f = g := by unfold scrubF; rw [if_pos h1,hg]; rfl
 rw [e]
 exact ⟨h1,scrubI_of h1 (Nat.le_refl _) hg⟩
theorem scrub_law {f : Fv} (h : scrubB f = true) : okF f = true ∧ okF (scrubF f) = true ∧ sameF f (scrubF f) = true ∧ (scrubF f).st = f.st + ((rotV f).length : Int) ∧ rotV (scrubF f) = [] := by
 obtain ⟨h1,hI⟩ := scrubB_some h
 refine ⟨h1,hI.ok,?_,hI.st,?_⟩
 ·unfold sameF
  rw [h1,hI.ok,hI.pl]
  simp only [Bool.true_and,decide_true,List.all_eq_true,List.mem_range]
  intro i hi
  unfold sameG
  rw [hI.got i hi]
  simp
 ·have hl := rotL_of h1
  have e : rotV (scrubF f) = rotL (scrubF f).z (scrubF f).qs (scrubF f).ps (scrubF f).ps.length := by unfold rotV rotF; exact if_pos hI.ok
  rw [e]
  refine List.eq_nil_iff_forall_not_mem.2 fun i hm => ?_
  obtain ⟨hi,hr⟩ := rotL_mem.1 hm
  rw [hI.pl] at hi
  have e0 : rotV f = rotL f.z f.qs f.ps f.ps.length := by unfold rotV rotF; exact if_pos h1
  by_cases hin : i ∈ rotV f
  ·obtain ⟨j,hj,rfl⟩ := getD_of_mem hin
   have hg := hI.good j hj
   unfold rotN at hr
   unfold pgN at hg
   rw [hg] at hr
   simp at hr
  ·have hs := hI.same i hi (fun j hj e1 => hin (by rw [<- e1]; rw [List.getD_eq_getElem?_getD,List.getElem?_eq_getElem hj]; exact List.getElem_mem _))
   by_cases hn : plAt f.ps i = (-1,0)
   ·rw [rotN_none (hs.1.2 hn)] at hr
    cases hr
   ·have hp := pg_same h1 hI.ok hI.z hI.pl hi hn hs
    apply hin
    rw [e0]
    refine rotL_mem.2 ⟨hi,?_⟩
    unfold rotN at hr ⊢
    unfold pgN at hp
    rw [<- hp]
    exact hr
theorem scrub_no {f : Fv} (h : scrubB f = false) : scrubF f = f ∨ scrubF f = ⟨0,[],[],0,0⟩ := by
 unfold scrubB at h
 unfold scrubF
 cases h1 : okF f with
 | false => right; rfl
 | true =>
  left
  rw [h1,Bool.true_and] at h
  rw [if_pos rfl]
  have h2 : scrubK f (rotV f) (rotV f).length = none := by
   cases h3 : scrubK f (rotV f) (rotV f).length with
   | none => rfl
   | some g => rw [h3] at h; cases h
  rw [h2]; rfl
theorem rot_each {f : Fv} (h : okF f = true) {j : Nat} (hj : j < (rotV f).length) : (rotV f).getD j 0 < f.ps.length ∧ plAt f.ps ((rotV f).getD j 0) ≠ (-1,0) ∧ (pgOf f.z f.qs (plAt f.ps ((rotV f).getD j 0))).2.2.2.2 = 2 := by
 have hl := rotL_of h
 have h1 := hl.lt j hj
 obtain ⟨h2,_,h3⟩ := rot_parts h h1 (hl.rot j hj)
 exact ⟨h1,h2,h3⟩
end Go.Proofs.YtgjoepdfhadmcaaGreatDoor
end

section
namespace Go.Proofs.YtgjoepdfhadmcaaGreatDoor
open Go.RowKit
set_option linter.unusedVariables false
theorem valN_cell {w : World} {D n : Nat} {a : Option Addr} {c k : Nat} {l : List Nat} (h : w.ownsRow D 2 1 (.slice a n c) n (valN l)) (hk : k < n) (hl : n = l.length) : ∃ b,a = some ⟨b,0,none⟩ ∧ b < w.heap.size ∧ w.cell? ⟨b,k,none⟩ = some (.int .i64 ((l.getD k 0 : Nat) : Int)) := by
 obtain ⟨p,e⟩ : ∃ p,a = some ⟨p,0,none⟩ := by
  obtain ⟨_,⟨e2,e3⟩ | ⟨p,c2,cs,e2,_⟩⟩ := h
  ·omega
  ·simp only [Value.slice.injEq] at e2
   exact ⟨p,e2.1⟩
 subst e
 have h1 := (World.ownsRow.lt h p rfl).2
 refine ⟨p,rfl,h1,?_⟩
 have h2 := World.ownsRow.cellAt h k (by rw [Nat.mul_one]; exact hk)
 rw [h2]
 unfold valN
 rw [List.getElem?_map,List.getD_eq_getElem?_getD,List.getElem?_eq_getElem (by omega)]
 rfl
end Go.Proofs.YtgjoepdfhadmcaaGreatDoor
end

section
namespace Go.Proofs.YtgjoepdfhadmcaaGreatDoor
open Go.RowKit
set_option linter.unusedVariables false
set_option maxRecDepth 20000
set_option maxHeartbeats 6400000 in
theorem specRotten_any (z : Int) (a : Option Addr) (n cap : Nat) (qs : List Sq) (am : Option Addr) (m cm : Nat) (ps : List Pl) (op st : Int) (w : World) {lo hi lo' hi' : Nat} (h : Squares lo hi w a n qs) (hhi : hi <= w.heap.size) (hn : n <= 1048576) (hf : ∀ x ∈ qs,sqFits x) (hp : Places lo' hi' w am m ps) (hhi' : hi' <= w.heap.size) (hm : m <= 1048576) :
  Calls Tryz.prog 34 #[.agg #[.int .i64 z,.slice a n cap,.slice am m cm,.int .i64 op,.int .i64 st]] w fun e w' => ∃ a9 c9,e = .returned (.slice a9 (rotF z qs ps op st).length c9) ∧ (rotF z qs ps op st).length <= c9 ∧ w'.ownsRow w.heap.size 2 1 (.slice a9 (rotF z qs ps op st).length c9) (rotF z qs ps op st).length (valN (rotF z qs ps op st)) ∧ Below w.heap.size w w' := by
 obtain ⟨rf,hrf⟩ : ∃ r,r = rotF z qs ps op st := ⟨_,rfl⟩
 have HRF := hide hrf
 rw [<- hrf]
 clear hrf
 obtain ⟨wA,hwA⟩ : ∃ wA,wA = (w.alloc (.cells #[.int .i64 z,.slice a n cap,.slice am m cm,.int .i64 op,.int .i64 st] 29)).alloc (.cells #[] 2) := ⟨_,rfl⟩
 have hzA : wA.heap.size = w.heap.size + 1 + 1 := by rw [hwA]; simp
 have HBA : Hid (Below w.heap.size w wA) := by rw [hwA]; exact ((Below.refl _ _).alloc (Nat.le_refl _) _).alloc (by simp) _
 have H1 : Hid (wA.heap[w.heap.size]? = some (.cells #[.int .i64 z,.slice a n cap,.slice am m cm,.int .i64 op,.int .i64 st] 29)) := by rw [hwA]; exact heap_old (heap_new _ _)
 have HO0 : Hid (wA.ownsRow (w.heap.size + 1) 2 1 (.slice (some ⟨w.heap.size + 1,0,none⟩) 0 0) 0 (valN [])) := by
  rw [hwA]
  exact ⟨rfl,.inr ⟨w.heap.size + 1,0,#[],rfl,Nat.le_refl _,heap_at (by simp),Nat.zero_le _,by unfold maxLen; omega,rfl,rfl⟩⟩
 have HSQ := hide (h.later HBA.out hhi)
 have HPL := hide (hp.later HBA.out hhi')
 have HLP := hide hp.1
 have HF := hide hf
 clear h hf hp
 obtain ⟨c0,c1,c2,c3,c4⟩ := five_cells H1.out
 go_enter Tryz.func34,Tryz.ntmps34
 go_wp2_with fail
 rw [<- hwA]
 clear hwA
 refine (specFtlOk_any z a n cap qs am m cm ps op st wA HSQ.out (by omega) hn HF.out HPL.out (by omega) hm).mono ?_
 rintro e w1 ⟨rfl,b1⟩
 have K1 := hide (block_on H1.out b1)
 have HS1 := hide (HSQ.out.later b1 (by omega))
 have HP1 := hide (HPL.out.later b1 (by omega))
 have HB1 := hide (below_here HBA.out b1)
 have HO1 := hide (own_keepBy HO0.out (grown_below b1 none) (fun k e => by cases e))
 have hs1 := b1.size
 clear b1 H1 HSQ HPL HBA HO0 c0 c1 c2 c3 c4
 obtain ⟨c0,c1,c2,c3,c4⟩ := five_cells K1.out
 cases hok : ftlOk z qs ps op st with
 | false =>
  have HE : Hid (rf = []) := by show _ = _; rw [HRF.out]; unfold rotF; rw [hok]; rfl
  go_wp2_with fail
  go_ret
  exact ⟨_,0,by rw [HE.out]; rfl,by rw [HE.out]; exact Nat.le_refl _,by rw [HE.out]; exact HO1.out.mono (by omega),HB1.out⟩
 | true =>
  have HE : Hid (rf = rotL z qs ps m) := by show _ = _; rw [HRF.out]; unfold rotF; rw [hok,HLP.out]; rfl
  have HCK := hide (mapOk_chip (ftlOk_map hok))
  have hm64 : m <= 64 := by have := (mapOk_len (ftlOk_map hok)).2; rw [HLP.out] at this; exact this
  clear hok
  obtain ⟨i0,hi0,hzz0,hzz1,hzz2⟩ := info_parts Tryz.infoI64e
  go_wp2_with fail
  go_loopw [4,3] (fun i v wr => ∃ (k j : Nat) (l : List Nat) (a9 : Option Addr) (c9 : Nat),k <= m ∧ i = .int .i64 (k : Int) ∧ l = rotL z qs ps k ∧ j = l.length ∧ v = .slice a9 j c9 ∧ j <= c9 ∧ wr.ownsRow (w.heap.size + 1) 2 1 (.slice a9 j c9) j (valN l) ∧ Below (w.heap.size + 1) w1 wr) (fun i _ _ => m - (intOf i).toNat)
  case atStart => exact ⟨0,0,[],_,0,Nat.zero_le _,rfl,rfl,rfl,rfl,Nat.le_refl _,HO1.out,Below.refl _ _⟩
  case round =>
   obtain ⟨k,j,l,a9,c9,hk,rfl,hl,hj,rfl,hjc,hO,hbel⟩ := hrel
   have HLL := hide hl
   have HJL := hide hj
   have HBB := hide hbel
   have HOO := hide hO
   have hszr := hbel.size
   have KR : Hid (wr.heap[w.heap.size]? = some (.cells #[.int .i64 z,.slice a n cap,.slice am m cm,.int .i64 op,.int .i64 st] 29)) := (hbel.block _ (by omega)).trans K1.out
   have hjk : j <= k := by rw [hj,hl]; exact rotL_le z qs ps k
   clear hl hj hO c0 c1 c2 c3 c4
   obtain ⟨a0,a1,a2,a3,a4⟩ := five_cells KR.out
   by_cases hlt : k < m
   ·have hpl : k < ps.length := by rw [HLP.out]; exact hlt
    obtain ⟨b,off,rfl,_,hb,hc⟩ := HP1.out.2.2 (by omega)
    have hbs : b < w.heap.size + 1 := by omega
    obtain ⟨c0,c1⟩ := pl_cells hc hbel hbs hlt
    have HC := hide hc
    have HRS := hide (rotL_succ z qs ps k)
    rw [<- HLL.out] at HRS
    have HNN : Hid (plAt ps k = (-1,0) -> rotN z qs ps k = false) := fun hh => rotN_none hh
    have HRN : Hid (rotN z qs ps k = ((pgOf z qs (plAt ps k)).2.2.2.2 == 2)) := rfl
    clear hc hbel
    obtain ⟨y,hy⟩ : ∃ y,y = plAt ps k := ⟨_,rfl⟩
    have HY := hide hy
    rw [<- hy] at c0 c1 HNN HRN
    clear hy
    obtain ⟨p,q⟩ := y
    dsimp only at c0 c1
    have cN : ∀ d os,Calls Tryz.prog 69 #[] (Go.Sort.grow (redrawn wr d) os) fun e w'' => e = .returned (.agg #[.int .i64 (-1),.int .i64 0]) ∧ ∃ p : Regrown,w'' = Go.Sort.grow (redrawn wr p.d) p.os := fun d os => Calls.regrown_of (l9None_any _)
    have k0 := cell_regrown c0
    have k1 := cell_regrown c1
    have k2 := cell_regrown a2
    have q1 := Tryz.eqPl p q (-1) 0
    have q2 := Tryz.guardPl
    go_upto_region 7 with fail
    go_cut [25] (fun c wx => c = .bool ((p == -1) && (q == 0)) ∧ Below wr.heap.size wr wx)
    case first =>
     refine wp_region_quiet_below (by kernel_rfl) (by kernel_rfl) ?_
     repeat (go_big_quiet_step ((go_at_call 69; exact cN _ _)))
     refine wpQuiet_nil ?_
     intro _ hw'
     obtain ⟨⟨dq,osq⟩,hw''⟩ := hw'
     subst hw''
     have HBQ := hide (below_regrown wr dq osq)
     go_wp2_with fail
     go_meet
     exact ⟨rfl,HBQ.out⟩
    case rest =>
     obtain ⟨rfl,hb2⟩ := hcut
     obtain ⟨w4,hw4⟩ : ∃ w4,w4 = wc := ⟨_,rfl⟩
     subst hw4
     have HB4 := hide (HBB.out.trans (hb2.mono (by omega)))
     have K4 := hide (block_on KR.out hb2)
     have HO4 := hide (own_keepBy HOO.out (grown_below hb2 none) (fun k e => by cases e))
     have hs4 := hb2.size
     clear hb2 k0 k1 k2 cN q1 c0 c1 a0 a1 a2 a3 a4 KR HOO
     cases hnone : ((p == -1) && (q == 0)) with
     | true =>
      have HN2 : Hid (l = rotL z qs ps (k + 1)) := by
       show _ = _
       rw [HRS.out,HNN.out (by simp only [Bool.and_eq_true,beq_iff_eq] at hnone; rw [hnone.1,hnone.2])]
       simp
      go_wp2_with fail
      exact ⟨⟨k + 1,j,l,a9,c9,by omega,by go_num,HN2.out,HJL.out,rfl,hjc,HO4.out,HB4.out⟩,by simp [intOf]; omega⟩
     | false =>
      obtain ⟨r,hr⟩ : ∃ r,r = pgOf z qs (p,q) := ⟨_,rfl⟩
      have HCL : ∀ w',Hid (Below w4.heap.size w4 w' -> Calls Tryz.prog 70 #[.agg #[.int .i64 z,.slice a n cap],.agg #[.int .i64 p,.int .i64 q]] w' fun e w'' => e = .returned (lyV r) ∧ Below w'.heap.size w' w'') := fun w' hb' => by
       rw [hr]
       have hs' := hb'.size
       exact l10Page_any z a n cap qs p q w' (HS1.out.later (HB4.out.trans (hb'.mono (by omega))) (by omega)) (by omega) hn HF.out HCK.out
      rw [<- hr] at HRN
      clear hr hnone HNN
      obtain ⟨r0,r1,r2,r3,r4⟩ := r
      unfold lyV at HCL
      dsimp only at HCL HRN
      obtain ⟨a0,a1,a2,a3,a4⟩ := five_cells K4.out
      obtain ⟨c0,c1⟩ := pl_cells HC.out HB4.out hbs hlt
      rw [<- HY.out] at c0 c1
      dsimp only at c0 c1
      have hwz : w.heap.size < w4.heap.size := by omega
      have HK : ∀ w',Hid (Below w4.heap.size w4 w' -> w'.cell? ⟨w.heap.size,0,none⟩ = some (.int .i64 z) ∧ w'.cell? ⟨w.heap.size,1,none⟩ = some (.slice a n cap) ∧ w'.cell? ⟨w.heap.size,2,none⟩ = some (.slice (some ⟨b,off,none⟩) m cm) ∧ w'.cell? ⟨b,off + k * 2,none⟩ = some (.int .i64 p) ∧ w'.cell? ⟨b,off + k * 2 + 1,none⟩ = some (.int .i64 q)) := fun w' hb' => ⟨(hb'.cell (p := ⟨_,_,none⟩) hwz).trans a0,(hb'.cell (p := ⟨_,_,none⟩) hwz).trans a1,(hb'.cell (p := ⟨_,_,none⟩) hwz).trans a2,(hb'.cell (p := ⟨_,_,none⟩) (by show b < _; omega)).trans c0,(hb'.cell (p := ⟨_,_,none⟩) (by show b < _; omega)).trans c1⟩
      go_upto_region 8 with fail
      go_cut [6] (fun v wx => v = .int .i64 r4 ∧ Below w4.heap.size w4 wx)
      case first =>
       have HB0 : Hid (Below w4.heap.size w4 w4.drew) := (Below.refl w4.heap.size w4).drew
       have HBa : Hid (Below w4.heap.size w4 (w4.alloc (.cells #[.int .i64 0,.int .i64 0,.int .i64 0,.string ⟨#[]⟩] 31)).drew) := ((Below.refl w4.heap.size w4).alloc (Nat.le_refl _) _).drew
       have HEa : Hid ((w4.alloc (.cells #[.int .i64 0,.int .i64 0,.int .i64 0,.string ⟨#[]⟩] 31)).drew.heap[w4.heap.size]? = some (.cells #[.int .i64 0,.int .i64 0,.int .i64 0,.string ⟨#[]⟩] 31)) := heap_new w4 _
       go_region_held3 (fun w' => w'.cell? ⟨w.heap.size,0,none⟩ = some (.int .i64 z) ∧ w'.cell? ⟨w.heap.size,1,none⟩ = some (.slice a n cap) ∧ w'.cell? ⟨w.heap.size,2,none⟩ = some (.slice (some ⟨b,off,none⟩) m cm) ∧ w'.cell? ⟨b,off + k * 2,none⟩ = some (.int .i64 p) ∧ w'.cell? ⟨b,off + k * 2 + 1,none⟩ = some (.int .i64 q))
        (first | exact (HK _).out HB0.out | exact (HK _).out HBa.out | exact (HK _).out HB5.out | exact (HK _).out HBS.out | exact (HK _).out HB6.out | exact ⟨a0,a1,a2,c0,c1⟩ | fail)
        (first
         | (go_at_call 70; refine ((HCL _).out HB0.out).mono ?_; rintro e w5 ⟨rfl,b5⟩; have HB5 := hide (below_here HB0.out b5); have hs5 := b5.size; have HB6 := hide (HB5.out.alloc HB5.out.size (.cells #[.int .i64 0,.int .i64 0,.int .i64 0,.string ⟨#[]⟩] 31)); have HBS := hide (HB5.out.alloc HB5.out.size (.cells #[.int .i64 r0,.int .i64 r1,.int .i64 r2,.string r3] 31)))
         | (go_at_call 70; refine ((HCL _).out HBa.out).mono ?_; rintro e w5 ⟨rfl,b5⟩; have HB5 := hide (below_here HBa.out b5); have hs5 := b5.size; have E5 := hide (block_on HEa.out b5); obtain ⟨e0,e1,e2,e3⟩ := four_cells E5.out; have f0 := four_frozen E5.out 0; have f1 := four_frozen E5.out 1; have f2 := four_frozen E5.out 2; have f3 := four_frozen E5.out 3; have HBS := hide (four_below (b := w4.heap.size) HB5.out (Nat.le_refl _) (.int .i64 r0) (.int .i64 r1) (.int .i64 r2) (.string r3))))
       all_goals
        clear HB0 HBa HEa HK HCL a0 a1 a2 a3 a4 c0 c1 b5 HB5 hs5
        go_wp2_with fail
        go_meet
        exact ⟨rfl,HBS.out⟩
      case rest =>
       obtain ⟨rfl,hb5⟩ := hcut
       obtain ⟨w5,hw5⟩ : ∃ w5,w5 = wc := ⟨_,rfl⟩
       subst hw5
       have HB5 := hide (HB4.out.trans (hb5.mono (by omega)))
       have HO5 := hide (own_keepBy HO4.out (grown_below hb5 none) (fun k e => by cases e))
       have hs5 := hb5.size
       clear hb5 HK HCL a0 a1 a2 a3 a4 c0 c1 HO4
       by_cases h2 : r4 = 2
       ·subst h2
        have HN2 : Hid (l ++ [k] = rotL z qs ps (k + 1)) := by
         show _ = _
         rw [HRS.out,HRN.out]; rfl
        have HOA := hide (HO5.out.alloc (.cells #[.int .i64 (k : Int)] 2))
        have HBA2 := hide ((Below.refl w5.heap.size w5).alloc (Nat.le_refl _) (.cells #[.int .i64 (k : Int)] 2))
        have hzA2 : (w5.alloc (.cells #[.int .i64 (k : Int)] 2)).heap.size = w5.heap.size + 1 := by simp
        go_wp2_with (at_builtin; (refine wpList_append_own_at _ rfl (.tmp 39) (.tmp 41) 58 rfl (w.heap.size + 1) 2 i0 (.int .i64 0) 1 8 Tryz.underlying58 hi0 hzz0 hzz1 hzz2 rfl (by decide) _ j (valN l) rfl HOA.out ⟨w5.heap.size,0,none⟩ 1 1 [.int .i64 (k : Int)] rfl rfl (cell_one_new _ _ _) (by simp [Value.oneCell']) (by unfold maxLen; omega) (by omega) (by rw [hzA2]; omega) ?_); intro v2 w6 hown6 hgr6 hnil6 hat6; obtain ⟨g2,c2,rfl,hc2⟩ := some_form hown6 (fun e => by have h9 := (hnil6.1 e).2; cases h9); have HO6 := hide hown6; have HG6 := hide hgr6; clear hown6 hgr6 hnil6 hat6)
        have hln : (l ++ [k]).length = j + 1 := by simp; exact HJL.out.symm
        have HON : Hid (w6.ownsRow (w.heap.size + 1) 2 1 (.slice (some ⟨g2,0,none⟩) (j + 1) c2) (j + 1) (valN (l ++ [k]))) := by
         show World.ownsRow _ _ _ _ _ _ _
         rw [valN_append]
         exact HO6.out
        have HB6 := hide ((HB5.out.trans (HBA2.out.mono (by omega))).grown HG6.out (by rw [hzA2]; omega) (fun x hx => (HO5.out.lt x hx).1))
        exact ⟨⟨k + 1,j + 1,l ++ [k],some ⟨g2,0,none⟩,c2,by omega,by go_num,HN2.out,hln.symm,rfl,hc2,HON.out,HB6.out⟩,by simp [intOf]; omega⟩
       ·have g2 : (r4 == 2) = false := by simpa using h2
        have HN2 : Hid (l = rotL z qs ps (k + 1)) := by
         show _ = _
         rw [HRS.out,HRN.out,g2]; rfl
        clear h2
        go_wp2_with fail
        exact ⟨⟨k + 1,j,l,a9,c9,by omega,by go_num,HN2.out,HJL.out,rfl,hjc,HO5.out,HB5.out⟩,by simp [intOf]; omega⟩
   ·obtain rfl : k = m := by omega
    have HBR := hide (HB1.out.trans (HBB.out.mono (by omega)))
    have HLR : Hid (l = rf) := by show _ = _; rw [HLL.out,HE.out]
    clear hbel
    go_wp2_with fail
    go_ret
    refine ⟨a9,c9,by rw [<- HLR.out,<- HJL.out]; rfl,by rw [<- HLR.out,<- HJL.out]; exact hjc,?_,HBR.out⟩
    rw [<- HLR.out,<- HJL.out]
    exact HOO.out.mono (by omega)
end Go.Proofs.YtgjoepdfhadmcaaGreatDoor
end

section
namespace Go.Proofs.YtgjoepdfhadmcaaGreatDoor
open Go.RowKit
set_option linter.unusedVariables false
end Go.Proofs.YtgjoepdfhadmcaaGreatDoor
end

