/- Several texts in one: FtlOwnP, FtlLaw, FtlEnt, MountMath, FtlVar, FtlSpace, RoomLaw, CacheMath, CacheWalk. -/
import Derived.Test.YtgjoepdfhadmcaaGreatDoorFFtlMath
import Derived.Test.YtgjoepdfhadmcaaGreatDoorFChipAns
import Derived.Test.YtgjoepdfhadmcaaGreatDoorFBase
import Derived.Test.YtgjoepdfhadmcaaGreatDoorFPageMath
import Derived.Test.YtgjoepdfhadmcaaGreatDoorFChipOwn2
section
namespace Go.Proofs.YtgjoepdfhadmcaaGreatDoor
open Go.RowKit
set_option linter.unusedVariables false
theorem ftlOk_parts {z : Int} {qs : List Sq} {ps : List Pl} {op st : Int} (h : ftlOk z qs ps op st = true) : mapOk z qs ps = true ∧ -1 <= op ∧ op < (qs.length : Int) ∧ 0 <= st ∧ st <= 1000000 ∧ opOk qs op = true ∧ ∀ i,i < ps.length -> fpOk z qs ps st i = true := by
 unfold ftlOk inB at h
 simp only [Bool.and_eq_true,decide_eq_true_eq] at h
 obtain ⟨h1,⟨h2,h3⟩,⟨h4,h5⟩,h6,h7⟩ := h
 exact ⟨h1,h2,by omega,h4,h5,h6,fun i hi => List.all_eq_true.1 h7 i (List.mem_range.2 hi)⟩
theorem kok_of {z : Int} {qs : List Sq} {ps : List Pl} {op st : Int} (h : ftlOk z qs ps op st = true) (js : List Jb) : KOk z ⟨qs,ps,op,js⟩ := by
 obtain ⟨h1,h2,h3,_,_,h6,_⟩ := ftlOk_parts h
 exact ⟨mapR_of h1,h2,h3,h6⟩
def planR (z : Int) (qs : List Sq) (ps : List Pl) (op st kd a : Int) (tx : ByteArray) : Option Kp := if ftlOk z qs ps op st then enterK z ⟨qs,ps,op,[]⟩ st kd a tx else none
def entF (z : Int) (qs : List Sq) (ps : List Pl) (op st kd a : Int) (tx : ByteArray) : Fv :=
 if ftlOk z qs ps op st then (match enterK z ⟨qs,ps,op,[]⟩ st kd a tx with | none => ⟨z,qs,ps,op,st⟩ | some s => ⟨z,s.qs,s.ps,s.op,st + 1⟩) else ⟨0,[],[],0,0⟩
theorem own_of_parts {B n g gm cm : Nat} {w : World} {A : Nat -> Option Addr} {C : Nat -> Nat} {qs : List Sq} {ps : List Pl} (sq : GrowSqs B w n qs g A C) (pl : PlOwn B w (.slice (some ⟨gm,0,none⟩) ps.length cm) ps) (ne : gm ≠ g) : FtlOwn B w.heap.size w (some ⟨g,0,none⟩) (some ⟨gm,0,none⟩) qs ps := by
 obtain ⟨cs,fz,hk⟩ := Go.Lib.ownsRow_kind pl gm rfl
 have hgm : gm < w.heap.size := (Array.getElem?_eq_some_iff.1 hk).1
 refine ⟨Nat.le_refl _,.inr ⟨g,0,A,C,fun i => (oB (A i)).getD g,gm,?_,⟨rfl,by omega,fun h0 => ⟨gm,0,rfl,Nat.le_refl _,Nat.lt_succ_self _,fun i hi => ⟨?_,by rw [Nat.zero_add]; exact World.ownsRow.frozenAt pl i⟩⟩⟩,(World.ownsRow.lt pl gm rfl).1,hgm,ne,fun i hi h0 e => ?_⟩⟩
 ·have := sq.own
  rw [sq.len]
  exact this
 ·rw [Nat.zero_add,World.ownsRow.cellAt pl i (by omega),plL_at ps (by omega)]
 ·rw [sq.len] at hi
  have ho := sq.pages.own i hi
  rcases pg_form ho with ⟨_,e1,_⟩ | ⟨p,e1,_⟩
  ·rw [e1] at h0; simp at h0
  ·dsimp only at e
   rw [e1] at e
   have e2 : gm = p := e
   have := pg_ne ho hk (by decide)
   rw [e1,e2] at this
   exact this rfl
theorem own_of_kp {B n g gm cm : Nat} {w : World} {A : Nat -> Option Addr} {C : Nat -> Nat} {V : Value} {s : Kp} (h : KpMem B w n g gm cm A C V s) : FtlOwn B w.heap.size w (some ⟨g,0,none⟩) (some ⟨gm,0,none⟩) s.qs s.ps := own_of_parts h.sq h.pl h.ne
end Go.Proofs.YtgjoepdfhadmcaaGreatDoor
end

section
namespace Go.Proofs.YtgjoepdfhadmcaaGreatDoor
open Go.RowKit
set_option linter.unusedVariables false
theorem planR_some {z : Int} {qs : List Sq} {ps : List Pl} {op st kd a : Int} {tx : ByteArray} {s : Kp} (h : planR z qs ps op st kd a tx = some s) : ftlOk z qs ps op st = true ∧ mayEnt ps st kd a tx = true ∧ ∃ s1,roomK z 20 ⟨qs,ps,op,[]⟩ = some s1 ∧ putK z s1 a.toNat (laid kd a (st + 1) tx) = some s := by
 unfold planR at h
 cases hf : ftlOk z qs ps op st with
 | false => rw [hf] at h; cases h
 | true =>
  rw [hf,if_pos rfl] at h
  cases hm : mayEnt ps st kd a tx with
  | false => rw [enterK_no (s := ⟨qs,ps,op,[]⟩) hm] at h; cases h
  | true =>
   rw [enterK_yes (s := ⟨qs,ps,op,[]⟩) hm] at h
   cases hr : roomK z 20 ⟨qs,ps,op,[]⟩ with
   | none => rw [hr] at h; cases h
   | some s1 => rw [hr] at h; exact ⟨rfl,rfl,s1,rfl,h⟩
end Go.Proofs.YtgjoepdfhadmcaaGreatDoor
end

section
namespace Go.Proofs.YtgjoepdfhadmcaaGreatDoor
open Go.RowKit
set_option linter.unusedVariables false
theorem pageAt_there {z : Int} {qs : List Sq} {p : Pl} (hc : chipOk z qs = true) (h : plThere qs p = true) : pageAt z qs p.1 p.2 = txt qs p := by
 unfold plThere at h
 unfold pageAt txt txAt
 rw [hc,h]
 rfl
theorem pgOf_thereE {z : Int} {qs : List Sq} {p : Pl} (hc : chipOk z qs = true) (h : plThere qs p = true) : pgOf z qs p = lyP (txt qs p) := by
 unfold pgOf; rw [pageAt_there hc h]
theorem fpOk_iff {z : Int} {qs : List Sq} {ps : List Pl} {st : Int} {i : Nat} : fpOk z qs ps st i = true ↔ plAt ps i = (-1,0) ∨ (lyWell (pgOf z qs (plAt ps i)).2.2.2.2 = true ∧ (pgOf z qs (plAt ps i)).2.1 = (i : Int) ∧ (pgOf z qs (plAt ps i)).2.2.1 <= st) := by
 unfold fpOk
 rw [Bool.or_eq_true,Bool.and_eq_true,Bool.and_eq_true,beq_iff_eq,beq_iff_eq]
 simp
theorem ftlOk_of {z : Int} {qs : List Sq} {ps : List Pl} {op st : Int} {js : List Jb} (h : KOk z ⟨qs,ps,op,js⟩) (h0 : 0 <= st) (h1 : st <= 1000000) (hf : ∀ i,i < ps.length -> fpOk z qs ps st i = true) : ftlOk z qs ps op st = true := by
 have a1 := h.map.ok
 have a2 := h.lo
 have a3 := h.hi
 have a4 := h.good
 dsimp only at a1 a2 a3 a4
 unfold ftlOk inB
 rw [a1,a4,decide_eq_true a2,decide_eq_true (show op <= (qs.length : Int) - 1 by omega),decide_eq_true h0,decide_eq_true h1]
 simp only [Bool.true_and,List.all_eq_true,List.mem_range]
 exact hf
theorem get_same {z : Int} {qs qs' : List Sq} {ps ps' : List Pl} {op op' st st' : Int} (h : ftlOk z qs ps op st = true) (h' : ftlOk z qs' ps' op' st' = true) (hl : ps'.length = ps.length) {i : Nat} (hi : i < ps.length) (hs : sameAt qs ps qs' ps' i) : ftlGet z qs' ps' op' st' (i : Int) = ftlGet z qs ps op st (i : Int) := by
 have hm := mapR_of (ftlOk_map h)
 have hm' := mapR_of (ftlOk_map h')
 have b1 : inB (i : Int) 0 ((ps.length : Int) - 1) = true := by unfold inB; simp; omega
 have b2 : inB (i : Int) 0 ((ps'.length : Int) - 1) = true := by unfold inB; simp; omega
 unfold ftlGet
 rw [h,h',b1,b2,Int.toNat_natCast]
 by_cases e : plAt ps i = (-1,0)
 ·have e' := hs.1.2 e
  rw [e,e']
  rfl
 ·have e' : plAt ps' i ≠ (-1,0) := fun k => e (hs.1.1 k)
  have t1 := (hm.there i hi).resolve_left e
  have t2 := (hm'.there i (by omega)).resolve_left e'
  rw [pgOf_thereE hm.chip t1,pgOf_thereE hm'.chip t2,hs.2 e]
  have n1 : (plAt ps i == (-1,0)) = false := by simpa using e
  have n2 : (plAt ps' i == (-1,0)) = false := by simpa using e'
  rw [n1,n2]
theorem same_ok {z : Int} {qs qs' : List Sq} {ps ps' : List Pl} {st st' : Int} (hm : MapR z qs ps) (hm' : MapR z qs' ps') (hl : ps'.length = ps.length) (hst : st <= st') {i : Nat} (hi : i < ps.length) (hf : fpOk z qs ps st i = true) (hs : sameAt qs ps qs' ps' i) : fpOk z qs' ps' st' i = true := by
 rw [fpOk_iff] at hf ⊢
 rcases hf with e | ⟨h1,h2,h3⟩
 ·exact .inl (hs.1.2 e)
 ·by_cases e : plAt ps' i = (-1,0)
  ·exact .inl e
  ·have e0 : plAt ps i ≠ (-1,0) := fun k => e (hs.1.2 k)
   have t1 := (hm.there i hi).resolve_left e0
   have t2 := (hm'.there i (by omega)).resolve_left e
   rw [pgOf_thereE hm.chip t1] at h1 h2 h3
   rw [pgOf_thereE hm'.chip t2,hs.2 e0]
   exact .inr ⟨h1,h2,by omega⟩
structure Entd (z : Int) (qs : List Sq) (ps : List Pl) (op st kd a : Int) (tx : ByteArray) (s : Kp) : Prop where
 ok : ftlOk z s.qs s.ps s.op (st + 1) = true
 squares : s.qs.length = qs.length
 places : s.ps.length = ps.length
 at0 : 0 <= a
 at1 : a < (ps.length : Int)
 here : ftlGet z s.qs s.ps s.op (st + 1) a = (tx,kd == 1)
 else_ : ∀ i : Nat,i < ps.length -> (i : Int) ≠ a -> ftlGet z s.qs s.ps s.op (st + 1) (i : Int) = ftlGet z qs ps op st (i : Int)
theorem entd_of {z : Int} {qs : List Sq} {ps : List Pl} {op st kd a : Int} {tx : ByteArray} {s : Kp} (h : planR z qs ps op st kd a tx = some s) : Entd z qs ps op st kd a tx s := by
 obtain ⟨hf,hm,s1,h1,h2⟩ := planR_some h
 have hK0 := kok_of hf []
 obtain ⟨_,_,_,hst0,hst1,_,hfp⟩ := ftlOk_parts hf
 have hS := (roomK_ok hK0 h1).1
 have hm0 : MapR z qs ps := hK0.map
 unfold mayEnt at hm
 rw [Bool.and_eq_true] at hm
 obtain ⟨hpo,hin⟩ := hm
 unfold inB at hin
 simp only [Bool.and_eq_true,decide_eq_true_eq] at hin
 have hsp : s1.ps.length = ps.length := hS.places
 have hsq : s1.qs.length = qs.length := hS.squares
 have ha : a.toNat < s1.ps.length := by omega
 obtain ⟨k1,k2,k3,k4,k5,k6,k7,k8,k9⟩ := putK_ok hS.ok ha h2
 have hst : st + 1 <= 1000000 := by
  obtain ⟨K,A,S,_,_,e,_,_,_,hS1,_⟩ := page_ok hpo
  omega
 obtain ⟨hly,hlz⟩ := ly_laid hpo
 have hall : ∀ i,i < ps.length -> i ≠ a.toNat -> sameAt qs ps s.qs s.ps i := fun i hi hne => sameAt_trans (hS.same i hi) (k7 i (by omega) hne)
 have hna : plAt s.ps a.toNat ≠ (-1,0) := by
  rw [k8]
  obtain ⟨o,ho,_⟩ := putK_parts h2
  unfold nextP
  rw [ho]
  exact ne_none
 have hth := (k1.map.there a.toNat (by omega)).resolve_left hna
 have hpg : pgOf z s.qs (plAt s.ps a.toNat) = (kd,a,st + 1,tx,1) := by rw [pgOf_thereE k1.map.chip hth,k9,hly]
 have hok : ftlOk z s.qs s.ps s.op (st + 1) = true := by
  refine ftlOk_of (js := s.js) k1 (by omega) hst fun i hi => ?_
  by_cases e : i = a.toNat
  ·subst e
   rw [fpOk_iff,hpg]
   refine .inr ⟨rfl,?_,Int.le_refl _⟩
   show a = _
   omega
  ·exact same_ok hm0 k1.map (by omega) (by omega) (by omega) (hfp i (by omega)) (hall i (by omega) e)
 refine ⟨hok,k3.trans hsq,k4.trans hsp,by omega,by omega,?_,fun i hi hne => get_same hf hok (by omega) hi (hall i hi (by omega))⟩
 unfold ftlGet
 have n2 : (plAt s.ps a.toNat == (-1,0)) = false := by simpa using hna
 have b2 : inB a 0 ((s.ps.length : Int) - 1) = true := by unfold inB; simp; omega
 rw [hok,n2,b2,hpg]
 rfl
end Go.Proofs.YtgjoepdfhadmcaaGreatDoor
end

section
namespace Go.Proofs.YtgjoepdfhadmcaaGreatDoor
open Go.RowKit
set_option linter.unusedVariables false
structure Mt where
 st : List Int
 ps : List Pl
 S : Int
def stAt (st : List Int) (i : Nat) : Int := st.getD i 0
theorem stAt_set (st : List Int) {i : Nat} (x : Int) (h : i < st.length) (k : Nat) : stAt (st.set i x) k = if k = i then x else stAt st k := by
 unfold stAt
 rw [List.getD_eq_getElem?_getD,List.getElem?_set]
 by_cases e : k = i
 ·subst e; simp [h]
 ·rw [if_neg e,if_neg (Ne.symm e),List.getD_eq_getElem?_getD]
def mtHit (n : Nat) (r : Int × Int × Int × ByteArray × Int) : Bool := lyWell r.2.2.2.2 && !decide (r.2.1 >= (n : Int))
def maxI (a b : Int) : Int := if a > b then a else b
def mtOne (n : Nat) (i k : Nat) (r : Int × Int × Int × ByteArray × Int) (s : Mt) : Mt :=
 if mtHit n r then (if r.2.2.1 > stAt s.st r.2.1.toNat then ⟨s.st.set r.2.1.toNat r.2.2.1,s.ps.set r.2.1.toNat ((i : Int),(k : Int)),maxI s.S r.2.2.1⟩ else ⟨s.st,s.ps,maxI s.S r.2.2.1⟩) else s
def mtPages (n : Nat) (qs : List Sq) (i : Nat) (s : Mt) : Nat -> Mt
 | 0 => s
 | k + 1 => mtOne n i k (lyP (txAt qs i k)) (mtPages n qs i s k)
def mtSqs (n : Nat) (qs : List Sq) : Nat -> Mt
 | 0 => ⟨List.replicate n 0,List.replicate n (-1,0),0⟩
 | i + 1 => mtPages n qs i (mtSqs n qs i) (sqAt qs i).1.length
def mtAll (n : Nat) (qs : List Sq) : Mt := mtSqs n qs qs.length
def mountF (z : Int) (qs : List Sq) (n : Int) : Fv := if chipOk z qs && inB n 1 64 then ⟨z,qs,(mtAll n.toNat qs).ps,-1,(mtAll n.toNat qs).S⟩ else ⟨0,[],[],0,0⟩
theorem lyP_well {s : ByteArray} (h : lyWell (lyP s).2.2.2.2 = true) : 0 <= (lyP s).2.1 ∧ (lyP s).2.1 <= 63 ∧ 1 <= (lyP s).2.2.1 ∧ (lyP s).2.2.1 <= 1000000 := by
 by_cases h0 : s.size = 0
 ·rw [lyP_blank h0] at h; exact absurd h (by decide)
 ·cases hg : goodL s with
  | false => rw [lyP_torn h0 hg] at h; exact absurd h (by decide)
  | true =>
   rw [lyP_good h0 hg]
   simp only [goodL,Bool.and_eq_true] at hg
   have hb := hg.2.2.2.2
   simp only [bodyOk,Bool.and_eq_true] at hb
   have hp := hb.2.2.2
   rw [pageOk_iff] at hp
   have hp := of_decide_eq_true hp
   dsimp only
   omega
structure MtOk (n : Nat) (qs : List Sq) (s : Mt) : Prop where
 st : s.st.length = n
 ps : s.ps.length = n
 each : ∀ j,j < n -> (plAt s.ps j = (-1,0) ∧ stAt s.st j = 0) ∨ ∃ i k : Nat,plAt s.ps j = ((i : Int),(k : Int)) ∧ i < qs.length ∧ k < (sqAt qs i).1.length ∧ lyWell (lyP (txAt qs i k)).2.2.2.2 = true ∧ (lyP (txAt qs i k)).2.1 = (j : Int) ∧ (lyP (txAt qs i k)).2.2.1 = stAt s.st j
 top : ∀ j,j < n -> stAt s.st j <= s.S
 lo : 0 <= s.S
 hi : s.S <= 1000000
theorem mtOne_ok {n i k : Nat} {qs : List Sq} {s : Mt} (h : MtOk n qs s) (hi : i < qs.length) (hk : k < (sqAt qs i).1.length) : MtOk n qs (mtOne n i k (lyP (txAt qs i k)) s) := by
 unfold mtOne
 cases hh : mtHit n (lyP (txAt qs i k)) with
 | false => exact h
 | true =>
  rw [if_pos rfl]
  unfold mtHit at hh
  simp only [Bool.and_eq_true,Bool.not_eq_true',decide_eq_false_iff_not] at hh
  obtain ⟨hw,ha⟩ := hh
  obtain ⟨w1,w2,w3,w4⟩ := lyP_well hw
  have hlo := h.lo
  have hhi := h.hi
  have hm1 : s.S <= maxI s.S (lyP (txAt qs i k)).2.2.1 := by unfold maxI; split <;> omega
  have hm2 : (lyP (txAt qs i k)).2.2.1 <= maxI s.S (lyP (txAt qs i k)).2.2.1 := by unfold maxI; split <;> omega
  have hm3 : maxI s.S (lyP (txAt qs i k)).2.2.1 <= 1000000 := by unfold maxI; split <;> omega
  split
  ·have hal : (lyP (txAt qs i k)).2.1.toNat < n := by omega
   refine ⟨by rw [List.length_set]; exact h.st,by rw [List.length_set]; exact h.ps,fun j hj => ?_,fun j hj => ?_,by dsimp only; omega,hm3⟩
   ·dsimp only
    rw [plAt_set s.ps _ (by rw [h.ps]; exact hal),stAt_set s.st _ (by rw [h.st]; exact hal)]
    by_cases e : j = (lyP (txAt qs i k)).2.1.toNat
    ·rw [if_pos e,if_pos e]
     exact .inr ⟨i,k,rfl,hi,hk,hw,by omega,rfl⟩
    ·rw [if_neg e,if_neg e]
     exact h.each j hj
   ·dsimp only
    rw [stAt_set s.st _ (by rw [h.st]; exact hal)]
    split
    ·exact hm2
    ·have := h.top j hj; omega
  ·refine ⟨h.st,h.ps,h.each,fun j hj => ?_,by dsimp only; omega,hm3⟩
   have := h.top j hj
   dsimp only
   omega
theorem mtPages_ok {n i : Nat} {qs : List Sq} {s : Mt} (h : MtOk n qs s) (hi : i < qs.length) : ∀ k,k <= (sqAt qs i).1.length -> MtOk n qs (mtPages n qs i s k)
 | 0,_ => h
 | k + 1,hk => mtOne_ok (mtPages_ok h hi k (by omega)) hi (by omega)
theorem mtSqs_ok {n : Nat} {qs : List Sq} : ∀ i,i <= qs.length -> MtOk n qs (mtSqs n qs i)
 | 0,_ => by
  have hp : ∀ j,j < n -> plAt (List.replicate n ((-1 : Int),(0 : Int))) j = (-1,0) := fun j hj => by
   unfold plAt; rw [List.getD_eq_getElem?_getD,List.getElem?_replicate,if_pos hj]; rfl
  have hs : ∀ j,stAt (List.replicate n (0 : Int)) j = 0 := fun j => by
   unfold stAt; rw [List.getD_eq_getElem?_getD,List.getElem?_replicate]; split <;> rfl
  exact ⟨List.length_replicate,List.length_replicate,fun j hj => .inl ⟨hp j hj,hs j⟩,fun j _ => by show stAt (List.replicate n 0) j <= 0; rw [hs j]; exact Int.le_refl _,Int.le_refl _,by show (0 : Int) <= 1000000; omega⟩
 | i + 1,hi => mtPages_ok (mtSqs_ok i (by omega)) (by omega) _ (Nat.le_refl _)
theorem mtAll_ok (n : Nat) (qs : List Sq) : MtOk n qs (mtAll n qs) := mtSqs_ok _ (Nat.le_refl _)
theorem mounted_ok {z : Int} {qs : List Sq} {n : Nat} (hc : chipOk z qs = true) (h1 : 1 <= n) (h64 : n <= 64) : ftlOk z qs (mtAll n qs).ps (-1) (mtAll n qs).S = true := by
 have h := mtAll_ok n qs
 have hlen := h.ps
 have hth : ∀ j,j < n -> ∀ i k : Nat,plAt (mtAll n qs).ps j = ((i : Int),(k : Int)) -> i < qs.length -> k < (sqAt qs i).1.length -> plThere qs (plAt (mtAll n qs).ps j) = true := fun j _ i k e hi hk => plThere_iff.2 ⟨i,k,e,hi,hk⟩
 refine ftlOk_of (js := []) ⟨⟨hc,by show 1 <= (mtAll n qs).ps.length; omega,by show (mtAll n qs).ps.length <= 64; omega,fun j hj => ?_,fun j j' hj hj' hne he => ?_⟩,by show (-1 : Int) <= -1; omega,by show (-1 : Int) < _; omega,by unfold opOk; simp⟩ h.lo h.hi (fun j hj => ?_)
 ·rcases h.each j (by have h9 : j < (mtAll n qs).ps.length := hj; omega) with e | ⟨i,k,e,hi,hk,_⟩
  ·exact .inl e.1
  ·exact .inr (plThere_iff.2 ⟨i,k,e,hi,hk⟩)
 ·have hj1 : j < n := by have h9 : j < (mtAll n qs).ps.length := hj; omega
  have hj2 : j' < n := by have h9 : j' < (mtAll n qs).ps.length := hj'; omega
  rcases h.each j hj1 with e | ⟨i,k,e,hi,hk,_,ea,_⟩
  ·exact e.1
  ·rcases h.each j' hj2 with e' | ⟨i',k',e',hi',hk',_,ea',_⟩
   ·have he2 : plAt (mtAll n qs).ps j = plAt (mtAll n qs).ps j' := he
    show plAt (mtAll n qs).ps j = _
    rw [he2]; exact e'.1
   ·exfalso
    have he2 : plAt (mtAll n qs).ps j = plAt (mtAll n qs).ps j' := he
    rw [e,e'] at he2
    simp only [Prod.mk.injEq] at he2
    have e1 : i = i' := by omega
    have e2 : k = k' := by omega
    subst e1
    subst e2
    rw [ea] at ea'
    omega
 ·have hj1 : j < n := by omega
  rw [fpOk_iff]
  rcases h.each j hj1 with e | ⟨i,k,e,hi,hk,hw,ea,es⟩
  ·exact .inl e.1
  ·refine .inr ?_
   have ht := plThere_iff.2 ⟨i,k,e,hi,hk⟩
   rw [pgOf_thereE hc ht,e]
   show lyWell (lyP (txAt qs (i : Int).toNat (k : Int).toNat)).2.2.2.2 = true ∧ (lyP (txAt qs (i : Int).toNat (k : Int).toNat)).2.1 = _ ∧ (lyP (txAt qs (i : Int).toNat (k : Int).toNat)).2.2.1 <= _
   rw [Int.toNat_natCast,Int.toNat_natCast]
   exact ⟨hw,ea,by rw [es]; exact h.top j hj1⟩
end Go.Proofs.YtgjoepdfhadmcaaGreatDoor
end

section
namespace Go.Proofs.YtgjoepdfhadmcaaGreatDoor
open Go.RowKit
set_option linter.unusedVariables false
structure VarF (s b lo hi : Nat) (z : Int) (qs : List Sq) (ps : List Pl) (op st : Int) (a : Option Addr) (c : Nat) (am : Option Addr) (cm : Nat) (w : World) : Prop where
 var : w.heap[b]? = some (.cells #[.int .i64 z,.slice a qs.length c,.slice am ps.length cm,.int .i64 op,.int .i64 st] 29)
 own : FtlOwn lo hi w a am qs ps
 apart : b < lo ∨ hi <= b
 atB : s <= b
 atL : s <= lo
section
variable {s b lo hi c cm : Nat} {z op st : Int} {qs : List Sq} {ps : List Pl} {a am : Option Addr} {w w' : World}
theorem VarF.lt (h : VarF s b lo hi z qs ps op st a c am cm w) : b < w.heap.size := (Array.getElem?_eq_some_iff.1 h.var).1
theorem VarF.on (h : VarF s b lo hi z qs ps op st a c am cm w) (hb : Below w.heap.size w w') : VarF s b lo hi z qs ps op st a c am cm w' := ⟨block_on h.var hb,h.own.later hb h.own.1,h.apart,h.atB,h.atL⟩
theorem VarF.aside (h : VarF s b lo hi z qs ps op st a c am cm w) {l r : Nat} (hb : Aside l r w w') (h1 : b < l ∨ r <= b) (h2 : r <= lo ∨ hi <= l) : VarF s b lo hi z qs ps op st a c am cm w' :=
 ⟨(hb.block b h.lt h1).trans h.var,h.own.aside hb h2,h.apart,h.atB,h.atL⟩
theorem VarF.cells (h : VarF s b lo hi z qs ps op st a c am cm w) : w.cell? ⟨b,0,none⟩ = some (.int .i64 z) ∧ w.cell? ⟨b,1,none⟩ = some (.slice a qs.length c) ∧ w.cell? ⟨b,2,none⟩ = some (.slice am ps.length cm) ∧ w.cell? ⟨b,3,none⟩ = some (.int .i64 op) ∧ w.cell? ⟨b,4,none⟩ = some (.int .i64 st) := five_cells h.var
theorem VarF.squares (h : VarF s b lo hi z qs ps op st a c am cm w) : Squares lo hi w a qs.length qs := h.own.squares
theorem VarF.places (h : VarF s b lo hi z qs ps op st a c am cm w) : Places lo hi w am ps.length ps := h.own.places
theorem VarF.hi_le (h : VarF s b lo hi z qs ps op st a c am cm w) : hi <= w.heap.size := h.own.1
end
theorem squares_wide {lo hi lo' hi' n : Nat} {w : World} {a : Option Addr} {qs : List Sq} (h : Squares lo hi w a n qs) (h1 : lo' <= lo) (h2 : hi <= hi') (h3 : hi' <= w.heap.size) : Squares lo' hi' w a n qs := by
 obtain ⟨h4,A,C,h5,h6⟩ := h
 exact ⟨h4,A,C,reads_wide h5 h1 h2 h3,fun i hi => ⟨(h6 i hi).1,reads_wide (h6 i hi).2 h1 h2 h3⟩⟩
theorem places_wide {lo hi lo' hi' n : Nat} {w : World} {a : Option Addr} {ps : List Pl} (h : Places lo hi w a n ps) (h1 : lo' <= lo) (h2 : hi <= hi') (h3 : hi' <= w.heap.size) : Places lo' hi' w a n ps := ⟨h.1,reads_wide h.2 h1 h2 h3⟩
end Go.Proofs.YtgjoepdfhadmcaaGreatDoor
end

section
namespace Go.Proofs.YtgjoepdfhadmcaaGreatDoor
open Go.RowKit
set_option linter.unusedVariables false
theorem liveN_cons (p : Pl) (ps : List Pl) (v : Int) : liveN (p :: ps) v = (if p.1 == v then 1 else 0) + liveN ps v := by
 unfold liveN
 rw [List.filter_cons]
 split <;> simp <;> omega
def liveTo (ps : List Pl) : Nat -> Nat
 | 0 => 0
 | m + 1 => liveTo ps m + liveN ps (m : Int)
theorem liveTo_cons (p : Pl) (ps : List Pl) : ∀ m,liveTo (p :: ps) m = (if 0 <= p.1 ∧ p.1 < (m : Int) then 1 else 0) + liveTo ps m
 | 0 => by
  show 0 = _ + 0
  rw [if_neg (by omega)]
 | m + 1 => by
  have ih := liveTo_cons p ps m
  show liveTo (p :: ps) m + liveN (p :: ps) (m : Int) = _ + (liveTo ps m + liveN ps (m : Int))
  rw [ih,liveN_cons]
  by_cases e : p.1 = (m : Int)
  ·rw [if_neg (by omega),if_pos (by simpa using e),if_pos (by omega)]; omega
  ·rw [if_neg (show ¬ (p.1 == (m : Int)) = true by simpa using e)]
   by_cases h : 0 <= p.1 ∧ p.1 < (m : Int)
   ·rw [if_pos h,if_pos (by omega)]; omega
   ·rw [if_neg h,if_neg (by omega)]; omega
theorem liveTo_le (m : Nat) : ∀ ps : List Pl,liveTo ps m <= ps.length
 | [] => by
  have : ∀ k,liveTo [] k = 0 := fun k => by
   induction k with
   | zero => rfl
   | succ k ih => show liveTo [] k + liveN [] (k : Int) = 0; rw [ih]; rfl
  rw [this]; exact Nat.le_refl _
 | p :: ps => by
  have ih := liveTo_le m ps
  rw [liveTo_cons,List.length_cons]
  split <;> omega
theorem liveTo_ge {ps : List Pl} {z o e : Nat} (hoe : o ≠ e) (ho : 1 <= liveN ps (o : Int)) : ∀ m,(∀ q,q < m -> q ≠ o -> q ≠ e -> z <= liveN ps (q : Int)) -> m * z + (if o < m then 1 else 0) <= liveTo ps m + (if o < m then z else 0) + (if e < m then z else 0)
 | 0,_ => by
  rw [if_neg (by omega),if_neg (by omega),if_neg (by omega)]
  simp
 | m + 1,h => by
  have ih := liveTo_ge hoe ho m (fun q hq => h q (by omega))
  have hm := h m (by omega)
  show (m + 1) * z + _ <= liveTo ps m + liveN ps (m : Int) + _ + _
  rw [Nat.succ_mul]
  by_cases e1 : o = m
  ·subst e1
   rw [if_neg (by omega),if_neg (by omega)] at ih
   rw [if_pos (by omega),if_pos (by omega)]
   by_cases e2 : e < o
   ·rw [if_pos e2] at ih; rw [if_pos (by omega)]; omega
   ·rw [if_neg e2] at ih; rw [if_neg (by omega)]; omega
  ·by_cases e2 : e = m
   ·subst e2
    rw [if_neg (show ¬ e < e by omega)] at ih
    rw [if_pos (show e < e + 1 by omega)]
    by_cases e3 : o < e
    ·rw [if_pos e3,if_pos e3] at ih; rw [if_pos (by omega),if_pos (by omega)]; omega
    ·rw [if_neg e3,if_neg e3] at ih; rw [if_neg (by omega),if_neg (by omega)]; omega
   ·have hm' := hm (by omega) (by omega)
    by_cases e3 : o < m
    ·rw [if_pos e3,if_pos e3] at ih
     rw [if_pos (by omega),if_pos (by omega)]
     by_cases e4 : e < m
     ·rw [if_pos e4] at ih; rw [if_pos (by omega)]; omega
     ·rw [if_neg e4] at ih; rw [if_neg (by omega)]; omega
    ·rw [if_neg e3,if_neg e3] at ih
     rw [if_neg (by omega),if_neg (by omega)]
     by_cases e4 : e < m
     ·rw [if_pos e4] at ih; rw [if_pos (by omega)]; omega
     ·rw [if_neg e4] at ih; rw [if_neg (by omega)]; omega
theorem liveN_set {ps : List Pl} {i : Nat} (hi : i < ps.length) {v : Int} {x : Pl} (h1 : (plAt ps i).1 = v) (h2 : x.1 ≠ v) : liveN (ps.set i x) v + 1 = liveN ps v := by
 induction ps generalizing i with
 | nil => simp at hi
 | cons p ps ih =>
  cases i with
  | zero =>
   have h1' : p.1 = v := h1
   rw [List.set_cons_zero,liveN_cons,liveN_cons,if_neg (by simpa using h2),if_pos (by simpa using h1')]
   omega
  | succ i =>
   have := ih (i := i) (by simpa using hi) h1
   rw [List.set_cons_succ,liveN_cons,liveN_cons]
   omega
theorem liveN_pos {ps : List Pl} {i : Nat} (hi : i < ps.length) {v : Int} (h1 : (plAt ps i).1 = v) : 1 <= liveN ps v := by
 rcases Nat.eq_zero_or_pos (liveN ps v) with h | h
 ·exact absurd h1 (liveN_zero.1 h i hi)
 ·exact h
def isE (qs : List Sq) (e : Nat) : Prop := e < qs.length ∧ (sqAt qs e).1.length = 0 ∧ (sqAt qs e).2.2 = false
theorem isE_mem {qs : List Sq} {e : Nat} : isE qs e ↔ e ∈ emptyK qs qs.length := by
 rw [emptyK_mem]
 unfold isE isEmpty
 simp
theorem empty_two {qs : List Sq} {a b : Nat} (h1 : isE qs a) (h2 : isE qs b) (hne : a ≠ b) : 2 <= (emptyK qs qs.length).length := by
 have m1 := isE_mem.1 h1
 have m2 := isE_mem.1 h2
 generalize emptyK qs qs.length = l at *
 match l,m1,m2 with
 | [],m1,_ => cases m1
 | [x],m1,m2 =>
  simp only [List.mem_singleton] at m1 m2
  exact absurd (m1.trans m2.symm) hne
 | x :: y :: l,_,_ => simp
theorem empty_other {qs : List Sq} (h : 2 <= (emptyK qs qs.length).length) : ∃ e,isE qs e ∧ e ≠ (emptyK qs qs.length).getD 0 0 := by
 have hs := emptyK_sorted qs qs.length
 have hm : ∀ x,x ∈ emptyK qs qs.length -> isE qs x := fun x hx => isE_mem.2 hx
 generalize emptyK qs qs.length = l at *
 match l,h,hs,hm with
 | [],h,_,_ => simp at h
 | [x],h,_,_ => simp at h
 | x :: y :: l,_,hs,hm =>
  refine ⟨y,hm y (by simp),fun e => ?_⟩
  have e' : y = x := e
  subst e'
  have := (List.pairwise_cons.1 hs).1 y (by simp)
  exact aheadW_asymm this this
theorem empty_only {qs : List Sq} (h1 : (emptyK qs qs.length).length = 1) {a b : Nat} (ha : isE qs a) (hb : isE qs b) : a = b := by
 by_cases e : a = b
 ·exact e
 ·have := empty_two ha hb e; omega
theorem isE_first {qs : List Sq} (h : 0 < (emptyK qs qs.length).length) : isE qs ((emptyK qs qs.length).getD 0 0) := empty_first h
theorem victim_there {z : Int} {qs : List Sq} {ps : List Pl} {op : Int} (hm : MapR z qs ps) {q : Nat} (hq : q < qs.length) (h1 : (q : Int) ≠ op) (h2 : 0 < (sqAt qs q).1.length) (h3 : (sqAt qs q).2.2 = false) (h4 : (liveN ps (q : Int) : Int) < z) : ¬ victimV z qs ps op < 0 := by
 have hv : mayV qs op q = true := by
  unfold mayV
  have : ((sqAt qs q).1.length == 0) = false := by simp; intro e; rw [e] at h2; simp at h2
  rw [this,h3]
  simp only [Bool.not_false,Bool.true_and,Bool.not_eq_true']
  simpa using h1
 unfold victimV
 cases hb : bestK qs ps op qs.length with
 | none => have := bestK_none hb q hq; rw [hv] at this; cases this
 | some b =>
  have hbb := (bestK_some hb).2 q hq hv
  have hle : liveN ps (b : Int) <= liveN ps (q : Int) := by
   unfold lessR rkV9 at hbb
   dsimp only at hbb
   omega
  dsimp only
  rw [if_neg (by omega)]
  omega
theorem put_can {z : Int} {s : Kp} {o : Nat} (ho : s.op = (o : Int)) (hl : o < s.qs.length) (hb : (sqAt s.qs o).2.2 = false) (hr : ((sqAt s.qs o).1.length : Int) < z) (i : Nat) {tx : ByteArray} (h1 : 1 <= tx.size) (h2 : tx.size <= 200) :
  putK z s i tx = some ⟨s.qs.set o ((sqAt s.qs o).1 ++ [tx],(sqAt s.qs o).2.1,(sqAt s.qs o).2.2),s.ps.set i ((o : Int),((sqAt s.qs o).1.length : Int)),(o : Int),s.js ++ [(1,(o : Int),tx)]⟩ := by
 have hc : canJ z s.qs (1,(o : Int),tx) = true := by
  unfold canJ canK txOk inB
  simp only [Int.toNat_natCast,hb,if_true]
  simp
  omega
 unfold putK doK
 rw [ho,if_pos hc,doJ_yes hc]
 unfold nextP
 rw [ho,Int.toNat_natCast]
 rfl
theorem wipe_can {z : Int} {s : Kp} {v : Nat} (hl : v < s.qs.length) (hb : (sqAt s.qs v).2.2 = false) (hw : (sqAt s.qs v).2.1 < 1000000) : ∃ s',doK z s (2,(v : Int),ByteArray.empty) = some s' := by
 have hc : canJ z s.qs (2,(v : Int),ByteArray.empty) = true := by
  unfold canJ canK inB
  simp only [Int.toNat_natCast,hb]
  simp
  omega
 unfold doK
 rw [if_pos hc]
 exact ⟨_,rfl⟩
structure Mv (z : Int) (v e L : Nat) (s t : Kp) : Prop where
 ok : KOk z t
 op : t.op = (e : Int)
 squares : t.qs.length = s.qs.length
 places : t.ps.length = s.ps.length
 other : ∀ q,q ≠ e -> sqAt t.qs q = sqAt s.qs q
 bad : (sqAt t.qs e).2 = (sqAt s.qs e).2
 sum : (sqAt t.qs e).1.length + liveN t.ps (v : Int) = L
theorem mv_put {z : Int} {v e L p i : Nat} {s t : Kp} (h : Mv z v e L s t) (hve : v ≠ e) (hel : e < s.qs.length) (hb : (sqAt s.qs e).2.2 = false) (hL : (L : Int) < z + 1) (hv : v < s.qs.length) (hi : i < t.ps.length) (hp : plAt t.ps i = ((v : Int),(p : Int))) :
  ∃ t',putK z t i (txAt t.qs v p) = some t' ∧ Mv z v e L s t' := by
 have hpos := liveN_pos hi (v := (v : Int)) (by rw [hp])
 have hsum := h.sum
 have hth := (h.ok.map.there i hi).resolve_left (by rw [hp]; exact ne_none)
 rw [hp] at hth
 obtain ⟨a,b,e1,h3,h4⟩ := plThere_iff.1 hth
 simp only [Prod.mk.injEq] at e1
 have ea : a = v := by omega
 have eb : b = p := by omega
 subst ea
 subst eb
 have htx : 1 <= (txAt t.qs a b).size ∧ (txAt t.qs a b).size <= 200 := by
  have h5 := (sqOk_parts (chipOk_at h.ok.map.chip h3)).2.2.2
  exact h5 (txAt t.qs a b) (by unfold txAt; rw [List.getD_eq_getElem?_getD,List.getElem?_eq_getElem h4]; exact List.getElem_mem h4)
 have hput := put_can (z := z) h.op (by rw [h.squares]; exact hel) (by rw [h.bad]; exact hb) (by omega) i htx.1 htx.2
 refine ⟨_,hput,?_⟩
 have hk := putK_ok h.ok hi hput
 have hsq : ∀ q x,sqAt (t.qs.set e x) q = if q = e then x else sqAt t.qs q := fun q x => sqAt_set t.qs x (by rw [h.squares]; exact hel) q
 refine ⟨hk.1,rfl,hk.2.2.1.trans h.squares,hk.2.2.2.1.trans h.places,fun q hq => ?_,?_,?_⟩
 ·dsimp only; rw [hsq,if_neg hq]; exact h.other q hq
 ·dsimp only; rw [hsq,if_pos rfl]; exact h.bad
 ·dsimp only
  rw [hsq,if_pos rfl]
  have := liveN_set hi (v := (a : Int)) (x := ((e : Int),((sqAt t.qs e).1.length : Int))) (by rw [hp]) (by show (e : Int) ≠ (a : Int); omega)
  rw [List.length_append]
  simp only [List.length_cons,List.length_nil]
  omega
theorem mv_I {z : Int} {v e L p : Nat} {s t : Kp} (h : Mv z v e L s t) (hve : v ≠ e) (hel : e < s.qs.length) (hb : (sqAt s.qs e).2.2 = false) (hL : (L : Int) < z + 1) (hv : v < s.qs.length) : ∃ t',moveI z v p t t.ps.length = some t' ∧ Mv z v e L s t' := by
 by_cases hex : ∃ i,i < t.ps.length ∧ plAt t.ps i = ((v : Int),(p : Int))
 ·obtain ⟨i,hi,he⟩ := hex
  rw [moveI_one h.ok he hi (Nat.le_refl _)]
  exact mv_put h hve hel hb hL hv hi he
 ·rw [moveI_none (fun i hi e => hex ⟨i,hi,e⟩)]
  exact ⟨t,rfl,h⟩
theorem mv_P {z : Int} {v e L : Nat} {s : Kp} (h : Mv z v e L s s) (hve : v ≠ e) (hel : e < s.qs.length) (hb : (sqAt s.qs e).2.2 = false) (hL : (L : Int) < z + 1) (hv : v < s.qs.length) : ∀ k,∃ t,moveP z v s k = some t ∧ Mv z v e L s t
 | 0 => ⟨s,rfl,h⟩
 | k + 1 => by
  obtain ⟨t,h1,h2⟩ := mv_P h hve hel hb hL hv k
  unfold moveP
  rw [h1,Option.bind_some]
  exact mv_I h2 hve hel hb hL hv
theorem roomy_first {z : Int} {s : Kp} {e : Nat} (h : (sqAt s.qs e).1.length = 0) (hz : 1 <= z) : roomy z (withOp s (e : Int)) = true := by
 have h2 : (sqAt (withOp s (e : Int)).qs (withOp s (e : Int)).op.toNat).1.length = 0 := by
  show (sqAt s.qs ((e : Int)).toNat).1.length = 0
  rw [Int.toNat_natCast]; exact h
 unfold roomy
 rw [h2]
 have h3 : 0 <= (withOp s (e : Int)).op := by show 0 <= (e : Int); omega
 simp [h3]
 omega
structure Rm (z : Int) (qs : List Sq) (ps : List Pl) (op : Int) (k : Nat) : Prop where
 good : ∀ i,i < qs.length -> (sqAt qs i).2.2 = false
 wipes : ∀ i,i < qs.length -> (sqAt qs i).2.1 <= (k : Int)
 one : ∃ e,isE qs e
 first : op = -1 -> 2 <= (emptyK qs qs.length).length
 last : 0 <= op -> 0 < (sqAt qs op.toNat).1.length ∧ ∃ i,i < ps.length ∧ (plAt ps i).1 = op
 spare : (ps.length : Int) <= ((qs.length : Int) - 2) * z
structure Rd (z : Int) (s t : Kp) (k : Nat) : Prop where
 good : ∀ i,i < t.qs.length -> (sqAt t.qs i).2.2 = false
 wipes : ∀ i,i < t.qs.length -> (sqAt t.qs i).2.1 <= ((k + 1 : Nat) : Int)
 one : ∃ e,isE t.qs e ∧ (e : Int) ≠ t.op
theorem room_there {z : Int} {s : Kp} {k : Nat} (hK : KOk z s) (h : Rm z s.qs s.ps s.op k) (hk : k < 1000000) : ∃ t,roomK z 20 s = some t ∧ Rd z s t k := by
 obtain ⟨hz1,hz8,_,_,_⟩ := chipOk_parts hK.map.chip
 have hop := hK.lo
 have hop2 := hK.hi
 cases hr : roomy z s with
 | true =>
  refine ⟨s,roomK_yes hr 20,h.good,fun i hi => by have := h.wipes i hi; omega,?_⟩
  obtain ⟨e,he⟩ := h.one
  refine ⟨e,he,fun e1 => ?_⟩
  have h0 : 0 <= s.op := by omega
  have h1 := (h.last h0).1
  rw [<- e1,Int.toNat_natCast] at h1
  have := he.2.1
  omega
 | false =>
  by_cases hE : 2 <= (emptyK s.qs s.qs.length).length
  ·obtain ⟨e1,e2,e3⟩ := empty_first (qs := s.qs) (by omega)
   have hst : stepK z s = some (withOp s (((emptyK s.qs s.qs.length).getD 0 0 : Nat) : Int)) := by unfold stepK; rw [if_pos hE]
   have hr2 : roomy z (withOp s (((emptyK s.qs s.qs.length).getD 0 0 : Nat) : Int)) = true := by
    refine roomy_first ?_ hz1
    exact e2
   refine ⟨withOp s (((emptyK s.qs s.qs.length).getD 0 0 : Nat) : Int),by rw [roomK_next hr,hst,Option.bind_some,roomK_yes hr2],h.good,fun i hi => by have := h.wipes i hi; show (sqAt s.qs i).2.1 <= _; omega,?_⟩
   obtain ⟨e,he,hne⟩ := empty_other hE
   exact ⟨e,he,fun e' => hne (by have e'' : (e : Int) = (((emptyK s.qs s.qs.length).getD 0 0 : Nat) : Int) := e'; omega)⟩
  ·obtain ⟨e,he⟩ := h.one
   have hE1 : (emptyK s.qs s.qs.length).length = 1 := by
    have := isE_mem.1 he
    have := List.length_pos_of_mem this
    omega
   have h0 : 0 <= s.op := by
    rcases Int.lt_or_le s.op 0 with h1 | h1
    ·have := h.first (by omega); omega
    ·exact h1
   obtain ⟨o,ho⟩ : ∃ o : Nat,s.op = (o : Int) := ⟨s.op.toNat,by omega⟩
   obtain ⟨hol,i0,hi0,hp0⟩ := h.last h0
   rw [ho,Int.toNat_natCast] at hol
   have hfull : z <= ((sqAt s.qs o).1.length : Int) := by
    unfold roomy at hr
    rw [ho,Int.toNat_natCast] at hr
    simp only [Bool.and_eq_false_iff,decide_eq_false_iff_not] at hr
    omega
   have hoe : o ≠ e := fun e' => by rw [e'] at hol; have := he.2.1; omega
   have holt : o < s.qs.length := by omega
   have hlo := liveN_pos hi0 (v := (o : Int)) (by rw [hp0,ho])
   -- a victim
   have hex : ∃ q,q < s.qs.length ∧ q ≠ o ∧ q ≠ e ∧ (liveN s.ps (q : Int) : Int) < z := by
    by_cases hc : ∃ q,q < s.qs.length ∧ q ≠ o ∧ q ≠ e ∧ (liveN s.ps (q : Int) : Int) < z
    ·exact hc
    ·exfalso
     have hge := liveTo_ge (ps := s.ps) (z := z.toNat) hoe hlo s.qs.length (fun q hq h1 h2 => by
      rcases Int.lt_or_le (liveN s.ps (q : Int) : Int) z with h3 | h3
      ·exact absurd ⟨q,hq,h1,h2,h3⟩ hc
      ·omega)
     rw [if_pos holt,if_pos holt,if_pos he.1] at hge
     have hle := liveTo_le s.qs.length s.ps
     have hsp := h.spare
     have hzz : z = (z.toNat : Int) := by omega
     rw [hzz,Int.sub_mul] at hsp
     have hm : ((s.qs.length : Int)) * (z.toNat : Int) = ((s.qs.length * z.toNat : Nat) : Int) := by simp
     rw [hm] at hsp
     omega
   obtain ⟨q,hq,hqo,hqe,hql⟩ := hex
   have hne0 : ∀ i,i < s.qs.length -> i ≠ e -> 0 < (sqAt s.qs i).1.length := fun i hi hie => by
    rcases Nat.eq_zero_or_pos (sqAt s.qs i).1.length with h1 | h1
    ·exact absurd (empty_only hE1 ⟨hi,h1,h.good i hi⟩ he) hie
    ·exact h1
   have hvic := victim_there (op := s.op) hK.map hq (by omega) (hne0 q hq hqe) (h.good q hq) hql
   obtain ⟨v,ev,hvl,hvo,hvp,hvb,hvz,_⟩ := victim_parts hK.map hvic
   have hve : v ≠ e := fun e' => by rw [e'] at hvp; have := he.2.1; omega
   have hvo' : v ≠ o := by omega
   have hwv := h.wipes v hvl
   by_cases hl0 : liveN s.ps (v : Int) = 0
   ·-- wiped,then two are Empty
    obtain ⟨s',hs'⟩ := wipe_can (z := z) hvl hvb (by omega)
    have hst : stepK z s = some s' := by rw [stepK_wipe hE ev hl0]; exact hs'
    obtain ⟨_,_,_,_,rfl⟩ := wipe_parts hs'
    have hsq : ∀ q x,sqAt (s.qs.set v x) q = if q = v then x else sqAt s.qs q := fun q x => sqAt_set s.qs x hvl q
    have hE2 : 2 <= (emptyK (s.qs.set v ([],(sqAt s.qs v).2.1 + 1,(sqAt s.qs v).2.2)) (s.qs.set v ([],(sqAt s.qs v).2.1 + 1,(sqAt s.qs v).2.2)).length).length := by
     refine empty_two (a := v) (b := e) ⟨by rw [List.length_set]; exact hvl,?_,?_⟩ ⟨by rw [List.length_set]; exact he.1,?_,?_⟩ hve
     ·rw [hsq,if_pos rfl]; rfl
     ·rw [hsq,if_pos rfl]; exact hvb
     ·rw [hsq,if_neg (Ne.symm hve)]; exact he.2.1
     ·rw [hsq,if_neg (Ne.symm hve)]; exact he.2.2
    have hr2 : roomy z ⟨s.qs.set v ([],(sqAt s.qs v).2.1 + 1,(sqAt s.qs v).2.2),s.ps,s.op,s.js ++ [(2,(v : Int),ByteArray.empty)]⟩ = false := by
     unfold roomy
     dsimp only
     rw [ho,Int.toNat_natCast,hsq,if_neg (Ne.symm hvo')]
     simp
     omega
    obtain ⟨f1,f2,f3⟩ := empty_first (qs := s.qs.set v ([],(sqAt s.qs v).2.1 + 1,(sqAt s.qs v).2.2)) (by omega)
    obtain ⟨e',he',hne'⟩ := empty_other hE2
    have hst2 : stepK z ⟨s.qs.set v ([],(sqAt s.qs v).2.1 + 1,(sqAt s.qs v).2.2),s.ps,s.op,s.js ++ [(2,(v : Int),ByteArray.empty)]⟩ = some (withOp ⟨s.qs.set v ([],(sqAt s.qs v).2.1 + 1,(sqAt s.qs v).2.2),s.ps,s.op,s.js ++ [(2,(v : Int),ByteArray.empty)]⟩ (((emptyK (s.qs.set v ([],(sqAt s.qs v).2.1 + 1,(sqAt s.qs v).2.2)) (s.qs.set v ([],(sqAt s.qs v).2.1 + 1,(sqAt s.qs v).2.2)).length).getD 0 0 : Nat) : Int)) := by
     unfold stepK; rw [if_pos hE2]
    have hr3 : roomy z (withOp ⟨s.qs.set v ([],(sqAt s.qs v).2.1 + 1,(sqAt s.qs v).2.2),s.ps,s.op,s.js ++ [(2,(v : Int),ByteArray.empty)]⟩ (((emptyK (s.qs.set v ([],(sqAt s.qs v).2.1 + 1,(sqAt s.qs v).2.2)) (s.qs.set v ([],(sqAt s.qs v).2.1 + 1,(sqAt s.qs v).2.2)).length).getD 0 0 : Nat) : Int)) = true := by
     refine roomy_first ?_ hz1
     exact f2
    refine ⟨_,by rw [roomK_next hr,hst,Option.bind_some,roomK_next hr2,hst2,Option.bind_some,roomK_yes hr3],fun i hi => ?_,fun i hi => ?_,e',he',?_⟩
    ·show (sqAt (s.qs.set v _) i).2.2 = false
     have hi' : i < s.qs.length := by have h9 : i < (s.qs.set v ([],(sqAt s.qs v).2.1 + 1,(sqAt s.qs v).2.2)).length := hi; rw [List.length_set] at h9; exact h9
     rw [hsq]
     split
     ·exact hvb
     ·exact h.good i hi'
    ·show (sqAt (s.qs.set v _) i).2.1 <= _
     have hi' : i < s.qs.length := by have h9 : i < (s.qs.set v ([],(sqAt s.qs v).2.1 + 1,(sqAt s.qs v).2.2)).length := hi; rw [List.length_set] at h9; exact h9
     rw [hsq]
     split
     ·show (sqAt s.qs v).2.1 + 1 <= _; omega
     ·have := h.wipes i hi'; omega
    ·intro e9
     have e8 : (e' : Int) = (((emptyK (s.qs.set v ([],(sqAt s.qs v).2.1 + 1,(sqAt s.qs v).2.2)) (s.qs.set v ([],(sqAt s.qs v).2.1 + 1,(sqAt s.qs v).2.2)).length).getD 0 0 : Nat) : Int) := e9
     exact hne' (by omega)
   ·-- moved,then wiped
    have hfe : (emptyK s.qs s.qs.length).getD 0 0 = e := empty_only hE1 (isE_first (by omega)) he
    have hK' := withOp_ok hK he.1 he.2.2
    have hM0 : Mv z v e (liveN s.ps (v : Int)) (withOp s (e : Int)) (withOp s (e : Int)) := ⟨hK',rfl,rfl,rfl,fun _ _ => rfl,rfl,by show (sqAt s.qs e).1.length + liveN s.ps (v : Int) = _; rw [he.2.1]; omega⟩
    obtain ⟨t,ht,hM⟩ := mv_P hM0 hve he.1 he.2.2 (by omega) hvl (sqAt (withOp s (e : Int)).qs v).1.length
    have hmk : moveK z v (withOp s (e : Int)) = some t := ht
    have hgone := moveK_gone hK' (show (v : Int) ≠ (withOp s (e : Int)).op by show (v : Int) ≠ (e : Int); omega) hmk
    have htv : sqAt t.qs v = sqAt s.qs v := hM.other v hve
    have htl : t.qs.length = s.qs.length := hM.squares
    obtain ⟨s',hs'⟩ := wipe_can (z := z) (s := t) (v := v) (by omega) (by rw [htv]; exact hvb) (by rw [htv]; omega)
    have hst : stepK z s = some s' := by
     rw [stepK_move hE (by omega) ev (by omega),hfe,hmk,Option.bind_some]; exact hs'
    obtain ⟨_,_,_,_,rfl⟩ := wipe_parts hs'
    have hsq : ∀ q x,sqAt (t.qs.set v x) q = if q = v then x else sqAt t.qs q := fun q x => sqAt_set t.qs x (by omega) q
    have hlv : liveN t.ps (v : Int) = 0 := liveN_zero.2 hgone
    have hsum := hM.sum
    have hr2 : roomy z ⟨t.qs.set v ([],(sqAt t.qs v).2.1 + 1,(sqAt t.qs v).2.2),t.ps,t.op,t.js ++ [(2,(v : Int),ByteArray.empty)]⟩ = true := by
     unfold roomy
     dsimp only
     rw [hM.op,Int.toNat_natCast,hsq,if_neg (Ne.symm hve)]
     simp
     omega
    have hall : ∀ i,i < t.qs.length -> (sqAt t.qs i).2 = (sqAt s.qs i).2 := fun i hi => by
     by_cases e1 : i = e
     ·rw [e1]; exact hM.bad
     ·rw [hM.other i e1]; rfl
    refine ⟨_,by rw [roomK_next hr,hst,Option.bind_some,roomK_yes hr2],fun i hi => ?_,fun i hi => ?_,v,⟨by show v < (t.qs.set v _).length; rw [List.length_set]; omega,?_,?_⟩,?_⟩
    ·dsimp only at hi ⊢
     rw [List.length_set] at hi
     rw [hsq]
     split
     ·rw [htv]; exact hvb
     ·rw [hall i hi]; exact h.good i (by omega)
    ·dsimp only at hi ⊢
     rw [List.length_set] at hi
     rw [hsq]
     split
     ·show (sqAt t.qs v).2.1 + 1 <= _; rw [htv]; omega
     ·rw [hall i hi]; have := h.wipes i (by omega); omega
    ·dsimp only; rw [hsq,if_pos rfl]; rfl
    ·dsimp only; rw [hsq,if_pos rfl]; dsimp only; rw [htv]; exact hvb
    ·show (v : Int) ≠ t.op
     rw [hM.op]; omega
theorem room_enter {z : Int} {qs : List Sq} {ps : List Pl} {op st : Int} {k : Nat} (hf : ftlOk z qs ps op st = true) (h : Rm z qs ps op k) (hk : k < 1000000) {kd a : Int} {tx : ByteArray} (hm : mayEnt ps st kd a tx = true) : ∃ s,planR z qs ps op st kd a tx = some s ∧ Rm z s.qs s.ps s.op (k + 1) := by
 have hK := kok_of hf []
 obtain ⟨t,ht,hR⟩ := room_there (s := ⟨qs,ps,op,[]⟩) hK h hk
 obtain ⟨hS,hro⟩ := roomK_ok hK ht
 have htq : t.qs.length = qs.length := hS.squares
 have htp : t.ps.length = ps.length := hS.places
 have hm' := hm
 unfold mayEnt at hm'
 rw [Bool.and_eq_true] at hm'
 obtain ⟨hpo,hin⟩ := hm'
 unfold inB at hin
 simp only [Bool.and_eq_true,decide_eq_true_eq] at hin
 unfold roomy at hro
 simp only [Bool.and_eq_true,decide_eq_true_eq] at hro
 obtain ⟨o,ho⟩ : ∃ o : Nat,t.op = (o : Int) := ⟨t.op.toNat,by omega⟩
 have hol : o < t.qs.length := by have := hS.ok.hi; omega
 have hro2 := hro.2
 rw [ho,Int.toNat_natCast] at hro2
 have hsz : 1 <= (laid kd a (st + 1) tx).size ∧ (laid kd a (st + 1) tx).size <= 200 := by
  refine ⟨(ly_laid hpo).2,?_⟩
  obtain ⟨K,A,S,e1,e2,e3,_,_,_,_,hx⟩ := page_ok hpo
  rw [e3,e1,e2] at hpo ⊢
  rw [laid_yes hpo]
  exact laidB_small K A S tx hx
 have hput := put_can (z := z) ho hol (hR.good o hol) hro2 a.toNat hsz.1 hsz.2
 have ha : a.toNat < t.ps.length := by omega
 have hpl : planR z qs ps op st kd a tx = putK z t a.toNat (laid kd a (st + 1) tx) := by
  unfold planR
  rw [hf,if_pos rfl,enterK_yes (s := ⟨qs,ps,op,[]⟩) hm,ht,Option.bind_some]
 refine ⟨_,hpl.trans hput,?_⟩
 have hsq : ∀ q x,sqAt (t.qs.set o x) q = if q = o then x else sqAt t.qs q := fun q x => sqAt_set t.qs x hol q
 obtain ⟨e,he,hne⟩ := hR.one
 have heo : e ≠ o := by omega
 refine ⟨fun i hi => ?_,fun i hi => ?_,⟨e,by show e < (t.qs.set o _).length; rw [List.length_set]; exact he.1,?_,?_⟩,fun h1 => ?_,fun _ => ⟨?_,a.toNat,?_,?_⟩,?_⟩
 ·dsimp only at hi ⊢
  rw [List.length_set] at hi
  rw [hsq]
  split
  ·exact hR.good o hol
  ·exact hR.good i hi
 ·dsimp only at hi ⊢
  rw [List.length_set] at hi
  rw [hsq]
  split
  ·exact hR.wipes o hol
  ·exact hR.wipes i hi
 ·dsimp only; rw [hsq,if_neg heo]; exact he.2.1
 ·dsimp only; rw [hsq,if_neg heo]; exact he.2.2
 ·exfalso
  have h2 : (o : Int) = -1 := h1
  omega
 ·dsimp only; rw [Int.toNat_natCast,hsq,if_pos rfl]; simp
 ·dsimp only; rw [List.length_set]; exact ha
 ·dsimp only; rw [plAt_set t.ps _ ha,if_pos rfl]
 ·dsimp only
  rw [List.length_set,List.length_set,htp,htq]
  exact h.spare
end Go.Proofs.YtgjoepdfhadmcaaGreatDoor
end

section
namespace Go.Proofs.YtgjoepdfhadmcaaGreatDoor
open Go.RowKit
set_option linter.unusedVariables false
theorem sqAt_rep {N i : Nat} (x : Sq) (h : i < N) : sqAt (List.replicate N x) i = x := by
 unfold sqAt
 rw [List.getD_eq_getElem?_getD,List.getElem?_replicate,if_pos h]
 rfl
theorem plAt_rep {N i : Nat} (x : Pl) (h : i < N) : plAt (List.replicate N x) i = x := by
 unfold plAt
 rw [List.getD_eq_getElem?_getD,List.getElem?_replicate,if_pos h]
 rfl
theorem chip_rep {z : Int} {N : Nat} (hz1 : 1 <= z) (hz8 : z <= 8) (h1 : 1 <= N) (h12 : N <= 12) : chipOk z (List.replicate N ([],0,false)) = true := by
 unfold chipOk inB
 rw [List.length_replicate,decide_eq_true hz1,decide_eq_true hz8,decide_eq_true h1,decide_eq_true h12]
 simp only [Bool.true_and,List.all_eq_true]
 intro q hq
 have e := List.eq_of_mem_replicate hq
 rw [e]
 unfold sqOk inB
 simp
 omega
theorem new_room {z : Int} {Q N : Nat} (hz1 : 1 <= z) (hz8 : z <= 8) (h3 : 3 <= Q) (h12 : Q <= 12) (h1 : 1 <= N) (h64 : N <= 64) (hs : (N : Int) <= ((Q : Int) - 2) * z) :
  ftlOk z (List.replicate Q ([],0,false)) (List.replicate N (-1,0)) (-1) 0 = true ∧ Rm z (List.replicate Q ([],0,false)) (List.replicate N (-1,0)) (-1) 0 ∧ ∀ j : Nat,j < N -> ftlGet z (List.replicate Q ([],0,false)) (List.replicate N (-1,0)) (-1) 0 (j : Int) = (ByteArray.empty,false) := by
 have hE : ∀ i,i < Q -> isE (List.replicate Q (([] : List ByteArray),(0 : Int),false)) i := fun i hi => by
  refine ⟨by rw [List.length_replicate]; exact hi,?_,?_⟩ <;> rw [sqAt_rep _ hi]
  rfl
 refine ⟨?_,⟨fun i hi => ?_,fun i hi => ?_,⟨0,hE 0 (by omega)⟩,fun _ => empty_two (hE 0 (by omega)) (hE 1 (by omega)) (by omega),fun h => absurd h (by omega),?_⟩,fun j hj => ?_⟩
 ·refine ftlOk_of (js := []) ⟨⟨chip_rep hz1 hz8 (by omega) h12,?_,?_,fun i hi => .inl ?_,fun i j hi hj _ _ => ?_⟩,by show (-1 : Int) <= -1; omega,by show (-1 : Int) < _; omega,?_⟩ (by omega) (by omega) (fun i hi => ?_)
  ·show 1 <= (List.replicate N _).length; rw [List.length_replicate]; exact h1
  ·show (List.replicate N _).length <= 64; rw [List.length_replicate]; exact h64
  ·have hi' : i < (List.replicate N ((-1 : Int),(0 : Int))).length := hi
   rw [List.length_replicate] at hi'
   exact plAt_rep _ hi'
  ·have hi' : i < (List.replicate N ((-1 : Int),(0 : Int))).length := hi
   rw [List.length_replicate] at hi'
   exact plAt_rep _ hi'
  ·unfold opOk; simp
  ·rw [List.length_replicate] at hi
   rw [fpOk_iff]
   exact .inl (plAt_rep _ hi)
 ·rw [List.length_replicate] at hi
  rw [sqAt_rep _ hi]
 ·rw [List.length_replicate] at hi
  rw [sqAt_rep _ hi]
  simp
 ·rw [List.length_replicate,List.length_replicate]; exact hs
 ·unfold ftlGet
  rw [Int.toNat_natCast,plAt_rep _ hj]
  rw [if_neg (by simp)]
def KeptG (z : Int) (qs : List Sq) (ps : List Pl) (op st : Int) (n : Nat) (lst : Nat -> ByteArray) : Prop := ∀ j : Nat,j < n -> ftlGet z qs ps op st (j : Int) = (lst j,decide (1 <= (lst j).size))
def setL (lst : Nat -> ByteArray) (i : Nat) (x : ByteArray) (j : Nat) : ByteArray := if j = i then x else lst j
structure RoomAt (w : World) (bF gL Q n : Nat) (z : Int) (k : Nat) (qs : List Sq) (ps : List Pl) (op : Int) (a : Option Addr) (c : Nat) (am : Option Addr) (cm lo hi : Nat) (lst : Nat -> ByteArray) (wr : World) : Prop where
 var : VarF w.heap.size bF lo hi z qs ps op (k : Int) a c am cm wr
 cap : ps.length <= cm
 row : Owned gL (gL + 1) wr (some ⟨gL,0,none⟩) n (fun j => .string (lst j))
 rowA : gL < lo ∨ hi <= gL
 ok : ftlOk z qs ps op (k : Int) = true
 room : Rm z qs ps op k
 len : ps.length = n
 lenQ : qs.length = Q
 kept : KeptG z qs ps op (k : Int) n lst
 below : Below w.heap.size w wr
theorem RoomAt.on {w : World} {bF gL Q n k c cm lo hi : Nat} {z op : Int} {qs : List Sq} {ps : List Pl} {a am : Option Addr} {lst : Nat -> ByteArray} {wr w' : World} (h : RoomAt w bF gL Q n z k qs ps op a c am cm lo hi lst wr) (hb : Below wr.heap.size wr w') : RoomAt w bF gL Q n z k qs ps op a c am cm lo hi lst w' :=
 ⟨h.var.on hb,h.cap,h.row.later hb h.row.1,h.rowA,h.ok,h.room,h.len,h.lenQ,h.kept,below_here h.below hb⟩
theorem RoomAt.next {w : World} {bF gL Q n k c cm lo hi lo' hi' c' cm' X : Nat} {z op : Int} {qs : List Sq} {ps : List Pl} {a am a' am' : Option Addr} {lst : Nat -> ByteArray} {wr w5 : World} {s : Kp} {tx : ByteArray} (h : RoomAt w bF gL Q n z k qs ps op a c am cm lo hi lst wr)
  (hA : Aside bF (bF + 1) wr w5) (hv : w5.heap[bF]? = some (.cells #[.int .i64 z,.slice a' s.qs.length c',.slice am' s.ps.length cm',.int .i64 s.op,.int .i64 ((k : Int) + 1)] 29))
  (ho : FtlOwn lo' hi' wr a' am' s.qs s.ps) (h1 : bF < lo') (h2 : gL < lo') (hne : bF < gL) (hX : X < n) (hcap : s.ps.length <= cm') (hok : ftlOk z s.qs s.ps s.op ((k : Int) + 1) = true) (hR : Rm z s.qs s.ps s.op (k + 1)) (hl : s.ps.length = n) (hq : s.qs.length = qs.length) (hK : KeptG z s.qs s.ps s.op ((k : Int) + 1) n (setL lst X tx)) :
  RoomAt w bF gL Q n z (k + 1) s.qs s.ps s.op a' c' am' cm' lo' hi' (setL lst X tx) (w5.setCell ⟨gL,X,none⟩ (.string tx)) := by
 have hwB := h.var.atB
 have hwl := h.var.lt
 have hrow := h.row.aside hA (by omega)
 have hB := (Aside.refl gL (gL + 1) w5).setCell (p := ⟨gL,X,none⟩) (Nat.le_refl _) (Nat.lt_succ_self _) (.string tx)
 have hgl : gL < wr.heap.size := by have := h.row.1; omega
 have e1 : ((k + 1 : Nat) : Int) = (k : Int) + 1 := by omega
 have hsz := hA.size
 refine ⟨⟨?_,(ho.aside hA (.inl (by omega))).aside hB (.inl (by omega)),.inl h1,hwB,by omega⟩,hcap,?_,.inl h2,by rw [e1]; exact hok,hR,hl,hq.trans h.lenQ,by rw [e1]; exact hK,h.below.trans ((hA.below (B := w.heap.size) hwB (by omega)).trans (hB.below (B := w.heap.size) (by omega) (by omega)))⟩
 ·rw [e1]
  exact (hB.block bF (by omega) (by omega)).trans hv
 ·exact (hrow.set0 hX (.string tx)).congr (fun j _ => by
   show (if j = X then Value.string tx else Value.string (lst j)) = Value.string (setL lst X tx j)
   unfold setL
   split <;> rfl)
end Go.Proofs.YtgjoepdfhadmcaaGreatDoor
end

section
namespace Go.Proofs.YtgjoepdfhadmcaaGreatDoor
open Go.RowKit
set_option linter.unusedVariables false
structure Cv where
 rm : Int
 ys : List Hd
 f : Fv
def itOk (m : Nat) (ys : List Hd) (i : Nat) : Bool := inB (hdAt ys i).1 0 ((m : Int) - 1) && (decide ((hdAt ys i).2.1.size <= 24) && (List.range i).all fun k => !((hdAt ys k).1 == (hdAt ys i).1))
def ftlOkF (f : Fv) : Bool := ftlOk f.z f.qs f.ps f.op f.st
def cacheOk (c : Cv) : Bool := inB c.rm 1 16 && (decide ((c.ys.length : Int) <= c.rm) && (ftlOkF c.f && (List.range c.ys.length).all (itOk c.f.ps.length c.ys)))
structure COk (c : Cv) : Prop where
 r0 : 1 <= c.rm
 r1 : c.rm <= 16
 len : (c.ys.length : Int) <= c.rm
 ftl : ftlOk c.f.z c.f.qs c.f.ps c.f.op c.f.st = true
 item : ∀ i,i < c.ys.length -> 0 <= (hdAt c.ys i).1 ∧ (hdAt c.ys i).1 < (c.f.ps.length : Int) ∧ (hdAt c.ys i).2.1.size <= 24
 apart : ∀ i,i < c.ys.length -> ∀ k,k < i -> (hdAt c.ys k).1 ≠ (hdAt c.ys i).1
theorem itOk_iff {m : Nat} {ys : List Hd} {i : Nat} : itOk m ys i = true ↔ 0 <= (hdAt ys i).1 ∧ (hdAt ys i).1 < (m : Int) ∧ (hdAt ys i).2.1.size <= 24 ∧ ∀ k,k < i -> (hdAt ys k).1 ≠ (hdAt ys i).1 := by
 unfold itOk inB
 simp only [Bool.and_eq_true,decide_eq_true_eq,List.all_eq_true,List.mem_range,Bool.not_eq_true',beq_eq_false_iff_ne]
 constructor
 ·rintro ⟨⟨h1,h2⟩,h3,h4⟩
  exact ⟨h1,by omega,h3,h4⟩
 ·rintro ⟨h1,h2,h3,h4⟩
  exact ⟨⟨h1,by omega⟩,h3,h4⟩
theorem cacheOk_iff {c : Cv} : cacheOk c = true ↔ COk c := by
 unfold cacheOk ftlOkF
 constructor
 ·intro h
  simp only [Bool.and_eq_true,decide_eq_true_eq,List.all_eq_true,List.mem_range] at h
  obtain ⟨h1,h2,h3,h4⟩ := h
  unfold inB at h1
  simp only [Bool.and_eq_true,decide_eq_true_eq] at h1
  refine ⟨h1.1,h1.2,h2,h3,fun i hi => ?_,fun i hi => ?_⟩
  ·have := itOk_iff.1 (h4 i hi); exact ⟨this.1,this.2.1,this.2.2.1⟩
  ·exact (itOk_iff.1 (h4 i hi)).2.2.2
 ·intro h
  simp only [Bool.and_eq_true,decide_eq_true_eq,List.all_eq_true,List.mem_range]
  refine ⟨?_,h.len,h.ftl,fun i hi => itOk_iff.2 ⟨(h.item i hi).1,(h.item i hi).2.1,(h.item i hi).2.2,h.apart i hi⟩⟩
  unfold inB
  simp only [Bool.and_eq_true,decide_eq_true_eq]
  exact ⟨h.r0,h.r1⟩
theorem items_no {m : Nat} {ys : List Hd} {i : Nat} (hi : i < ys.length) (h : itOk m ys i = false) : (List.range ys.length).all (itOk m ys) = false := by
 rw [List.all_eq_false]
 exact ⟨i,List.mem_range.2 hi,by rw [h]; decide⟩
theorem items_yes {m : Nat} {ys : List Hd} (h : ∀ i,i < ys.length -> itOk m ys i = true) : (List.range ys.length).all (itOk m ys) = true := by
 rw [List.all_eq_true]
 exact fun i hi => h i (List.mem_range.1 hi)
theorem cacheOk_room {c : Cv} (h : inB c.rm 1 16 = false) : cacheOk c = false := by unfold cacheOk; rw [h]; rfl
theorem cacheOk_len {c : Cv} (h : ¬ (c.ys.length : Int) <= c.rm) : cacheOk c = false := by unfold cacheOk; rw [decide_eq_false h]; simp
theorem cacheOk_ftl {c : Cv} (h : ftlOk c.f.z c.f.qs c.f.ps c.f.op c.f.st = false) : cacheOk c = false := by unfold cacheOk ftlOkF; rw [h]; simp
theorem cacheOk_rest {c : Cv} (h1 : inB c.rm 1 16 = true) (h2 : (c.ys.length : Int) <= c.rm) (h3 : ftlOk c.f.z c.f.qs c.f.ps c.f.op c.f.st = true) : cacheOk c = (List.range c.ys.length).all (itOk c.f.ps.length c.ys) := by
 unfold cacheOk ftlOkF; rw [h1,h3,decide_eq_true h2]; rfl
def idxH (ys : List Hd) (a : Int) : Int := if ys.findIdx (fun y => y.1 == a) < ys.length then ((ys.findIdx (fun y => y.1 == a) : Nat) : Int) else -1
theorem hdAt_get {ys : List Hd} {i : Nat} (h : i < ys.length) : hdAt ys i = ys[i] := by
 unfold hdAt; rw [List.getD_eq_getElem?_getD,List.getElem?_eq_getElem h]; rfl
theorem idxH_hit {ys : List Hd} {a : Int} {k : Nat} (hk : k < ys.length) (h : (hdAt ys k).1 = a) (hb : ∀ j,j < k -> (hdAt ys j).1 ≠ a) : idxH ys a = (k : Int) := by
 have e : ys.findIdx (fun y => y.1 == a) = k := by
  rw [List.findIdx_eq hk]
  refine ⟨?_,fun j hj => ?_⟩
  ·rw [<- hdAt_get hk]; simpa using h
  ·have := hb j hj
   rw [hdAt_get (by omega)] at this
   simpa using this
 unfold idxH
 rw [e,if_pos hk]
theorem idxH_none {ys : List Hd} {a : Int} (hb : ∀ j,j < ys.length -> (hdAt ys j).1 ≠ a) : idxH ys a = -1 := by
 unfold idxH
 rw [if_neg]
 intro h
 have h1 := List.findIdx_getElem (w := h)
 have h2 := hb _ h
 rw [hdAt_get h] at h2
 exact h2 (by simpa using h1)
theorem idxH_cases (ys : List Hd) (a : Int) : (idxH ys a = -1 ∧ ∀ j,j < ys.length -> (hdAt ys j).1 ≠ a) ∨ ∃ k : Nat,k < ys.length ∧ idxH ys a = (k : Int) ∧ (hdAt ys k).1 = a ∧ ∀ j,j < k -> (hdAt ys j).1 ≠ a := by
 by_cases h : ys.findIdx (fun y => y.1 == a) < ys.length
 ·right
  refine ⟨_,h,by unfold idxH; rw [if_pos h],?_,fun j hj => ?_⟩
  ·rw [hdAt_get h]; simpa using List.findIdx_getElem (w := h)
  ·rw [hdAt_get (by omega)]
   have := List.not_of_lt_findIdx hj
   simpa using this
 ·left
  refine ⟨by unfold idxH; rw [if_neg h],fun j hj e => ?_⟩
  rw [hdAt_get hj] at e
  exact h (List.findIdx_lt_length_of_exists ⟨ys[j],List.getElem_mem hj,by simpa using e⟩)
theorem itOk_idx {m : Nat} {ys : List Hd} {i : Nat} (hi : i < ys.length) : itOk m ys i = (inB (hdAt ys i).1 0 ((m : Int) - 1) && (decide ((hdAt ys i).2.1.size <= 24) && (idxH ys (hdAt ys i).1 == (i : Int)))) := by
 unfold itOk
 congr 2
 rw [Bool.eq_iff_iff]
 simp only [List.all_eq_true,List.mem_range,Bool.not_eq_true',beq_eq_false_iff_ne,beq_iff_eq]
 constructor
 ·exact fun h => idxH_hit hi rfl h
 ·intro h k hk e
  rcases idxH_cases ys (hdAt ys i).1 with ⟨h1,_⟩ | ⟨j,h1,h2,h3,h4⟩
  ·omega
  ·have : j = i := by omega
   subst this
   exact h4 k hk e
def backF (f : Fv) (x : Hd) : Option Fv := (enterK f.z ⟨f.qs,f.ps,f.op,[]⟩ f.st 1 x.1 x.2.1).map fun s => ⟨f.z,s.qs,s.ps,s.op,f.st + 1⟩
def backD (f : Fv) (x : Hd) : Option Fv := if x.2.2 then backF f x else some f
theorem backF_ok {f f' : Fv} {x : Hd} (h : ftlOkF f = true) (hb : backF f x = some f') : ftlOkF f' = true ∧ f'.ps.length = f.ps.length ∧ f'.z = f.z ∧ f'.qs.length = f.qs.length := by
 unfold backF at hb
 cases he : enterK f.z ⟨f.qs,f.ps,f.op,[]⟩ f.st 1 x.1 x.2.1 with
 | none => rw [he] at hb; cases hb
 | some s =>
  rw [he] at hb
  simp only [Option.map_some,Option.some.injEq] at hb
  subst hb
  have hE := entd_of (z := f.z) (qs := f.qs) (ps := f.ps) (op := f.op) (st := f.st) (kd := 1) (a := x.1) (tx := x.2.1) (s := s) (by unfold planR; unfold ftlOkF at h; rw [h]; exact he)
  exact ⟨hE.ok,hE.places,rfl,hE.squares⟩
theorem backD_ok {f f' : Fv} {x : Hd} (h : ftlOkF f = true) (hb : backD f x = some f') : ftlOkF f' = true ∧ f'.ps.length = f.ps.length ∧ f'.z = f.z ∧ f'.qs.length = f.qs.length := by
 unfold backD at hb
 cases hx : x.2.2 with
 | true => rw [hx] at hb; exact backF_ok h hb
 | false => rw [hx] at hb; simp only [Bool.false_eq_true,if_false,Option.some.injEq] at hb; subst hb; exact ⟨h,rfl,rfl,rfl⟩
theorem planR_back {f : Fv} {x : Hd} (h : ftlOkF f = true) : (planR f.z f.qs f.ps f.op f.st 1 x.1 x.2.1).isSome = (backF f x).isSome := by
 unfold planR backF; unfold ftlOkF at h; rw [h]; simp
theorem entF_back {f f' : Fv} {x : Hd} (h : ftlOkF f = true) (hb : backF f x = some f') : entF f.z f.qs f.ps f.op f.st 1 x.1 x.2.1 = f' := by
 unfold backF at hb
 unfold entF; unfold ftlOkF at h; rw [h]
 cases he : enterK f.z ⟨f.qs,f.ps,f.op,[]⟩ f.st 1 x.1 x.2.1 with
 | none => rw [he] at hb; cases hb
 | some s => rw [he] at hb; simp only [Option.map_some,Option.some.injEq] at hb; subst hb; rfl
def restH (ys : List Hd) (a : Int) : List Hd := ys.filter fun y => !(y.1 == a)
def frontH (ys : List Hd) (x : Hd) : List Hd := x :: restH ys x.1
def usedF (c : Cv) (x : Hd) : Option Cv :=
 if ((restH c.ys x.1).length : Int) = c.rm then (backD c.f (hdAt (frontH c.ys x) (restH c.ys x.1).length)).map fun f => ⟨c.rm,(frontH c.ys x).take (restH c.ys x.1).length,f⟩
 else some ⟨c.rm,frontH c.ys x,c.f⟩
def zeroC : Cv := ⟨0,[],⟨0,[],[],0,0⟩⟩
def mayH (c : Cv) (a : Int) (tx : ByteArray) : Bool := inB a 0 ((c.f.ps.length : Int) - 1) && decide (tx.size <= 24)
def keepO (c : Cv) (a : Int) (tx : ByteArray) : Option Cv := if mayH c a tx then usedF c (a,tx,true) else none
def keepF (c : Cv) (a : Int) (tx : ByteArray) : Cv := if cacheOk c then (keepO c a tx).getD c else zeroC
def keepB (c : Cv) (a : Int) (tx : ByteArray) : Bool := cacheOk c && (keepO c a tx).isSome
def itemF (c : Cv) (a : Int) : Hd := if idxH c.ys a = -1 then (a,(ftlGet c.f.z c.f.qs c.f.ps c.f.op c.f.st a).1,false) else hdAt c.ys (idxH c.ys a).toNat
def loadO (c : Cv) (a : Int) : Option Cv := if inB a 0 ((c.f.ps.length : Int) - 1) then usedF c (itemF c a) else none
def loadF (c : Cv) (a : Int) : Cv := if cacheOk c then (loadO c a).getD c else zeroC
def loadB (c : Cv) (a : Int) : Bool := cacheOk c && (loadO c a).isSome
def loadT (c : Cv) (a : Int) : ByteArray := if loadB c a then (itemF c a).2.1 else ByteArray.empty
def cleanH (x : Hd) : Hd := (x.1,x.2.1,false)
def flushN (ys : List Hd) (f : Fv) : Nat -> Option (List Hd × Fv)
 | 0 => some (ys,f)
 | k + 1 => (flushN ys f k).bind fun p => (backD p.2 (hdAt ys (ys.length - 1 - k))).map fun f' => (p.1.set (ys.length - 1 - k) (cleanH (hdAt ys (ys.length - 1 - k))),f')
def flushO (c : Cv) : Option Cv := (flushN c.ys c.f c.ys.length).map fun p => ⟨c.rm,p.1,p.2⟩
def flushF (c : Cv) : Cv := if cacheOk c then (flushO c).getD c else zeroC
def flushB (c : Cv) : Bool := cacheOk c && (flushO c).isSome
theorem restH_none {ys : List Hd} {a : Int} (h : ∀ j,j < ys.length -> (hdAt ys j).1 ≠ a) : restH ys a = ys := by
 refine List.filter_eq_self.2 fun y hy => ?_
 obtain ⟨j,hj,rfl⟩ := List.getElem_of_mem hy
 have := h j hj
 rw [hdAt_get hj] at this
 simpa using this
theorem restH_hit {ys : List Hd} {a : Int} {k : Nat} (hk : k < ys.length) (he : (hdAt ys k).1 = a) (ho : ∀ j,j < ys.length -> j ≠ k -> (hdAt ys j).1 ≠ a) : restH ys a = ys.take k ++ ys.drop (k + 1) := by
 have hs : ys = ys.take k ++ ys[k] :: ys.drop (k + 1) := by rw [List.getElem_cons_drop hk,List.take_append_drop]
 have h1 : (ys.take k).filter (fun y => !(y.1 == a)) = ys.take k := by
  refine List.filter_eq_self.2 fun y hy => ?_
  obtain ⟨j,hj,rfl⟩ := List.getElem_of_mem hy
  rw [List.length_take] at hj
  have := ho j (by omega) (by omega)
  rw [hdAt_get (by omega)] at this
  rw [List.getElem_take]
  simpa using this
 have h2 : (ys.drop (k + 1)).filter (fun y => !(y.1 == a)) = ys.drop (k + 1) := by
  refine List.filter_eq_self.2 fun y hy => ?_
  obtain ⟨j,hj,rfl⟩ := List.getElem_of_mem hy
  rw [List.length_drop] at hj
  have := ho (k + 1 + j) (by omega) (by omega)
  rw [hdAt_get (by omega)] at this
  rw [List.getElem_drop]
  simpa using this
 have h3 : (ys[k].1 == a) = true := by rw [hdAt_get hk] at he; simpa using he
 unfold restH
 conv => lhs; rw [hs]
 rw [List.filter_append,List.filter_cons,h1,h2,h3]
 rfl
theorem restH_le (ys : List Hd) (a : Int) : (restH ys a).length <= ys.length := List.length_filter_le _ _
theorem COk.other {c : Cv} (h : COk c) {a : Int} {k : Nat} (hk : k < c.ys.length) (he : (hdAt c.ys k).1 = a) : ∀ j,j < c.ys.length -> j ≠ k -> (hdAt c.ys j).1 ≠ a := by
 intro j hj hne e
 rcases Nat.lt_or_gt_of_ne hne with h1 | h1
 ·exact h.apart k hk j h1 (e.trans he.symm)
 ·exact h.apart j hj k h1 (he.trans e.symm)
theorem chipOk_small {z : Int} {qs : List Sq} (h : chipOk z qs = true) : qs.length + weight qs <= 20000 := by
 obtain ⟨h1,h2,h3,h4,h5⟩ := chipOk_parts h
 have := weight_small (n := 12) h4 (fun q hq => by
  obtain ⟨k1,_,_,k4⟩ := sqOk_parts (h5 q hq)
  have k5 : q.1.length <= 8 := by omega
  have := total_small k5 (fun s hs => (k4 s hs).2)
  omega)
 omega
def CFit (c : Cv) : Prop := c.ys.length <= 20 ∧ c.ys.length + (c.f.qs.length + weight c.f.qs) <= 1048576 ∧ c.f.ps.length <= 64
theorem fit_of {c : Cv} (h : ftlOkF c.f = true) (hl : c.ys.length <= 20) : CFit c := by
 unfold ftlOkF at h
 have h1 := (kok_of h []).map.chip
 have h2 : c.f.qs.length + weight c.f.qs <= 20000 := chipOk_small h1
 have h3 := (kok_of h []).map.few
 exact ⟨hl,by omega,h3⟩
theorem COk.fit {c : Cv} (h : COk c) : CFit c := fit_of (c := c) h.ftl (by have := h.len; have := h.r1; omega)
theorem zeroC_fit : CFit zeroC := ⟨by simp [zeroC],by simp [zeroC,weight],by simp [zeroC]⟩
theorem flushN_ok {ys : List Hd} {f : Fv} (h : ftlOkF f = true) : ∀ (k : Nat) (p : List Hd × Fv),flushN ys f k = some p -> ftlOkF p.2 = true ∧ p.1.length = ys.length ∧ p.2.ps.length = f.ps.length ∧ p.2.qs.length = f.qs.length ∧ p.2.z = f.z := by
 intro k
 induction k with
 | zero => intro p hp; simp only [flushN,Option.some.injEq] at hp; subst hp; exact ⟨h,rfl,rfl,rfl,rfl⟩
 | succ k ih =>
  intro p hp
  rw [flushN] at hp
  obtain ⟨p1,hp1,hp2⟩ := Option.bind_eq_some_iff.1 hp
  obtain ⟨f',hf',rfl⟩ := Option.map_eq_some_iff.1 hp2
  obtain ⟨h1,h2,h3,h4,h5⟩ := ih p1 hp1
  obtain ⟨k1,k2,k3,k4⟩ := backD_ok h1 hf'
  exact ⟨k1,by simp only [List.length_set]; exact h2,k2.trans h3,k4.trans h4,k3.trans h5⟩
end Go.Proofs.YtgjoepdfhadmcaaGreatDoor
end

section
namespace Go.Proofs.YtgjoepdfhadmcaaGreatDoor
open Go.RowKit
set_option linter.unusedVariables false
set_option maxRecDepth 20000
theorem seven_cells {W : World} {b : Nat} {c0 c1 c2 c3 c4 c5 c6 : Value} {t : TypeId} {fr : Nat × Nat} (h : W.heap[b]? = some (.cells #[c0,c1,c2,c3,c4,c5,c6] t fr)) :
  W.cell? ⟨b,0,none⟩ = some c0 ∧ W.cell? ⟨b,1,none⟩ = some c1 ∧ W.cell? ⟨b,2,none⟩ = some c2 ∧ W.cell? ⟨b,3,none⟩ = some c3 ∧ W.cell? ⟨b,4,none⟩ = some c4 ∧ W.cell? ⟨b,5,none⟩ = some c5 ∧ W.cell? ⟨b,6,none⟩ = some c6 := by
 simp [World.cell?,h]
theorem seven_set {W : World} {b : Nat} {c0 c1 c2 c3 c4 c5 c6 : Value} {t : TypeId} {fr : Nat × Nat} (h : W.heap[b]? = some (.cells #[c0,c1,c2,c3,c4,c5,c6] t fr)) (v0 v1 v2 v3 v4 v5 v6 : Value) :
  (((((((W.setCell ⟨b,0,none⟩ v0).setCell ⟨b,1,none⟩ v1).setCell ⟨b,2,none⟩ v2).setCell ⟨b,3,none⟩ v3).setCell ⟨b,4,none⟩ v4).setCell ⟨b,5,none⟩ v5).setCell ⟨b,6,none⟩ v6).heap[b]? = some (.cells #[v0,v1,v2,v3,v4,v5,v6] t fr) :=
 set_block (set_block (set_block (set_block (set_block (set_block (set_block h 0 v0 (by simp)) 1 v1 (by simp)) 2 v2 (by simp)) 3 v3 (by simp)) 4 v4 (by simp)) 5 v5 (by simp)) 6 v6 (by simp)
theorem seven_aside {lo hi b : Nat} {a w : World} (h : Aside lo hi a w) (h1 : lo <= b) (h2 : b < hi) (v0 v1 v2 v3 v4 v5 v6 : Value) :
  Aside lo hi a (((((((w.setCell ⟨b,0,none⟩ v0).setCell ⟨b,1,none⟩ v1).setCell ⟨b,2,none⟩ v2).setCell ⟨b,3,none⟩ v3).setCell ⟨b,4,none⟩ v4).setCell ⟨b,5,none⟩ v5).setCell ⟨b,6,none⟩ v6) :=
 ((((((h.setCell (p := ⟨b,0,none⟩) h1 h2 v0).setCell (p := ⟨b,1,none⟩) h1 h2 v1).setCell (p := ⟨b,2,none⟩) h1 h2 v2).setCell (p := ⟨b,3,none⟩) h1 h2 v3).setCell (p := ⟨b,4,none⟩) h1 h2 v4).setCell (p := ⟨b,5,none⟩) h1 h2 v5).setCell (p := ⟨b,6,none⟩) h1 h2 v6
theorem helds_wide {lo hi lo' hi' n : Nat} {w : World} {a : Option Addr} {ys : List Hd} (h : Helds lo hi w a n ys) (h1 : lo' <= lo) (h2 : hi <= hi') (h3 : hi' <= w.heap.size) : Helds lo' hi' w a n ys :=
 ⟨h.1,h3,fun hn => by obtain ⟨b,off,e,h4,h5,h6⟩ := h.2.2 hn; exact ⟨b,off,e,by omega,by omega,h6⟩⟩
def CacheOwn (lo hi : Nat) (w : World) (ai a am : Option Addr) (ys : List Hd) (qs : List Sq) (ps : List Pl) : Prop :=
 hi <= w.heap.size ∧ ∃ l1 r1 l2 r2,lo <= l1 ∧ r1 <= hi ∧ lo <= l2 ∧ r2 <= hi ∧ (r1 <= l2 ∨ r2 <= l1) ∧ OwnHelds l1 r1 w ai ys.length ys ∧ FtlOwn l2 r2 w a am qs ps
section
variable {lo hi : Nat} {w w' : World} {ai a am : Option Addr} {ys : List Hd} {qs : List Sq} {ps : List Pl}
theorem CacheOwn.helds (h : CacheOwn lo hi w ai a am ys qs ps) : Helds lo hi w ai ys.length ys := by
 obtain ⟨h0,l1,r1,l2,r2,h1,h2,h3,h4,h5,h6,h7⟩ := h
 exact helds_wide h6.helds h1 h2 h0
theorem CacheOwn.squares (h : CacheOwn lo hi w ai a am ys qs ps) : Squares lo hi w a qs.length qs := by
 obtain ⟨h0,l1,r1,l2,r2,h1,h2,h3,h4,h5,h6,h7⟩ := h
 exact (h7.wide h3 h4 h0).squares
theorem CacheOwn.places (h : CacheOwn lo hi w ai a am ys qs ps) : Places lo hi w am ps.length ps := by
 obtain ⟨h0,l1,r1,l2,r2,h1,h2,h3,h4,h5,h6,h7⟩ := h
 exact (h7.wide h3 h4 h0).places
theorem CacheOwn.later (h : CacheOwn lo hi w ai a am ys qs ps) {B : Nat} (hb : Below B w w') (hB : hi <= B) : CacheOwn lo hi w' ai a am ys qs ps := by
 obtain ⟨h0,l1,r1,l2,r2,h1,h2,h3,h4,h5,h6,h7⟩ := h
 exact ⟨Nat.le_trans h0 hb.size,l1,r1,l2,r2,h1,h2,h3,h4,h5,h6.later hb (by omega),h7.later hb (by omega)⟩
theorem CacheOwn.aside (h : CacheOwn lo hi w ai a am ys qs ps) {l r : Nat} (hb : Aside l r w w') (hB : r <= lo ∨ hi <= l) : CacheOwn lo hi w' ai a am ys qs ps := by
 obtain ⟨h0,l1,r1,l2,r2,h1,h2,h3,h4,h5,h6,h7⟩ := h
 exact ⟨Nat.le_trans h0 hb.size,l1,r1,l2,r2,h1,h2,h3,h4,h5,h6.aside hb (by omega),h7.aside hb (by omega)⟩
theorem CacheOwn.wide (h : CacheOwn lo hi w ai a am ys qs ps) {lo' hi' : Nat} (h1' : lo' <= lo) (h2' : hi <= hi') (h3' : hi' <= w.heap.size) : CacheOwn lo' hi' w ai a am ys qs ps := by
 obtain ⟨h0,l1,r1,l2,r2,h1,h2,h3,h4,h5,h6,h7⟩ := h
 exact ⟨h3',l1,r1,l2,r2,by omega,by omega,by omega,by omega,h5,h6,h7⟩
end
def cvV (c : Cv) (ai : Option Addr) (ci : Nat) (a : Option Addr) (cp : Nat) (am : Option Addr) (cm : Nat) : Value :=
 .agg #[.int .i64 c.rm,.slice ai c.ys.length ci,.int .i64 c.f.z,.slice a c.f.qs.length cp,.slice am c.f.ps.length cm,.int .i64 c.f.op,.int .i64 c.f.st]
def CacheAns (w : World) (c : Cv) (v : Value) (w' : World) : Prop := ∃ ai ci a cp am cm,v = cvV c ai ci a cp am cm ∧ CacheOwn w.heap.size w'.heap.size w' ai a am c.ys c.f.qs c.f.ps ∧ Below w.heap.size w w' ∧ c.f.ps.length <= cm
end Go.Proofs.YtgjoepdfhadmcaaGreatDoor
end

