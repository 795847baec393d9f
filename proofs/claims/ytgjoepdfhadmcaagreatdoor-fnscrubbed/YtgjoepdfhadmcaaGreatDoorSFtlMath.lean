/- Several texts in one: FtlMath, FtlPlan, FtlKeep, FtlRoom, FtlSpecA, FtlSpecC, FtlSpecD, Draw8g, Draw8h, Draw9, FtlSpecB, Draw8j. -/
import Derived.Test.YtgjoepdfhadmcaaGreatDoorSChipOwn2
import Derived.Test.YtgjoepdfhadmcaaGreatDoorSChipGrow
import Derived.Test.YtgjoepdfhadmcaaGreatDoorSPageMath
import Derived.Deep.RegionHeld3
import Derived.Deep.DeepCutAuto
import Derived.Deep.RegionWith
import Derived.Test.YtgjoepdfhadmcaaGreatDoorSDraw7
import Derived.Deep.RegionLaw
section
namespace Go.Proofs.YtgjoepdfhadmcaaGreatDoor
open Go.RowKit
set_option linter.unusedVariables false
def pgOf (z : Int) (qs : List Sq) (p : Pl) : Int × Int × Int × ByteArray × Int := lyP (pageAt z qs p.1 p.2)
def lyWell (k : Int) : Bool := (k == 1) || (k == 2)
def fpOk (z : Int) (qs : List Sq) (ps : List Pl) (st : Int) (i : Nat) : Bool :=
 (plAt ps i == (-1,0)) || (lyWell (pgOf z qs (plAt ps i)).2.2.2.2 && (((pgOf z qs (plAt ps i)).2.1 == (i : Int)) && !(decide ((pgOf z qs (plAt ps i)).2.2.1 > st))))
def opOk (qs : List Sq) (op : Int) : Bool := !(decide (op >= 0) && (sqAt qs op.toNat).2.2)
def ftlOk (z : Int) (qs : List Sq) (ps : List Pl) (op st : Int) : Bool :=
 mapOk z qs ps && (inB op (-1) ((qs.length : Int) - 1) && (inB st 0 1000000 && (opOk qs op && (List.range ps.length).all (fpOk z qs ps st))))
theorem ftlOk_map {z : Int} {qs : List Sq} {ps : List Pl} {op st : Int} (h : ftlOk z qs ps op st = true) : mapOk z qs ps = true := by
 unfold ftlOk at h; simp only [Bool.and_eq_true] at h; exact h.1
theorem ftlOk_fall {z : Int} {qs : List Sq} {ps : List Pl} {op st : Int} {i : Nat} (h : i < ps.length) (hf : fpOk z qs ps st i = false) : ftlOk z qs ps op st = false := by
 unfold ftlOk; rw [all_range_fall h hf]; simp
def ftlGet (z : Int) (qs : List Sq) (ps : List Pl) (op st at_ : Int) : ByteArray × Bool :=
 if ftlOk z qs ps op st && (inB at_ 0 ((ps.length : Int) - 1) && !(plAt ps at_.toNat == (-1,0))) then ((pgOf z qs (plAt ps at_.toNat)).2.2.2.1,(pgOf z qs (plAt ps at_.toNat)).1 == 1) else (ByteArray.empty,false)
theorem pageAt_size {z : Int} {qs : List Sq} {s p : Int} (h : chipOk z qs = true) : (pageAt z qs s p).size <= 200 := by
 unfold pageAt
 split
 ·rename_i hc
  simp only [Bool.and_eq_true] at hc
  have h1 := hc.2.1
  have h2 := hc.2.2
  unfold inB at h1 h2
  simp only [Bool.and_eq_true,decide_eq_true_eq] at h1 h2
  have hq : s.toNat < qs.length := by omega
  have hp : p.toNat < (sqAt qs s.toNat).1.length := by omega
  have h3 := (sqOk_parts (chipOk_at h hq)).2.2.2
  have h4 := h3 ((sqAt qs s.toNat).1.getD p.toNat ByteArray.empty) (by rw [List.getD_eq_getElem?_getD,List.getElem?_eq_getElem hp]; exact List.getElem_mem hp)
  exact h4.2
 ·exact Nat.zero_le _
end Go.Proofs.YtgjoepdfhadmcaaGreatDoor
end

section
namespace Go.Proofs.YtgjoepdfhadmcaaGreatDoor
open Go.RowKit
set_option linter.unusedVariables false
structure Kp where
 qs : List Sq
 ps : List Pl
 op : Int
 js : List Jb
def doK (z : Int) (s : Kp) (j : Jb) : Option Kp := if canJ z s.qs j then some ⟨doJ z s.qs j,s.ps,s.op,s.js ++ [j]⟩ else none
def nextP (s : Kp) : Pl := (s.op,((sqAt s.qs s.op.toNat).1.length : Int))
def putK (z : Int) (s : Kp) (i : Nat) (tx : ByteArray) : Option Kp := (doK z s (1,s.op,tx)).map fun s' => ⟨s'.qs,s'.ps.set i (nextP s),s'.op,s'.js⟩
def txAt (qs : List Sq) (v p : Nat) : ByteArray := (sqAt qs v).1.getD p ByteArray.empty
def moveI (z : Int) (v p : Nat) (s : Kp) : Nat -> Option Kp
 | 0 => some s
 | k + 1 => (moveI z v p s k).bind fun s' => if plAt s'.ps k = ((v : Int),(p : Int)) then putK z s' k (txAt s'.qs v p) else some s'
def moveP (z : Int) (v : Nat) (s : Kp) : Nat -> Option Kp
 | 0 => some s
 | k + 1 => (moveP z v s k).bind fun s' => moveI z v k s' s'.ps.length
def moveK (z : Int) (v : Nat) (s : Kp) : Option Kp := moveP z v s (sqAt s.qs v).1.length
def withOp (s : Kp) (o : Int) : Kp := ⟨s.qs,s.ps,o,s.js⟩
def stepK (z : Int) (s : Kp) : Option Kp :=
 if 2 <= (emptyK s.qs s.qs.length).length then some (withOp s (((emptyK s.qs s.qs.length).getD 0 0 : Nat) : Int))
 else if victimV z s.qs s.ps s.op < 0 then none
 else if 0 < liveN s.ps (victimV z s.qs s.ps s.op) then
  (if (emptyK s.qs s.qs.length).length = 0 then none else (moveK z (victimV z s.qs s.ps s.op).toNat (withOp s (((emptyK s.qs s.qs.length).getD 0 0 : Nat) : Int))).bind fun s' => doK z s' (2,victimV z s.qs s.ps s.op,ByteArray.empty))
 else doK z s (2,victimV z s.qs s.ps s.op,ByteArray.empty)
def roomy (z : Int) (s : Kp) : Bool := decide (0 <= s.op) && decide (((sqAt s.qs s.op.toNat).1.length : Int) < z)
def roomK (z : Int) : Nat -> Kp -> Option Kp
 | 0,s => if roomy z s then some s else none
 | k + 1,s => if roomy z s then some s else (stepK z s).bind (roomK z k)
def mayEnt (ps : List Pl) (st kd a : Int) (tx : ByteArray) : Bool := pageOk kd a (st + 1) tx && inB a 0 ((ps.length : Int) - 1)
def enterK (z : Int) (s : Kp) (st kd a : Int) (tx : ByteArray) : Option Kp :=
 if mayEnt s.ps st kd a tx then (roomK z 20 s).bind fun s' => putK z s' a.toNat (laid kd a (st + 1) tx) else none
theorem plThere_iff {qs : List Sq} {p : Pl} : plThere qs p = true ↔ ∃ s k : Nat,p = ((s : Int),(k : Int)) ∧ s < qs.length ∧ k < (sqAt qs s).1.length := by
 unfold plThere inB
 simp only [Bool.and_eq_true,decide_eq_true_eq]
 constructor
 ·rintro ⟨⟨h1,h2⟩,h3,h4⟩
  refine ⟨p.1.toNat,p.2.toNat,?_,by omega,by omega⟩
  obtain ⟨a,b⟩ := p
  simp only at h1 h3
  simp only [Prod.mk.injEq]
  omega
 ·rintro ⟨s,k,rfl,h1,h2⟩
  simp only [Int.toNat_natCast]
  omega
structure MapR (z : Int) (qs : List Sq) (ps : List Pl) : Prop where
 chip : chipOk z qs = true
 one : 1 <= ps.length
 few : ps.length <= 64
 there : ∀ i,i < ps.length -> plAt ps i = (-1,0) ∨ plThere qs (plAt ps i) = true
 apart : ∀ i j,i < ps.length -> j < ps.length -> i ≠ j -> plAt ps i = plAt ps j -> plAt ps i = (-1,0)
theorem mapR_of {z : Int} {qs : List Sq} {ps : List Pl} (h : mapOk z qs ps = true) : MapR z qs ps := by
 have hp := fun i (hi : i < ps.length) => plOk_at h hi
 have hp' : ∀ i,i < ps.length -> plAt ps i = (-1,0) ∨ (plThere qs (plAt ps i) = true ∧ ∀ k,k < i -> plAt ps k ≠ plAt ps i) := fun i hi => by
  have := hp i hi
  unfold plOk at this
  rw [Bool.or_eq_true,Bool.and_eq_true] at this
  rcases this with h1 | ⟨h1,h2⟩
  ·exact .inl (by simpa using h1)
  ·refine .inr ⟨h1,fun k hk e => ?_⟩
   have := List.all_eq_true.1 h2 k (List.mem_range.2 hk)
   simp [e] at this
 refine ⟨mapOk_chip h,(mapOk_len h).1,(mapOk_len h).2,fun i hi => (hp' i hi).imp id (·.1),fun i j hi hj hne he => ?_⟩
 rcases Nat.lt_or_gt_of_ne hne with hlt | hlt
 ·rcases hp' j hj with h1 | h1
  ·rw [he]; exact h1
  ·exact absurd he (h1.2 i hlt)
 ·rcases hp' i hi with h1 | h1
  ·exact h1
  ·exact absurd he.symm (h1.2 j hlt)
theorem MapR.ok {z : Int} {qs : List Sq} {ps : List Pl} (h : MapR z qs ps) : mapOk z qs ps = true := by
 unfold mapOk
 rw [h.chip,decide_eq_true h.one,decide_eq_true h.few,Bool.true_and,Bool.true_and,Bool.true_and,List.all_eq_true]
 intro i hi
 rw [List.mem_range] at hi
 unfold plOk
 rcases h.there i hi with h1 | h1
 ·rw [h1]; rfl
 ·by_cases e : plAt ps i = (-1,0)
  ·rw [e]; rfl
  ·rw [h1,Bool.true_and,Bool.or_eq_true]
   refine .inr (List.all_eq_true.2 fun k hk => ?_)
   rw [List.mem_range] at hk
   rw [bne_iff_ne]
   exact fun e' => e (h.apart i k hi (by omega) (by omega) e'.symm)
theorem plAt_set (ps : List Pl) {i : Nat} (x : Pl) (h : i < ps.length) (k : Nat) : plAt (ps.set i x) k = if k = i then x else plAt ps k := by
 unfold plAt
 rw [List.getD_eq_getElem?_getD,List.getElem?_set]
 by_cases e : k = i
 ·subst e; simp [h]
 ·rw [if_neg e,if_neg (Ne.symm e),List.getD_eq_getElem?_getD]
def txt (qs : List Sq) (p : Pl) : ByteArray := txAt qs p.1.toNat p.2.toNat
def sameAt (qs : List Sq) (ps : List Pl) (qs' : List Sq) (ps' : List Pl) (i : Nat) : Prop :=
 (plAt ps' i = (-1,0) ↔ plAt ps i = (-1,0)) ∧ (plAt ps i ≠ (-1,0) -> txt qs' (plAt ps' i) = txt qs (plAt ps i))
theorem sameAt_refl (qs : List Sq) (ps : List Pl) (i : Nat) : sameAt qs ps qs ps i := ⟨Iff.rfl,fun _ => rfl⟩
theorem sameAt_trans {qs qs' qs'' : List Sq} {ps ps' ps'' : List Pl} {i : Nat} (h : sameAt qs ps qs' ps' i) (k : sameAt qs' ps' qs'' ps'' i) : sameAt qs ps qs'' ps'' i :=
 ⟨k.1.trans h.1,fun hn => (k.2 (fun e => hn (h.1.1 e))).trans (h.2 hn)⟩
theorem ne_none {s : Nat} {k : Int} : ((s : Int),k) ≠ ((-1 : Int),(0 : Int)) := by
 intro e; simp only [Prod.mk.injEq] at e; omega
structure KOk (z : Int) (s : Kp) : Prop where
 map : MapR z s.qs s.ps
 lo : -1 <= s.op
 hi : s.op < (s.qs.length : Int)
 good : opOk s.qs s.op = true
theorem putK_parts {z : Int} {s s' : Kp} {i : Nat} {tx : ByteArray} (h : putK z s i tx = some s') :
  ∃ o : Nat,s.op = (o : Int) ∧ o < s.qs.length ∧ (sqAt s.qs o).2.2 = false ∧ ((sqAt s.qs o).1.length : Int) < z ∧ 1 <= tx.size ∧ tx.size <= 200 ∧ canJ z s.qs (1,(o : Int),tx) = true ∧
   s' = ⟨s.qs.set o ((sqAt s.qs o).1 ++ [tx],(sqAt s.qs o).2.1,(sqAt s.qs o).2.2),s.ps.set i ((o : Int),((sqAt s.qs o).1.length : Int)),(o : Int),s.js ++ [(1,(o : Int),tx)]⟩ := by
 unfold putK doK at h
 split at h
 ·rename_i hc
  obtain ⟨o,ho,hl,hb,hk⟩ := canJ_parts hc
  dsimp only at ho hk
  simp only [Option.map_some,Option.some.injEq] at h
  rw [ho] at hc
  rcases canK_kind hk with ⟨_,k1,k2,k3⟩ | ⟨k1,_⟩ | k1
  ·refine ⟨o,ho,hl,hb,k1,k2,k3,hc,?_⟩
   rw [<- h]
   unfold nextP
   simp only [ho,Int.toNat_natCast]
   rw [doJ_yes hc]
   rfl
  ·exact absurd k1 (by decide)
  ·exact absurd k1 (by decide)
 ·simp at h
theorem putK_ok {z : Int} {s s' : Kp} {i : Nat} {tx : ByteArray} (hK : KOk z s) (hi : i < s.ps.length) (h : putK z s i tx = some s') :
  KOk z s' ∧ s'.op = s.op ∧ s'.qs.length = s.qs.length ∧ s'.ps.length = s.ps.length ∧ (∀ q : Nat,(q : Int) ≠ s.op -> sqAt s'.qs q = sqAt s.qs q) ∧ (∀ j,j ≠ i -> plAt s'.ps j = plAt s.ps j) ∧ (∀ j,j < s.ps.length -> j ≠ i -> sameAt s.qs s.ps s'.qs s'.ps j) ∧ plAt s'.ps i = nextP s ∧ txt s'.qs (plAt s'.ps i) = tx := by
 obtain ⟨o,ho,hl,hb,hz,t1,t2,hc,rfl⟩ := putK_parts h
 have hm := hK.map
 have hnx : nextP s = ((o : Int),((sqAt s.qs o).1.length : Int)) := by unfold nextP; rw [ho,Int.toNat_natCast]
 have hsq : ∀ q,sqAt (s.qs.set o ((sqAt s.qs o).1 ++ [tx],(sqAt s.qs o).2.1,(sqAt s.qs o).2.2)) q = if q = o then ((sqAt s.qs o).1 ++ [tx],(sqAt s.qs o).2.1,(sqAt s.qs o).2.2) else sqAt s.qs q := fun q => sqAt_set s.qs _ hl q
 have hpl : ∀ j,plAt (s.ps.set i ((o : Int),((sqAt s.qs o).1.length : Int))) j = if j = i then ((o : Int),((sqAt s.qs o).1.length : Int)) else plAt s.ps j := fun j => plAt_set s.ps _ hi j
 have hth : ∀ p,plThere s.qs p = true -> plThere (s.qs.set o ((sqAt s.qs o).1 ++ [tx],(sqAt s.qs o).2.1,(sqAt s.qs o).2.2)) p = true ∧ txt (s.qs.set o ((sqAt s.qs o).1 ++ [tx],(sqAt s.qs o).2.1,(sqAt s.qs o).2.2)) p = txt s.qs p ∧ p ≠ ((o : Int),((sqAt s.qs o).1.length : Int)) := fun p hp => by
  obtain ⟨a,b,rfl,ha,hb'⟩ := plThere_iff.1 hp
  refine ⟨plThere_iff.2 ⟨a,b,rfl,by rw [List.length_set]; exact ha,?_⟩,?_,?_⟩
  ·rw [hsq]
   split
   ·rename_i e; subst e; simp; omega
   ·exact hb'
  ·unfold txt txAt
   simp only [Int.toNat_natCast]
   rw [hsq]
   split
   ·rename_i e
    subst e
    simp only [List.getD_eq_getElem?_getD]
    rw [List.getElem?_append_left hb']
   ·rfl
  ·intro e
   simp only [Prod.mk.injEq] at e
   have e1 : a = o := by omega
   subst e1
   omega
 refine ⟨⟨⟨?_,?_,?_,fun j hj => ?_,fun j k hj hk hne he => ?_⟩,by show -1 <= (o : Int); omega,by show (o : Int) < ((s.qs.set o _).length : Int); rw [List.length_set]; omega,?_⟩,ho.symm,List.length_set,List.length_set,fun q hq => ?_,fun j hj => ?_,fun j hj hne => ?_,?_,?_⟩
 ·have := doJ_ok (j := (1,(o : Int),tx)) hm.chip
  rw [doJ_yes hc] at this
  exact this
 ·rw [List.length_set]; exact hm.one
 ·rw [List.length_set]; exact hm.few
 ·dsimp only at hj ⊢
  rw [List.length_set] at hj
  rw [hpl]
  split
  ·refine .inr (plThere_iff.2 ⟨o,_,rfl,by rw [List.length_set]; exact hl,?_⟩)
   rw [hsq,if_pos rfl]
   simp
  ·exact (hm.there j hj).imp id (fun h' => (hth _ h').1)
 ·dsimp only at hj hk he ⊢
  rw [List.length_set] at hj hk
  rw [hpl,hpl] at he
  rw [hpl]
  by_cases e1 : j = i
  ·rw [if_pos e1] at he
   have e2 : k ≠ i := fun e => hne (e1.trans e.symm)
   rw [if_neg e2] at he
   rcases hm.there k hk with h1 | h1
   ·rw [h1] at he; exact absurd he ne_none
   ·exact absurd he.symm (hth _ h1).2.2
  ·rw [if_neg e1] at he ⊢
   by_cases e2 : k = i
   ·rw [if_pos e2] at he
    rcases hm.there j hj with h1 | h1
    ·exact h1
    ·exact absurd he (hth _ h1).2.2
   ·rw [if_neg e2] at he
    exact hm.apart j k hj hk hne he
 ·unfold opOk
  simp only [Int.toNat_natCast]
  rw [hsq,if_pos rfl,hb]
  simp
 ·dsimp only
  rw [hsq,if_neg]
  intro e
  rw [e,ho] at hq
  exact hq rfl
 ·dsimp only
  rw [hpl,if_neg hj]
 ·dsimp only
  unfold sameAt
  rw [hpl,if_neg hne]
  refine ⟨Iff.rfl,fun hn => ?_⟩
  rcases hm.there j hj with h1 | h1
  ·exact absurd h1 hn
  ·exact (hth _ h1).2.1
 ·dsimp only
  rw [hpl,if_pos rfl,hnx]
 ·dsimp only
  rw [hpl,if_pos rfl]
  unfold txt txAt
  simp only [Int.toNat_natCast]
  rw [hsq,if_pos rfl]
  simp
theorem moveI_none {z : Int} {v p : Nat} {s : Kp} : ∀ {k : Nat},(∀ i,i < k -> plAt s.ps i ≠ ((v : Int),(p : Int))) -> moveI z v p s k = some s
 | 0,_ => rfl
 | k + 1,h => by
  unfold moveI
  rw [moveI_none (fun i hi => h i (by omega)),Option.bind_some,if_neg (h k (by omega))]
theorem moveI_one {z : Int} {v p : Nat} {s : Kp} (hK : KOk z s) {i : Nat} (he : plAt s.ps i = ((v : Int),(p : Int))) : ∀ {k : Nat},i < k -> k <= s.ps.length -> moveI z v p s k = putK z s i (txAt s.qs v p)
 | 0,h,_ => absurd h (by omega)
 | k + 1,h,hk => by
  have hu : ∀ j,j < s.ps.length -> plAt s.ps j = ((v : Int),(p : Int)) -> j = i := fun j hj e => by
   by_cases e' : j = i
   ·exact e'
   ·have := hK.map.apart j i hj (by omega) e' (by rw [e,he])
    rw [e] at this
    exact absurd this ne_none
  unfold moveI
  by_cases e : i = k
  ·subst e
   rw [moveI_none (fun j hj e' => by have := hu j (by omega) e'; omega),Option.bind_some,if_pos he]
  ·rw [moveI_one hK he (by omega) (by omega)]
   cases hp : putK z s i (txAt s.qs v p) with
   | none => rfl
   | some s' =>
    rw [Option.bind_some,if_neg]
    rw [(putK_ok hK (by omega) hp).2.2.2.2.2.1 k (fun e' => e e'.symm)]
    exact fun e' => e (hu k (by omega) e').symm
structure Moved (z : Int) (v k : Nat) (s s' : Kp) : Prop where
 ok : KOk z s'
 op : s'.op = s.op
 squares : s'.qs.length = s.qs.length
 places : s'.ps.length = s.ps.length
 other : ∀ q : Nat,(q : Int) ≠ s.op -> sqAt s'.qs q = sqAt s.qs q
 same : ∀ i,i < s.ps.length -> sameAt s.qs s.ps s'.qs s'.ps i
 gone : ∀ i p,p < k -> i < s.ps.length -> plAt s'.ps i ≠ ((v : Int),(p : Int))
theorem moveI_moved {z : Int} {v k : Nat} {s s' s'' : Kp} (hv : (v : Int) ≠ s.op) (hM : Moved z v k s s') (h : moveI z v k s' s'.ps.length = some s'') : Moved z v (k + 1) s s'' := by
 by_cases hex : ∃ i,i < s'.ps.length ∧ plAt s'.ps i = ((v : Int),(k : Int))
 ·obtain ⟨i,hi,he⟩ := hex
  rw [moveI_one hM.ok he hi (Nat.le_refl _)] at h
  obtain ⟨h1,h2,h3,h4,h5,h6,h7,h8,h9⟩ := putK_ok hM.ok hi h
  refine ⟨h1,h2.trans hM.op,h3.trans hM.squares,h4.trans hM.places,fun q hq => (h5 q (by rw [hM.op]; exact hq)).trans (hM.other q hq),fun j hj => ?_,fun j p hp hj => ?_⟩
  ·by_cases e : j = i
   ·subst e
    refine sameAt_trans (hM.same j hj) ⟨?_,fun _ => ?_⟩
    ·rw [h8,he]
     constructor
     ·intro e
      have hop := hM.ok
      unfold nextP at e
      simp only [Prod.mk.injEq] at e
      obtain ⟨o,ho,_⟩ := putK_parts h
      omega
     ·intro e
      exact absurd e ne_none
    ·rw [h9,he]
     rfl
   ·exact sameAt_trans (hM.same j hj) (h7 j (by rw [hM.places]; exact hj) e)
  ·by_cases e : j = i
   ·subst e
    rw [h8]
    unfold nextP
    intro e
    simp only [Prod.mk.injEq] at e
    exact hv (by rw [<- hM.op]; exact e.1.symm)
   ·rw [h6 j e]
    by_cases e2 : p = k
    ·subst e2
     intro e3
     have := hM.ok.map.apart j i (by rw [hM.places]; exact hj) hi e (by rw [e3,he])
     rw [e3] at this
     exact absurd this ne_none
    ·exact hM.gone j p (by omega) hj
 ·have hno : ∀ i,i < s'.ps.length -> plAt s'.ps i ≠ ((v : Int),(k : Int)) := fun i hi e => hex ⟨i,hi,e⟩
  rw [moveI_none hno] at h
  simp only [Option.some.injEq] at h
  subst h
  refine ⟨hM.ok,hM.op,hM.squares,hM.places,hM.other,hM.same,fun i p hp hi => ?_⟩
  by_cases e : p = k
  ·subst e; exact hno i (by rw [hM.places]; exact hi)
  ·exact hM.gone i p (by omega) hi
theorem moveP_moved {z : Int} {v : Nat} {s : Kp} (hK : KOk z s) (hv : (v : Int) ≠ s.op) : ∀ {k : Nat} {s' : Kp},moveP z v s k = some s' -> Moved z v k s s'
 | 0,s',h => by
  unfold moveP at h
  simp only [Option.some.injEq] at h
  subst h
  exact ⟨hK,rfl,rfl,rfl,fun _ _ => rfl,fun i _ => sameAt_refl _ _ i,fun _ _ hp => absurd hp (by omega)⟩
 | k + 1,s',h => by
  unfold moveP at h
  cases hp : moveP z v s k with
  | none => rw [hp] at h; cases h
  | some t =>
   rw [hp,Option.bind_some] at h
   exact moveI_moved hv (moveP_moved hK hv hp) h
theorem moveK_gone {z : Int} {v : Nat} {s s' : Kp} (hK : KOk z s) (hv : (v : Int) ≠ s.op) (h : moveK z v s = some s') : ∀ i,i < s'.ps.length -> (plAt s'.ps i).1 ≠ (v : Int) := by
 intro i hi e
 have hM := moveP_moved hK hv h
 rcases hM.ok.map.there i hi with h1 | h1
 ·rw [h1] at e
  have : (-1 : Int) = (v : Int) := e
  omega
 ·obtain ⟨a,b,h2,h3,h4⟩ := plThere_iff.1 h1
  rw [h2] at e
  have ea : a = v := by have : (a : Int) = (v : Int) := e; omega
  subst ea
  rw [hM.other a hv] at h4
  exact hM.gone i b h4 (by rw [<- hM.places]; exact hi) h2
theorem liveN_zero {ps : List Pl} {v : Int} : liveN ps v = 0 ↔ ∀ i,i < ps.length -> (plAt ps i).1 ≠ v := by
 unfold liveN
 rw [List.length_eq_zero_iff,List.filter_eq_nil_iff]
 constructor
 ·intro h i hi e
  refine h (plAt ps i) ?_ (by simp [e])
  unfold plAt
  rw [List.getD_eq_getElem?_getD,List.getElem?_eq_getElem hi]
  exact List.getElem_mem hi
 ·intro h p hp hh
  obtain ⟨i,hi,e⟩ := List.getElem_of_mem hp
  refine h i hi ?_
  unfold plAt
  rw [List.getD_eq_getElem?_getD,List.getElem?_eq_getElem hi]
  simp only [Option.getD_some]
  rw [e]
  simpa using hh
theorem wipe_parts {z : Int} {s s' : Kp} {v : Nat} (h : doK z s (2,(v : Int),ByteArray.empty) = some s') :
  v < s.qs.length ∧ (sqAt s.qs v).2.2 = false ∧ (sqAt s.qs v).2.1 < 1000000 ∧ canJ z s.qs (2,(v : Int),ByteArray.empty) = true ∧ s' = ⟨s.qs.set v ([],(sqAt s.qs v).2.1 + 1,(sqAt s.qs v).2.2),s.ps,s.op,s.js ++ [(2,(v : Int),ByteArray.empty)]⟩ := by
 unfold doK at h
 split at h
 ·rename_i hc
  obtain ⟨o,ho,hl,hb,hk⟩ := canJ_parts hc
  dsimp only at ho hk
  have e : o = v := by omega
  subst e
  simp only [Option.some.injEq] at h
  rcases canK_kind hk with ⟨k1,_⟩ | ⟨_,k1⟩ | k1
  ·exact absurd k1 (by decide)
  ·refine ⟨hl,hb,k1,hc,?_⟩
   rw [<- h,doJ_yes hc]
   rfl
  ·exact absurd k1 (by decide)
 ·simp at h
theorem wipe_ok {z : Int} {s s' : Kp} {v : Nat} (hK : KOk z s) (hv : ∀ i,i < s.ps.length -> (plAt s.ps i).1 ≠ (v : Int)) (h : doK z s (2,(v : Int),ByteArray.empty) = some s') :
  KOk z s' ∧ s'.op = s.op ∧ s'.qs.length = s.qs.length ∧ s'.ps = s.ps ∧ (∀ q : Nat,q ≠ v -> sqAt s'.qs q = sqAt s.qs q) ∧ (∀ j,j < s.ps.length -> sameAt s.qs s.ps s'.qs s'.ps j) := by
 obtain ⟨hl,hb,hw,hc,rfl⟩ := wipe_parts h
 have hm := hK.map
 have hsq : ∀ q,sqAt (s.qs.set v ([],(sqAt s.qs v).2.1 + 1,(sqAt s.qs v).2.2)) q = if q = v then ([],(sqAt s.qs v).2.1 + 1,(sqAt s.qs v).2.2) else sqAt s.qs q := fun q => sqAt_set s.qs _ hl q
 have hne : ∀ i a b : Nat,i < s.ps.length -> plAt s.ps i = ((a : Int),(b : Int)) -> a ≠ v := fun i a b hi e e' => hv i hi (by rw [e,e'])
 refine ⟨⟨⟨?_,hm.one,hm.few,fun j hj => ?_,hm.apart⟩,hK.lo,by show s.op < ((s.qs.set v _).length : Int); rw [List.length_set]; exact hK.hi,?_⟩,rfl,List.length_set,rfl,fun q hq => by dsimp only; rw [hsq,if_neg hq],fun j hj => ⟨Iff.rfl,fun hn => ?_⟩⟩
 ·have := doJ_ok (j := (2,(v : Int),ByteArray.empty)) hm.chip
  rw [doJ_yes hc] at this
  exact this
 ·refine (hm.there j hj).imp id fun h1 => ?_
  obtain ⟨a,b,h2,h3,h4⟩ := plThere_iff.1 h1
  have := hne j a b hj h2
  exact plThere_iff.2 ⟨a,b,h2,by rw [List.length_set]; exact h3,by rw [hsq,if_neg this]; exact h4⟩
 ·have := hK.good
  unfold opOk at this ⊢
  dsimp only
  rw [hsq]
  split
  ·rename_i e
   rw [hb]; simp
  ·exact this
 ·rcases hm.there j hj with h1 | h1
  ·exact absurd h1 hn
  ·obtain ⟨a,b,h2,h3,h4⟩ := plThere_iff.1 h1
   dsimp only
   rw [h2]
   unfold txt txAt
   simp only [Int.toNat_natCast]
   rw [hsq,if_neg (hne j a b hj h2)]
theorem doK_op {z : Int} {s s' : Kp} {j : Jb} (h : doK z s j = some s') : s'.op = s.op ∧ s'.ps = s.ps := by
 unfold doK at h; split at h
 ·simp only [Option.some.injEq] at h; rw [<- h]; exact ⟨rfl,rfl⟩
 ·cases h
theorem empty_first {qs : List Sq} (h : 0 < (emptyK qs qs.length).length) : (emptyK qs qs.length).getD 0 0 < qs.length ∧ (sqAt qs ((emptyK qs qs.length).getD 0 0)).1.length = 0 ∧ (sqAt qs ((emptyK qs qs.length).getD 0 0)).2.2 = false := by
 have hm : (emptyK qs qs.length).getD 0 0 ∈ emptyK qs qs.length := by
  rw [List.getD_eq_getElem?_getD,List.getElem?_eq_getElem h]; exact List.getElem_mem h
 have := (emptyK_mem qs qs.length _).1 hm
 refine ⟨this.1,?_⟩
 have h2 := this.2
 unfold isEmpty at h2
 simpa using h2
theorem withOp_ok {z : Int} {s : Kp} (hK : KOk z s) {o : Nat} (ho : o < s.qs.length) (hb : (sqAt s.qs o).2.2 = false) : KOk z (withOp s (o : Int)) :=
 ⟨hK.map,by show -1 <= (o : Int); omega,by show (o : Int) < (s.qs.length : Int); omega,by unfold opOk withOp; simp [hb]⟩
theorem victim_parts {z : Int} {qs : List Sq} {ps : List Pl} {op : Int} (hm : MapR z qs ps) (h : ¬ victimV z qs ps op < 0) : ∃ v : Nat,victimV z qs ps op = (v : Int) ∧ v < qs.length ∧ (v : Int) ≠ op ∧ 0 < (sqAt qs v).1.length ∧ (sqAt qs v).2.2 = false ∧ (liveN ps (v : Int) : Int) < z ∧ ∀ i,i < qs.length -> (i : Int) ≠ op -> 0 < (sqAt qs i).1.length -> (sqAt qs i).2.2 = false -> liveN ps (v : Int) <= liveN ps (i : Int) := by
 have e : victim z qs ps op = victimV z qs ps op := by unfold victim; rw [hm.ok]; rfl
 obtain ⟨b,h1,h2,h3,h4,h5,h6,h7,h8⟩ := victim_at (z := z) (qs := qs) (ps := ps) (op := op) (by rw [e]; omega)
 exact ⟨b,by rw [<- e]; exact h1,h3,h4,h6,h7,h5,h8⟩
structure Stepped (z : Int) (s s' : Kp) : Prop where
 ok : KOk z s'
 squares : s'.qs.length = s.qs.length
 places : s'.ps.length = s.ps.length
 same : ∀ i,i < s.ps.length -> sameAt s.qs s.ps s'.qs s'.ps i
theorem Stepped.refl {z : Int} {s : Kp} (h : KOk z s) : Stepped z s s := ⟨h,rfl,rfl,fun i _ => sameAt_refl _ _ i⟩
theorem Stepped.trans {z : Int} {s s' s'' : Kp} (h : Stepped z s s') (k : Stepped z s' s'') : Stepped z s s'' :=
 ⟨k.ok,k.squares.trans h.squares,k.places.trans h.places,fun i hi => sameAt_trans (h.same i hi) (k.same i (by rw [h.places]; exact hi))⟩
theorem stepK_ok {z : Int} {s s' : Kp} (hK : KOk z s) (h : stepK z s = some s') : Stepped z s s' := by
 unfold stepK at h
 split at h
 ·rename_i h2
  simp only [Option.some.injEq] at h
  obtain ⟨e1,e2,e3⟩ := empty_first (qs := s.qs) (by omega)
  subst h
  exact ⟨withOp_ok hK e1 e3,rfl,rfl,fun i _ => sameAt_refl _ _ i⟩
 ·split at h
  ·cases h
  ·rename_i hv
   obtain ⟨v,ev,hvl,hvo,hvp,hvb,_,_⟩ := victim_parts hK.map hv
   rw [ev] at h
   split at h
   ·rename_i hlive
    split at h
    ·cases h
    ·rename_i he
     obtain ⟨e1,e2,e3⟩ := empty_first (qs := s.qs) (by omega)
     have hK' := withOp_ok hK e1 e3
     rw [Int.toNat_natCast] at h
     have hne : (v : Int) ≠ (withOp s (((emptyK s.qs s.qs.length).getD 0 0 : Nat) : Int)).op := by
      show (v : Int) ≠ (((emptyK s.qs s.qs.length).getD 0 0 : Nat) : Int)
      intro e
      have : v = (emptyK s.qs s.qs.length).getD 0 0 := by omega
      rw [<- this] at e2
      omega
     cases hmv : moveK z v (withOp s (((emptyK s.qs s.qs.length).getD 0 0 : Nat) : Int)) with
     | none => rw [hmv] at h; cases h
     | some t =>
      rw [hmv,Option.bind_some] at h
      have hM := moveP_moved hK' hne hmv
      obtain ⟨w1,w2,w3,w4,w5,w6⟩ := wipe_ok hM.ok (moveK_gone hK' hne hmv) h
      exact ⟨w1,w3.trans hM.squares,(by rw [w4]; exact hM.places),fun i hi => sameAt_trans (hM.same i hi) (w6 i (by rw [hM.places]; exact hi))⟩
   ·rename_i hlive
    obtain ⟨w1,w2,w3,w4,w5,w6⟩ := wipe_ok hK (liveN_zero.1 (by omega)) h
    exact ⟨w1,w3,by rw [w4],w6⟩
theorem roomK_ok {z : Int} : ∀ {k : Nat} {s s' : Kp},KOk z s -> roomK z k s = some s' -> Stepped z s s' ∧ roomy z s' = true
 | 0,s,s',hK,h => by
  unfold roomK at h
  split at h
  ·rename_i hr
   simp only [Option.some.injEq] at h
   subst h
   exact ⟨Stepped.refl hK,hr⟩
  ·cases h
 | k + 1,s,s',hK,h => by
  unfold roomK at h
  split at h
  ·rename_i hr
   simp only [Option.some.injEq] at h
   subst h
   exact ⟨Stepped.refl hK,hr⟩
  ·cases hs : stepK z s with
   | none => rw [hs] at h; cases h
   | some t =>
    rw [hs,Option.bind_some] at h
    have h1 := stepK_ok hK hs
    obtain ⟨h2,h3⟩ := roomK_ok h1.ok h
    exact ⟨h1.trans h2,h3⟩
end Go.Proofs.YtgjoepdfhadmcaaGreatDoor
end

section
namespace Go.Proofs.YtgjoepdfhadmcaaGreatDoor
open Go.RowKit
set_option linter.unusedVariables false
def jbL (js : List Jb) : List Value := (List.range (js.length * 3)).map (cellJ js)
theorem jbL_length (js : List Jb) : (jbL js).length = js.length * 3 := by simp [jbL]
theorem jbL_at (js : List Jb) {j : Nat} (h : j < js.length * 3) : (jbL js)[j]? = some (cellJ js j) := by
 unfold jbL; rw [List.getElem?_map,List.getElem?_range h]; rfl
theorem jbAt_snoc_lt (js : List Jb) (x : Jb) {i : Nat} (h : i < js.length) : jbAt (js ++ [x]) i = jbAt js i := by
 unfold jbAt; rw [List.getD_eq_getElem?_getD,List.getD_eq_getElem?_getD,List.getElem?_append_left h]
theorem jbAt_snoc (js : List Jb) (x : Jb) : jbAt (js ++ [x]) js.length = x := by
 unfold jbAt; rw [List.getD_eq_getElem?_getD,List.getElem?_append_right (Nat.le_refl _)]; simp
theorem jbL_snoc (js : List Jb) (x : Jb) : jbL js ++ [.int .i64 x.1,.int .i64 x.2.1,.string x.2.2] = jbL (js ++ [x]) := by
 have hlen : (js ++ [x]).length = js.length + 1 := by simp
 refine List.ext_getElem? fun j => ?_
 by_cases h : j < js.length * 3
 ·rw [List.getElem?_append_left (by rw [jbL_length]; exact h),jbL_at js h,jbL_at _ (by rw [hlen]; omega)]
  unfold cellJ
  rw [jbAt_snoc_lt js x (show j / 3 < js.length by omega)]
 ·rw [List.getElem?_append_right (by rw [jbL_length]; omega),jbL_length]
  by_cases e0 : j = js.length * 3
  ·subst e0
   rw [jbL_at _ (by rw [hlen]; omega)]
   unfold cellJ
   rw [if_pos (by omega),show js.length * 3 / 3 = js.length by omega,jbAt_snoc]
   simp
  ·by_cases e1 : j = js.length * 3 + 1
   ·subst e1
    rw [jbL_at _ (by rw [hlen]; omega)]
    unfold cellJ
    rw [if_neg (by omega),if_pos (by omega),show (js.length * 3 + 1) / 3 = js.length by omega,jbAt_snoc]
    simp
   ·by_cases e2 : j = js.length * 3 + 2
    ·subst e2
     rw [jbL_at _ (by rw [hlen]; omega)]
     unfold cellJ
     rw [if_neg (by omega),if_neg (by omega),show (js.length * 3 + 2) / 3 = js.length by omega,jbAt_snoc]
     simp
    ·rw [List.getElem?_eq_none (by simp; omega),List.getElem?_eq_none (by rw [jbL_length,hlen]; omega)]
abbrev JbOwn (B : Nat) (w : World) (v : Value) (js : List Jb) : Prop := w.ownsRow B 98 3 v js.length (jbL js)
theorem jb_form {B : Nat} {w : World} {v : Value} {js : List Jb} (h : JbOwn B w v js) : ∃ a c,v = .slice a js.length c ∧ js.length <= c := by
 rcases h.2 with ⟨e,h0⟩ | ⟨g,cap,cur,e,_,_,hn,_⟩
 ·exact ⟨none,0,by rw [e,h0],by omega⟩
 ·exact ⟨_,cap,e,hn⟩
theorem job_one (kd sq : Int) (tx : ByteArray) : ∀ u ∈ [Value.int .i64 kd,.int .i64 sq,.string tx],u.oneCell' = true := by
 intro u hu
 simp only [List.mem_cons,List.not_mem_nil,or_false] at hu
 rcases hu with rfl | rfl | rfl <;> rfl
theorem cellP_set (ps : List Pl) {i : Nat} (hi : i < ps.length) (x : Pl) (j : Nat) : cellP (ps.set i x) j = if j = 2 * i then .int .i64 x.1 else if j = 2 * i + 1 then .int .i64 x.2 else cellP ps j := by
 by_cases e0 : j = 2 * i
 ·subst e0; rw [if_pos rfl,cellP0,plAt_set ps x hi,if_pos rfl]
 ·rw [if_neg e0]
  by_cases e1 : j = 2 * i + 1
  ·subst e1; rw [if_pos rfl,cellP1,plAt_set ps x hi,if_pos rfl]
  ·rw [if_neg e1]
   unfold cellP
   rw [plAt_set ps x hi,if_neg (show ¬ j / 2 = i by omega)]
theorem plL_set (ps : List Pl) {i : Nat} (hi : i < ps.length) (x : Pl) : ((plL ps).set (2 * i) (.int .i64 x.1)).set (2 * i + 1) (.int .i64 x.2) = plL (ps.set i x) := by
 refine List.ext_getElem? fun j => ?_
 by_cases h : j < ps.length * 2
 ·rw [plL_at _ (by rw [List.length_set]; exact h),cellP_set ps hi x]
  rw [List.getElem?_set,List.getElem?_set]
  simp only [List.length_set,plL_length]
  by_cases e1 : j = 2 * i + 1
  ·subst e1
   rw [if_pos rfl,if_pos h,if_neg (by omega),if_pos rfl]
  ·rw [if_neg (fun e => e1 e.symm),if_neg e1]
   by_cases e0 : j = 2 * i
   ·subst e0
    rw [if_pos rfl,if_pos h,if_pos rfl]
   ·rw [if_neg (fun e => e0 e.symm),if_neg e0,plL_at ps h]
 ·rw [List.getElem?_eq_none (by simp [plL_length]; omega),List.getElem?_eq_none (by rw [plL_length,List.length_set]; omega)]
theorem PlOwn.set {B gm cm : Nat} {w : World} {ps : List Pl} (h : PlOwn B w (.slice (some ⟨gm,0,none⟩) ps.length cm) ps) {i : Nat} (hi : i < ps.length) (x : Pl) :
  PlOwn B ((w.setCell ⟨gm,2 * i,none⟩ (.int .i64 x.1)).setCell ⟨gm,2 * i + 1,none⟩ (.int .i64 x.2)) (.slice (some ⟨gm,0,none⟩) (ps.set i x).length cm) (ps.set i x) := by
 obtain ⟨h1,g1⟩ := World.ownsRow.stored h (2 * i) (.int .i64 x.1)
 obtain ⟨h2,g2⟩ := World.ownsRow.stored h1 (2 * i + 1) (.int .i64 x.2)
 show World.ownsRow _ _ _ _ (.slice (some ⟨gm,0,none⟩) (ps.set i x).length cm) (ps.set i x).length (plL (ps.set i x))
 rw [<- plL_set ps hi x,List.length_set]
 exact h2
theorem GrowSqs.keep {B n g : Nat} {w w' : World} {qs : List Sq} {A : Nat -> Option Addr} {C : Nat -> Nat} (h : GrowSqs B w n qs g A C) {row : Option Nat} (hg : w.grownBy w' row) (h1 : row ≠ some g) (h2 : ∀ k,row = some k -> ∃ cs T fr,w.heap[k]? = some (.cells cs T fr) ∧ T ≠ 9) : GrowSqs B w' n qs g A C := by
 have hs := h.row.1
 refine ⟨h.len,h.row.of hg.size (fun k h3 h4 => hg.block k (by omega) (fun e => h1 (by rw [<- e]; congr 1; omega))),h.pages.keep hg (fun i m hi hm e => ?_),h.atG,h.apartG⟩
 obtain ⟨cs,T,fr,h3,h4⟩ := h2 m e
 exact pg_ne (h.pages.own i hi) h3 h4 hm
theorem own_keepBy {w w' : World} {base e s n : Nat} {v : Value} {xs : List Value} (h : w.ownsRow base e s v n xs) {row : Option Nat} (hg : w.grownBy w' row) (h2 : ∀ k,row = some k -> ∃ cs T fr,w.heap[k]? = some (.cells cs T fr) ∧ T ≠ e) : w'.ownsRow base e s v n xs := by
 refine h.kept hg ?_
 cases hb : v.ownBlock with
 | none => exact .inl rfl
 | some k =>
  refine .inr (fun e' => ?_)
  obtain ⟨cs,T,fr,h3,h4⟩ := h2 k e'.symm
  obtain ⟨cs',fz,h5⟩ := Go.Lib.ownsRow_kind h k hb
  rw [h3] at h5
  simp only [Option.some.injEq,Obj.cells.injEq] at h5
  exact h4 h5.2.1
structure KpMem (B : Nat) (w : World) (n g gm cm : Nat) (A : Nat -> Option Addr) (C : Nat -> Nat) (V : Value) (s : Kp) : Prop where
 sq : GrowSqs B w n s.qs g A C
 pl : PlOwn B w (.slice (some ⟨gm,0,none⟩) s.ps.length cm) s.ps
 jb : JbOwn B w V s.js
 ne : gm ≠ g
 nj : V.ownBlock ≠ some g
section
variable {B n g gm cm : Nat} {w w' : World} {A : Nat -> Option Addr} {C : Nat -> Nat} {V : Value} {s : Kp}
theorem KpMem.kind (h : KpMem B w n g gm cm A C V s) : ∃ cs fz,w.heap[gm]? = some (.cells cs 39 fz) := Go.Lib.ownsRow_kind h.pl gm rfl
theorem KpMem.later (h : KpMem B w n g gm cm A C V s) (hb : Below w.heap.size w w') : KpMem B w' n g gm cm A C V s :=
 ⟨h.sq.later hb,own_keepBy h.pl (grown_below hb none) (fun k e => by cases e),own_keepBy h.jb (grown_below hb none) (fun k e => by cases e),h.ne,h.nj⟩
theorem KpMem.keep (h : KpMem B w n g gm cm A C V s) {p : Nat} (hg : w.grownBy w' (some p)) (hp : p ≠ g) {cs : Array Value} {T : TypeId} {fr : Nat × Nat} (hT : w.heap[p]? = some (.cells cs T fr)) (h1 : T ≠ 9) (h2 : T ≠ 39) (h3 : T ≠ 98) : KpMem B w' n g gm cm A C V s :=
 ⟨h.sq.keep hg (fun e => hp (by simpa using e)) (fun k e => by simp only [Option.some.injEq] at e; subst e; exact ⟨_,_,_,hT,h1⟩),own_keepBy h.pl hg (fun k e => by simp only [Option.some.injEq] at e; subst e; exact ⟨_,_,_,hT,h2⟩),own_keepBy h.jb hg (fun k e => by simp only [Option.some.injEq] at e; subst e; exact ⟨_,_,_,hT,h3⟩),h.ne,h.nj⟩
theorem KpMem.set (h : KpMem B w n g gm cm A C V s) {p o : Nat} (v : Value) (hp : p ≠ g) {cs : Array Value} {T : TypeId} {fr : Nat × Nat} (hT : w.heap[p]? = some (.cells cs T fr)) (h1 : T ≠ 9) (h2 : T ≠ 39) (h3 : T ≠ 98) : KpMem B (w.setCell ⟨p,o,none⟩ v) n g gm cm A C V s :=
 h.keep (grown_set w ⟨p,o,none⟩ v) hp hT h1 h2 h3
theorem KpMem.did (h : KpMem B w n g gm cm A C V s) {qs' : List Sq} {A' : Nat -> Option Addr} {C' : Nat -> Nat} (hG : GrowSqs B w' n qs' g A' C') (hO : Only B g w w') (hB : B <= w.heap.size) : KpMem B w' n g gm cm A' C' V ⟨qs',s.ps,s.op,s.js⟩ := by
 have hk : ∀ {e sz n' : Nat} {v : Value} {xs : List Value},w.ownsRow B e sz v n' xs -> e ≠ 9 -> v.ownBlock ≠ some g -> w'.ownsRow B e sz v n' xs := by
  intro e sz n' v xs ho hT hb
  refine ⟨ho.1,?_⟩
  rcases ho.2 with h' | ⟨p,cap,cur,e',h1,h2,h3⟩
  ·exact .inl h'
  ·refine .inr ⟨p,cap,cur,e',h1,hO.other p _ _ _ (fun e2 => hb ?_) hT h2,h3⟩
   rw [e',e2]; rfl
 exact ⟨hG,hk h.pl (by decide) (fun e => h.ne (by simpa [Value.ownBlock] using e)),hk h.jb (by decide) h.nj,h.ne,h.nj⟩
theorem KpMem.noted (h : KpMem B w n g gm cm A C V s) {V' : Value} {j : Jb} (hg : w.grownBy w' V.ownBlock) (ho : JbOwn B w' V' (s.js ++ [j])) (hat : V'.ownBlock = V.ownBlock ∨ ∃ k,V'.ownBlock = some k ∧ w.heap.size <= k) : KpMem B w' n g gm cm A C V' ⟨s.qs,s.ps,s.op,s.js ++ [j]⟩ := by
 have hk : ∀ k,V.ownBlock = some k -> ∃ cs T fr,w.heap[k]? = some (.cells cs T fr) ∧ T = 98 := fun k e => by
  obtain ⟨cs,fz,h2⟩ := Go.Lib.ownsRow_kind h.jb k e
  exact ⟨cs,_,fz,h2,rfl⟩
 refine ⟨h.sq.keep hg h.nj (fun k e => by obtain ⟨cs,T,fr,h1,h2⟩ := hk k e; exact ⟨cs,T,fr,h1,by rw [h2]; decide⟩),own_keepBy h.pl hg (fun k e => by obtain ⟨cs,T,fr,h1,h2⟩ := hk k e; exact ⟨cs,T,fr,h1,by rw [h2]; decide⟩),ho,h.ne,fun e => ?_⟩
 rcases hat with h1 | ⟨k,h1,h2⟩
 ·rw [h1] at e; exact h.nj e
 ·rw [h1] at e
  simp only [Option.some.injEq] at e
  have := h.sq.row.1
  omega
theorem KpMem.led (h : KpMem B w n g gm cm A C V s) {i : Nat} (hi : i < s.ps.length) (x : Pl) : KpMem B ((w.setCell ⟨gm,i * 2,none⟩ (.int .i64 x.1)).setCell ⟨gm,i * 2 + 1,none⟩ (.int .i64 x.2)) n g gm cm A C V ⟨s.qs,s.ps.set i x,s.op,s.js⟩ := by
 rw [Nat.mul_comm i 2]
 obtain ⟨cs,fz,hk⟩ := h.kind
 have g1 := grown_set w ⟨gm,2 * i,none⟩ (.int .i64 x.1)
 have g2 := grown_set (w.setCell ⟨gm,2 * i,none⟩ (.int .i64 x.1)) ⟨gm,2 * i + 1,none⟩ (.int .i64 x.2)
 obtain ⟨h1,_⟩ := World.ownsRow.stored h.pl (2 * i) (.int .i64 x.1)
 obtain ⟨cs',fz',hk'⟩ := Go.Lib.ownsRow_kind h1 gm rfl
 refine ⟨(h.sq.keep g1 (fun e => h.ne (by simpa using e)) (fun k e => by simp only [Option.some.injEq] at e; subst e; exact ⟨_,_,_,hk,by decide⟩)).keep g2 (fun e => h.ne (by simpa using e)) (fun k e => by simp only [Option.some.injEq] at e; subst e; exact ⟨_,_,_,hk',by decide⟩),PlOwn.set h.pl hi x,own_keepBy (own_keepBy h.jb g1 (fun k e => by simp only [Option.some.injEq] at e; subst e; exact ⟨_,_,_,hk,by decide⟩)) g2 (fun k e => by simp only [Option.some.injEq] at e; subst e; exact ⟨_,_,_,hk',by decide⟩),h.ne,h.nj⟩
theorem KpMem.cells (h : KpMem B w n g gm cm A C V s) {i : Nat} (hi : i < s.ps.length) : w.cell? ⟨gm,i * 2,none⟩ = some (.int .i64 (plAt s.ps i).1) ∧ w.cell? ⟨gm,i * 2 + 1,none⟩ = some (.int .i64 (plAt s.ps i).2) ∧ w.frozen? ⟨gm,i * 2,none⟩ = false ∧ w.frozen? ⟨gm,i * 2 + 1,none⟩ = false := by
 rw [Nat.mul_comm i 2]
 have c0 := World.ownsRow.cellAt h.pl (2 * i) (by omega)
 have c1 := World.ownsRow.cellAt h.pl (2 * i + 1) (by omega)
 rw [plL_at s.ps (by omega),cellP0] at c0
 rw [plL_at s.ps (by omega),cellP1] at c1
 exact ⟨c0,c1,World.ownsRow.frozenAt h.pl _,World.ownsRow.frozenAt h.pl _⟩
end
structure Frame (B : Nat) (L : List Nat) (w w' : World) : Prop where
 below : Below B w w'
 other : ∀ (k : Nat) (cs : Array Value) (T : TypeId) (fr : Nat × Nat),k ∉ L -> T ≠ 9 -> T ≠ 98 -> w.heap[k]? = some (.cells cs T fr) -> w'.heap[k]? = some (.cells cs T fr)
section
variable {B : Nat} {L : List Nat} {w w1 w2 : World}
theorem Frame.refl (B : Nat) (L : List Nat) (w : World) : Frame B L w w := ⟨Below.refl _ _,fun _ _ _ _ _ _ _ h => h⟩
theorem Frame.trans (h : Frame B L w w1) (k : Frame B L w1 w2) : Frame B L w w2 := ⟨h.below.trans k.below,fun q cs T fr h1 h2 h3 h4 => k.other q cs T fr h1 h2 h3 (h.other q cs T fr h1 h2 h3 h4)⟩
theorem Frame.on (h : Frame B L w w1) (hb : Below w1.heap.size w1 w2) (hB : B <= w1.heap.size) : Frame B L w w2 :=
 ⟨h.below.trans (hb.mono hB),fun q cs T fr h1 h2 h3 h4 => block_on (h.other q cs T fr h1 h2 h3 h4) hb⟩
theorem frame_of_below (h : Below w.heap.size w w1) (hB : B <= w.heap.size) : Frame B L w w1 := (Frame.refl B L w).on h hB
theorem frame_of_only {g : Nat} (h : Only B g w w1) (hg : g ∈ L) : Frame B L w w1 := ⟨h.below,fun q cs T fr h1 h2 h3 h4 => h.other q cs T fr (fun e => h1 (by rw [e]; exact hg)) h2 h4⟩
theorem Frame.noted (h : Frame B L w w1) {v : Value} {js : List Jb} (ho : JbOwn B w1 v js) (hr : w1.grownBy w2 v.ownBlock) (hB : B <= w1.heap.size) : Frame B L w w2 :=
 ⟨h.below.grown hr hB (fun m hm => (World.ownsRow.lt ho m hm).1),fun q cs T fr h1 h2 h3 h4 => by
  have h5 := h.other q cs T fr h1 h2 h3 h4
  rw [hr.block q (Array.getElem?_eq_some_iff.1 h5).1 (fun e => ?_)]
  ·exact h5
  ·obtain ⟨cs',fz,h6⟩ := Go.Lib.ownsRow_kind ho q e.symm
   rw [h5] at h6
   simp only [Option.some.injEq,Obj.cells.injEq] at h6
   exact h3 h6.2.1⟩
theorem Frame.set (h : Frame B L w w1) {p : Nat} (hp : p ∈ L) (hB : B <= p) (o : Nat) (v : Value) : Frame B L w (w1.setCell ⟨p,o,none⟩ v) :=
 ⟨h.below.setCell (p := ⟨p,o,none⟩) hB v,fun q cs T fr h1 h2 h3 h4 => set_other (h.other q cs T fr h1 h2 h3 h4) (fun e => h1 (by rw [<- e]; exact hp)) v⟩
end
theorem putK_len {z : Int} {s s' : Kp} {i : Nat} {tx : ByteArray} (h : putK z s i tx = some s') : s'.js.length = s.js.length + 1 ∧ s'.ps.length = s.ps.length := by
 obtain ⟨o,_,_,_,_,_,_,_,rfl⟩ := putK_parts h
 exact ⟨by simp,List.length_set⟩
theorem moveI_len {z : Int} {v p : Nat} {s : Kp} : ∀ {k : Nat} {s' : Kp},moveI z v p s k = some s' -> s'.js.length <= s.js.length + k ∧ s'.ps.length = s.ps.length
 | 0,s',h => by unfold moveI at h; simp only [Option.some.injEq] at h; subst h; exact ⟨Nat.le_refl _,rfl⟩
 | k + 1,s',h => by
  unfold moveI at h
  cases hp : moveI z v p s k with
  | none => rw [hp] at h; cases h
  | some t =>
   have := moveI_len hp
   rw [hp,Option.bind_some] at h
   split at h
   ·have := putK_len h; omega
   ·simp only [Option.some.injEq] at h; subst h; omega
theorem moveP_len {z : Int} {v : Nat} {s : Kp} : ∀ {k : Nat} {s' : Kp},moveP z v s k = some s' -> s'.js.length <= s.js.length + k * s.ps.length ∧ s'.ps.length = s.ps.length
 | 0,s',h => by unfold moveP at h; simp only [Option.some.injEq] at h; subst h; exact ⟨by omega,rfl⟩
 | k + 1,s',h => by
  unfold moveP at h
  cases hp : moveP z v s k with
  | none => rw [hp] at h; cases h
  | some t =>
   obtain ⟨h1,h2⟩ := moveP_len hp
   rw [hp,Option.bind_some] at h
   obtain ⟨h3,h4⟩ := moveI_len h
   rw [h2] at h3 h4
   exact ⟨by rw [Nat.succ_mul]; omega,h4⟩
theorem doK_len {z : Int} {s s' : Kp} {j : Jb} (h : doK z s j = some s') : s'.js.length = s.js.length + 1 ∧ s'.ps.length = s.ps.length := by
 unfold doK at h; split at h
 ·simp only [Option.some.injEq] at h; rw [<- h]; exact ⟨by simp,rfl⟩
 ·cases h
theorem stepK_len {z : Int} {s s' : Kp} (hK : KOk z s) (h : stepK z s = some s') : s'.js.length <= s.js.length + 513 := by
 unfold stepK at h
 split at h
 ·simp only [Option.some.injEq] at h; subst h; show s.js.length <= _; omega
 ·split at h
  ·cases h
  ·rename_i hv
   obtain ⟨v,ev,hvl,_⟩ := victim_parts hK.map hv
   have hl : (sqAt s.qs v).1.length <= 8 := by
    have h1 := (sqOk_parts (chipOk_at hK.map.chip hvl)).1
    have h2 := (chipOk_parts hK.map.chip).2.1
    omega
   rw [ev] at h
   split at h
   ·split at h
    ·cases h
    ·rw [Int.toNat_natCast] at h
     cases hmv : moveK z v (withOp s (((emptyK s.qs s.qs.length).getD 0 0 : Nat) : Int)) with
     | none => rw [hmv] at h; cases h
     | some t =>
      rw [hmv,Option.bind_some] at h
      have h1 := (doK_len h).1
      have h2 := (moveP_len hmv).1
      have h3 : (sqAt (withOp s (((emptyK s.qs s.qs.length).getD 0 0 : Nat) : Int)).qs v).1.length * s.ps.length <= 8 * 64 := Nat.mul_le_mul hl hK.map.few
      have h4 : (withOp s (((emptyK s.qs s.qs.length).getD 0 0 : Nat) : Int)).js.length = s.js.length := rfl
      have h5 : (withOp s (((emptyK s.qs s.qs.length).getD 0 0 : Nat) : Int)).ps.length = s.ps.length := rfl
      rw [h4,h5] at h2
      omega
   ·have := (doK_len h).1; omega
theorem moveI_part {z : Int} {v p : Nat} {s : Kp} (hK : KOk z s) (hv : (v : Int) ≠ s.op) : ∀ {k : Nat} {s' : Kp},k <= s.ps.length -> moveI z v p s k = some s' -> KOk z s' ∧ s'.op = s.op ∧ s'.qs.length = s.qs.length ∧ s'.ps.length = s.ps.length ∧ ∀ q : Nat,(q : Int) ≠ s.op -> sqAt s'.qs q = sqAt s.qs q
 | 0,s',_,h => by unfold moveI at h; simp only [Option.some.injEq] at h; subst h; exact ⟨hK,rfl,rfl,rfl,fun _ _ => rfl⟩
 | k + 1,s',hk,h => by
  unfold moveI at h
  cases hp : moveI z v p s k with
  | none => rw [hp] at h; cases h
  | some t =>
   obtain ⟨h1,h2,h3,h4,h5⟩ := moveI_part hK hv (by omega) hp
   rw [hp,Option.bind_some] at h
   split at h
   ·obtain ⟨k1,k2,k3,k4,k5,_⟩ := putK_ok h1 (by omega) h
    exact ⟨k1,k2.trans h2,k3.trans h3,k4.trans h4,fun q hq => (k5 q (by rw [h2]; exact hq)).trans (h5 q hq)⟩
   ·simp only [Option.some.injEq] at h; subst h; exact ⟨h1,h2,h3,h4,h5⟩
theorem moveI_step_no {z : Int} {v p : Nat} {s t : Kp} {k : Nat} (h : moveI z v p s k = some t) (hn : plAt t.ps k ≠ ((v : Int),(p : Int))) : moveI z v p s (k + 1) = some t := by
 show (moveI z v p s k).bind _ = _
 rw [h,Option.bind_some,if_neg hn]
theorem moveI_step_yes {z : Int} {v p : Nat} {s t : Kp} {k : Nat} (h : moveI z v p s k = some t) (hn : plAt t.ps k = ((v : Int),(p : Int))) : moveI z v p s (k + 1) = putK z t k (txAt t.qs v p) := by
 show (moveI z v p s k).bind _ = _
 rw [h,Option.bind_some,if_pos hn]
theorem moveI_fall {z : Int} {v p : Nat} {s : Kp} {k : Nat} (h : moveI z v p s k = none) : ∀ {m : Nat},k <= m -> moveI z v p s m = none
 | 0,hm => by
  have e : k = 0 := by omega
  subst e; exact h
 | m + 1,hm => by
  by_cases e : k = m + 1
  ·subst e; exact h
  ·show (moveI z v p s m).bind _ = _
   rw [moveI_fall h (by omega)]; rfl
theorem moveP_step {z : Int} {v : Nat} {s t : Kp} {k : Nat} (h : moveP z v s k = some t) : moveP z v s (k + 1) = moveI z v k t t.ps.length := by
 show (moveP z v s k).bind _ = _
 rw [h,Option.bind_some]
theorem moveP_fall {z : Int} {v : Nat} {s : Kp} {k : Nat} (h : moveP z v s k = none) : ∀ {m : Nat},k <= m -> moveP z v s m = none
 | 0,hm => by
  have e : k = 0 := by omega
  subst e; exact h
 | m + 1,hm => by
  by_cases e : k = m + 1
  ·subst e; exact h
  ·show (moveP z v s m).bind _ = _
   rw [moveP_fall h (by omega)]; rfl
end Go.Proofs.YtgjoepdfhadmcaaGreatDoor
end

section
namespace Go.Proofs.YtgjoepdfhadmcaaGreatDoor
open Go.RowKit
set_option linter.unusedVariables false
theorem roomK_yes {z : Int} {s : Kp} (h : roomy z s = true) : ∀ k,roomK z k s = some s
 | 0 => by unfold roomK; rw [if_pos h]
 | k + 1 => by unfold roomK; rw [if_pos h]
theorem roomK_end {z : Int} {s : Kp} (h : roomy z s = false) : roomK z 0 s = none := by unfold roomK; rw [if_neg (by rw [h]; simp)]
theorem roomK_next {z : Int} {s : Kp} (h : roomy z s = false) (k : Nat) : roomK z (k + 1) s = (stepK z s).bind (roomK z k) := by
 show (if roomy z s then some s else _) = _
 rw [if_neg (by rw [h]; simp)]
theorem stepK_wipe {z : Int} {s : Kp} {v : Nat} (h2 : ¬ 2 <= (emptyK s.qs s.qs.length).length) (hv : victimV z s.qs s.ps s.op = (v : Int)) (hl : liveN s.ps (v : Int) = 0) : stepK z s = doK z s (2,(v : Int),ByteArray.empty) := by
 unfold stepK
 rw [if_neg h2,hv,if_neg (by omega),if_neg (by omega)]
theorem stepK_stuck {z : Int} {s : Kp} {v : Nat} (h2 : (emptyK s.qs s.qs.length).length = 0) (hv : victimV z s.qs s.ps s.op = (v : Int)) (hl : 0 < liveN s.ps (v : Int)) : stepK z s = none := by
 unfold stepK
 rw [if_neg (by omega),hv,if_neg (by omega),if_pos hl,if_pos h2]
theorem stepK_move {z : Int} {s : Kp} {v : Nat} (h2 : ¬ 2 <= (emptyK s.qs s.qs.length).length) (h0 : (emptyK s.qs s.qs.length).length ≠ 0) (hv : victimV z s.qs s.ps s.op = (v : Int)) (hl : 0 < liveN s.ps (v : Int)) :
  stepK z s = (moveK z v (withOp s (((emptyK s.qs s.qs.length).getD 0 0 : Nat) : Int))).bind fun s' => doK z s' (2,(v : Int),ByteArray.empty) := by
 unfold stepK
 rw [if_neg h2,hv,if_neg (by omega),if_pos hl,if_neg h0,Int.toNat_natCast]
theorem enterK_no {z : Int} {s : Kp} {st kd a : Int} {tx : ByteArray} (h : mayEnt s.ps st kd a tx = false) : enterK z s st kd a tx = none := by unfold enterK; rw [if_neg (by rw [h]; simp)]
theorem enterK_yes {z : Int} {s : Kp} {st kd a : Int} {tx : ByteArray} (h : mayEnt s.ps st kd a tx = true) : enterK z s st kd a tx = (roomK z 20 s).bind fun s' => putK z s' a.toNat (laid kd a (st + 1) tx) := by unfold enterK; rw [if_pos h]
theorem roomK_len {z : Int} : ∀ {k : Nat} {s s' : Kp},KOk z s -> roomK z k s = some s' -> s'.js.length <= s.js.length + 513 * k
 | 0,s,s',hK,h => by
  unfold roomK at h
  split at h
  ·simp only [Option.some.injEq] at h; subst h; omega
  ·cases h
 | k + 1,s,s',hK,h => by
  unfold roomK at h
  split at h
  ·simp only [Option.some.injEq] at h; subst h; omega
  ·cases hs : stepK z s with
   | none => rw [hs] at h; cases h
   | some t =>
    rw [hs,Option.bind_some] at h
    have h1 := stepK_len hK hs
    have h2 := roomK_len (stepK_ok hK hs).ok h
    omega
theorem laidB_small (K A S : Nat) (x : ByteArray) (h : x.size <= 24) : (laidB K A S x).size <= 200 := by
 have h1 := woven_size_le (str (spreadL (bodyB K A S x).data.toList)) 2
 have h2 : (str (spreadL (bodyB K A S x).data.toList)).size = 2 * (bodyB K A S x).size := by rw [spread_len]; rfl
 have h3 := bodyB_size K A S x
 have h4 : (str (spreadL [UInt8.ofNat (x.size + 8)])).size = 2 := by rw [spread_len]; rfl
 unfold laidB
 rw [ByteArray.size_append]
 omega
end Go.Proofs.YtgjoepdfhadmcaaGreatDoor
end

section
namespace Go.Proofs.YtgjoepdfhadmcaaGreatDoor
open Go.RowKit
set_option linter.unusedVariables false
set_option maxRecDepth 20000
set_option maxHeartbeats 400000 in
theorem l7Well_any (k : Int) (w : World) : Calls Tryz.prog 71 #[.int .i64 k] w fun e w' => e = .returned (.bool (lyWell k)) ∧ w = w' := by
 by_cases h : k = 1
 ·subst h
  go_enter Tryz.func71,Tryz.ntmps71
  go_wp2_with fail
  go_ret
  exact ⟨rfl,rfl⟩
 ·have g : (k == 1) = false := by simpa using h
  go_enter Tryz.func71,Tryz.ntmps71
  go_wp2_with fail
  go_ret
  exact ⟨ret_bool (by unfold lyWell; rw [g]; rfl),rfl⟩
set_option maxHeartbeats 1600000 in
theorem l10Page_any (z : Int) (a : Option Addr) (n cap : Nat) (qs : List Sq) (p q : Int) (w : World) {lo hi : Nat} (h : Squares lo hi w a n qs) (hhi : hi <= w.heap.size) (hn : n <= 1048576) (hf : ∀ x ∈ qs,sqFits x) (hok : chipOk z qs = true) :
  Calls Tryz.prog 70 #[.agg #[.int .i64 z,.slice a n cap],.agg #[.int .i64 p,.int .i64 q]] w fun e w' => e = .returned (lyV (pgOf z qs (p,q))) ∧ Below w.heap.size w w' := by
 obtain ⟨wA,hwA⟩ : ∃ wA,wA = ((w.alloc (.cells #[.int .i64 z,.slice a n cap] 26)).alloc (.cells #[.int .i64 p,.int .i64 q] 39)).alloc (.cells #[.int .i64 0,.int .i64 0,.int .i64 0,.string ⟨#[]⟩] 31) := ⟨_,rfl⟩
 have hzA : wA.heap.size = w.heap.size + 1 + 1 + 1 := by rw [hwA]; simp
 have HBA : Hid (Below w.heap.size w wA) := by rw [hwA]; exact ((((Below.refl _ _).alloc (Nat.le_refl _) _).alloc (by simp) _).alloc (by simp; omega) _)
 have H0 : Hid (wA.heap[w.heap.size]? = some (.cells #[.int .i64 z,.slice a n cap] 26)) := by rw [hwA]; exact heap_old (heap_old (heap_new _ _))
 have H1 : Hid (wA.heap[w.heap.size + 1]? = some (.cells #[.int .i64 p,.int .i64 q] 39)) := by rw [hwA]; exact heap_old (heap_at (by simp))
 have H2 : Hid (wA.heap[w.heap.size + 1 + 1]? = some (.cells #[.int .i64 0,.int .i64 0,.int .i64 0,.string ⟨#[]⟩] 31)) := by rw [hwA]; exact heap_at (by simp)
 have HS := hide (h.later HBA.out hhi)
 have HF := hide hf
 have hpz := pageAt_size (s := p) (p := q) hok
 have HE : Hid (pgOf z qs (p,q) = lyP (pageAt z qs p q)) := rfl
 clear h hf
 obtain ⟨c0,c1⟩ := two_cells H0.out
 obtain ⟨d0,d1⟩ := two_cells H1.out
 go_enter Tryz.func70,Tryz.ntmps70
 go_wp2_with fail
 rw [<- hwA]
 clear hwA
 refine (specPageAt_any z a n cap qs p q wA HS.out (by omega) hn HF.out).mono ?_
 rintro e w1 ⟨rfl,b1⟩
 have K2 := hide (block_on H2.out b1)
 have HB1 := hide (below_here HBA.out b1)
 have hs1 := b1.size
 clear b1 c0 c1 d0 d1
 go_wp2_with fail
 refine (specLying_any (pageAt z qs p q) w1 (by omega)).mono ?_
 rintro e w2 ⟨rfl,b2⟩
 have E2 := hide (block_on K2.out b2)
 have HB2 := hide (below_here HB1.out b2)
 have hs2 := b2.size
 rw [<- HE.out]
 clear b2
 obtain ⟨r,hr⟩ : ∃ r,r = pgOf z qs (p,q) := ⟨_,rfl⟩
 have HR := hide hr
 rw [<- hr]
 clear hr
 obtain ⟨r0,r1,r2,r3,r4⟩ := r
 obtain ⟨e0,e1,e2,e3⟩ := four_cells E2.out
 have f0 := four_frozen E2.out 0
 have f1 := four_frozen E2.out 1
 have f2 := four_frozen E2.out 2
 have f3 := four_frozen E2.out 3
 have HRS := hide (four_set E2.out (.int .i64 r0) (.int .i64 r1) (.int .i64 r2) (.string r3))
 have HBS := hide (four_below (b := w.heap.size + 1 + 1) HB2.out (by omega) (.int .i64 r0) (.int .i64 r1) (.int .i64 r2) (.string r3))
 unfold lyV
 go_wp2_with fail
 refine bodyPost_ret (results_ct rfl rfl (run_loadVar_row _ _ _ _ _ _ _ HRS.out Tryz.underlying31 rfl (by kernel_rfl))) rfl ⟨by rw [<- HR.out]; rfl,HBS.out⟩
set_option maxHeartbeats 3200000 in
theorem specFtlOk_any (z : Int) (a : Option Addr) (n cap : Nat) (qs : List Sq) (am : Option Addr) (m cm : Nat) (ps : List Pl) (op st : Int) (w : World) {lo hi lo' hi' : Nat} (h : Squares lo hi w a n qs) (hhi : hi <= w.heap.size) (hn : n <= 1048576) (hf : ∀ x ∈ qs,sqFits x) (hp : Places lo' hi' w am m ps) (hhi' : hi' <= w.heap.size) (hm : m <= 1048576) :
  Calls Tryz.prog 13 #[.agg #[.int .i64 z,.slice a n cap,.slice am m cm,.int .i64 op,.int .i64 st]] w fun e w' => e = .returned (.bool (ftlOk z qs ps op st)) ∧ Below w.heap.size w w' := by
 obtain ⟨wA,hwA⟩ : ∃ wA,wA = w.alloc (.cells #[.int .i64 z,.slice a n cap,.slice am m cm,.int .i64 op,.int .i64 st] 29) := ⟨_,rfl⟩
 have hzA : wA.heap.size = w.heap.size + 1 := by rw [hwA]; simp
 have HBA : Hid (Below w.heap.size w wA) := by rw [hwA]; exact (Below.refl _ _).alloc (Nat.le_refl _) _
 have H1 : Hid (wA.heap[w.heap.size]? = some (.cells #[.int .i64 z,.slice a n cap,.slice am m cm,.int .i64 op,.int .i64 st] 29)) := by rw [hwA]; exact heap_new _ _
 have HSQ := hide (h.later HBA.out hhi)
 have HPL := hide (hp.later HBA.out hhi')
 have HL := hide h.1
 have HLP := hide hp.1
 have HF := hide hf
 clear h hf hp
 obtain ⟨c0,c1,c2,c3,c4⟩ := five_cells H1.out
 go_enter Tryz.func13,Tryz.ntmps13
 go_wp2_with fail
 rw [<- hwA]
 clear hwA
 refine (specMapOk_any z a n cap qs am m cm ps wA HSQ.out (by omega) hn HF.out HPL.out (by omega) hm).mono ?_
 rintro e w1 ⟨rfl,b1⟩
 have K1 := hide (block_on H1.out b1)
 have HS1 := hide (HSQ.out.later b1 (by omega))
 have HP1 := hide (HPL.out.later b1 (by omega))
 have HB1 := hide (below_here HBA.out b1)
 have hs1 := b1.size
 clear b1 H1 HSQ HPL HBA c0 c1 c2 c3 c4
 obtain ⟨c0,c1,c2,c3,c4⟩ := five_cells K1.out
 cases hok : mapOk z qs ps with
 | false =>
  have HE : Hid (ftlOk z qs ps op st = false) := by show _ = _; unfold ftlOk; rw [hok]; rfl
  go_wp2_with fail
  go_ret
  exact ⟨ret_bool HE.out.symm,HB1.out⟩
 | true =>
  have HCK := hide (mapOk_chip hok)
  have hn12 : n <= 12 := by have := (chipOk_parts (mapOk_chip hok)).2.2.2.1; rw [HL.out] at this; exact this
  have hm64 : m <= 64 := by have := (mapOk_len hok).2; rw [HLP.out] at this; exact this
  go_wp2_with fail
  refine (l1In_any op (-1) ((n : Int) - 1) w1).mono ?_
  rintro e w2 ⟨rfl,rfl⟩
  cases hin : inB op (-1) ((n : Int) - 1) with
  | false =>
   have HE : Hid (ftlOk z qs ps op st = false) := by show _ = _; unfold ftlOk; rw [HL.out,hin]; simp
   go_wp2_with fail
   go_ret
   exact ⟨ret_bool HE.out.symm,HB1.out⟩
  | true =>
   go_wp2_with fail
   refine (l1In_any st 0 1000000 w1).mono ?_
   rintro e w2 ⟨rfl,rfl⟩
   cases hst : inB st 0 1000000 with
   | false =>
    have HE : Hid (ftlOk z qs ps op st = false) := by show _ = _; unfold ftlOk; rw [hst]; simp
    go_wp2_with fail
    go_ret
    exact ⟨ret_bool HE.out.symm,HB1.out⟩
   | true =>
    have hin2 := hin
    unfold inB at hin2
    simp only [Bool.and_eq_true,decide_eq_true_eq] at hin2
    have HFT : Hid (ftlOk z qs ps op st = (opOk qs op && (List.range ps.length).all (fpOk z qs ps st))) := by show _ = _; unfold ftlOk; rw [hok,HL.out,hin,hst]; rfl
    clear hok hst hin
    go_upto_region 3 with fail
    go_cut [41] (fun c wx => c = .bool (!(opOk qs op)) ∧ Below w1.heap.size w1 wx)
    case first =>
     by_cases h0 : 0 <= op
     ·obtain ⟨i,rfl⟩ : ∃ i : Nat,op = (i : Int) := ⟨op.toNat,by omega⟩
      have hlt : i < n := by omega
      have hlt2 : (i : Int) < (n : Int) := by omega
      obtain ⟨_,A,C,hx,ht⟩ := HS1.out
      obtain ⟨b,off,rfl,_,hb,hc⟩ := hx.2 (by omega)
      obtain ⟨y0,y1,y2⟩ := sq_cells hc (Below.refl w1.heap.size w1) (show b < w1.heap.size by have := hx.1; omega) hlt
      have HO : Hid ((!(opOk qs (i : Int))) = (sqAt qs i).2.2) := by show _ = _; unfold opOk; simp
      have g0 : decide ((i : Int) >= 0) = true := by simp
      generalize (sqAt qs i).2.2 = bd at *
      clear hc hx ht
      go_wp2_with fail
      go_meet
      exact ⟨by rw [HO.out],Below.refl _ _⟩
     ·have g0 : decide (op >= 0) = false := by simpa using h0
      have HO : Hid ((!(opOk qs op)) = false) := by show _ = _; unfold opOk; rw [g0]; rfl
      go_wp2_with fail
      go_meet
      exact ⟨by rw [HO.out],Below.refl _ _⟩
    case rest =>
     obtain ⟨rfl,hb3⟩ := hcut
     obtain ⟨w3,hw3⟩ : ∃ w3,w3 = wc := ⟨_,rfl⟩
     subst hw3
     have K3 := hide (block_on K1.out hb3)
     have HS3 := hide (HS1.out.later hb3 (by omega))
     have HP3 := hide (HP1.out.later hb3 (by omega))
     have HB3 := hide (below_here HB1.out hb3)
     have hs3 := hb3.size
     clear hb3 K1 HS1 HP1 HB1 c0 c1 c2 c3 c4
     cases hop : opOk qs op with
     | false =>
      have HE : Hid (ftlOk z qs ps op st = false) := by show _ = _; rw [HFT.out,hop]; rfl
      go_wp2_with fail
      go_ret
      exact ⟨ret_bool HE.out.symm,HB3.out⟩
     | true =>
      have HE : Hid (ftlOk z qs ps op st = (List.range ps.length).all (fpOk z qs ps st)) := by show _ = _; rw [HFT.out,hop]; rfl
      simp only [Bool.not_true]
      go_wp2_with fail
      go_loopw [3] (fun i wr => ∃ k : Nat,k <= m ∧ i = .int .i64 (k : Int) ∧ (List.range k).all (fpOk z qs ps st) = true ∧ Below w3.heap.size w3 wr) (fun i _ => m - (intOf i).toNat)
      case atStart => exact ⟨0,Nat.zero_le _,rfl,rfl,Below.refl _ _⟩
      case round =>
       obtain ⟨k,hk,rfl,hall,hbel⟩ := hrel
       have HAL := hide hall
       have HBB := hide hbel
       clear hall
       have KR := hide (block_on K3.out hbel)
       obtain ⟨a0,a1,a2,a3,a4⟩ := five_cells KR.out
       by_cases hlt : k < m
       ·have hpl : k < ps.length := by rw [HLP.out]; exact hlt
        obtain ⟨b,off,rfl,_,hb,hc⟩ := HP3.out.2.2 (by omega)
        have hbs : b < w3.heap.size := by have := HP3.out.2.1; omega
        obtain ⟨c0,c1⟩ := pl_cells hc hbel hbs hlt
        have HFA : Hid (fpOk z qs ps st k = false -> ftlOk z qs ps op st = false) := fun hh => ftlOk_fall hpl hh
        have HST : Hid (fpOk z qs ps st k = true -> (List.range (k + 1)).all (fpOk z qs ps st) = true) := fun hh => all_range_step HAL.out hh
        have HPO : Hid (fpOk z qs ps st k = ((((plAt ps k).1 == -1) && ((plAt ps k).2 == 0)) || (lyWell (pgOf z qs (plAt ps k)).2.2.2.2 && (((pgOf z qs (plAt ps k)).2.1 == (k : Int)) && !(decide ((pgOf z qs (plAt ps k)).2.2.1 > st)))))) := by
         show _ = _
         unfold fpOk
         rw [pl_eq]
        have HC := hide hc
        clear hc
        have hszr := hbel.size
        clear hbel
        obtain ⟨y,hy⟩ : ∃ y,y = plAt ps k := ⟨_,rfl⟩
        have HY := hide hy
        rw [<- hy] at c0 c1 HPO
        clear hy
        obtain ⟨p,q⟩ := y
        dsimp only at c0 c1 HPO
        have cN : ∀ d os,Calls Tryz.prog 69 #[] (Go.Sort.grow (redrawn wr d) os) fun e w'' => e = .returned (.agg #[.int .i64 (-1),.int .i64 0]) ∧ ∃ p : Regrown,w'' = Go.Sort.grow (redrawn wr p.d) p.os := fun d os => Calls.regrown_of (l9None_any _)
        have k0 := cell_regrown c0
        have k1 := cell_regrown c1
        have k2 := cell_regrown a2
        have q1 := Tryz.eqPl p q (-1) 0
        have q2 := Tryz.guardPl
        go_upto_region 8 with fail
        go_cut [55] (fun c wx => c = .bool ((p == -1) && (q == 0)) ∧ Below wr.heap.size wr wx)
        case first =>
         refine wp_region_quiet_below (by kernel_rfl) (by kernel_rfl) ?_
         repeat (go_big_quiet_step ((go_at_call 69; exact cN _ _)))
         refine wpQuiet_nil ?_
         intro _ hw'
         obtain ⟨⟨dq,osq⟩,hw''⟩ := hw'
         subst hw''
         have HBQ := hide (below_regrown wr dq osq)
         go_wp2_with fail
         go_meet
         exact ⟨rfl,HBQ.out⟩
        case rest =>
         obtain ⟨rfl,hb2⟩ := hcut
         obtain ⟨w4,hw4⟩ : ∃ w4,w4 = wc := ⟨_,rfl⟩
         subst hw4
         have HB4 := hide (below_here HBB.out hb2)
         have K4 := hide (block_on KR.out hb2)
         clear hb2 k0 k1 k2 cN q1 c0 c1 a0 a1 a2 a3 a4 KR
         cases hnone : ((p == -1) && (q == 0)) with
         | true =>
          have HOK := hide (HST.out (by rw [HPO.out,hnone]; rfl))
          go_wp2_with fail
          exact ⟨⟨k + 1,by omega,by go_num,HOK.out,HB4.out⟩,by simp [intOf]; omega⟩
         | false =>
          obtain ⟨r,hr⟩ : ∃ r,r = pgOf z qs (p,q) := ⟨_,rfl⟩
          have hs4 := HB4.out.size
          have HCL : ∀ w',Hid (Below w4.heap.size w4 w' -> Calls Tryz.prog 70 #[.agg #[.int .i64 z,.slice a n cap],.agg #[.int .i64 p,.int .i64 q]] w' fun e w'' => e = .returned (lyV r) ∧ Below w'.heap.size w' w'') := fun w' hb' => by
           rw [hr]
           have hs' := hb'.size
           exact l10Page_any z a n cap qs p q w' (HS3.out.later (below_here HB4.out hb') (by omega)) (by omega) hn HF.out HCK.out
          have HPO2 : Hid (fpOk z qs ps st k = (lyWell r.2.2.2.2 && ((r.2.1 == (k : Int)) && !(decide (r.2.2.1 > st))))) := by show _ = _; rw [HPO.out,hnone,hr]; rfl
          clear hr hnone HPO
          obtain ⟨r0,r1,r2,r3,r4⟩ := r
          unfold lyV at HCL
          dsimp only at HCL HPO2
          obtain ⟨a0,a1,a2,a3,a4⟩ := five_cells K4.out
          obtain ⟨c0,c1⟩ := pl_cells HC.out HB4.out hbs hlt
          rw [<- HY.out] at c0 c1
          dsimp only at c0 c1
          have hwz : w.heap.size < w4.heap.size := by omega
          have HK : ∀ w',Hid (Below w4.heap.size w4 w' -> w'.cell? ⟨w.heap.size,0,none⟩ = some (.int .i64 z) ∧ w'.cell? ⟨w.heap.size,1,none⟩ = some (.slice a n cap) ∧ w'.cell? ⟨w.heap.size,2,none⟩ = some (.slice (some ⟨b,off,none⟩) m cm) ∧ w'.cell? ⟨b,off + k * 2,none⟩ = some (.int .i64 p) ∧ w'.cell? ⟨b,off + k * 2 + 1,none⟩ = some (.int .i64 q)) := fun w' hb' => ⟨(hb'.cell (p := ⟨_,_,none⟩) hwz).trans a0,(hb'.cell (p := ⟨_,_,none⟩) hwz).trans a1,(hb'.cell (p := ⟨_,_,none⟩) hwz).trans a2,(hb'.cell (p := ⟨_,_,none⟩) (by show b < _; omega)).trans c0,(hb'.cell (p := ⟨_,_,none⟩) (by show b < _; omega)).trans c1⟩
          go_upto_region 9 with fail
          have HB0 : Hid (Below w4.heap.size w4 w4.drew) := (Below.refl w4.heap.size w4).drew
          have HBa : Hid (Below w4.heap.size w4 (w4.alloc (.cells #[.int .i64 0,.int .i64 0,.int .i64 0,.string ⟨#[]⟩] 31)).drew) := ((Below.refl w4.heap.size w4).alloc (Nat.le_refl _) _).drew
          have HEa : Hid ((w4.alloc (.cells #[.int .i64 0,.int .i64 0,.int .i64 0,.string ⟨#[]⟩] 31)).drew.heap[w4.heap.size]? = some (.cells #[.int .i64 0,.int .i64 0,.int .i64 0,.string ⟨#[]⟩] 31)) := heap_new w4 _
          go_region_held3 (fun w' => w'.cell? ⟨w.heap.size,0,none⟩ = some (.int .i64 z) ∧ w'.cell? ⟨w.heap.size,1,none⟩ = some (.slice a n cap) ∧ w'.cell? ⟨w.heap.size,2,none⟩ = some (.slice (some ⟨b,off,none⟩) m cm) ∧ w'.cell? ⟨b,off + k * 2,none⟩ = some (.int .i64 p) ∧ w'.cell? ⟨b,off + k * 2 + 1,none⟩ = some (.int .i64 q))
           (first | exact (HK _).out HB0.out | exact (HK _).out HBa.out | exact (HK _).out HB5.out | exact (HK _).out HBS.out | exact (HK _).out HB6.out | exact ⟨a0,a1,a2,c0,c1⟩ | fail)
           (first
            | (go_at_call 70; refine ((HCL _).out HB0.out).mono ?_; rintro e w5 ⟨rfl,b5⟩; have HB5 := hide (below_here HB0.out b5); have hs5 := b5.size; have HB6 := hide (HB5.out.alloc HB5.out.size (.cells #[.int .i64 0,.int .i64 0,.int .i64 0,.string ⟨#[]⟩] 31)); have HBS := hide (HB5.out.alloc HB5.out.size (.cells #[.int .i64 r0,.int .i64 r1,.int .i64 r2,.string r3] 31)); have HRS := hide (heap_new w5 (.cells #[.int .i64 r0,.int .i64 r1,.int .i64 r2,.string r3] 31)))
            | (go_at_call 70; refine ((HCL _).out HBa.out).mono ?_; rintro e w5 ⟨rfl,b5⟩; have HB5 := hide (below_here HBa.out b5); have hs5 := b5.size; have E5 := hide (block_on HEa.out b5); obtain ⟨e0,e1,e2,e3⟩ := four_cells E5.out; have f0 := four_frozen E5.out 0; have f1 := four_frozen E5.out 1; have f2 := four_frozen E5.out 2; have f3 := four_frozen E5.out 3; have HRS := hide (four_set E5.out (.int .i64 r0) (.int .i64 r1) (.int .i64 r2) (.string r3)); have HBS := hide (four_below (b := w4.heap.size) HB5.out (Nat.le_refl _) (.int .i64 r0) (.int .i64 r1) (.int .i64 r2) (.string r3))))
          all_goals
           clear HB0 HBa HEa HK HCL a0 a1 a2 a3 a4 c0 c1 b5 HB5 hs5
           have HB7 := hide (below_here HB4.out HBS.out)
           have HB8 := hide (below_here HB3.out HB7.out)
           obtain ⟨d0,d1,d2,d3⟩ := four_cells HRS.out
           obtain ⟨a0,a1,a2,a3,a4⟩ := five_cells (block_on K4.out HBS.out)
           go_wp2_with fail
           refine (l7Well_any r4 _).mono ?_
           rintro e wx ⟨rfl,rfl⟩
           cases hw : lyWell r4 with
           | false =>
            have HNO := hide (HFA.out (by rw [HPO2.out,hw]; rfl))
            go_wp2_with fail
            go_ret
            exact ⟨ret_bool HNO.out.symm,HB8.out⟩
           | true =>
            by_cases h1 : r1 = (k : Int)
            ·have g1 : (r1 != (k : Int)) = false := by simpa using h1
             have g3 : (r1 == (k : Int)) = true := by simpa using h1
             cases h2 : decide (r2 > st) with
             | true =>
              have HNO := hide (HFA.out (by rw [HPO2.out,hw,g3,h2]; rfl))
              clear h1 g3
              go_wp2_with fail
              go_ret
              exact ⟨ret_bool HNO.out.symm,HB8.out⟩
             | false =>
              have HOK := hide (HST.out (by rw [HPO2.out,hw,g3,h2]; rfl))
              clear h1 g3
              go_wp2_with fail
              exact ⟨⟨k + 1,by omega,by go_num,HOK.out,HB7.out⟩,by simp [intOf]; omega⟩
            ·have g1 : (r1 != (k : Int)) = true := by simpa using h1
             have g3 : (r1 == (k : Int)) = false := by simpa using h1
             have HNO := hide (HFA.out (by rw [HPO2.out,hw,g3]; rfl))
             clear h1 g3
             go_wp2_with fail
             go_ret
             exact ⟨ret_bool HNO.out.symm,HB8.out⟩
       ·obtain rfl : k = m := by omega
        have HYE : Hid (ftlOk z qs ps op st = true) := by show _ = _; rw [HE.out,HLP.out]; exact HAL.out
        have HB8 := hide (below_here HB3.out HBB.out)
        go_wp2_with fail
        go_ret
        exact ⟨ret_bool HYE.out.symm,HB8.out⟩
end Go.Proofs.YtgjoepdfhadmcaaGreatDoor
end

section
namespace Go.Proofs.YtgjoepdfhadmcaaGreatDoor
open Go.RowKit
set_option linter.unusedVariables false
set_option maxRecDepth 20000
set_option maxHeartbeats 1600000 in
theorem l10Copy_any (z : Int) (a : Option Addr) (n cap : Nat) (qs : List Sq) (am : Option Addr) (m cm : Nat) (ps : List Pl) (op st : Int) (w : World) {lo hi lo' hi' : Nat} (h : Squares lo hi w a n qs) (hhi : hi <= w.heap.size) (hok : chipOk z qs = true) (hp : Places lo' hi' w am m ps) (hhi' : hi' <= w.heap.size) (hm1 : 1 <= m) (hm : m <= 64) :
  Calls Tryz.prog 104 #[.agg #[.int .i64 z,.slice a n cap,.slice am m cm,.int .i64 op,.int .i64 st]] w fun e w' => ∃ g c gm cm' A C,e = .returned (.agg #[.int .i64 z,.slice (some ⟨g,0,none⟩) n c,.slice (some ⟨gm,0,none⟩) m cm',.int .i64 op,.int .i64 st]) ∧ GrowSqs w.heap.size w' n qs g A C ∧ PlOwn w.heap.size w' (.slice (some ⟨gm,0,none⟩) ps.length cm') ps ∧ gm ≠ g ∧ Below w.heap.size w w' := by
 obtain ⟨wA,hwA⟩ : ∃ wA,wA = (w.alloc (.cells #[.int .i64 z,.slice a n cap,.slice am m cm,.int .i64 op,.int .i64 st] 29)).alloc (.cells #[.int .i64 0,.slice none 0 0,.slice none 0 0,.int .i64 0,.int .i64 0] 29) := ⟨_,rfl⟩
 have hzA : wA.heap.size = w.heap.size + 1 + 1 := by rw [hwA]; simp
 have HBA : Hid (Below w.heap.size w wA) := by rw [hwA]; exact ((Below.refl _ _).alloc (Nat.le_refl _) _).alloc (by simp) _
 have H0 : Hid (wA.heap[w.heap.size]? = some (.cells #[.int .i64 z,.slice a n cap,.slice am m cm,.int .i64 op,.int .i64 st] 29)) := by rw [hwA]; exact heap_old (heap_new _ _)
 have H1 : Hid (wA.heap[w.heap.size + 1]? = some (.cells #[.int .i64 0,.slice none 0 0,.slice none 0 0,.int .i64 0,.int .i64 0] 29)) := by rw [hwA]; exact heap_at (by simp)
 have HSQ := hide (h.later HBA.out hhi)
 have HPL := hide (hp.later HBA.out hhi')
 clear h hp
 obtain ⟨c0,c1,c2,c3,c4⟩ := five_cells H0.out
 go_enter Tryz.func104,Tryz.ntmps104
 go_wp2_with fail
 rw [<- hwA]
 clear hwA
 refine (l8Copy_any z a n cap qs wA HSQ.out (by omega) hok).mono ?_
 rintro e w1 ⟨g,c,A,C,rfl,hG,b1⟩
 have K0 := hide (block_on H0.out b1)
 have K1 := hide (block_on H1.out b1)
 have hs1 := b1.size
 have hG1 := hG.atG
 have hG2 : g < w1.heap.size := by have := hG.row.1; omega
 have HP1 := hide (HPL.out.later b1 (by omega))
 have HB1 := hide (below_here HBA.out b1)
 have HG1 := hide hG
 clear hG b1 H0 H1 HSQ HPL c0 c1 c2 c3 c4
 obtain ⟨wB,hwB⟩ : ∃ wB,wB = (w1.setCell ⟨w.heap.size,0,none⟩ (.int .i64 z)).setCell ⟨w.heap.size,1,none⟩ (.slice (some ⟨g,0,none⟩) n c) := ⟨_,rfl⟩
 have HAB : Hid (Aside w.heap.size (w.heap.size + 1) w1 wB) := by rw [hwB]; exact two_aside (Aside.refl _ _ w1) (Nat.le_refl _) (Nat.lt_succ_self _) _ _
 have hzB : wB.heap.size = w1.heap.size := by rw [hwB,Go.Deep.nblk_setCell,Go.Deep.nblk_setCell]
 have B0 : Hid (wB.heap[w.heap.size]? = some (.cells #[.int .i64 z,.slice (some ⟨g,0,none⟩) n c,.slice am m cm,.int .i64 op,.int .i64 st] 29)) := by rw [hwB]; exact set_block (set_block K0.out 0 (.int .i64 z) (by simp)) 1 (.slice (some ⟨g,0,none⟩) n c) (by simp)
 have B1 : Hid (wB.heap[w.heap.size + 1]? = some (.cells #[.int .i64 0,.slice none 0 0,.slice none 0 0,.int .i64 0,.int .i64 0] 29)) := (HAB.out.block _ (by omega) (.inr (by omega))).trans K1.out
 have HPB := hide (Places.mk_of HP1.out HAB.out (.inl (by omega)))
 have HGB := hide (HG1.out.aside HAB.out (.inl (by omega)))
 have HBB := hide (HB1.out.trans (HAB.out.below (B := w.heap.size) (by omega) (by omega)))
 obtain ⟨wC,hwC⟩ : ∃ wC,wC = wB.alloc (.cells #[] 39) := ⟨_,rfl⟩
 have hzC : wC.heap.size = w1.heap.size + 1 := by rw [hwC]; simp; omega
 have HBC : Hid (Below wB.heap.size wB wC) := by rw [hwC]; exact (Below.refl _ _).alloc (Nat.le_refl _) _
 have C0 := hide (block_on B0.out HBC.out)
 have C1 := hide (block_on B1.out HBC.out)
 have HMD : Hid (PlOwn wB.heap.size wC (.slice (some ⟨wB.heap.size,0,none⟩) 0 0) []) := by rw [hwC]; exact pl_made0 wB
 obtain ⟨gm,cm',w2,hap,hpo,hgr,hat⟩ := append_places (P := Tryz.prog) Tryz.infoPl9 Tryz.underlying27 HMD.out (by omega) (c := cm) (HPB.out.later HBC.out (by omega)) hm1 (by omega)
 have HAP := hide hap
 have hgm : w1.heap.size <= gm := by omega
 have hs2 := hgr.size
 have HGR : Hid (Below w1.heap.size wC w2) := ⟨hgr.os,hgr.tape,hgr.output,hgr.size,fun k hk => hgr.block k (by omega) (fun e => by simp only [Option.some.injEq] at e; omega)⟩
 have HG2 := hide ((HGB.out.later HBC.out).keep hgr (fun e => by simp only [Option.some.injEq] at e; omega) (fun k e => by simp only [Option.some.injEq] at e; subst e; exact ⟨_,_,_,(by rw [hwC]; exact heap_new _ _),by decide⟩))
 have E0 : Hid (w2.heap[w.heap.size]? = some (.cells #[.int .i64 z,.slice (some ⟨g,0,none⟩) n c,.slice am m cm,.int .i64 op,.int .i64 st] 29)) := (HGR.out.block _ (by omega)).trans C0.out
 have E1 : Hid (w2.heap[w.heap.size + 1]? = some (.cells #[.int .i64 0,.slice none 0 0,.slice none 0 0,.int .i64 0,.int .i64 0] 29)) := (HGR.out.block _ (by omega)).trans C1.out
 have HPO := hide hpo
 have HB2 := hide ((below_here HBB.out HBC.out).trans (HGR.out.mono (by omega)))
 clear hap hpo hgr hat HMD
 obtain ⟨d0,d1,d2,d3,d4⟩ := five_cells K0.out
 have f0 := four_frozen K0.out 0
 have f1 := four_frozen K0.out 1
 obtain ⟨c0,c1,c2,c3,c4⟩ := five_cells C0.out
 obtain ⟨e0,e1,e2,e3,e4⟩ := five_cells E0.out
 have g2 := four_frozen E0.out 2
 obtain ⟨r0,r1,r2,r3,r4⟩ := five_cells E1.out
 have q0 := four_frozen E1.out 0
 have q1 := four_frozen E1.out 1
 have q2 := four_frozen E1.out 2
 have q3 := four_frozen E1.out 3
 have q4 := four_frozen E1.out 4
 have HA1 := hide ((Aside.refl w.heap.size (w.heap.size + 2) w2).setCell (p := ⟨w.heap.size,2,none⟩) (Nat.le_refl _) (by simp) (.slice (some ⟨gm,0,none⟩) m cm'))
 have HAS := hide (five_aside (b := w.heap.size + 1) HA1.out (by omega) (by omega) (.int .i64 z) (.slice (some ⟨g,0,none⟩) n c) (.slice (some ⟨gm,0,none⟩) m cm') (.int .i64 op) (.int .i64 st))
 have HRS := hide (five_set (set_other (o := 2) E1.out (show w.heap.size ≠ w.heap.size + 1 by omega) (.slice (some ⟨gm,0,none⟩) m cm')) (.int .i64 z) (.slice (some ⟨g,0,none⟩) n c) (.slice (some ⟨gm,0,none⟩) m cm') (.int .i64 op) (.int .i64 st))
 clear c0 c1 c2 c3 c4 d2 d3 d4
 obtain ⟨c0,c1,c2,c3,c4⟩ := five_cells B0.out
 go_upto_region 2 with fail
 rw [<- hwB]
 have HZB := hide hzB
 have HZC := hide hzC
 clear hwB d0 d1 f0 f1 hzB hzC
 have c2' := c2
 clear c2
 have c2 : (wB.alloc (.cells #[] 39)).cell? ⟨w.heap.size,2,none⟩ = some (.slice am m cm) := by rw [<- hwC]; exact (five_cells C0.out).2.2.1
 go_wp2_with (at_builtin; rw [<- hwC]; refine wpList_append_eq rfl (.tmp 7) (.tmp 9) 27 rfl _ _ _ w2 rfl rfl HAP.out ?_)
 have hzB := HZB.out
 have hzC := HZC.out
 refine bodyPost_ret (results_cell rfl rfl (run_loadVar_row _ _ _ _ _ _ _ HRS.out Tryz.underlying29 rfl (by kernel_rfl))) rfl ⟨g,c,gm,cm',A,C,rfl,(HG2.out.aside HAS.out (.inl (by omega))).mono (by omega),?_,by omega,HB2.out.trans (HAS.out.below (by omega) (by omega))⟩
 exact own_aside2 (HPO.out.mono (show w.heap.size + 2 <= wB.heap.size by omega)) HAS.out (Nat.le_refl _) |>.mono (by omega)
end Go.Proofs.YtgjoepdfhadmcaaGreatDoor
end

section
namespace Go.Proofs.YtgjoepdfhadmcaaGreatDoor
open Go.RowKit
set_option linter.unusedVariables false
set_option maxRecDepth 20000
theorem Tryz.infoJob : (Tryz.prog.info? 98).map (fun i => (i.zero,i.size,i.bytes)) = some (some (.agg #[.int .i64 0,.int .i64 0,.string ByteArray.empty]),3,32) := by kernel_rfl
structure FtlAt (B : Nat) (w : World) (px pj : Nat) (z st : Int) (n g c gm cm : Nat) (A : Nat -> Option Addr) (C : Nat -> Nat) (V : Value) (s : Kp) : Prop where
 mem : KpMem B w n g gm cm A C V s
 ftl : w.heap[px]? = some (.cells #[.int .i64 z,.slice (some ⟨g,0,none⟩) n c,.slice (some ⟨gm,0,none⟩) s.ps.length cm,.int .i64 s.op,.int .i64 st] 29)
 jobs : w.heap[pj]? = some (.cells #[V] 91)
 nx : px ≠ g
 nj : pj ≠ g
 bx : B <= px
 bj : B <= pj
theorem FtlAt.later {B px pj n g c gm cm : Nat} {w w' : World} {z st : Int} {A : Nat -> Option Addr} {C : Nat -> Nat} {V : Value} {s : Kp} (h : FtlAt B w px pj z st n g c gm cm A C V s) (hb : Below w.heap.size w w') : FtlAt B w' px pj z st n g c gm cm A C V s :=
 ⟨h.mem.later hb,block_on h.ftl hb,block_on h.jobs hb,h.nx,h.nj,h.bx,h.bj⟩
theorem noted_at {B px pj n g c gm cm g' c' : Nat} {w w' : World} {z st kd sq : Int} {tx : ByteArray} {A : Nat -> Option Addr} {C : Nat -> Nat} {aj : Option Addr} {cj : Nat} {s : Kp} (h : KpMem B w n g gm cm A C (.slice aj s.js.length cj) s)
  (hx : w.heap[px]? = some (.cells #[.int .i64 z,.slice (some ⟨g,0,none⟩) n c,.slice (some ⟨gm,0,none⟩) s.ps.length cm,.int .i64 s.op,.int .i64 st] 29)) (hp : w.heap[pj]? = some (.cells #[.slice aj s.js.length cj] 91))
  (hr : w.grownBy w' (Value.slice aj s.js.length cj).ownBlock) (ho : w'.ownsRow B 98 3 (.slice (some ⟨g',0,none⟩) (s.js.length + 1) c') (s.js.length + 1) (jbL s.js ++ [.int .i64 kd,.int .i64 sq,.string tx]))
  (hat : (Value.slice aj s.js.length cj).ownBlock = some g' ∨ w.heap.size <= g') (hnx : px ≠ g) (hnj : pj ≠ g) (hbx : B <= px) (hbj : B <= pj) :
  FtlAt B (w'.setCell ⟨pj,0,none⟩ (.slice (some ⟨g',0,none⟩) (s.js.length + 1) c')) px pj z st n g c gm cm A C (.slice (some ⟨g',0,none⟩) (s.js.length + 1) c') ⟨s.qs,s.ps,s.op,s.js ++ [(kd,sq,tx)]⟩ := by
 have hk : ∀ (p : Nat) (cs : Array Value) (T : TypeId) (fr : Nat × Nat),w.heap[p]? = some (.cells cs T fr) -> T ≠ 98 -> w'.heap[p]? = some (.cells cs T fr) := fun p cs T fr h1 h2 => by
  rw [hr.block p (Array.getElem?_eq_some_iff.1 h1).1 (fun e => ?_)]
  ·exact h1
  ·obtain ⟨cs',fz,h3⟩ := Go.Lib.ownsRow_kind h.jb p e.symm
   rw [h1] at h3
   simp only [Option.some.injEq,Obj.cells.injEq] at h3
   exact h2 h3.2.1
 have hxj : pj ≠ px := fun e => by
  rw [e,hx] at hp
  simp only [Option.some.injEq,Obj.cells.injEq] at hp
  exact absurd hp.2.1 (by decide)
 have e : s.js.length + 1 = (s.js ++ [(kd,sq,tx)]).length := by simp
 have ho' : JbOwn B w' (.slice (some ⟨g',0,none⟩) (s.js.length + 1) c') (s.js ++ [(kd,sq,tx)]) := by
  show World.ownsRow _ _ _ _ _ (s.js ++ [(kd,sq,tx)]).length (jbL (s.js ++ [(kd,sq,tx)]))
  rw [<- e,<- jbL_snoc]
  exact ho
 have hm := h.noted (j := (kd,sq,tx)) hr ho' (hat.imp (fun e => e.symm) (fun e => ⟨g',rfl,e⟩))
 have hp' := hk pj _ _ _ hp (by decide)
 exact ⟨hm.set _ hnj hp' (by decide) (by decide) (by decide),set_other (hk px _ _ _ hx (by decide)) hxj _,set_block hp' 0 _ (by simp),hnx,hnj,hbx,hbj⟩
def FPost (r : Option Kp) (B px pj : Nat) (z st : Int) (n g c gm cm : Nat) (w : World) (e : Ending) (w' : World) : Prop :=
 e = .returned (.bool r.isSome) ∧ Frame B [g,px,pj,gm] w w' ∧ ∀ s',r = some s' -> ∃ A C V,FtlAt B w' px pj z st n g c gm cm A C V s'
set_option maxHeartbeats 1600000 in
theorem l10Do_any (B px pj : Nat) (z st : Int) (n g c gm cm : Nat) (A : Nat -> Option Addr) (C : Nat -> Nat) (V : Value) (s : Kp) (kd sq : Int) (tx : ByteArray) (w : World) (h : FtlAt B w px pj z st n g c gm cm A C V s) (hB : B <= w.heap.size) (hok : chipOk z s.qs = true) (htx : tx.size <= maxLen) (hjs : s.js.length <= 1048576) :
  Calls Tryz.prog 158 #[.pointer (some ⟨px,0,none⟩),.pointer (some ⟨pj,0,none⟩),.agg #[.int .i64 kd,.int .i64 sq,.string tx]] w fun e w' => FPost (doK z s (kd,sq,tx)) B px pj z st n g c gm cm w e w' := by
 obtain ⟨wA,hwA⟩ : ∃ wA,wA = w.alloc (.cells #[.int .i64 kd,.int .i64 sq,.string tx] 98) := ⟨_,rfl⟩
 have hzA : wA.heap.size = w.heap.size + 1 := by rw [hwA]; simp
 have HBA : Hid (Below w.heap.size w wA) := by rw [hwA]; exact (Below.refl _ _).alloc (Nat.le_refl _) _
 have HJ : Hid (wA.heap[w.heap.size]? = some (.cells #[.int .i64 kd,.int .i64 sq,.string tx] 98)) := by rw [hwA]; exact heap_new _ _
 have HA := hide (h.later HBA.out)
 have hxl : px < w.heap.size := (Array.getElem?_eq_some_iff.1 h.ftl).1
 have hjl : pj < w.heap.size := (Array.getElem?_eq_some_iff.1 h.jobs).1
 have hgl : g < w.heap.size := by have := h.mem.sq.row.1; omega
 obtain ⟨aj,cj,rfl,hcj⟩ := jb_form h.mem.jb
 have HDO : Hid (doK z s (kd,sq,tx) = if canJ z s.qs (kd,sq,tx) then some ⟨doJ z s.qs (kd,sq,tx),s.ps,s.op,s.js ++ [(kd,sq,tx)]⟩ else none) := rfl
 have HC : ∀ w9,Hid (Below wA.heap.size wA w9 -> Calls Tryz.prog 65 #[.pointer (some ⟨px,0,none⟩),.agg #[.int .i64 kd,.int .i64 sq,.string tx]] w9 fun e w' => e = .returned (.bool (canJ z s.qs (kd,sq,tx))) ∧ ∃ A' C',GrowSqs B w' n (doJ z s.qs (kd,sq,tx)) g A' C' ∧ Only B g wA w') := fun w9 h9 =>
  (l8Do_at px c B z n s.qs g A C kd sq tx w9 ((HA.out.later h9).mem.sq) (by have := h9.size; omega) (HA.out.later h9).ftl rfl rfl h.nx hok htx).mono (fun e w' hh => ⟨hh.1,by obtain ⟨_,A',C',h2,h3⟩ := hh; exact ⟨A',C',h2,(only_of_below h9 (by omega)).trans h3⟩⟩)
 have HNX := hide h.nx
 have HNJ := hide h.nj
 have HBX := hide h.bx
 have HBJ := hide h.bj
 clear h hok
 obtain ⟨b0,b1,b2⟩ := three_cells HJ.out
 go_enter Tryz.func158,Tryz.ntmps158
 go_upto_region 1 with fail
 rw [<- hwA]
 clear hwA
 go_cut [12] (fun d wx => d = .bool (!canJ z s.qs (kd,sq,tx)) ∧ ∃ A' C',GrowSqs B wx n (doJ z s.qs (kd,sq,tx)) g A' C' ∧ Only B g wA wx)
 case first =>
  go_region_with (go_at_call 65; refine ((HC _).out (by exact (Below.refl _ wA).drew)).mono ?_; rintro e w1 ⟨rfl,A',C',hG1,hO1⟩; have HG1 := hide hG1; have HO1 := hide hO1; clear hG1 hO1)
  all_goals
   go_wp2_with fail
   go_meet
   exact ⟨rfl,_,_,HG1.out,HO1.out⟩
 case rest =>
  obtain ⟨rfl,A',C',hG1,hO1⟩ := hcut
  obtain ⟨w1,hw1⟩ : ∃ w1,w1 = wc := ⟨_,rfl⟩
  subst hw1
  have HB1 := hide ((frame_of_below (L := [g,px,pj,gm]) HBA.out hB).trans (frame_of_only hO1 (by simp)))
  have hs1 := hO1.below.size
  have HM1 := hide (HA.out.mem.did hG1 hO1 (by omega))
  have HX1 := hide (hO1.other px _ _ _ HNX.out (by decide) HA.out.ftl)
  have HP1 := hide (hO1.other pj _ _ _ HNJ.out (by decide) HA.out.jobs)
  have HJ1 := hide (hO1.other w.heap.size _ _ _ (by omega) (by decide) HJ.out)
  clear hG1 hO1 HC HA HJ b0 b1 b2
  cases hcan : canJ z s.qs (kd,sq,tx) with
  | false =>
   have HE : Hid (doK z s (kd,sq,tx) = none) := by show _ = _; rw [HDO.out,hcan]; rfl
   go_wp2_with fail
   go_ret
   exact ⟨by rw [HE.out]; rfl,HB1.out,fun s' hs' => by rw [HE.out] at hs'; cases hs'⟩
  | true =>
   have HE : Hid (doK z s (kd,sq,tx) = some ⟨doJ z s.qs (kd,sq,tx),s.ps,s.op,s.js ++ [(kd,sq,tx)]⟩) := by show _ = _; rw [HDO.out,hcan]; rfl
   clear hcan HDO
   obtain ⟨j0,j1,j2⟩ := three_cells HJ1.out
   have p0 : w1.cell? ⟨pj,0,none⟩ = some (.slice aj s.js.length cj) := by simp [World.cell?,HP1.out]
   obtain ⟨i0,hi0,hzz0,hzz1,hzz2⟩ := info_parts Tryz.infoJob
   have HBB := hide ((Below.refl w1.heap.size w1).alloc (Nat.le_refl _) (.cells #[.int .i64 kd,.int .i64 sq,.string tx] 98))
   have HMB := hide (HM1.out.later HBB.out)
   have HPB := hide (block_on HP1.out HBB.out)
   have HXB := hide (block_on HX1.out HBB.out)
   have HOD : Hid (World.ownsRow (w1.alloc (.cells #[.int .i64 kd,.int .i64 sq,.string tx] 98)).drew B 98 3 (.slice aj s.js.length cj) s.js.length (jbL s.js)) := World.ownsRow.drew HMB.out.jb
   have hzB : (w1.alloc (.cells #[.int .i64 kd,.int .i64 sq,.string tx] 98)).heap.size = w1.heap.size + 1 := by simp
   have HZB := hide hzB
   clear hzB
   have p1 : (w1.alloc (.cells #[.int .i64 kd,.int .i64 sq,.string tx] 98)).cell? ⟨pj,0,none⟩ = some (.slice aj s.js.length cj) := by simp [World.cell?,HPB.out]
   have f1 := four_frozen HPB.out 0
   have HNE : Hid (some pj ≠ (Value.slice aj s.js.length cj).ownBlock) := fun e => by
    obtain ⟨cs,fz,h2⟩ := Go.Lib.ownsRow_kind HMB.out.jb pj e.symm
    rw [HPB.out] at h2
    simp only [Option.some.injEq,Obj.cells.injEq] at h2
    exact absurd h2.2.1 (by decide)
   have hpl1 : pj < w1.heap.size := by omega
   go_upto_region 3 with fail
   go_region_law (refine step_append_lies _ (by rfl) _ _ _ (by rfl) B 98 i0 (.agg #[.int .i64 0,.int .i64 0,.string ByteArray.empty]) 3 32 Tryz.underlying91 hi0 hzz0 hzz1 hzz2 rfl (by decide) (.slice aj s.js.length cj) s.js.length (jbL s.js) (by rfl) HOD.out ⟨w1.heap.size,0,none⟩ 1 1 [.int .i64 kd,.int .i64 sq,.string tx] (by rfl) rfl (cell_three_new _ _ _ _ _) (job_one _ _ _) (by omega) (by unfold maxLen; omega) (by omega) (by simp; omega) (w1.heap.size + 1) (by simp) ?_; intro g' c' w5 hown5 hgr5 hat5 hlt5; have c5 := (hgr5.cell_far ⟨pj,0,none⟩ (by simp; omega) HNE.out).trans p1; have f5 := (hgr5.frozen_far ⟨pj,0,none⟩ (by simp; omega) HNE.out).trans f1; have HO5 := hide hown5; have HR5 := hide hgr5; have HA5 := hide hat5; clear hown5 hgr5 hat5)
   all_goals
    have hzB := HZB.out
    have HR6 : Hid ((w1.alloc (.cells #[.int .i64 kd,.int .i64 sq,.string tx] 98)).grownBy w5 (Value.slice aj s.js.length cj).ownBlock) := ⟨HR5.out.os,HR5.out.tape,HR5.out.output,HR5.out.size,fun k hk hne => HR5.out.block k hk hne⟩
    have HF := hide (noted_at (s := ⟨doJ z s.qs (kd,sq,tx),s.ps,s.op,s.js⟩) HMB.out HXB.out HPB.out HR6.out HO5.out (HA5.out.imp id (fun e => by omega)) HNX.out HNJ.out HBX.out HBJ.out)
    have HBF := hide (((HB1.out.on HBB.out (by omega)).noted HMB.out.jb HR6.out (by omega)).set (p := pj) (by simp) HBJ.out 0 (.slice (some ⟨g',0,none⟩) (s.js.length + 1) c'))
    go_wp2_with fail
    go_ret
    exact ⟨by rw [HE.out]; rfl,HBF.out,fun s' hs' => by rw [HE.out] at hs'; simp only [Option.some.injEq] at hs'; subst hs'; exact ⟨_,_,_,HF.out⟩⟩
end Go.Proofs.YtgjoepdfhadmcaaGreatDoor
end

section
namespace Go.Proofs.YtgjoepdfhadmcaaGreatDoor
open Go.RowKit
set_option linter.unusedVariables false
set_option linter.unusedSimpArgs false
set_option maxRecDepth 20000
theorem grow_new {B g n : Nat} {w : World} (h : Owned g (g + 1) w (some ⟨g,0,none⟩) (3 * n) zero3) (hB : B <= g) : GrowSqs B w n (List.replicate n ([],0,false)) g (fun _ => none) (fun _ => 0) :=
 ⟨by simp,h.congr (fun j _ => cellQ_new n j),⟨fun i _ => by rw [sqAt_new]; exact ⟨rfl,.inl ⟨rfl,rfl⟩⟩,fun i j m _ _ _ h' => by simp [oB] at h'⟩,hB,fun i _ => by simp [oB]⟩
theorem chipOk_new {n : Nat} {z : Int} (h1 : 1 <= n) (h2 : n <= 12) (hz : inB z 1 8 = true) : chipOk z (List.replicate n ([],0,false)) = true := by
 unfold chipOk
 rw [hz,List.length_replicate]
 have h3 : (List.replicate n (([],0,false) : Sq)).all (sqOk z) = true := by
  rw [List.all_eq_true]
  intro x hx
  rw [(List.mem_replicate.1 hx).2]
  have hz' : 1 <= z := by
   unfold inB at hz; simp at hz; omega
  simp [sqOk,inB]
  try omega
 rw [h3]
 simp [h1,h2]
set_option maxHeartbeats 1600000 in
theorem specNewChip_grow (n : Nat) (z : Int) (w : World) (h1 : 1 <= n) (h2 : n <= 12) (hz : inB z 1 8 = true) :
  Calls Tryz.prog 94 #[.int .i64 (n : Int),.int .i64 z] w fun e w' => ∃ g,e = .returned (.tuple #[.agg #[.int .i64 z,.slice (some ⟨g,0,none⟩) n n],.bool true]) ∧ GrowSqs w.heap.size w' n (List.replicate n ([],0,false)) g (fun _ => none) (fun _ => 0) ∧ Below w.heap.size w w' := by
 obtain ⟨wA,hwA⟩ : ∃ wA,wA = w.alloc (.cells #[.int .i64 0,.slice none 0 0] 26) := ⟨_,rfl⟩
 have hzA : wA.heap.size = w.heap.size + 1 := by rw [hwA]; simp
 have HBA : Hid (Below w.heap.size w wA) := by rw [hwA]; exact (Below.refl _ _).alloc (Nat.le_refl _) _
 have H1 : Hid (wA.heap[w.heap.size]? = some (.cells #[.int .i64 0,.slice none 0 0] 26)) := by rw [hwA]; exact heap_new _ _
 have hi : inB (n : Int) 1 12 = true := by unfold inB; simp; omega
 have hmk := make3 (P := Tryz.prog) 24 42 (.slice none 0 0) (.int .i64 0) (.bool false) 40 Tryz.underlying24 Tryz.infoSq n (by omega) (by omega) wA
 go_enter Tryz.func94,Tryz.ntmps94
 go_wp2_with fail
 rw [<- hwA]
 clear hwA
 refine (l1In_any (n : Int) 1 12 wA).mono ?_
 rintro e w1 ⟨rfl,rfl⟩
 rw [hi]
 go_wp2_with fail
 refine (l1In_any z 1 8 wA).mono ?_
 rintro e w1 ⟨rfl,rfl⟩
 rw [hz]
 obtain ⟨a0,a1⟩ := two_cells H1.out
 have f0 := four_frozen H1.out 0
 have f1 := four_frozen H1.out 1
 go_wp2_with fail
 have HRS := hide (two_set H1.out (.int .i64 z) (.slice (some ⟨w.heap.size + 1,0,none⟩) n n))
 have HAS := hide (two_aside (b := w.heap.size) (Aside.refl w.heap.size (w.heap.size + 1) wA) (Nat.le_refl _) (Nat.lt_succ_self _) (.int .i64 z) (.slice (some ⟨w.heap.size + 1,0,none⟩) n n))
 have hsW : ((wA.setCell ⟨w.heap.size,0,none⟩ (.int .i64 z)).setCell ⟨w.heap.size,1,none⟩ (.slice (some ⟨w.heap.size + 1,0,none⟩) n n)).heap.size = w.heap.size + 1 := by rw [Go.Deep.nblk_setCell,Go.Deep.nblk_setCell,hzA]
 have HBW := hide (HBA.out.trans (HAS.out.below (Nat.le_refl _) (by omega)))
 have HOW := hide (made3 ((wA.setCell ⟨w.heap.size,0,none⟩ (.int .i64 z)).setCell ⟨w.heap.size,1,none⟩ (.slice (some ⟨w.heap.size + 1,0,none⟩) n n)) n 42)
 rw [hsW] at HOW
 refine bodyPost_ret (results_ct rfl rfl (run_loadVar_row _ _ _ _ _ _ _ (heap_old HRS.out) Tryz.underlying26 rfl (by kernel_rfl))) rfl ⟨_,rfl,grow_new HOW.out (by omega),HBW.out.alloc (by omega) _⟩
theorem Aside.trans_below {l r B : Nat} {a w w' : World} (h : Aside l r a w) (hb : Below B w w') (hB : a.heap.size <= B) : Aside l r a w' :=
 ⟨hb.os.trans h.os,hb.tape.trans h.tape,hb.output.trans h.output,Nat.le_trans h.size hb.size,fun k hk hk' => (hb.block k (by omega)).trans (h.block k hk hk')⟩
def JobDraws : Prop := ∀ (p : Nat) (q : Int) (w : World),Cur w p -> q <= 4294967296 ->
  Calls Tryz.prog 181 #[.pointer (some ⟨p,0,none⟩),.int .i64 q] w fun e w' => ∃ (kd sq : Int) (tx : ByteArray),e = .returned (.agg #[.int .i64 kd,.int .i64 sq,.string tx]) ∧ tx.size <= maxLen ∧ Cur w' p ∧ Aside p (p + 1) w w'
set_option maxHeartbeats 1600000 in
theorem l8Draw_any (hd : JobDraws) (p : Nat) (w : World) (hc : Cur w p) :
  Calls Tryz.prog 145 #[.pointer (some ⟨p,0,none⟩)] w fun e w' => ∃ (z : Int) (g n : Nat) (qs : List Sq) (A : Nat -> Option Addr) (C : Nat -> Nat),e = .returned (.agg #[.int .i64 z,.slice (some ⟨g,0,none⟩) n n]) ∧ chipOk z qs = true ∧ GrowSqs w.heap.size w' n qs g A C ∧ Cur w' p ∧ Aside p (p + 1) w w' := by
 have hpl := hc.lt
 have HD := hide hd
 clear hd
 obtain ⟨wA,hwA⟩ : ∃ wA,wA = w.alloc (.cells #[.int .i64 0,.slice none 0 0] 26) := ⟨_,rfl⟩
 have HC := hide (hc.alloc (.cells #[.int .i64 0,.slice none 0 0] 26))
 have HA := hide ((Aside.refl p (p + 1) w).alloc (.cells #[.int .i64 0,.slice none 0 0] 26))
 have H1 := hide (heap_new w (.cells #[.int .i64 0,.slice none 0 0] 26))
 rw [<- hwA] at HC HA H1
 clear hc
 go_enter Tryz.func145,Tryz.ntmps145
 go_wp2_with fail
 rw [<- hwA]
 clear hwA
 refine (l1Below_any p 5 wA HC.out (by omega)).mono ?_
 rintro e w1 ⟨x,rfl,x0,x1,c1,s1⟩
 have h1 := aside_block s1 H1.out (by omega)
 have HA1 := hide (HA.out.trans s1)
 clear s1 HC HA H1
 go_wp2_with fail
 refine (l1Below_any p 4 w1 c1 (by omega)).mono ?_
 rintro e w2 ⟨y,rfl,y0,y1,c2,s2⟩
 have h2 := aside_block s2 h1 (by omega)
 have HA2 := hide (HA1.out.trans s2)
 clear s2 c1 HA1 h1
 obtain ⟨n,hn⟩ : ∃ n : Nat,1 + x = (n : Int) := ⟨(1 + x).toNat,by omega⟩
 have hn1 : 1 <= n := by omega
 have hn5 : n <= 5 := by omega
 obtain ⟨z,hz⟩ : ∃ z : Int,1 + y = z := ⟨_,rfl⟩
 have hzi : inB z 1 8 = true := by unfold inB; simp; omega
 have hw2 : w.heap.size < w2.heap.size := by
  rcases Nat.lt_or_ge w.heap.size w2.heap.size with h' | h'
  ·exact h'
  ·rw [Array.getElem?_eq_none h'] at h2; simp at h2
 go_wp2_with fail
 refine (specNewChip_grow n z w2 hn1 (by omega) hzi).mono ?_
 rintro e w3 ⟨g,rfl,hG,b3⟩
 have hok := chipOk_new hn1 (show n <= 12 by omega) hzi
 have hs3 := b3.size
 have hg2 := hG.atG
 obtain ⟨B,hB⟩ : ∃ B,B = w2.heap.size := ⟨_,rfl⟩
 rw [<- hB] at hG hg2 hw2 hs3
 have hgl : g < w3.heap.size := by have := hG.row.1; omega
 obtain ⟨wB,hwB⟩ : ∃ wB,wB = w3.alloc (.cells #[.int .i64 z,.slice (some ⟨g,0,none⟩) n n] 26) := ⟨_,rfl⟩
 have HGB : Hid (GrowSqs B wB n (List.replicate n ([],0,false)) g (fun _ => none) (fun _ => 0)) := by rw [hwB]; exact hG.later ((Below.refl _ _).alloc (Nat.le_refl _) _)
 have HKB : Hid (wB.heap[w3.heap.size]? = some (.cells #[.int .i64 z,.slice (some ⟨g,0,none⟩) n n] 26)) := by rw [hwB]; exact heap_new _ _
 have HRB : Hid (wB.heap[w.heap.size]? = some (.cells #[.int .i64 0,.slice none 0 0] 26)) := by rw [hwB]; exact heap_old (block_on h2 b3)
 have HCB : Hid (Cur wB p) := by rw [hwB]; exact (c2.below b3 c2.lt).alloc _
 have HAB : Hid (Aside p (p + 1) w wB) := by rw [hwB]; exact (HA2.out.trans (aside_of_below b3)).alloc _
 have HOK := hide hok
 have hzB : wB.heap.size = w3.heap.size + 1 := by rw [hwB]; simp
 have HZB := hide hzB
 clear hG b3 c2 HA2 h2 hok hzB hn hz x0 x1 y0 y1
 go_wp2_with fail
 rw [<- hwB]
 clear hwB hB
 refine (l1Below_any p 14 wB HCB.out (by omega)).mono ?_
 rintro e w4 ⟨m,rfl,m0,m1,c4,s4⟩
 have hp3 : p < w3.heap.size := by omega
 have HG4 := hide (HGB.out.aside s4 (.inl (by omega)))
 have HK4 := hide (aside_block s4 HKB.out (by omega))
 have HR4 := hide (aside_block s4 HRB.out (by omega))
 have HA4 := hide (HAB.out.trans s4)
 have hs4 : w3.heap.size + 1 <= w4.heap.size := by rw [<- HZB.out]; exact s4.size
 have HC4 := hide c4
 clear HGB HKB HRB HAB HCB c4 s4 HZB
 obtain ⟨M,rfl⟩ : ∃ M : Nat,m = (M : Int) := ⟨m.toNat,by omega⟩
 have hM : M <= 13 := by omega
 clear m0 m1
 go_wp2_with fail
 go_loopw [5] (fun i wr => ∃ (k : Nat) (qs : List Sq) (A : Nat -> Option Addr) (C : Nat -> Nat),k <= 13 ∧ i = .int .i64 (k : Int) ∧ chipOk z qs = true ∧ GrowSqs B wr n qs g A C ∧ wr.heap[w3.heap.size]? = some (.cells #[.int .i64 z,.slice (some ⟨g,0,none⟩) n n] 26) ∧ wr.heap[w.heap.size]? = some (.cells #[.int .i64 0,.slice none 0 0] 26) ∧ Cur wr p ∧ Aside p (p + 1) w wr ∧ w3.heap.size + 1 <= wr.heap.size) (fun i _ => (intOf i).toNat)
 case atStart => exact ⟨M,_,_,_,hM,rfl,HOK.out,HG4.out,HK4.out,HR4.out,HC4.out,HA4.out,hs4⟩
 case round =>
  obtain ⟨k,qs,A,C,hk,rfl,hok,hG,hK,hR,hC,hA,hs⟩ := hrel
  have HOK2 := hide hok
  have HG := hide hG
  have HK := hide hK
  have HR := hide hR
  have HA := hide hA
  clear HG4 HK4 HR4 HA4 HC4 HOK hok hG hA
  by_cases h0 : 0 < k
  ·obtain ⟨a0,a1⟩ := two_cells hK
   clear hK hR
   go_wp2_with fail
   refine (HD.out p (n : Int) wr hC (by omega)).mono ?_
   rintro e w5 ⟨kd,sq,tx,rfl,htx,c5,s5⟩
   have hs5 := s5.size
   have HG5 := hide (HG.out.aside s5 (.inl (by omega)))
   have HK5 := hide (aside_block s5 HK.out (by omega))
   have HR5 := hide (aside_block s5 HR.out (by omega))
   have HA5 := hide (HA.out.trans s5)
   have HC5 := hide c5
   clear HG HK HR HA hC s5 c5 a0 a1
   go_wp2_with fail
   refine (l8Do_any w3.heap.size n B z n qs g A C kd sq tx w5 HG5.out (by omega) HK5.out (by omega) HOK2.out htx).mono ?_
   rintro e w6 ⟨rfl,A6,C6,hG6,hO6⟩
   have HG6 := hide hG6
   have HK6 := hide (hO6.other _ _ _ _ (show w3.heap.size ≠ g by omega) (by decide) HK5.out)
   have HR6 := hide (hO6.other _ _ _ _ (show w.heap.size ≠ g by omega) (by decide) HR5.out)
   have HC6 := hide (HC5.out.below hO6.below (by omega))
   have HA6 : Hid (Aside p (p + 1) w w6) := HA5.out.trans_below hO6.below (by omega)
   have hs6 : w3.heap.size + 1 <= w6.heap.size := by have := hO6.below.size; omega
   have HOK6 := hide (doJ_ok (j := (kd,sq,tx)) HOK2.out)
   clear hG6 hO6 HG5 HK5 HR5 HA5 HC5 HOK2
   go_wp2_with fail
   exact ⟨⟨k - 1,_,A6,C6,by omega,by go_num,HOK6.out,HG6.out,HK6.out,HR6.out,HC6.out,HA6.out,hs6⟩,by simp [intOf]; omega⟩
  ·obtain rfl : k = 0 := by omega
   obtain ⟨a0,a1⟩ := two_cells hK
   obtain ⟨z0,z1⟩ := two_cells hR
   have f0 := four_frozen hR 0
   have f1 := four_frozen hR 1
   have HCC := hide hC
   clear hK hR hC
   go_wp2_with fail
   refine bodyPost_ret (results_cell rfl rfl (run_loadVar_row _ _ _ _ _ _ _ (two_set HR.out _ _) Tryz.underlying26 rfl (by kernel_rfl))) rfl ⟨z,g,n,qs,A,C,rfl,HOK2.out,?_,?_,?_⟩
   ·exact (HG.out.aside (two_aside (Aside.refl w.heap.size (w.heap.size + 1) wr) (Nat.le_refl _) (Nat.lt_succ_self _) _ _) (.inl (by omega))).mono (by omega)
   ·exact (HCC.out.set_new hpl _).set_new hpl _
   ·exact (HA.out.set_new (Nat.le_refl _) _).set_new (Nat.le_refl _) _
end Go.Proofs.YtgjoepdfhadmcaaGreatDoor
end

section
namespace Go.Proofs.YtgjoepdfhadmcaaGreatDoor
open Go.RowKit
set_option linter.unusedVariables false
set_option linter.unusedSimpArgs false
set_option maxRecDepth 20000
theorem four_at (k : Nat) (h : k < 4) : ∃ v : Int,(#[.int .i64 0,.int .i64 1,.int .i64 8,.int .i64 9] : Array Value)[k]? = some (.int .i64 v) := by
 rcases (show k = 0 ∨ k = 1 ∨ k = 2 ∨ k = 3 by omega) with rfl | rfl | rfl | rfl <;> exact ⟨_,rfl⟩
def ChipDrawn (w : World) (p : Nat) (e : Ending) (w' : World) : Prop := ∃ (z : Int) (a : Option Addr) (n c : Nat) (qs : List Sq),e = .returned (.agg #[.int .i64 z,.slice a n c]) ∧ n <= 13 ∧ n <= c ∧ (∀ x ∈ qs,sqFits x) ∧ (∀ x ∈ qs,x.1.length <= 9) ∧ Squares w.heap.size w'.heap.size w' a n qs ∧ Cur w' p ∧ Aside p (p + 1) w w'
theorem three_at (x0 x1 x2 : Int) (k : Nat) (h : k < 3) : ∃ v : Int,(v = x0 ∨ v = x1 ∨ v = x2) ∧ (#[.int .i64 x0,.int .i64 x1,.int .i64 x2] : Array Value)[k]? = some (.int .i64 v) := by
 rcases (show k = 0 ∨ k = 1 ∨ k = 2 by omega) with rfl | rfl | rfl
 ·exact ⟨_,.inl rfl,rfl⟩
 ·exact ⟨_,.inr (.inl rfl),rfl⟩
 ·exact ⟨_,.inr (.inr rfl),rfl⟩
theorem two_at (k : Nat) (h : k < 2) : ∃ tx : ByteArray,tx.size <= 4 ∧ (#[.string ⟨#[]⟩,.string ⟨#[106,117,110,107]⟩] : Array Value)[k]? = some (.string tx) := by
 rcases (show k = 0 ∨ k = 1 by omega) with rfl | rfl
 ·exact ⟨_,by decide,rfl⟩
 ·exact ⟨_,by decide,rfl⟩
theorem cell_aside {w w' : World} {l r g q : Nat} (h : Aside l r w w') (hg : g < w.heap.size) (hr : r <= g) : w'.cell? ⟨g,q,none⟩ = w.cell? ⟨g,q,none⟩ := World.cell?_of_block (a := ⟨g,q,none⟩) (h.block g hg (.inr hr))
theorem array_cell_new (w : World) {cs : Array Value} {t : TypeId} {J : Nat} {v : Value} (hv : cs[J]? = some v) : (w.alloc (.cells cs t)).cell? ⟨w.heap.size,J,none⟩ = some v := by rw [World.cell?_alloc_new]; exact hv
theorem grow_cell {B n g : Nat} {w : World} {qs : List Sq} {A : Nat -> Option Addr} {C : Nat -> Nat} (h : GrowSqs B w n qs g A C) (hn : 0 < n) : w.cell? ⟨g,0,none⟩ = some (.slice (A 0) (sqAt qs 0).1.length (C 0)) := by
 have h1 := (h.cells (i := 0) hn).1
 rw [Nat.zero_mul] at h1
 exact h1
theorem chip_len {z : Int} {qs : List Sq} (h : chipOk z qs = true) {k : Nat} (hk : k < qs.length) : (sqAt qs k).1.length <= 8 := by
 have h1 := chipOk_parts h
 have h2 : sqOk z (sqAt qs k) = true := by
  unfold chipOk at h
  simp only [Bool.and_eq_true] at h
  have h3 := List.all_eq_true.1 h.2.2.2
  refine h3 _ ?_
  unfold sqAt
  rw [List.getD_eq_getElem?_getD,List.getElem?_eq_getElem hk]
  exact List.getElem_mem hk
 unfold sqOk at h2
 simp only [Bool.and_eq_true,decide_eq_true_eq] at h2
 have h4 := h1.2.1
 have h5 := h2.1
 omega
theorem chip_lens {z : Int} {qs : List Sq} (h : chipOk z qs = true) : ∀ x ∈ qs,x.1.length <= 9 := by
 intro x hx
 obtain ⟨k,hk,rfl⟩ := List.getElem_of_mem hx
 have := chip_len h hk
 unfold sqAt at this
 rw [List.getD_eq_getElem?_getD,List.getElem?_eq_getElem hk] at this
 simp at this
 omega
theorem chip_both {z : Int} {qs : List Sq} (h : chipOk z qs = true) : (∀ x ∈ qs,sqFits x) ∧ ∀ x ∈ qs,x.1.length <= 9 := ⟨chipOk_fits h,chip_lens h⟩
theorem drawn_end {w wL : World} {p lo hi : Nat} {z : Int} {a : Option Addr} {n c : Nat} {qs : List Sq} (hS : OwnSquares lo hi wL a n qs) (hlo : w.heap.size + 1 <= lo) (hhi : hi <= wL.heap.size) (hC : Cur wL p) (hpl : p < w.heap.size) (hA : Aside p (p + 1) w wL) (hn : n <= 13) (hc : n <= c) (hf : (∀ x ∈ qs,sqFits x) ∧ ∀ x ∈ qs,x.1.length <= 9) (u v : Value) :
  ChipDrawn w p (.returned (.agg #[.int .i64 z,.slice a n c])) ((wL.setCell ⟨w.heap.size,0,none⟩ u).setCell ⟨w.heap.size,1,none⟩ v) := by
 have h1 := hS.aside (two_aside (Aside.refl w.heap.size (w.heap.size + 1) wL) (Nat.le_refl _) (Nat.lt_succ_self _) u v) (.inl hlo)
 have h2 : ((wL.setCell ⟨w.heap.size,0,none⟩ u).setCell ⟨w.heap.size,1,none⟩ v).heap.size = wL.heap.size := by rw [Go.Deep.nblk_setCell,Go.Deep.nblk_setCell]
 exact ⟨z,a,n,c,qs,rfl,hn,hc,hf.1,hf.2,(h1.wide (by omega) (by omega) (Nat.le_refl _)).squares,(hC.set_new hpl _).set_new hpl _,(hA.set_new (Nat.le_refl _) _).set_new (Nat.le_refl _) _⟩
set_option maxHeartbeats 3200000 in
theorem l8DrawAny_any (hd : JobDraws) (p : Nat) (w : World) (hc : Cur w p) :
  Calls Tryz.prog 90 #[.pointer (some ⟨p,0,none⟩)] w (ChipDrawn w p) := by
 have hpl := hc.lt
 obtain ⟨wA,hwA⟩ : ∃ wA,wA = w.alloc (.cells #[.int .i64 0,.slice none 0 0] 26) := ⟨_,rfl⟩
 have HC := hide (hc.alloc (.cells #[.int .i64 0,.slice none 0 0] 26))
 have HA := hide ((Aside.refl p (p + 1) w).alloc (.cells #[.int .i64 0,.slice none 0 0] 26))
 have H1 := hide (heap_new w (.cells #[.int .i64 0,.slice none 0 0] 26))
 have hzA : wA.heap.size = w.heap.size + 1 := by rw [hwA]; simp
 rw [<- hwA] at HC HA H1
 clear hc
 go_enter Tryz.func90,Tryz.ntmps90
 go_wp2_with fail
 rw [<- hwA]
 clear hwA
 refine (l8Draw_any hd p wA HC.out).mono ?_
 rintro e w3 ⟨z,g,n,qs,A,C,rfl,hok,hG,hC3,hA3⟩
 have HOK := hide hok
 have hs3 := hA3.size
 have hgB := hG.atG
 have hgl : g < w3.heap.size := by have := hG.row.1; omega
 have hn1 : 1 <= n := by have := (chipOk_parts hok).2.2.1; rw [hG.len] at this; exact this
 have hn12 : n <= 12 := by have := (chipOk_parts hok).2.2.2.1; rw [hG.len] at this; exact this
 obtain ⟨wB,hwB⟩ : ∃ wB,wB = w3.alloc (.cells #[.int .i64 z,.slice (some ⟨g,0,none⟩) n n] 26) := ⟨_,rfl⟩
 have HGB : Hid (GrowSqs wA.heap.size wB n qs g A C) := by rw [hwB]; exact hG.later ((Below.refl _ _).alloc (Nat.le_refl _) _)
 have HSB : Hid (OwnSquares wA.heap.size w3.heap.size wB (some ⟨g,0,none⟩) n qs) := by rw [hwB]; exact hG.ownS.later ((Below.refl _ _).alloc (Nat.le_refl _) _) (Nat.le_refl _)
 have HKB : Hid (wB.heap[w3.heap.size]? = some (.cells #[.int .i64 z,.slice (some ⟨g,0,none⟩) n n] 26)) := by rw [hwB]; exact heap_new _ _
 have HRB : Hid (wB.heap[w.heap.size]? = some (.cells #[.int .i64 0,.slice none 0 0] 26)) := by rw [hwB]; exact heap_old (aside_block hA3 H1.out (by omega))
 have HCB : Hid (Cur wB p) := by rw [hwB]; exact hC3.alloc _
 have HAB : Hid (Aside p (p + 1) w wB) := by rw [hwB]; exact (HA.out.trans hA3).alloc _
 have hzB : wB.heap.size = w3.heap.size + 1 := by rw [hwB]; simp
 have HZB := hide hzB
 clear hok hG hC3 hA3 HC HA H1 hzB
 go_wp2_with fail
 rw [<- hwB]
 clear hwB
 refine (l1Once_any p 12 wB HCB.out (by omega)).mono ?_
 rintro e w4 ⟨b,rfl,c4,s4⟩
 have hp3 : p < w3.heap.size := by omega
 have HG4 := hide (HGB.out.aside s4 (.inl (by omega)))
 have HS4 := hide (HSB.out.aside s4 (.inl (by omega)))
 have HK4 := hide (aside_block s4 HKB.out (by omega))
 have HR4 := hide (aside_block s4 HRB.out (by omega))
 have HA4 := hide (HAB.out.trans s4)
 have hs4 : w3.heap.size + 1 <= w4.heap.size := by rw [<- HZB.out]; exact s4.size
 have HC4 := hide c4
 clear HSB HGB HKB HRB HAB HCB c4 s4 HZB
 cases b with
 | false =>
  obtain ⟨a0,a1⟩ := two_cells HK4.out
  obtain ⟨z0,z1⟩ := two_cells HR4.out
  have f0 := four_frozen HR4.out 0
  have f1 := four_frozen HR4.out 1
  go_wp2_with fail
  refine bodyPost_ret (results_cell rfl rfl (run_loadVar_row _ _ _ _ _ _ _ (two_set HR4.out _ _) Tryz.underlying26 rfl (by kernel_rfl))) rfl ?_
  exact drawn_end HG4.out.ownS (by omega) (Nat.le_refl _) HC4.out hpl HA4.out (by omega) (Nat.le_refl _) (chip_both HOK.out) _ _
 | true =>
  obtain ⟨a0,a1⟩ := two_cells HK4.out
  go_wp2_with fail
  refine (l1Below_any p 4 w4 HC4.out (by omega)).mono ?_
  rintro e w7 ⟨y,rfl,y0,y1,c7,s7⟩
  have HG7 := hide (HG4.out.aside s7 (.inl (by omega)))
  have HS7 := hide (HS4.out.aside s7 (.inl (by omega)))
  have HK7 := hide (aside_block s7 HK4.out (by omega))
  have HR7 := hide (aside_block s7 HR4.out (by omega))
  have HA7 := hide (HA4.out.trans s7)
  have hs7 : w3.heap.size + 1 <= w7.heap.size := by have := s7.size; omega
  have HC7 := hide c7
  clear HS4 HG4 HK4 HR4 HA4 HC4 a0 a1 s7 c7
  obtain ⟨a0,a1⟩ := two_cells HK7.out
  rcases (show y = 0 ∨ y = 1 ∨ y = 2 ∨ y = 3 by omega) with rfl | rfl | rfl | rfl
  ·have HC8 := hide (HC7.out.alloc (.cells #[.int .i64 0,.int .i64 1,.int .i64 8,.int .i64 9] 2))
   go_wp2_with fail
   refine (l1Below_any p 4 _ HC8.out (by omega)).mono ?_
   rintro e w8 ⟨j,rfl,j0,j1,c8,s8⟩
   obtain ⟨J,rfl⟩ : ∃ J : Nat,j = (J : Int) := ⟨j.toNat,by omega⟩
   have hJ : J < 4 := by omega
   obtain ⟨v,hv⟩ := four_at J hJ
   have hcell : w8.cell? ⟨w7.heap.size,J,none⟩ = some (.int .i64 v) := by
    rw [World.cell?_of_block (a := ⟨w7.heap.size,J,none⟩) (s8.block w7.heap.size (by simp) (.inr (by omega))),World.cell?_alloc_new]; exact hv
   have HS8 := hide ((HS7.out.later ((Below.refl w7.heap.size w7).alloc (Nat.le_refl _) (.cells #[.int .i64 0,.int .i64 1,.int .i64 8,.int .i64 9] 2)) (by omega)).aside s8 (.inl (by omega)))
   have HK8 := hide (aside_block s8 (heap_old HK7.out) (by omega))
   have HR8 := hide (aside_block s8 (heap_old HR7.out) (by omega))
   have HA8 := hide ((HA7.out.alloc (.cells #[.int .i64 0,.int .i64 1,.int .i64 8,.int .i64 9] 2)).trans s8)
   have hs8 : w3.heap.size + 1 <= w8.heap.size := by have := s8.size; simp at this; omega
   have HCC := hide c8
   clear HG7 HS7 HK7 HR7 HA7 HC7 HC8 a0 a1 s8 c8 j0 j1 hv
   have HK9 := hide (set_block HK8.out 0 (.int .i64 v) (by simp))
   have HS9 := hide (HS8.out.aside ((Aside.refl w3.heap.size (w3.heap.size + 1) w8).setCell (p := ⟨w3.heap.size,0,none⟩) (Nat.le_refl _) (Nat.lt_succ_self _) (.int .i64 v)) (.inr (Nat.le_refl _)))
   have HR9 := hide (set_other (o := 0) HR8.out (show w3.heap.size ≠ w.heap.size by omega) (.int .i64 v))
   have HC9 := hide (HCC.out.set_new hp3 (q := 0) (.int .i64 v))
   have HA9 := hide (HA8.out.set_new (g := w3.heap.size) (q := 0) (by omega) (.int .i64 v))
   obtain ⟨a0,a1⟩ := two_cells HK8.out
   have g0 := four_frozen HK8.out 0
   obtain ⟨z0,z1⟩ := two_cells HR8.out
   have f0 := four_frozen HR8.out 0
   have f1 := four_frozen HR8.out 1
   go_wp2_with fail
   refine bodyPost_ret (results_cell rfl rfl (run_loadVar_row _ _ _ _ _ _ _ (two_set HR9.out _ _) Tryz.underlying26 rfl (by kernel_rfl))) rfl ?_
   exact drawn_end HS9.out (by omega) (by rw [Go.Deep.nblk_setCell]; omega) HC9.out hpl HA9.out (by omega) (Nat.le_refl _) (chip_both HOK.out) _ _
  ·have HC8 := hide (HC7.out.alloc (.cells #[.int .i64 (-1),.int .i64 1000000,.int .i64 1000001] 2))
   go_wp2_with fail
   refine (l1Below_any p 3 _ HC8.out (by omega)).mono ?_
   rintro e w8 ⟨j,rfl,j0,j1,c8,s8⟩
   obtain ⟨J,rfl⟩ : ∃ J : Nat,j = (J : Int) := ⟨j.toNat,by omega⟩
   have hJ : J < 3 := by omega
   obtain ⟨v,hv3,hv⟩ := three_at (-1) 1000000 1000001 J hJ
   have hcell : w8.cell? ⟨w7.heap.size,J,none⟩ = some (.int .i64 v) := by
    rw [World.cell?_of_block (a := ⟨w7.heap.size,J,none⟩) (s8.block w7.heap.size (by simp) (.inr (by omega))),World.cell?_alloc_new]; exact hv
   have HS8 := hide ((HS7.out.later ((Below.refl w7.heap.size w7).alloc (Nat.le_refl _) (.cells #[.int .i64 (-1),.int .i64 1000000,.int .i64 1000001] 2)) (by omega)).aside s8 (.inl (by omega)))
   have HG8 := hide ((HG7.out.later ((Below.refl w7.heap.size w7).alloc (Nat.le_refl _) (.cells #[.int .i64 (-1),.int .i64 1000000,.int .i64 1000001] 2))).aside s8 (.inl (by omega)))
   have HK8 := hide (aside_block s8 (heap_old HK7.out) (by omega))
   have HR8 := hide (aside_block s8 (heap_old HR7.out) (by omega))
   have HA8 := hide ((HA7.out.alloc (.cells #[.int .i64 (-1),.int .i64 1000000,.int .i64 1000001] 2)).trans s8)
   have hs8 : w3.heap.size + 1 <= w8.heap.size := by have := s8.size; simp at this; omega
   have HCC := hide c8
   clear HG7 HS7 HK7 HR7 HA7 HC7 HC8 a0 a1 s8 c8 j0 j1 hv
   obtain ⟨a0,a1⟩ := two_cells HK8.out
   obtain ⟨z0,z1⟩ := two_cells HR8.out
   have f0 := four_frozen HR8.out 0
   have f1 := four_frozen HR8.out 1
   have HG9 := hide (HG8.out.setWipes (i := 0) (by omega) v)
   have HK9 := hide (set_other (o := 0 * 3 + 1) HK8.out (show g ≠ w3.heap.size by omega) (.int .i64 v))
   have HR9 := hide (set_other (o := 0 * 3 + 1) HR8.out (show g ≠ w.heap.size by omega) (.int .i64 v))
   have HC9 := hide (HCC.out.set_new (show p < g by omega) (q := 0 * 3 + 1) (.int .i64 v))
   have HA9 := hide (HA8.out.set_new (g := g) (q := 0 * 3 + 1) (by omega) (.int .i64 v))
   obtain ⟨y0,y1,y2⟩ := HG8.out.cells (i := 0) (by omega)
   have g1 := HG8.out.open_ (j := 1) (by omega)
   rw [Nat.zero_mul,Nat.zero_add] at HK9 HR9 HC9 HA9 HG9
   obtain ⟨b0,b1⟩ := two_cells HK9.out
   have HLX : Hid (∀ x ∈ qs.set 0 ((sqAt qs 0).1,v,(sqAt qs 0).2.2),x.1.length <= 9) := by
    intro x hx
    rcases List.mem_or_eq_of_mem_set hx with h' | h'
    ·exact chip_lens HOK.out x h'
    ·rw [h']
     have h9 := chip_len HOK.out (k := 0) (by rw [HG8.out.len]; omega)
     show (sqAt qs 0).1.length <= 9
     omega
   have HFX : Hid (∀ x ∈ qs.set 0 ((sqAt qs 0).1,v,(sqAt qs 0).2.2),sqFits x) := by
    intro x hx
    rcases List.mem_or_eq_of_mem_set hx with h' | h'
    ·exact chipOk_fits HOK.out x h'
    ·rw [h']
     have h9 := sq_fits (chipOk_fits HOK.out) (k := 0) (by rw [HG8.out.len]; omega)
     refine ⟨h9.1,h9.2.1,?_⟩
     show (Lit.int .i64 v).wf = true
     rcases hv3 with rfl | rfl | rfl <;> rfl
   go_wp2_with fail
   refine bodyPost_ret (results_cell rfl rfl (run_loadVar_row _ _ _ _ _ _ _ (two_set HR9.out _ _) Tryz.underlying26 rfl (by kernel_rfl))) rfl ?_
   exact drawn_end HG9.out.ownS (by omega) (Nat.le_refl _) HC9.out hpl HA9.out (by omega) (Nat.le_refl _) ⟨HFX.out,HLX.out⟩ _ _
  ·obtain ⟨i0,hi0,hzz0,hzz1,hzz2⟩ := info_parts Tryz.infoStrC
   have hqz : 0 < qs.length := by rw [HG7.out.len]; omega
   have hL8 : (sqAt qs 0).1.length <= 8 := chip_len HOK.out hqz
   obtain ⟨X,hX⟩ : ∃ X,X = (Obj.cells #[.string ⟨#[]⟩,.string ⟨#[106,117,110,107]⟩] 9) := ⟨_,rfl⟩
   have HAX := hide ((Aside.refl p (p + 1) w7).alloc X)
   have HCX := hide (HC7.out.alloc X)
   have hzX : (w7.alloc X).heap.size = w7.heap.size + 1 := by simp
   obtain ⟨c0,c1,c2⟩ := HG7.out.cells (i := 0) (by omega)
   have f0 := HG7.out.open_ (j := 0) (by omega)
   rw [Nat.zero_mul] at c0
   have cX := (((Below.refl w7.heap.size w7).alloc (Nat.le_refl _) X).cell (p := ⟨g,0,none⟩) (show g < w7.heap.size by omega)).trans c0
   have HXC := hide hX
   rw [hX] at cX
   go_wp2_with fail
   have hn0 : 0 < n := by omega
   have HNE : Hid (some g ≠ (Value.slice (A 0) (sqAt qs 0).1.length (C 0)).ownBlock) := by show _ ≠ _; rw [ownBlock_slice]; exact fun e => HG7.out.apartG 0 hn0 e.symm
   go_region_law (first
    | (refine step_append_lies _ (by rfl) _ _ _ (by rfl) wA.heap.size 9 i0 (.string ByteArray.empty) 1 16 Tryz.underlying40 hi0 hzz0 hzz1 hzz2 rfl (by decide) (.slice (A 0) (sqAt qs 0).1.length (C 0)) (sqAt qs 0).1.length (pgV (sqAt qs 0).1) (by rfl) (HGa.out.pages.own 0 hn0) ⟨w8.heap.size,0,none⟩ 1 1 [.string tx] (by rfl) rfl (cell_one_new _ _ _) (by simp [Value.oneCell']) (by omega) (by unfold maxLen; omega) (by omega) (by simp; omega) (w8.heap.size + 1) (by simp) ?_; intro g' c' w5 hown5 hgr5 hat5 hlt5; have c5 := (hgr5.cell_far ⟨g,0,none⟩ (by simp; omega) HNE.out).trans (grow_cell HGa.out hn0); have f5 := (hgr5.frozen_far ⟨g,0,none⟩ (by simp; omega) HNE.out).trans (HGa.out.open_ (j := 0) (by omega)); have HO5 := hide hown5; have HR5 := hide hgr5; have HA5 := hide hat5; have HGP := HGa; have HKP := HKa; have HRP := HRa; have HCP := HCa; have HAP := HAa; clear hown5 hgr5 hat5)
    | (refine step_append_lies _ (by rfl) _ _ _ (by rfl) wA.heap.size 9 i0 (.string ByteArray.empty) 1 16 Tryz.underlying40 hi0 hzz0 hzz1 hzz2 rfl (by decide) (.slice (A 0) (sqAt qs 0).1.length (C 0)) (sqAt qs 0).1.length (pgV (sqAt qs 0).1) (by rfl) (HGb.out.pages.own 0 hn0) ⟨w8.heap.size + 1,0,none⟩ 1 1 [.string tx] (by rfl) rfl (by have h9 := cell_one_new (w8.alloc (Obj.cells #[.string ⟨#[]⟩,.string ⟨#[106,117,110,107]⟩] 9)) (.string tx) 9; rw [show (w8.alloc (Obj.cells #[.string ⟨#[]⟩,.string ⟨#[106,117,110,107]⟩] 9)).heap.size = w8.heap.size + 1 by simp] at h9; exact h9) (by simp [Value.oneCell']) (by omega) (by unfold maxLen; omega) (by omega) (by simp; omega) (w8.heap.size + 1 + 1) (by simp) ?_; intro g' c' w5 hown5 hgr5 hat5 hlt5; have c5 := (hgr5.cell_far ⟨g,0,none⟩ (by simp; omega) HNE.out).trans (grow_cell HGb.out hn0); have f5 := (hgr5.frozen_far ⟨g,0,none⟩ (by simp; omega) HNE.out).trans (HGb.out.open_ (j := 0) (by omega)); have HO5 := hide hown5; have HR5 := hide hgr5; have HA5 := hide hat5; have HGP := HGb; have HKP := HKb; have HRP := HRb; have HCP := HCb; have HAP := HAb; clear hown5 hgr5 hat5)
    | (go_simp; go_at_call 56; refine (l1Below_any p 2 _ (by first | exact HC7.out | (rw [<- HXC.out]; exact HCX.out)) (by omega)).mono ?_; rintro e w8 ⟨j,rfl,j0,j1,c8,s8⟩; dsimp only; obtain ⟨J,rfl⟩ : ∃ J : Nat,j = (J : Int) := ⟨j.toNat,by omega⟩; have hJ : (J : Int) < 2 := (by omega); obtain ⟨tx,htx,hv⟩ := two_at J (by omega); have s9 : Aside p (p + 1) w7 w8 := (by first | exact ⟨s8.os,s8.tape,s8.output,s8.size,s8.block⟩ | exact HAX.out.trans (by rw [HXC.out]; exact ⟨s8.os,s8.tape,s8.output,s8.size,s8.block⟩)); have e0 := (cell_aside s9 (show g < w7.heap.size by omega) (show p + 1 <= g by omega)).trans c0; (first | (have e1 : w8.cell? ⟨w7.heap.size,J,none⟩ = some (.string tx) := (World.cell?_of_block (a := ⟨w7.heap.size,J,none⟩) (s8.block w7.heap.size (by simp) (.inr (by omega)))).trans (array_cell_new w7 hv)) | skip); have e2 := array_cell_new w8 (t := 9) hv; have hs8 := s9.size; have HG8 := hide (HG7.out.aside s9 (.inl (by omega))); have HGa := hide (HG8.out.later ((Below.refl w8.heap.size w8).alloc (Nat.le_refl _) (.cells #[.string tx] 9))); have HGx := hide (HG8.out.later ((Below.refl w8.heap.size w8).alloc (Nat.le_refl _) (Obj.cells #[.string ⟨#[]⟩,.string ⟨#[106,117,110,107]⟩] 9))); have HGb := hide (HGx.out.later ((Below.refl _ _).alloc (Nat.le_refl _) (.cells #[.string tx] 9))); have e3 := grow_cell HGa.out hn0; have e4 := grow_cell HGx.out hn0; have e5 := grow_cell HGb.out hn0; have HKa := hide (heap_old (o := .cells #[.string tx] 9) (aside_block s9 HK7.out (by omega))); have HKb := hide (heap_old (o := .cells #[.string tx] 9) (heap_old (o := (Obj.cells #[.string ⟨#[]⟩,.string ⟨#[106,117,110,107]⟩] 9)) (aside_block s9 HK7.out (by omega)))); have HRa := hide (heap_old (o := .cells #[.string tx] 9) (aside_block s9 HR7.out (by omega))); have HRb := hide (heap_old (o := .cells #[.string tx] 9) (heap_old (o := (Obj.cells #[.string ⟨#[]⟩,.string ⟨#[106,117,110,107]⟩] 9)) (aside_block s9 HR7.out (by omega)))); have HCa := hide (c8.alloc (.cells #[.string tx] 9)); have HCb := hide ((c8.alloc (Obj.cells #[.string ⟨#[]⟩,.string ⟨#[106,117,110,107]⟩] 9)).alloc (.cells #[.string tx] 9)); have HAa := hide ((HA7.out.trans s9).alloc (.cells #[.string tx] 9)); have HAb := hide (((HA7.out.trans s9).alloc (Obj.cells #[.string ⟨#[]⟩,.string ⟨#[106,117,110,107]⟩] 9)).alloc (.cells #[.string tx] 9)); clear s9 c8 s8 j0 j1))
   all_goals
    have HR6 := HR5.out
    rw [ownBlock_slice] at HR6
    have HGF := hide (HGP.out.wrote hn0 HR6 HO5.out (HA5.out.imp (fun e => by rw [ownBlock_slice] at e; exact e) (fun e => by simp; omega)))
    rw [Nat.zero_mul] at HGF
    have hO := ((Only.refl wA.heap.size g _).grown (HGP.out.pages.own 0 hn0) HR6 (by simp; omega)).set HGP.out.atG 0 (.slice (some ⟨g',0,none⟩) ((sqAt qs 0).1.length + 1) c')
    have HK9 := hide (hO.other _ _ _ _ (show w3.heap.size ≠ g by omega) (by decide) HKP.out)
    have HR9 := hide (hO.other _ _ _ _ (show w.heap.size ≠ g by omega) (by decide) HRP.out)
    have HC9 := hide (HCP.out.below hO.below (by omega))
    have HA9 := hide (HAP.out.trans_below hO.below (by omega))
    clear hO HR6
    obtain ⟨b0,b1⟩ := two_cells HK9.out
    obtain ⟨z0,z1⟩ := two_cells HR9.out
    have l0 := four_frozen HR9.out 0
    have l1 := four_frozen HR9.out 1
    have HLX : Hid (∀ x ∈ qs.set 0 ((sqAt qs 0).1 ++ [tx],(sqAt qs 0).2.1,(sqAt qs 0).2.2),x.1.length <= 9) := by
     intro x hx
     rcases List.mem_or_eq_of_mem_set hx with h' | h'
     ·exact chip_lens HOK.out x h'
     ·rw [h']
      show ((sqAt qs 0).1 ++ [tx]).length <= 9
      rw [List.length_append]
      simp
      omega
    have HFX : Hid (∀ x ∈ qs.set 0 ((sqAt qs 0).1 ++ [tx],(sqAt qs 0).2.1,(sqAt qs 0).2.2),sqFits x) := by
     intro x hx
     rcases List.mem_or_eq_of_mem_set hx with h' | h'
     ·exact chipOk_fits HOK.out x h'
     ·rw [h']
      have h9 := sq_fits (chipOk_fits HOK.out) (k := 0) hqz
      refine ⟨fun s hs => ?_,by show ((sqAt qs 0).1 ++ [tx]).length <= maxLen; rw [List.length_append]; unfold maxLen; simp; omega,h9.2.2⟩
      rcases List.mem_append.1 hs with h8 | h8
      ·exact h9.1 s h8
      ·rw [List.mem_singleton.1 h8]; unfold maxLen; omega
    clear HK9 HKP HRP HCP HAP HGP HO5 HR5 HA5
    go_wp2_with fail
    refine bodyPost_ret (results_cell rfl rfl (run_loadVar_row _ _ _ _ _ _ _ (two_set HR9.out _ _) Tryz.underlying26 rfl (by kernel_rfl))) rfl ?_
    exact drawn_end HGF.out.ownS (by omega) (Nat.le_refl _) HC9.out hpl HA9.out (by omega) (Nat.le_refl _) ⟨HFX.out,HLX.out⟩ _ _
  ·have HC8 := hide (HC7.out.alloc (.cells #[.int .i64 0,.int .i64 12,.int .i64 13] 2))
   go_wp2_with fail
   refine (l1Below_any p 3 _ HC8.out (by omega)).mono ?_
   rintro e w8 ⟨j,rfl,j0,j1,c8,s8⟩
   obtain ⟨J,rfl⟩ : ∃ J : Nat,j = (J : Int) := ⟨j.toNat,by omega⟩
   have hJ : J < 3 := by omega
   obtain ⟨v,hv3,hv⟩ := three_at 0 12 13 J hJ
   have hcell : w8.cell? ⟨w7.heap.size,J,none⟩ = some (.int .i64 v) := by
    rw [World.cell?_of_block (a := ⟨w7.heap.size,J,none⟩) (s8.block w7.heap.size (by simp) (.inr (by omega))),World.cell?_alloc_new]; exact hv
   have HS8 := hide ((HS7.out.later ((Below.refl w7.heap.size w7).alloc (Nat.le_refl _) (.cells #[.int .i64 0,.int .i64 12,.int .i64 13] 2)) (by omega)).aside s8 (.inl (by omega)))
   have HG8 := hide ((HG7.out.later ((Below.refl w7.heap.size w7).alloc (Nat.le_refl _) (.cells #[.int .i64 0,.int .i64 12,.int .i64 13] 2))).aside s8 (.inl (by omega)))
   have HK8 := hide (aside_block s8 (heap_old HK7.out) (by omega))
   have HR8 := hide (aside_block s8 (heap_old HR7.out) (by omega))
   have HA8 := hide ((HA7.out.alloc (.cells #[.int .i64 0,.int .i64 12,.int .i64 13] 2)).trans s8)
   have hs8 : w3.heap.size + 1 <= w8.heap.size := by have := s8.size; simp at this; omega
   have HCC := hide c8
   clear HG7 HS7 HK7 HR7 HA7 HC7 HC8 a0 a1 s8 c8 j0 j1 hv
   obtain ⟨a0,a1⟩ := two_cells HK8.out
   obtain ⟨z0,z1⟩ := two_cells HR8.out
   have f0 := four_frozen HR8.out 0
   have f1 := four_frozen HR8.out 1
   obtain ⟨V,rfl⟩ : ∃ V : Nat,v = (V : Int) := ⟨v.toNat,by omega⟩
   have hV : V <= 13 := by omega
   have hmk := make3 (P := Tryz.prog) 24 42 (.slice none 0 0) (.int .i64 0) (.bool false) 40 Tryz.underlying24 Tryz.infoSq V (by omega) (by omega) w8
   obtain ⟨ob,hob⟩ : ∃ ob,ob = Obj.cells (madeCells #[.slice none 0 0,.int .i64 0,.bool false] (V * 3)) 42 := ⟨_,rfl⟩
   have HOM := hide (made3 w8 V 42)
   rw [<- hob] at hmk HOM
   have HKM := hide (heap_old (o := ob) HK8.out)
   have HRM := hide (heap_old (o := ob) HR8.out)
   have HK9 := hide (set_block HKM.out 1 (.slice (some ⟨w8.heap.size,0,none⟩) V V) (by simp))
   have HR9 := hide (set_other (o := 1) HRM.out (show w3.heap.size ≠ w.heap.size by omega) (.slice (some ⟨w8.heap.size,0,none⟩) V V))
   have HC9 := hide ((HCC.out.alloc ob).set_new hp3 (q := 1) (.slice (some ⟨w8.heap.size,0,none⟩) V V))
   have HA9 := hide ((HA8.out.alloc ob).set_new (g := w3.heap.size) (q := 1) (by omega) (.slice (some ⟨w8.heap.size,0,none⟩) V V))
   have HSM := hide (squares_new (lo := w8.heap.size) HOM.out (Nat.le_refl _))
   have HS9 := hide (HSM.out.aside ((Aside.refl w3.heap.size (w3.heap.size + 1) (w8.alloc ob)).setCell (p := ⟨w3.heap.size,1,none⟩) (Nat.le_refl _) (Nat.lt_succ_self _) (.slice (some ⟨w8.heap.size,0,none⟩) V V)) (.inl (by omega)))
   clear a0 a1 z0 z1 f0 f1 hob
   obtain ⟨a0,a1⟩ := two_cells HKM.out
   have g1 := four_frozen HKM.out 1
   obtain ⟨z0,z1⟩ := two_cells HRM.out
   have f0 := four_frozen HRM.out 0
   have f1 := four_frozen HRM.out 1
   have HLX : Hid (∀ x ∈ List.replicate V (([],0,false) : Sq),x.1.length <= 9) := by
    intro x hx
    rw [(List.mem_replicate.1 hx).2]
    exact Nat.zero_le _
   have HFX : Hid (∀ x ∈ List.replicate V (([],0,false) : Sq),sqFits x) := by
    intro x hx
    rw [(List.mem_replicate.1 hx).2]
    exact ⟨fun s hs => by simp at hs,Nat.zero_le _,rfl⟩
   go_wp2_with fail
   refine bodyPost_ret (results_cell rfl rfl (run_loadVar_row _ _ _ _ _ _ _ (two_set HR9.out _ _) Tryz.underlying26 rfl (by kernel_rfl))) rfl ?_
   exact drawn_end HS9.out (by omega) (by rw [Go.Deep.nblk_setCell]; exact Nat.le_refl _) HC9.out hpl HA9.out (by omega) (Nat.le_refl _) ⟨HFX.out,HLX.out⟩ _ _
end Go.Proofs.YtgjoepdfhadmcaaGreatDoor
end

section
namespace Go.Proofs.YtgjoepdfhadmcaaGreatDoor
open Go.RowKit
set_option linter.unusedVariables false
set_option linter.unusedSimpArgs false
set_option maxRecDepth 20000
structure MapAt (w0 : World) (B p : Nat) (w : World) (v : Value) (ps : List Pl) : Prop where
 own : PlOwn B w v ps
 cur : Cur w p
 aside : Aside p (p + 1) w0 w
 size : B <= w.heap.size
theorem MapAt.next {w0 w w' : World} {B p : Nat} {v : Value} {ps : List Pl} (h : MapAt w0 B p w v ps) (hp : p < B) (hc : Cur w' p) (hs : Aside p (p + 1) w w') : MapAt w0 B p w' v ps :=
 ⟨own_aside2 h.own hs (by omega),hc,h.aside.trans hs,Nat.le_trans h.size hs.size⟩
theorem MapAt.added {w0 w w' : World} {B p : Nat} {v v' : Value} {ps : List Pl} (h : MapAt w0 B p w v ps) (hp : p < B) (h0 : w0.heap.size <= B) (o : Obj) (hg : (w.alloc o).grownBy w' v.ownBlock) {qs : List Pl} (ho : PlOwn B w' v' qs) : MapAt w0 B p w' v' qs := by
 have hs := hg.size
 have hz : (w.alloc o).heap.size = w.heap.size + 1 := by simp
 have hB := h.size
 have hb : Below B (w.alloc o) w' := ⟨hg.os,hg.tape,hg.output,hg.size,fun k hk => hg.block k (by omega) (fun e => by have := (h.own.lt k e.symm).1; omega)⟩
 exact ⟨ho,(h.cur.alloc o).below hb hp,(h.aside.alloc o).trans_below hb h0,by omega⟩
set_option maxHeartbeats 6400000 in
theorem l9DrawMap_any (p : Nat) (z : Int) (a : Option Addr) (n cap : Nat) (qs : List Sq) (w : World) {lo hi : Nat} (hc : Cur w p) (h : Squares lo hi w a n qs) (hlo : p < lo) (hhi : hi <= w.heap.size) (hn : n <= 13) (hl : ∀ x ∈ qs,x.1.length <= 9) :
  Calls Tryz.prog 147 #[.pointer (some ⟨p,0,none⟩),.agg #[.int .i64 z,.slice a n cap]] w fun e w' => ∃ a' m c ps,e = .returned (.slice a' m c) ∧ m <= c ∧ m <= 200 ∧ Places w.heap.size w'.heap.size w' a' m ps ∧ Cur w' p ∧ Aside p (p + 1) w w' := by
 have hpl := hc.lt
 obtain ⟨w0,hw0⟩ : ∃ w0,w0 = w := ⟨_,rfl⟩
 obtain ⟨wA,hwA⟩ : ∃ wA,wA = (w.alloc (.cells #[.int .i64 z,.slice a n cap] 26)).alloc (.cells #[] 39) := ⟨_,rfl⟩
 obtain ⟨B,hB⟩ : ∃ B,B = w.heap.size + 1 := ⟨_,rfl⟩
 have hzA : wA.heap.size = w.heap.size + 2 := by rw [hwA]; simp
 have HBA : Hid (Below w.heap.size w wA) := by rw [hwA]; exact ((Below.refl _ _).alloc (Nat.le_refl _) _).alloc (by simp) _
 have HK : Hid (wA.heap[w.heap.size]? = some (.cells #[.int .i64 z,.slice a n cap] 26)) := by rw [hwA]; exact heap_old (heap_new _ _)
 have HM : Hid (MapAt w0 B p wA (.slice (some ⟨w.heap.size + 1,0,none⟩) 0 0) []) := by
  have hz : (w.alloc (.cells #[.int .i64 z,.slice a n cap] 26)).heap.size = w.heap.size + 1 := by simp
  have h9 := pl_made0 (w.alloc (.cells #[.int .i64 z,.slice a n cap] 26))
  rw [hz] at h9
  rw [hw0,hB,hwA]
  exact ⟨h9,(hc.alloc _).alloc _,((Aside.refl p (p + 1) w).alloc _).alloc _,by simp⟩
 have HSQ := hide h
 have HLQ := hide hl
 have hpB : p < B := by omega
 have hwB : w0.heap.size <= B := by rw [hw0]; omega
 have hBw : w.heap.size < B := by omega
 obtain ⟨i0,hi0,hzz0,hzz1,hzz2⟩ := info_parts Tryz.infoPl9
 have HSL : Hid (qs.length = n) := h.1
 have HKP : ∀ wr v ps,Hid (MapAt w0 B p wr v ps -> Aside p (p + 1) w wr) := fun wr v ps hh => by rw [<- hw0]; exact hh.aside
 clear h hl hc hw0 hB
 go_enter Tryz.func147,Tryz.ntmps147
 go_wp2_with fail
 rw [<- hwA]
 clear hwA
 go_loopw [5,6] (fun o i wr => ∃ (k : Nat) (ps : List Pl),k <= n ∧ i = .int .i64 (k : Int) ∧ ps.length <= 9 * k ∧ MapAt w0 B p wr o ps ∧ wr.heap[w.heap.size]? = some (.cells #[.int .i64 z,.slice a n cap] 26)) (fun _ i _ => n - (intOf i).toNat)
 case atStart => exact ⟨0,[],Nat.zero_le _,rfl,Nat.le_refl _,HM.out,HK.out⟩
 case round =>
  obtain ⟨k,ps,hk,rfl,hps,hM,hK⟩ := hrel
  have HMM := hide hM
  have HKK := hide hK
  obtain ⟨a0,a1⟩ := two_cells hK
  clear hM hK HM HK
  by_cases hlt : k < n
  ·have hql : k < qs.length := by rw [HSL.out]; exact hlt
   have hl9 : (sqAt qs k).1.length <= 9 := HLQ.out _ (by unfold sqAt; rw [List.getD_eq_getElem?_getD,List.getElem?_eq_getElem hql]; exact List.getElem_mem hql)
   obtain ⟨_,A,C,hx,ht⟩ := HSQ.out
   obtain ⟨b,off,rfl,hb0,hb,hcc⟩ := hx.2 (by omega)
   have HCC := hide hcc
   clear hcc hx ht
   go_wp2_with fail
   clear a0 a1
   obtain ⟨wo,hwo⟩ : ∃ wo,wo = wr := ⟨_,rfl⟩
   subst hwo
   obtain ⟨L,hL⟩ : ∃ L,L = (sqAt qs k).1.length := ⟨_,rfl⟩
   go_loopw [5,7] (fun o j wr => ∃ (m : Nat) (ps' : List Pl),m <= L ∧ j = .int .i64 (m : Int) ∧ ps'.length <= 9 * k + m ∧ MapAt w0 B p wr o ps' ∧ wr.heap[w.heap.size]? = some (.cells #[.int .i64 z,.slice (some ⟨b,off,none⟩) n cap] 26)) (fun _ j _ => L - (intOf j).toNat)
   case atStart => exact ⟨0,ps,Nat.zero_le _,rfl,by omega,HMM.out,HKK.out⟩
   case round =>
    obtain ⟨m,ps',hm,rfl,hps',hM',hK'⟩ := hrel
    have HM2 := hide hM'
    have HK2 := hide hK'
    obtain ⟨a0,a1⟩ := two_cells hK'
    have hA2 := (HKP wr _ _).out hM'
    have hc0 : wr.cell? ⟨b,off + k * 3,none⟩ = some (.slice (A k) L (C k)) := by
     have h9 := HCC.out (3 * k) (by omega)
     rw [cellQ0] at h9
     rw [World.cell?_of_block (a := ⟨b,off + k * 3,none⟩) (hA2.block b (by omega) (.inr (by omega))),show off + k * 3 = off + 3 * k by omega,h9,hL]
    have hcu := hM'.cur
    clear hM' hK' hA2
    obtain ⟨ps,hps0⟩ : ∃ ps,ps = ps' := ⟨_,rfl⟩
    subst hps0
    obtain ⟨ao,co,ho,hco⟩ := pl_form HM2.out.own
    subst ho
    by_cases hlm : m < L
    ·have hmL : (m : Int) < (L : Int) := by omega
     go_wp2_with fail
     refine (l1Once_any p 2 wr hcu (by omega)).mono ?_
     rintro e w4 ⟨b4,rfl,c4,s4⟩
     have HM4 := hide (HM2.out.next hpB c4 s4)
     have HK4 := hide (aside_block s4 HK2.out (by omega))
     have hs4 := s4.size
     clear s4 HM2 HK2 hcu hc0 a0 a1
     cases b4 with
     | true =>
      go_wp2_with (at_builtin; (refine wpList_append_own_at _ rfl (.tmp 29) (.tmp 33) 27 rfl B 39 i0 (.agg #[.int .i64 0,.int .i64 0]) 2 16 Tryz.underlying27 hi0 hzz0 hzz1 hzz2 rfl (by decide) _ ps.length (plL ps) rfl ((HM4.out.own).alloc (.cells #[.int .i64 (k : Int),.int .i64 (m : Int)] 39)) ⟨w4.heap.size,0,none⟩ 1 1 [.int .i64 (k : Int),.int .i64 (m : Int)] rfl rfl (two_news _ _ _ _) (two_oneI _ _) (by unfold maxLen; omega) (by omega) (by have := HM4.out.size; simp; omega) ?_); intro v2 w9 hown9 hgr9 hnil9 hat9; have HO9 := hide hown9; have HG9 := hide hgr9; clear hown9 hgr9 hnil9 hat9)
      have HM9 : Hid (MapAt w0 B p w9 v2 (ps ++ [((k : Int),(m : Int))])) := HM4.out.added hpB hwB _ HG9.out (by have h9 := HO9.out; rw [plL_snoc ps ((k : Int),(m : Int))] at h9; show World.ownsRow _ _ _ _ _ _ _; rw [List.length_append]; exact h9)
      have HK9 : Hid (w9.heap[w.heap.size]? = some (.cells #[.int .i64 z,.slice (some ⟨b,off,none⟩) n cap] 26)) := (HG9.out.block _ (by have := (Array.getElem?_eq_some_iff.1 HK4.out).1; simp; omega) (by intro e; have := (HM4.out.own.lt _ e.symm).1; omega)).trans (heap_old HK4.out)
      exact ⟨⟨m + 1,_,by omega,by go_num,by simp; omega,HM9.out,HK9.out⟩,by simp [intOf]; omega⟩
     | false =>
      go_wp2_with fail
      refine (l1Once_any p 3 w4 c4 (by omega)).mono ?_
      rintro e w5 ⟨b5,rfl,c5,s5⟩
      have HM5 := hide (HM4.out.next hpB c5 s5)
      have HK5 := hide (aside_block s5 HK4.out (by omega))
      clear s5 HM4 HK4 c4
      cases b5 with
      | true =>
       go_wp2_with fail
       refine (l9None_any w5).mono ?_
       rintro e w6 ⟨rfl,b6⟩
       have HM6 := hide (HM5.out.next hpB (c5.below b6 c5.lt) (aside_of_below b6))
       have HK6 := hide (block_on HK5.out b6)
       clear b6 HM5 HK5 c5
       go_wp2_with (at_builtin; (refine wpList_append_own_at _ rfl (.tmp 37) (.tmp 39) 27 rfl B 39 i0 (.agg #[.int .i64 0,.int .i64 0]) 2 16 Tryz.underlying27 hi0 hzz0 hzz1 hzz2 rfl (by decide) _ ps.length (plL ps) rfl ((HM6.out.own).alloc (.cells #[.int .i64 (-1),.int .i64 0] 39)) ⟨w6.heap.size,0,none⟩ 1 1 [.int .i64 (-1),.int .i64 0] rfl rfl (two_news _ _ _ _) (two_oneI _ _) (by unfold maxLen; omega) (by omega) (by have := HM6.out.size; simp; omega) ?_); intro v2 w9 hown9 hgr9 hnil9 hat9; have HO9 := hide hown9; have HG9 := hide hgr9; clear hown9 hgr9 hnil9 hat9)
       have HM9 : Hid (MapAt w0 B p w9 v2 (ps ++ [((-1),0)])) := HM6.out.added hpB hwB _ HG9.out (by have h9 := HO9.out; rw [plL_snoc ps ((-1),0)] at h9; show World.ownsRow _ _ _ _ _ _ _; rw [List.length_append]; exact h9)
       have HK9 : Hid (w9.heap[w.heap.size]? = some (.cells #[.int .i64 z,.slice (some ⟨b,off,none⟩) n cap] 26)) := (HG9.out.block _ (by have := (Array.getElem?_eq_some_iff.1 HK6.out).1; simp; omega) (by intro e; have := (HM6.out.own.lt _ e.symm).1; omega)).trans (heap_old HK6.out)
       exact ⟨⟨m + 1,_,by omega,by go_num,by simp; omega,HM9.out,HK9.out⟩,by simp [intOf]; omega⟩
      | false =>
       go_wp2_with fail
       exact ⟨⟨m + 1,ps,by omega,by go_num,by omega,HM5.out,HK5.out⟩,by simp [intOf]; omega⟩
    ·obtain rfl : m = L := by omega
     go_wp2_with fail
     exact ⟨⟨k + 1,ps,by omega,by go_num,by omega,HM2.out,HK2.out⟩,by simp [intOf]; omega⟩
  ·obtain rfl : k = n := by omega
   obtain ⟨ao,co,ho,hco⟩ := pl_form HMM.out.own
   subst ho
   go_upto_if 43 with fail
   clear a0 a1
   go_cut [5,43] (fun o _ wx => ∃ ps : List Pl,1 <= ps.length ∧ ps.length <= 118 ∧ MapAt w0 B p wx o ps)
   case first =>
    by_cases h0 : ps.length = 0
    ·have g0 : ((ps.length : Int) == 0) = true := by simp; exact List.eq_nil_of_length_eq_zero h0
     have H0 := hide h0
     clear h0
     go_wp2_with fail
     clear g0
     refine (l9None_any wr).mono ?_
     rintro e w6 ⟨rfl,b6⟩
     have HM6 := hide (HMM.out.next hpB (HMM.out.cur.below b6 HMM.out.cur.lt) (aside_of_below b6))
     clear b6
     go_wp2_with (at_builtin; (refine wpList_append_own_at _ rfl (.tmp 44) (.tmp 46) 27 rfl B 39 i0 (.agg #[.int .i64 0,.int .i64 0]) 2 16 Tryz.underlying27 hi0 hzz0 hzz1 hzz2 rfl (by decide) _ ps.length (plL ps) rfl ((HM6.out.own).alloc (.cells #[.int .i64 (-1),.int .i64 0] 39)) ⟨w6.heap.size,0,none⟩ 1 1 [.int .i64 (-1),.int .i64 0] rfl rfl (two_news _ _ _ _) (two_oneI _ _) (by unfold maxLen; omega) (by omega) (by have := HM6.out.size; simp; omega) ?_); intro v2 w9 hown9 hgr9 hnil9 hat9; have HO9 := hide hown9; have HG9 := hide hgr9; clear hown9 hgr9 hnil9 hat9)
     have HM9 : Hid (MapAt w0 B p w9 v2 (ps ++ [((-1),0)])) := HM6.out.added hpB hwB _ HG9.out (by have h9 := HO9.out; rw [plL_snoc ps ((-1),0)] at h9; show World.ownsRow _ _ _ _ _ _ _; rw [List.length_append]; exact h9)
     go_meet
     exact ⟨_,by simp,by have := H0.out; simp; omega,HM9.out⟩
    ·have g0 : ((ps.length : Int) == 0) = false := by simp; intro e; rw [e] at h0; exact h0 rfl
     have g1 : ¬ ((ps.length : Int) = 0) := by omega
     go_wp2_with fail
     go_meet
     exact ⟨ps,by omega,by omega,HMM.out⟩
   case rest =>
    obtain ⟨ps,hp1,hp2,hM⟩ := hcut
    obtain ⟨wX,hwX⟩ : ∃ wX,wX = wc := ⟨_,rfl⟩
    subst hwX
    have HMX := hide hM
    have hcX := hM.cur
    clear hM HMM
    go_wp2_with fail
    refine (l1Once_any p 12 wX hcX (by omega)).mono ?_
    rintro e w4 ⟨b4,rfl,c4,s4⟩
    have HM4 := hide (HMX.out.next hpB c4 s4)
    clear s4 HMX hcX
    cases b4 with
    | false =>
     obtain ⟨av,cv,hv,hcv⟩ := pl_form HM4.out.own
     subst hv
     have HPV := hide ((pl_places HM4.out.own).wide (show w.heap.size <= B by omega))
     go_wp2_with fail
     go_ret
     exact ⟨_,_,_,_,rfl,hcv,by omega,HPV.out,HM4.out.cur,(HKP _ _ _).out HM4.out⟩
    | true =>
     go_wp2_with fail
     refine (l1Below_any p 3 w4 c4 (by omega)).mono ?_
     rintro e w5 ⟨y,rfl,y0,y1,c5,s5⟩
     have HM5 := hide (HM4.out.next hpB c5 s5)
     clear s5 HM4 c4
     rcases (show y = 0 ∨ y = 1 ∨ y = 2 by omega) with rfl | rfl | rfl
     ·obtain ⟨gv,cv,hv,hcv⟩ := pl_some HM5.out.own hp1
      subst hv
      have k0 := HM5.out.own.cellAt 0 (by omega)
      have k1 := HM5.out.own.cellAt 1 (by omega)
      rw [plL_at ps (by omega),cellP_0] at k0
      rw [plL_at ps (by omega),cellP_1] at k1
      have hp3 : (0 : Int) < (ps.length : Int) := by omega
      obtain ⟨x0,hx0⟩ : ∃ x0,x0 = (plAt ps 0).1 := ⟨_,rfl⟩
      obtain ⟨x1,hx1⟩ : ∃ x1,x1 = (plAt ps 0).2 := ⟨_,rfl⟩
      rw [<- hx0] at k0
      rw [<- hx1] at k1
      clear hx0 hx1
      go_wp2_with (at_builtin; (refine wpList_append_own_at _ rfl (.tmp 54) (.tmp 58) 27 rfl B 39 i0 (.agg #[.int .i64 0,.int .i64 0]) 2 16 Tryz.underlying27 hi0 hzz0 hzz1 hzz2 rfl (by decide) _ ps.length (plL ps) rfl ((HM5.out.own).alloc (.cells #[.int .i64 x0,.int .i64 x1] 39)) ⟨w5.heap.size,0,none⟩ 1 1 [.int .i64 x0,.int .i64 x1] rfl rfl (two_news _ _ _ _) (two_oneI _ _) (by unfold maxLen; omega) (by omega) (by have := HM5.out.size; simp; omega) ?_); intro v2 w9 hown9 hgr9 hnil9 hat9; have HO9 := hide hown9; have HG9 := hide hgr9; clear hown9 hgr9 hnil9 hat9)
      have HM9 : Hid (MapAt w0 B p w9 v2 (ps ++ [(x0,x1)])) := HM5.out.added hpB hwB _ HG9.out (by have h9 := HO9.out; rw [plL_snoc ps (x0,x1)] at h9; show World.ownsRow _ _ _ _ _ _ _; rw [List.length_append]; exact h9)
      obtain ⟨av,cv,hv,hcv⟩ := pl_form HM9.out.own
      subst hv
      have HPV := hide ((pl_places HM9.out.own).wide (show w.heap.size <= B by omega))
      go_wp2_with fail
      go_ret
      exact ⟨_,_,_,_,rfl,hcv,by simp; omega,HPV.out,HM9.out.cur,(HKP _ _ _).out HM9.out⟩
     ·go_wp2_with fail
      refine (l1From_any p (-2) 6 w5 c5 (by omega) (by omega) (by omega) (by omega)).mono ?_
      rintro e w6 ⟨x0,rfl,_,_,c6,s6⟩
      have HM6 := hide (HM5.out.next hpB c6 s6)
      clear s6 HM5 c5
      go_wp2_with fail
      refine (l1From_any p (-1) 4 w6 c6 (by omega) (by omega) (by omega) (by omega)).mono ?_
      rintro e w7 ⟨x1,rfl,_,_,c7,s7⟩
      have HM7 := hide (HM6.out.next hpB c7 s7)
      clear s7 HM6 c6
      go_wp2_with (at_builtin; (refine wpList_append_own_at _ rfl (.tmp 62) (.tmp 68) 27 rfl B 39 i0 (.agg #[.int .i64 0,.int .i64 0]) 2 16 Tryz.underlying27 hi0 hzz0 hzz1 hzz2 rfl (by decide) _ ps.length (plL ps) rfl ((HM7.out.own).alloc (.cells #[.int .i64 x0,.int .i64 x1] 39)) ⟨w7.heap.size,0,none⟩ 1 1 [.int .i64 x0,.int .i64 x1] rfl rfl (two_news _ _ _ _) (two_oneI _ _) (by unfold maxLen; omega) (by omega) (by have := HM7.out.size; simp; omega) ?_); intro v2 w9 hown9 hgr9 hnil9 hat9; have HO9 := hide hown9; have HG9 := hide hgr9; clear hown9 hgr9 hnil9 hat9)
      have HM9 : Hid (MapAt w0 B p w9 v2 (ps ++ [(x0,x1)])) := HM7.out.added hpB hwB _ HG9.out (by have h9 := HO9.out; rw [plL_snoc ps (x0,x1)] at h9; show World.ownsRow _ _ _ _ _ _ _; rw [List.length_append]; exact h9)
      obtain ⟨av,cv,hv,hcv⟩ := pl_form HM9.out.own
      subst hv
      have HPV := hide ((pl_places HM9.out.own).wide (show w.heap.size <= B by omega))
      go_wp2_with fail
      go_ret
      exact ⟨_,_,_,_,rfl,hcv,by simp; omega,HPV.out,HM9.out.cur,(HKP _ _ _).out HM9.out⟩
     ·have HC9 := hide (HM5.out.cur.alloc (.cells #[] 39))
      have HA9 := hide (((HKP _ _ _).out HM5.out).alloc (.cells #[] 39))
      go_wp2_with fail
      go_ret
      exact ⟨_,_,_,[],rfl,Nat.le_refl _,by omega,⟨rfl,Nat.le_refl _,fun h => absurd h (Nat.lt_irrefl _)⟩,HC9.out,HA9.out⟩
end Go.Proofs.YtgjoepdfhadmcaaGreatDoor
end

section
namespace Go.Proofs.YtgjoepdfhadmcaaGreatDoor
open Go.RowKit
set_option linter.unusedVariables false
set_option maxRecDepth 20000
end Go.Proofs.YtgjoepdfhadmcaaGreatDoor
end

section
namespace Go.Proofs.YtgjoepdfhadmcaaGreatDoor
open Go.RowKit
set_option linter.unusedVariables false
set_option linter.unusedSimpArgs false
set_option maxRecDepth 20000
theorem laid_size (k a s : Int) (x : ByteArray) : (laid k a s x).size <= 600 := by
 unfold laid
 split
 ·rename_i h
  rw [pageOk_iff] at h
  have h1 : x.size <= 24 := (of_decide_eq_true h).2.2.2.1
  unfold laidB
  rw [ByteArray.size_append,spread_len]
  have h2 := woven_size_le (str (spreadL (bodyB k.toNat a.toNat s.toNat x).data.toList)) 2
  rw [spread_len] at h2
  have h3 := bodyB_size k.toNat a.toNat s.toNat x
  have h4 : (bodyB k.toNat a.toNat s.toNat x).data.toList.length = (bodyB k.toNat a.toNat s.toNat x).size := rfl
  rw [h4,h3] at h2
  have h5 : [UInt8.ofNat (x.size + 8)].length = 1 := rfl
  rw [h5]
  omega
 ·exact Nat.zero_le _
def JobAt (w0 : World) (p r j : Nat) (w : World) : Prop := ∃ (kd sq : Int) (tx : ByteArray),tx.size <= maxLen ∧ w.heap[r]? = some (.cells #[.int .i64 0,.int .i64 0,.string ⟨#[]⟩] 98) ∧ w.heap[j]? = some (.cells #[.int .i64 kd,.int .i64 sq,.string tx] 98) ∧ Cur w p ∧ Aside p (p + 1) w0 w
theorem JobAt.aside {w0 w w' : World} {p r j : Nat} (h : JobAt w0 p r j w) (hr : p < r) (hj : p < j) (hc : Cur w' p) (hs : Aside p (p + 1) w w') : JobAt w0 p r j w' := by
 obtain ⟨kd,sq,tx,h1,h2,h3,h4,h5⟩ := h
 exact ⟨kd,sq,tx,h1,aside_block hs h2 (by omega),aside_block hs h3 (by omega),hc,h5.trans hs⟩
theorem JobAt.alloc {w0 w : World} {p r j : Nat} (h : JobAt w0 p r j w) (o : Obj) : JobAt w0 p r j (w.alloc o) := by
 obtain ⟨kd,sq,tx,h1,h2,h3,h4,h5⟩ := h
 exact ⟨kd,sq,tx,h1,heap_old h2,heap_old h3,h4.alloc _,h5.alloc _⟩
theorem JobAt.set0 {w0 w : World} {p r j : Nat} (h : JobAt w0 p r j w) (hrj : j ≠ r) (hj : p < j) (h0 : w0.heap.size <= j) (k : Int) : JobAt w0 p r j (w.setCell ⟨j,0,none⟩ (.int .i64 k)) := by
 obtain ⟨kd,sq,tx,h1,h2,h3,h4,h5⟩ := h
 exact ⟨k,sq,tx,h1,set_other h2 hrj _,set_block h3 0 _ (by simp),h4.set_new hj _,h5.set_new h0 _⟩
theorem JobAt.set1 {w0 w : World} {p r j : Nat} (h : JobAt w0 p r j w) (hrj : j ≠ r) (hj : p < j) (h0 : w0.heap.size <= j) (k : Int) : JobAt w0 p r j (w.setCell ⟨j,1,none⟩ (.int .i64 k)) := by
 obtain ⟨kd,sq,tx,h1,h2,h3,h4,h5⟩ := h
 exact ⟨kd,k,tx,h1,set_other h2 hrj _,set_block h3 1 _ (by simp),h4.set_new hj _,h5.set_new h0 _⟩
theorem JobAt.set2 {w0 w : World} {p r j : Nat} (h : JobAt w0 p r j w) (hrj : j ≠ r) (hj : p < j) (h0 : w0.heap.size <= j) {t : ByteArray} (ht : t.size <= maxLen) : JobAt w0 p r j (w.setCell ⟨j,2,none⟩ (.string t)) := by
 obtain ⟨kd,sq,tx,h1,h2,h3,h4,h5⟩ := h
 exact ⟨kd,sq,t,ht,set_other h2 hrj _,set_block h3 2 _ (by simp),h4.set_new hj _,h5.set_new h0 _⟩
theorem three_ints (x0 x1 x2 : Int) (k : Nat) (h : k < 3) : ∃ v : Int,(#[.int .i64 x0,.int .i64 x1,.int .i64 x2] : Array Value)[k]? = some (.int .i64 v) := by
 rcases (show k = 0 ∨ k = 1 ∨ k = 2 by omega) with rfl | rfl | rfl <;> exact ⟨_,rfl⟩
theorem Tryz.infoU8j : (Tryz.prog.info? 5).map (fun i => (i.zero,i.size,i.bytes)) = some (some (.int .u8 0),1,1) := by kernel_rfl
theorem text_made (N : Nat) (hN : N <= 4096) : ∃ (O : Obj) (s : ByteArray),s.size <= 4096 ∧ (∀ W : World,(Instr.makeSlice 22 (.int .i64 (N : Int)) (.int .i64 (N : Int))).run Tryz.prog W = .ok (.slice (some ⟨W.heap.size,0,none⟩) N N) (W.alloc O)) ∧ ∀ (W : World) (G : Nat),W.heap[G]? = some O -> (convert 22 9 (.slice (some ⟨G,0,none⟩) N N)).run Tryz.prog W = .ok (.string s) W := by
 refine ⟨.cells (madeCells #[.int .u8 0] N) 5,⟨(List.replicate N 0).toArray⟩,?_,fun W => ?_,fun W G h => ?_⟩
 ·show (List.replicate N (0 : UInt8)).toArray.size <= 4096
  simp; exact hN
 ·exact make_row (P := Tryz.prog) 22 5 (.int .u8 0) 1 Tryz.underlying22 Tryz.infoU8j rfl (N : Int) (N : Int) N N rfl rfl (Nat.le_refl _) (by omega) (by omega) W
 ·refine string_of (P := Tryz.prog) (lo := G) (hi := G + 1) (l := List.replicate N 0) ⟨by simp,?_,fun _ => ⟨G,0,rfl,Nat.le_refl _,Nat.lt_succ_self _,fun i hi => ?_⟩⟩ 22 9 5 N Tryz.underlying22 Tryz.underlying5 Tryz.underlying9
  ·have := (Array.getElem?_eq_some_iff.1 h).1; omega
  ·have hm : (madeCells #[(Value.int .u8 0)] N)[i]? = some (.int .u8 0) := by
    rw [<- Array.getElem?_toList,toList_madeCells_one,List.getElem?_replicate,if_pos hi]
   rw [Nat.zero_add]
   simp only [World.cell?,h,hm]
   unfold cellB
   rw [List.getD_eq_getElem?_getD,List.getElem?_replicate,if_pos hi]
   rfl
theorem three_texts (a b c : ByteArray) (k : Nat) (h : k < 3) (ha : a.size <= 4096) (hb : b.size <= 4096) (hc : c.size <= 4096) : ∃ tx : ByteArray,tx.size <= maxLen ∧ (#[.string a,.string b,.string c] : Array Value)[k]? = some (.string tx) := by
 unfold maxLen
 rcases (show k = 0 ∨ k = 1 ∨ k = 2 by omega) with rfl | rfl | rfl
 ·exact ⟨a,by omega,rfl⟩
 ·exact ⟨b,by omega,rfl⟩
 ·exact ⟨c,by omega,rfl⟩
theorem new_at0 (W : World) (o : Obj) : (W.alloc o).heap[W.heap.size]? = some o := heap_new _ _
theorem new_at1 (W : World) (o o' : Obj) : ((W.alloc o).alloc o').heap[W.heap.size]? = some o := heap_old (heap_new _ _)
theorem new_at2 (W : World) (o o' : Obj) : ((W.alloc o).alloc o').heap[W.heap.size + 1]? = some o' := heap_at (by simp)
theorem new_cell (W : World) {cs : Array Value} {t : TypeId} {J g : Nat} {v : Value} (hg : g = W.heap.size) (hv : cs[J]? = some v) : (W.alloc (.cells cs t)).cell? ⟨g,J,none⟩ = some v := by subst hg; rw [World.cell?_alloc_new]; exact hv
theorem old_cell {W : World} {a : Addr} {v : Value} (h : W.cell? a = some v) (o : Obj) : (W.alloc o).cell? a = some v := (World.cell?_of_block (w := W) (a := a) (Go.Deep.blk_alloc_lt _ _ _ (World.block_lt_of_cell? _ _ h))).trans h
theorem old_frozen {W : World} {g i : Nat} (h : W.frozen? ⟨g,i,none⟩ = false) (hg : g < W.heap.size) (o : Obj) : (W.alloc o).frozen? ⟨g,i,none⟩ = false := (World.frozen?_of_block (w := W) (a := ⟨g,i,none⟩) (Go.Deep.blk_alloc_lt _ _ _ hg)).trans h
theorem below_job {w W : World} {p r j : Nat} (h : JobAt w p r j W) (hr : p < r) (hj : p < j) (hrj : r < W.heap.size) :
  Calls Tryz.prog 56 #[.pointer (some ⟨p,0,none⟩),.int .i64 3] W.drew fun e w8 => ∃ J : Nat,e = .returned (.int .i64 (J : Int)) ∧ J < 3 ∧ JobAt w p r j w8 ∧ W.heap.size <= w8.heap.size ∧ ∀ k,p < k -> k < W.heap.size -> w8.heap[k]? = W.heap[k]? := by
 obtain ⟨_,_,_,_,_,_,hc,_⟩ := id h
 have hc' : Cur W.drew p := hc
 refine (l1Below_any p 3 W.drew hc' (by omega)).mono ?_
 rintro e w8 ⟨x,rfl,x0,x1,c8,s8⟩
 have s9 : Aside p (p + 1) W w8 := ⟨s8.os,s8.tape,s8.output,s8.size,s8.block⟩
 exact ⟨x.toNat,by rw [show ((x.toNat : Nat) : Int) = x by omega],by omega,h.aside hr hj c8 s9,s9.size,fun k h1 h2 => s9.block k h2 (.inr (by omega))⟩
theorem job_cell {w w8 : World} {p r j : Nat} (h : JobAt w p r j w8) : ∃ tx : ByteArray,w8.cell? ⟨j,2,none⟩ = some (.string tx) ∧ (∀ o,(w8.alloc o).cell? ⟨j,2,none⟩ = some (.string tx)) ∧ (∀ o o',((w8.alloc o).alloc o').cell? ⟨j,2,none⟩ = some (.string tx)) ∧ (∀ o o' o'',(((w8.alloc o).alloc o').alloc o'').cell? ⟨j,2,none⟩ = some (.string tx)) ∧
  w8.frozen? ⟨j,2,none⟩ = false ∧ (∀ o,(w8.alloc o).frozen? ⟨j,2,none⟩ = false) ∧ (∀ o o',((w8.alloc o).alloc o').frozen? ⟨j,2,none⟩ = false) ∧ ∀ o o' o'',(((w8.alloc o).alloc o').alloc o'').frozen? ⟨j,2,none⟩ = false := by
 obtain ⟨kd,sq,tx0,hz,hR,hP,hC,hA⟩ := h
 have hw8 : j < w8.heap.size := (Array.getElem?_eq_some_iff.1 hP).1
 obtain ⟨_,_,r2⟩ := three_cells hP
 have q2 := four_frozen hP 2
 exact ⟨tx0,r2,fun o => old_cell r2 o,fun o o' => old_cell (old_cell r2 o) o',fun o o' o'' => old_cell (old_cell (old_cell r2 o) o') o'',q2,fun o => old_frozen q2 hw8 o,fun o o' => old_frozen (old_frozen q2 hw8 o) (by simp; omega) o',fun o o' o'' => old_frozen (old_frozen (old_frozen q2 hw8 o) (by simp; omega) o') (by simp; omega) o''⟩
theorem text_cell {w8 : World} {a b c tx : ByteArray} {J : Nat} (hv : (#[.string a,.string b,.string c] : Array Value)[J]? = some (.string tx)) : (w8.alloc (.cells #[.string a,.string b,.string c] 9)).cell? ⟨w8.heap.size,J,none⟩ = some (.string tx) ∧ (∀ o,((w8.alloc o).alloc (.cells #[.string a,.string b,.string c] 9)).cell? ⟨w8.heap.size + 1,J,none⟩ = some (.string tx)) ∧ ∀ o o',(((w8.alloc o).alloc o').alloc (.cells #[.string a,.string b,.string c] 9)).cell? ⟨w8.heap.size + 2,J,none⟩ = some (.string tx) :=
 ⟨new_cell _ rfl hv,fun o => new_cell _ (by simp) hv,fun o o' => new_cell _ (by simp) hv⟩
set_option maxHeartbeats 16000000 in
theorem l8DrawJob_any (p : Nat) (q : Int) (w : World) (hc : Cur w p) (hq : q <= 4294967296) :
  Calls Tryz.prog 181 #[.pointer (some ⟨p,0,none⟩),.int .i64 q] w fun e w' => ∃ (kd sq : Int) (tx : ByteArray),e = .returned (.agg #[.int .i64 kd,.int .i64 sq,.string tx]) ∧ tx.size <= maxLen ∧ Cur w' p ∧ Aside p (p + 1) w w' := by
 have hpl := hc.lt
 obtain ⟨wA,hwA⟩ : ∃ wA,wA = w.alloc (.cells #[.int .i64 0,.int .i64 0,.string ⟨#[]⟩] 98) := ⟨_,rfl⟩
 have HC := hide (hc.alloc (.cells #[.int .i64 0,.int .i64 0,.string ⟨#[]⟩] 98))
 have HA := hide ((Aside.refl p (p + 1) w).alloc (.cells #[.int .i64 0,.int .i64 0,.string ⟨#[]⟩] 98))
 have H1 := hide (heap_new w (.cells #[.int .i64 0,.int .i64 0,.string ⟨#[]⟩] 98))
 rw [<- hwA] at HC HA H1
 clear hc
 go_enter Tryz.func181,Tryz.ntmps181
 go_wp2_with fail
 rw [<- hwA]
 clear hwA
 refine (l1Below_any p q wA HC.out hq).mono ?_
 rintro e w1 ⟨x,rfl,x0,x1,c1,s1⟩
 have h1 := aside_block s1 H1.out (by omega)
 have HA1 := hide (HA.out.trans s1)
 clear s1 HC HA H1
 go_wp2_with fail
 refine (l7Draw_any p w1 c1).mono ?_
 rintro e w2 ⟨yk,ya,ys,yx,rfl,c2,s2⟩
 have h2 := aside_block s2 h1 (by omega)
 have HA2 := hide (HA1.out.trans s2)
 clear s2 c1 HA1 h1
 go_wp2_with fail
 refine (specLaid_any yk ya ys yx w2).mono ?_
 rintro e w3 ⟨rfl,b3⟩
 have hlz := laid_size yk ya ys yx
 generalize laid yk ya ys yx = t at *
 have h3 := block_on h2 b3
 have hs3 := (HA2.out.trans (aside_of_below b3)).size
 have hp3 : p < w3.heap.size := by omega
 have hr3 : w.heap.size < w3.heap.size := by
  rcases Nat.lt_or_ge w.heap.size w3.heap.size with h' | h'
  ·exact h'
  ·rw [Array.getElem?_eq_none h'] at h3; simp at h3
 obtain ⟨wB,hwB⟩ : ∃ wB,wB = w3.alloc (.cells #[.int .i64 1,.int .i64 x,.string t] 98) := ⟨_,rfl⟩
 have HJ : Hid (JobAt w p w.heap.size w3.heap.size wB) := by
  rw [hwB]
  exact ⟨1,x,t,by unfold maxLen; omega,heap_old h3,heap_new _ _,(c2.below b3 c2.lt).alloc _,(HA2.out.trans (aside_of_below b3)).alloc _⟩
 clear b3 c2 HA2 h2 h3
 go_wp2_with fail
 rw [<- hwB]
 clear hwB
 obtain ⟨_,_,_,_,_,_,hcB,_⟩ := HJ.out
 refine (l1Once_any p 6 wB hcB (by omega)).mono ?_
 rintro e w4 ⟨b,rfl,c4,s4⟩
 have HJ4 := hide (HJ.out.aside hpl hp3 c4 s4)
 clear HJ c4 s4 hcB
 go_upto_if 14 with fail
 go_cut [14] (fun _ wx => JobAt w p w.heap.size w3.heap.size wx)
 case first =>
  obtain ⟨kd,sq,tx,hz,hR,hP,hC,hA⟩ := HJ4.out
  obtain ⟨r0,r1,r2⟩ := three_cells hP
  have q0 := four_frozen hP 0
  clear hR hP hC hA hz
  cases b with
  | false =>
   go_wp2_with fail
   go_meet
   exact HJ4.out
  | true =>
   have HJX := hide (HJ4.out.set0 (by omega) hp3 (by omega) 2)
   go_wp2_with fail
   go_meet
   exact HJX.out
 case rest =>
  obtain ⟨wX,hwX⟩ : ∃ wX,wX = wc := ⟨_,rfl⟩
  subst hwX
  have HJX := hide hcut
  clear hcut HJ4
  obtain ⟨_,_,_,_,_,_,hcX,_⟩ := HJX.out
  go_wp2_with fail
  refine (l1Once_any p 14 wX hcX (by omega)).mono ?_
  rintro e w5 ⟨b',rfl,c5,s5⟩
  have HJ5 := hide (HJX.out.aside hpl hp3 c5 s5)
  clear HJX c5 s5 hcX
  go_upto_if 17 with fail
  go_cut [17] (fun _ wx => JobAt w p w.heap.size w3.heap.size wx)
  case first =>
   obtain ⟨kd,sq,tx,hz,hR,hP,hC,hA⟩ := HJ5.out
   obtain ⟨r0,r1,r2⟩ := three_cells hP
   have q0 := four_frozen hP 0
   clear hR hP hC hA hz
   cases b' with
   | false =>
    go_wp2_with fail
    go_meet
    exact HJ5.out
   | true =>
    have HJY := hide (HJ5.out.set0 (by omega) hp3 (by omega) 3)
    go_wp2_with fail
    go_meet
    exact HJY.out
  case rest =>
   obtain ⟨wY,hwY⟩ : ∃ wY,wY = wc := ⟨_,rfl⟩
   subst hwY
   have HJY := hide hcut
   clear hcut HJ5
   obtain ⟨_,_,_,_,_,_,hcY,_⟩ := HJY.out
   go_wp2_with fail
   refine (l1Once_any p 20 wY hcY (by omega)).mono ?_
   rintro e w6 ⟨b6,rfl,c6,s6⟩
   have HJ6 := hide (HJY.out.aside hpl hp3 c6 s6)
   clear HJY s6 hcY
   go_upto_if 20 with fail
   go_cut [20] (fun _ wx => JobAt w p w.heap.size w3.heap.size wx)
   case first =>
    cases b6 with
    | false =>
     go_wp2_with fail
     go_meet
     exact HJ6.out
    | true =>
     go_wp2_with fail
     refine (l1Below_any p 3 w6 c6 (by omega)).mono ?_
     rintro e w7 ⟨y,rfl,y0,y1,c7,s7⟩
     have HJ7 := hide (HJ6.out.aside hpl hp3 c7 s7)
     have hs7 := s7.size
     clear HJ6 s7 c6
     obtain ⟨_,_,_,_,_,hK7,_,hA7⟩ := HJ7.out
     have hr7 : w3.heap.size < w7.heap.size := (Array.getElem?_eq_some_iff.1 hK7).1
     clear hK7 hA7
     rcases (show y = 0 ∨ y = 1 ∨ y = 2 by omega) with rfl | rfl | rfl
     ·have HC8 := hide (c7.alloc (.cells #[.int .i64 0,.int .i64 4,.int .i64 (-1)] 2))
      have HJA := hide (HJ7.out.alloc (.cells #[.int .i64 0,.int .i64 4,.int .i64 (-1)] 2))
      go_wp2_with fail
      refine (l1Below_any p 3 _ HC8.out (by omega)).mono ?_
      rintro e w8 ⟨j,rfl,j0,j1,c8,s8⟩
      obtain ⟨J,rfl⟩ : ∃ J : Nat,j = (J : Int) := ⟨j.toNat,by omega⟩
      have hJ : J < 3 := by omega
      have hJ2 : (J : Int) < 3 := by omega
      obtain ⟨v,hv⟩ := three_ints 0 4 (-1) J hJ
      have hcell : w8.cell? ⟨w7.heap.size,J,none⟩ = some (.int .i64 v) := by
       rw [World.cell?_of_block (a := ⟨w7.heap.size,J,none⟩) (s8.block w7.heap.size (by simp) (.inr (by omega))),World.cell?_alloc_new]; exact hv
      have HJ8 := hide (HJA.out.aside hpl hp3 c8 s8)
      have HJ9 := hide (HJ8.out.set0 (by omega) hp3 (by omega) v)
      clear s8 c8 hv
      obtain ⟨kd,sq,tx,hz,hR,hP,hC,hA⟩ := HJ8.out
      obtain ⟨r0,r1,r2⟩ := three_cells hP
      have q0 := four_frozen hP 0
      clear hR hP hC hA hz
      go_wp2_with fail
      go_meet
      exact HJ9.out
     ·have HC8 := hide (c7.alloc (.cells #[.int .i64 (-1),.int .i64 q,.int .i64 4611686018427387904] 2))
      have HJA := hide (HJ7.out.alloc (.cells #[.int .i64 (-1),.int .i64 q,.int .i64 4611686018427387904] 2))
      go_wp2_with fail
      refine (l1Below_any p 3 _ HC8.out (by omega)).mono ?_
      rintro e w8 ⟨j,rfl,j0,j1,c8,s8⟩
      obtain ⟨J,rfl⟩ : ∃ J : Nat,j = (J : Int) := ⟨j.toNat,by omega⟩
      have hJ : J < 3 := by omega
      have hJ2 : (J : Int) < 3 := by omega
      obtain ⟨v,hv⟩ := three_ints (-1) q 4611686018427387904 J hJ
      have hcell : w8.cell? ⟨w7.heap.size,J,none⟩ = some (.int .i64 v) := by
       rw [World.cell?_of_block (a := ⟨w7.heap.size,J,none⟩) (s8.block w7.heap.size (by simp) (.inr (by omega))),World.cell?_alloc_new]; exact hv
      have HJ8 := hide (HJA.out.aside hpl hp3 c8 s8)
      have HJ9 := hide (HJ8.out.set1 (by omega) hp3 (by omega) v)
      clear s8 c8 hv
      obtain ⟨kd,sq,tx,hz,hR,hP,hC,hA⟩ := HJ8.out
      obtain ⟨r0,r1,r2⟩ := three_cells hP
      have q1 := four_frozen hP 1
      clear hR hP hC hA hz
      go_wp2_with fail
      go_meet
      exact HJ9.out
     ·obtain ⟨O1,S1,hS1,hmk1,hcv1⟩ := text_made 200 (by omega)
      obtain ⟨O2,S2,hS2,hmk2,hcv2⟩ := text_made 201 (by omega)
      have hm1 : ∀ W : World,(Instr.makeSlice 22 (.int .i64 200) (.int .i64 200)).run Tryz.prog W = .ok (.slice (some ⟨W.heap.size,0,none⟩) 200 200) (W.alloc O1) := hmk1
      have hm2 : ∀ W : World,(Instr.makeSlice 22 (.int .i64 201) (.int .i64 201)).run Tryz.prog W = .ok (.slice (some ⟨W.heap.size,0,none⟩) 201 201) (W.alloc O2) := hmk2
      clear hmk1 hmk2
      have a1 : ∀ W : World,(convert 22 9 (.slice (some ⟨W.heap.size,0,none⟩) 200 200)).run Tryz.prog (W.alloc O1).drew = .ok (.string S1) (W.alloc O1).drew := fun W => hcv1 _ _ (new_at0 W O1)
      have a2 : ∀ W : World,(convert 22 9 (.slice (some ⟨W.heap.size,0,none⟩) 200 200)).run Tryz.prog ((W.alloc O1).alloc O2).drew = .ok (.string S1) ((W.alloc O1).alloc O2).drew := fun W => hcv1 _ _ (new_at1 W O1 O2)
      have a3 : ∀ W : World,(convert 22 9 (.slice (some ⟨W.heap.size + 1,0,none⟩) 200 200)).run Tryz.prog ((W.alloc O2).alloc O1).drew = .ok (.string S1) ((W.alloc O2).alloc O1).drew := fun W => hcv1 _ _ (new_at2 W O2 O1)
      have a4 : ∀ W : World,(convert 22 9 (.slice (some ⟨W.heap.size,0,none⟩) 200 200)).run Tryz.prog (W.alloc O1) = .ok (.string S1) (W.alloc O1) := fun W => hcv1 _ _ (new_at0 W O1)
      have a5 : ∀ W : World,(convert 22 9 (.slice (some ⟨W.heap.size,0,none⟩) 200 200)).run Tryz.prog ((W.alloc O1).alloc O2) = .ok (.string S1) ((W.alloc O1).alloc O2) := fun W => hcv1 _ _ (new_at1 W O1 O2)
      have a6 : ∀ W : World,(convert 22 9 (.slice (some ⟨W.heap.size + 1,0,none⟩) 200 200)).run Tryz.prog ((W.alloc O2).alloc O1) = .ok (.string S1) ((W.alloc O2).alloc O1) := fun W => hcv1 _ _ (new_at2 W O2 O1)
      have b1 : ∀ W : World,(convert 22 9 (.slice (some ⟨W.heap.size,0,none⟩) 201 201)).run Tryz.prog (W.alloc O2).drew = .ok (.string S2) (W.alloc O2).drew := fun W => hcv2 _ _ (new_at0 W O2)
      have b2 : ∀ W : World,(convert 22 9 (.slice (some ⟨W.heap.size,0,none⟩) 201 201)).run Tryz.prog ((W.alloc O2).alloc O1).drew = .ok (.string S2) ((W.alloc O2).alloc O1).drew := fun W => hcv2 _ _ (new_at1 W O2 O1)
      have b3 : ∀ W : World,(convert 22 9 (.slice (some ⟨W.heap.size + 1,0,none⟩) 201 201)).run Tryz.prog ((W.alloc O1).alloc O2).drew = .ok (.string S2) ((W.alloc O1).alloc O2).drew := fun W => hcv2 _ _ (new_at2 W O1 O2)
      have b4 : ∀ W : World,(convert 22 9 (.slice (some ⟨W.heap.size,0,none⟩) 201 201)).run Tryz.prog (W.alloc O2) = .ok (.string S2) (W.alloc O2) := fun W => hcv2 _ _ (new_at0 W O2)
      have b5 : ∀ W : World,(convert 22 9 (.slice (some ⟨W.heap.size,0,none⟩) 201 201)).run Tryz.prog ((W.alloc O2).alloc O1) = .ok (.string S2) ((W.alloc O2).alloc O1) := fun W => hcv2 _ _ (new_at1 W O2 O1)
      have b6 : ∀ W : World,(convert 22 9 (.slice (some ⟨W.heap.size + 1,0,none⟩) 201 201)).run Tryz.prog ((W.alloc O1).alloc O2) = .ok (.string S2) ((W.alloc O1).alloc O2) := fun W => hcv2 _ _ (new_at2 W O1 O2)
      have HV1 := hide hcv1
      have HV2 := hide hcv2
      clear hcv1 hcv2
      clear c7
      have hwr : w.heap.size < w7.heap.size := by omega
      have HJa := hide (HJ7.out.alloc O1)
      have HJb := hide (HJ7.out.alloc O2)
      have HJc := hide (HJa.out.alloc O2)
      have HJd := hide (HJb.out.alloc O1)
      go_upto_region 13 with fail
      go_region_law (first
       | (go_simp; go_at_call 56; refine (below_job (W := w7) HJ7.out hpl hp3 (by first | omega | (simp <;> omega))).mono ?_; rintro e w8 ⟨J,rfl,hJ,hj8,hs8,hb8⟩; dsimp only; have hJ2 : (J : Int) < 3 := (by omega); have HJ8 := hide hj8; clear hj8; obtain ⟨tx,htx,hv⟩ := three_texts ⟨#[]⟩ S1 S2 J hJ (by decide) hS1 hS2; obtain ⟨tx0,r2,r3,r4,r5,q2,q3,q4,q5⟩ := job_cell HJ8.out; obtain ⟨e2,e3,e4⟩ := text_cell (w8 := w8) hv; clear hb8 hv)
       | (go_simp; go_at_call 56; refine (below_job (W := w7.alloc O1) HJa.out hpl hp3 (by first | omega | (simp <;> omega))).mono ?_; rintro e w8 ⟨J,rfl,hJ,hj8,hs8,hb8⟩; dsimp only; have hJ2 : (J : Int) < 3 := (by omega); have HJ8 := hide hj8; clear hj8; obtain ⟨tx,htx,hv⟩ := three_texts ⟨#[]⟩ S1 S2 J hJ (by decide) hS1 hS2; obtain ⟨tx0,r2,r3,r4,r5,q2,q3,q4,q5⟩ := job_cell HJ8.out; obtain ⟨e2,e3,e4⟩ := text_cell (w8 := w8) hv; have k1 := (hb8 w7.heap.size (by omega) (by simp)).trans (new_at0 w7 O1); have d1 := HV1.out w8 _ k1; have d2 := HV1.out (w8.alloc O2) _ (heap_old k1); clear k1; clear hb8 hv)
       | (go_simp; go_at_call 56; refine (below_job (W := w7.alloc O2) HJb.out hpl hp3 (by first | omega | (simp <;> omega))).mono ?_; rintro e w8 ⟨J,rfl,hJ,hj8,hs8,hb8⟩; dsimp only; have hJ2 : (J : Int) < 3 := (by omega); have HJ8 := hide hj8; clear hj8; obtain ⟨tx,htx,hv⟩ := three_texts ⟨#[]⟩ S1 S2 J hJ (by decide) hS1 hS2; obtain ⟨tx0,r2,r3,r4,r5,q2,q3,q4,q5⟩ := job_cell HJ8.out; obtain ⟨e2,e3,e4⟩ := text_cell (w8 := w8) hv; have k1 := (hb8 w7.heap.size (by omega) (by simp)).trans (new_at0 w7 O2); have d1 := HV2.out w8 _ k1; have d2 := HV2.out (w8.alloc O1) _ (heap_old k1); clear k1; clear hb8 hv)
       | (go_simp; go_at_call 56; refine (below_job (W := (w7.alloc O1).alloc O2) HJc.out hpl hp3 (by first | omega | (simp <;> omega))).mono ?_; rintro e w8 ⟨J,rfl,hJ,hj8,hs8,hb8⟩; dsimp only; have hJ2 : (J : Int) < 3 := (by omega); have HJ8 := hide hj8; clear hj8; obtain ⟨tx,htx,hv⟩ := three_texts ⟨#[]⟩ S1 S2 J hJ (by decide) hS1 hS2; obtain ⟨tx0,r2,r3,r4,r5,q2,q3,q4,q5⟩ := job_cell HJ8.out; obtain ⟨e2,e3,e4⟩ := text_cell (w8 := w8) hv; have k1 := (hb8 w7.heap.size (by omega) (by simp <;> omega)).trans (new_at1 w7 O1 O2); have k3 := (hb8 (w7.heap.size + 1) (by omega) (by simp)).trans (new_at2 w7 O1 O2); have d1 := HV1.out w8 _ k1; have d3 := HV2.out w8 _ k3; clear k1 k3; clear hb8 hv)
       | (go_simp; go_at_call 56; refine (below_job (W := (w7.alloc O2).alloc O1) HJd.out hpl hp3 (by first | omega | (simp <;> omega))).mono ?_; rintro e w8 ⟨J,rfl,hJ,hj8,hs8,hb8⟩; dsimp only; have hJ2 : (J : Int) < 3 := (by omega); have HJ8 := hide hj8; clear hj8; obtain ⟨tx,htx,hv⟩ := three_texts ⟨#[]⟩ S1 S2 J hJ (by decide) hS1 hS2; obtain ⟨tx0,r2,r3,r4,r5,q2,q3,q4,q5⟩ := job_cell HJ8.out; obtain ⟨e2,e3,e4⟩ := text_cell (w8 := w8) hv; have k1 := (hb8 w7.heap.size (by omega) (by simp <;> omega)).trans (new_at1 w7 O2 O1); have k3 := (hb8 (w7.heap.size + 1) (by omega) (by simp)).trans (new_at2 w7 O2 O1); have d1 := HV2.out w8 _ k1; have d3 := HV1.out w8 _ k3; clear k1 k3; clear hb8 hv)
       | (go_simp; go_at_call 56; refine (below_job (W := ((w7.alloc O1).alloc O2).alloc (.cells #[.string ⟨#[]⟩,.string S1,.string S2] 9)) (HJc.out.alloc (.cells #[.string ⟨#[]⟩,.string S1,.string S2] 9)) hpl hp3 (by first | omega | (simp <;> omega))).mono ?_; rintro e w8 ⟨J,rfl,hJ,hj8,hs8,hb8⟩; dsimp only; have hJ2 : (J : Int) < 3 := (by omega); have HJ8 := hide hj8; clear hj8; obtain ⟨tx,htx,hv⟩ := three_texts ⟨#[]⟩ S1 S2 J hJ (by decide) hS1 hS2; obtain ⟨tx0,r2,r3,r4,r5,q2,q3,q4,q5⟩ := job_cell HJ8.out; have e1 := (World.cell?_of_block (a := ⟨w7.heap.size + 2,J,none⟩) (hb8 (w7.heap.size + 2) (by omega) (by simp))).trans (new_cell (t := 9) ((w7.alloc O1).alloc O2) (by simp) hv); clear hb8 hv)
       | (go_simp; go_at_call 56; refine (below_job (W := ((w7.alloc O2).alloc O1).alloc (.cells #[.string ⟨#[]⟩,.string S1,.string S2] 9)) (HJd.out.alloc (.cells #[.string ⟨#[]⟩,.string S1,.string S2] 9)) hpl hp3 (by first | omega | (simp <;> omega))).mono ?_; rintro e w8 ⟨J,rfl,hJ,hj8,hs8,hb8⟩; dsimp only; have hJ2 : (J : Int) < 3 := (by omega); have HJ8 := hide hj8; clear hj8; obtain ⟨tx,htx,hv⟩ := three_texts ⟨#[]⟩ S1 S2 J hJ (by decide) hS1 hS2; obtain ⟨tx0,r2,r3,r4,r5,q2,q3,q4,q5⟩ := job_cell HJ8.out; have e1 := (World.cell?_of_block (a := ⟨w7.heap.size + 2,J,none⟩) (hb8 (w7.heap.size + 2) (by omega) (by simp))).trans (new_cell (t := 9) ((w7.alloc O2).alloc O1) (by simp) hv); clear hb8 hv)
       | fail)
      all_goals
       clear HV1 HV2 HJa HJb HJc HJd a1 a2 a3 a4 a5 a6 b1 b2 b3 b4 b5 b6 hm1 hm2
       go_wp2_with fail
       go_meet
       first
       | exact HJ8.out.set2 (by omega) hp3 (by omega) htx
       | exact (HJ8.out.alloc _).set2 (by omega) hp3 (by omega) htx
       | exact ((HJ8.out.alloc _).alloc _).set2 (by omega) hp3 (by omega) htx
       | exact (((HJ8.out.alloc _).alloc _).alloc _).set2 (by omega) hp3 (by omega) htx
   case rest =>
    obtain ⟨w8,hw8⟩ : ∃ w8,w8 = wc := ⟨_,rfl⟩
    subst hw8
    obtain ⟨kd,sq,tx,hz,hR,hP,hC,hA⟩ := hcut
    obtain ⟨r0,r1,r2⟩ := three_cells hP
    obtain ⟨z0,z1,z2⟩ := three_cells hR
    have q0 := four_frozen hR 0
    have q1 := four_frozen hR 1
    have q2 := four_frozen hR 2
    have HR := hide hR
    have HC := hide hC
    have HA := hide hA
    clear hR hP hC hA
    go_wp2_with fail
    refine bodyPost_ret (results_cell rfl rfl (run_loadVar_row _ _ _ _ _ _ _ (three_set HR.out _ _ _) Tryz.underlying98 rfl (by kernel_rfl))) rfl ⟨_,_,_,rfl,hz,?_,?_⟩
    ·exact ((HC.out.set_new hpl _).set_new hpl _).set_new hpl _
    ·exact ((HA.out.set_new (Nat.le_refl _) _).set_new (Nat.le_refl _) _).set_new (Nat.le_refl _) _
theorem jobDraws : JobDraws := fun p q w hc hq => l8DrawJob_any p q w hc hq
end Go.Proofs.YtgjoepdfhadmcaaGreatDoor
end

