/- Chapter 10, plainly: what an Ftl is. Nothing of Go's text here. -/
import Derived.Test.YtocinobbocjikaaGreatDoorRChipOkS
import Derived.Test.YtocinobbocjikaaGreatDoorRChipGrow
import Derived.Test.YtocinobbocjikaaGreatDoorRPageMath
namespace Go.Proofs.YtocinobbocjikaaGreatDoor
open Go.RowKit
set_option linter.unusedVariables false

/-- The page that lies at a place: its Kind, At, Stamp, Text, and how it lies. -/
def pgOf (z : Int) (qs : List Sq) (p : Pl) : Int × Int × Int × ByteArray × Int := lyP (pageAt z qs p.1 p.2)
def lyWell (k : Int) : Bool := (k == 1) || (k == 2)
/-- Does number i lie as it should? -/
def fpOk (z : Int) (qs : List Sq) (ps : List Pl) (st : Int) (i : Nat) : Bool :=
  (plAt ps i == (-1, 0)) || (lyWell (pgOf z qs (plAt ps i)).2.2.2.2 && (((pgOf z qs (plAt ps i)).2.1 == (i : Int)) && !(decide ((pgOf z qs (plAt ps i)).2.2.1 > st))))
def opOk (qs : List Sq) (op : Int) : Bool := !(decide (op ≥ 0) && (sqAt qs op.toNat).2.2)
def ftlOk (z : Int) (qs : List Sq) (ps : List Pl) (op st : Int) : Bool :=
  mapOk z qs ps && (inB op (-1) ((qs.length : Int) - 1) && (inB st 0 1000000 && (opOk qs op && (List.range ps.length).all (fpOk z qs ps st))))
theorem ftlOk_map {z : Int} {qs : List Sq} {ps : List Pl} {op st : Int} (h : ftlOk z qs ps op st = true) : mapOk z qs ps = true := by
  unfold ftlOk at h; simp only [Bool.and_eq_true] at h; exact h.1
theorem ftlOk_fall {z : Int} {qs : List Sq} {ps : List Pl} {op st : Int} {i : Nat} (h : i < ps.length) (hf : fpOk z qs ps st i = false) : ftlOk z qs ps op st = false := by
  unfold ftlOk; rw [all_range_fall h hf]; simp
/-- What is got of a number. -/
def ftlGet (z : Int) (qs : List Sq) (ps : List Pl) (op st at_ : Int) : ByteArray × Bool :=
  if ftlOk z qs ps op st && (inB at_ 0 ((ps.length : Int) - 1) && !(plAt ps at_.toNat == (-1, 0))) then ((pgOf z qs (plAt ps at_.toNat)).2.2.2.1, (pgOf z qs (plAt ps at_.toNat)).1 == 1) else (ByteArray.empty, false)
/-- The greatest of Worn less the least. -/
def ftlLevel (z : Int) (qs : List Sq) (ps : List Pl) (op st : Int) : Int :=
  if ftlOk z qs ps op st then (if (worn z qs).1 < 0 then -1 else (worn z qs).2 - (worn z qs).1) else -1
/-- A page that is there is small. -/
theorem pageAt_size {z : Int} {qs : List Sq} {s p : Int} (h : chipOk z qs = true) : (pageAt z qs s p).size ≤ 200 := by
  unfold pageAt
  split
  · rename_i hc
    simp only [Bool.and_eq_true] at hc
    have h1 := hc.2.1
    have h2 := hc.2.2
    unfold inB at h1 h2
    simp only [Bool.and_eq_true, decide_eq_true_eq] at h1 h2
    have hq : s.toNat < qs.length := by omega
    have hp : p.toNat < (sqAt qs s.toNat).1.length := by omega
    have h3 := (sqOk_parts (chipOk_at h hq)).2.2.2
    have h4 := h3 ((sqAt qs s.toNat).1.getD p.toNat ByteArray.empty) (by rw [List.getD_eq_getElem?_getD, List.getElem?_eq_getElem hp]; exact List.getElem_mem hp)
    exact h4.2
  · exact Nat.zero_le _
end Go.Proofs.YtocinobbocjikaaGreatDoor
