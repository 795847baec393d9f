/- The model's ChipOk. -/
import Derived.Test.YtckkcimkfhhacaaLChipOwn2
import Derived.Test.YtckkcimkfhhacaaLInfo
namespace Go.Proofs.Ytckkcimkfhhacaa
open Go.RowKit
set_option linter.unusedVariables false
set_option maxRecDepth 20000

def txOk (s : ByteArray) : Bool := decide (1 ≤ s.size) && decide (s.size ≤ 200)
def sqOk (z : Int) (q : Sq) : Bool := decide ((q.1.length : Int) ≤ z) && (inB q.2.1 0 1000000 && q.1.all txOk)
def chipOk (z : Int) (qs : List Sq) : Bool := inB z 1 8 && (decide (1 ≤ qs.length) && (decide (qs.length ≤ 12) && qs.all (sqOk z)))
theorem sq_all_step {z : Int} {qs : List Sq} {k : Nat} (h : k < qs.length) (h1 : (qs.take k).all (sqOk z) = true) (h2 : sqOk z (sqAt qs k) = true) : (qs.take (k + 1)).all (sqOk z) = true := by
  rw [List.take_succ_eq_append_getElem h, List.all_append, h1]
  unfold sqAt at h2
  rw [List.getD_eq_getElem?_getD, List.getElem?_eq_getElem h] at h2
  simpa using h2
theorem sq_all_fall {z : Int} {qs : List Sq} {k : Nat} (h : k < qs.length) (h2 : sqOk z (sqAt qs k) = false) : chipOk z qs = false := by
  have : qs.all (sqOk z) = false := by
    rw [List.all_eq_false]
    unfold sqAt at h2
    rw [List.getD_eq_getElem?_getD, List.getElem?_eq_getElem h] at h2
    exact ⟨qs[k], List.getElem_mem h, by simpa using h2⟩
  unfold chipOk
  rw [this]; simp
theorem tx_all_step {ts : List ByteArray} {k : Nat} (h : k < ts.length) (h1 : (ts.take k).all txOk = true) (h2 : txOk (ts.getD k ByteArray.empty) = true) : (ts.take (k + 1)).all txOk = true := by
  rw [List.take_succ_eq_append_getElem h, List.all_append, h1]
  rw [List.getD_eq_getElem?_getD, List.getElem?_eq_getElem h] at h2
  simpa using h2
theorem tx_all_fall {ts : List ByteArray} {k : Nat} (h : k < ts.length) (h2 : txOk (ts.getD k ByteArray.empty) = false) : ts.all txOk = false := by
  rw [List.all_eq_false]
  rw [List.getD_eq_getElem?_getD, List.getElem?_eq_getElem h] at h2
  exact ⟨ts[k], List.getElem_mem h, by simpa using h2⟩

end Go.Proofs.Ytckkcimkfhhacaa
