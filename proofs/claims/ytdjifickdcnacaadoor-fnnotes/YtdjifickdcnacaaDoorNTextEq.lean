/- . -/
import Derived.Test.YtdjifickdcnacaaDoorNBase
namespace Go.Proofs.YtdjifickdcnacaaDoor
theorem text_eq (s t : ByteArray) : (s.toList == t.toList) = decide (s = t) := by
 rw [ByteArray.toList_eq,ByteArray.toList_eq]
 by_cases h : s = t
 ·subst h; simp
 ·have : ¬ s.data = t.data := fun e => h (ByteArray.ext e)
  simp [h,this]
theorem text_same (t : ByteArray) : (t.toList == t.toList) = true := by rw [text_eq]; simp
theorem text_other {s t : ByteArray} (h : s ≠ t) : (s.toList == t.toList) = false := by rw [text_eq]; simp [h]
end Go.Proofs.YtdjifickdcnacaaDoor
