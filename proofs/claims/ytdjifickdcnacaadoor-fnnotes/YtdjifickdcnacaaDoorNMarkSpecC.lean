/- Several texts in one: MarkSpecC, MarkSpecD. -/
import Derived.Test.YtdjifickdcnacaaDoorNMarkSpecA
import Derived.Test.YtdjifickdcnacaaDoorNInfo
import Derived.Test.YtdjifickdcnacaaDoorNBase
import Derived.Deep.Cut
import Derived.Lib.QuietBelow
import Derived.BigQuiet
import Derived.Test.YtdjifickdcnacaaDoorNMarkMath
import Derived.Deep.RegionHeld3
section
namespace Go.Proofs.YtdjifickdcnacaaDoor
open Go.RowKit
set_option linter.unusedVariables false
set_option linter.unusedSimpArgs false
set_option maxRecDepth 20000
end Go.Proofs.YtdjifickdcnacaaDoor
end

section
namespace Go.Proofs.YtdjifickdcnacaaDoor
open Go.RowKit
set_option linter.unusedVariables false
set_option linter.unusedSimpArgs false
set_option maxRecDepth 20000
theorem wRun_size : ∀ (l : List UInt8) (st : List (List UInt8) × List UInt8) (N : Nat),(∀ x ∈ st.1,x.length <= N) -> st.2.length <= N -> (∀ x ∈ (l.foldl wStep st).1,x.length <= N + l.length) ∧ (l.foldl wStep st).2.length <= N + l.length
 | [],st,N,h1,h2 => ⟨h1,h2⟩
 | c :: l,st,N,h1,h2 => by
  rw [List.foldl_cons,show N + (c :: l).length = (N + 1) + l.length by simp; omega]
  refine wRun_size l _ (N + 1) ?_ ?_
  ·intro x hx
   unfold wStep at hx
   split at hx
   ·rcases List.mem_append.1 hx with h | h
    ·have := h1 x h; omega
    ·rw [List.mem_singleton.1 h]; omega
   ·have := h1 x hx; omega
  ·unfold wStep
   split
   ·simp
   ·simp; omega
theorem wordsL_len (l x : List UInt8) (h : x ∈ wordsL l) : x.length <= l.length := by
 have := wRun_size l ([],[]) 0 (by simp) (by simp)
 rw [Nat.zero_add] at this
 rcases List.mem_append.1 h with h | h
 ·exact this.1 x h
 ·rw [List.mem_singleton.1 h]; exact this.2
end Go.Proofs.YtdjifickdcnacaaDoor
end

