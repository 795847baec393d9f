/- Several texts in one: MarkSpecC, MarkSpecD. -/
import Derived.Test.YthldcfiemfccpaaDoorRMarkSpecA
import Derived.Test.YthldcfiemfccpaaDoorRInfo
import Derived.Test.YthldcfiemfccpaaDoorRBase
import Derived.Deep.Cut
import Derived.Lib.QuietBelow
import Derived.BigQuiet
import Derived.Test.YthldcfiemfccpaaDoorRMarkMath
import Derived.Deep.RegionHeld3
section
namespace Go.Proofs.YthldcfiemfccpaaDoor
open Go.RowKit
set_option linter.unusedVariables false
set_option linter.unusedSimpArgs false
set_option maxRecDepth 20000

theorem miIn_eq (e q : Int) (b : Bool) : miIn (e, q, b) = (inB e 0 1000000 && inB q 0 1000000) := by
  unfold miIn inB
  simp only [Bool.and_assoc]
end Go.Proofs.YthldcfiemfccpaaDoor
end

section
namespace Go.Proofs.YthldcfiemfccpaaDoor
open Go.RowKit
set_option linter.unusedVariables false
set_option linter.unusedSimpArgs false
set_option maxRecDepth 20000

theorem nums_read {s : ByteArray} {m : Mk} (h : MkOf s m) {xs : List Int} {ok : Bool} (hn : NumsTo ((wordsL (s.extract 0 (s.size - 2)).data.toList).map mkB) xs ok) : ok = true ∧ xs = [(m.1 : Int), (m.2.1 : Int), if m.2.2 then 1 else 0] := by
  rw [h.line, wordsL_line] at hn
  have h2 := hn [m.1, m.2.1, if m.2.2 then 1 else 0] (by
    intro k hk
    simp only [List.mem_cons, List.not_mem_nil, or_false] at hk
    rcases hk with rfl | rfl | rfl
    · exact h.1.1
    · exact h.1.2
    · split <;> omega) (by
    simp only [List.map_cons, List.map_nil, mkB_list]
    cases m.2.2
    · rw [show (if false = true then 1 else 0 : Nat) = 0 from rfl, dec_small (n := 0) (by omega)]; rfl
    · rw [show (if true = true then 1 else 0 : Nat) = 1 from rfl, dec_small (n := 1) (by omega)]; rfl)
  refine ⟨h2.2, h2.1.trans ?_⟩
  simp only [List.map_cons, List.map_nil]
  cases m.2.2 <;> rfl
theorem readM_no {s : ByteArray} {xs : List Int} {ok : Bool} (hn : NumsTo ((wordsL (s.extract 0 (s.size - 2)).data.toList).map mkB) xs ok) (h : ok = false ∨ xs.length ≠ 3) : readM s = none :=
  readM_none fun m hm => by
    obtain ⟨h1, h2⟩ := nums_read hm hn
    rcases h with h | h
    · rw [h1] at h; cases h
    · rw [h2] at h; exact h rfl
theorem readM_yes {s : ByteArray} {x0 x1 x2 : Int} (h2 : 2 ≤ s.size) (hs : showF (x0, x1, decide (x2 = 1)) = s) : ∃ m : Mk, readM s = some m ∧ (m.1 : Int) = x0 ∧ (m.2.1 : Int) = x1 ∧ m.2.2 = decide (x2 = 1) := by
  unfold showF at hs
  split at hs
  · rename_i hin
    simp only [miIn, Bool.and_eq_true, decide_eq_true_eq] at hin
    refine ⟨(x0.toNat, x1.toNat, decide (x2 = 1)), readM_some ⟨⟨?_, ?_⟩, hs.symm⟩, ?_, ?_, rfl⟩ <;> show _ <;> simp only <;> omega
  · rw [← hs] at h2
    exact absurd h2 (by decide)
theorem readM_not {s : ByteArray} {x0 x1 x2 : Int} {ok : Bool} (hn : NumsTo ((wordsL (s.extract 0 (s.size - 2)).data.toList).map mkB) [x0, x1, x2] ok) (hs : showF (x0, x1, decide (x2 = 1)) ≠ s) : readM s = none :=
  readM_none fun m hm => by
    obtain ⟨h1, h2⟩ := nums_read hm hn
    injection h2 with e0 h2
    injection h2 with e1 h2
    injection h2 with e2 h2
    apply hs
    have hb : decide (x2 = 1) = m.2.2 := by rw [e2]; cases m.2.2 <;> rfl
    rw [e0, e1, hb, hm.2]
    have hin := hm.1
    unfold MkIn at hin
    unfold showF
    rw [if_pos (by simp [miIn]; omega)]
    rfl
theorem wRun_size : ∀ (l : List UInt8) (st : List (List UInt8) × List UInt8) (N : Nat), (∀ x ∈ st.1, x.length ≤ N) → st.2.length ≤ N → (∀ x ∈ (l.foldl wStep st).1, x.length ≤ N + l.length) ∧ (l.foldl wStep st).2.length ≤ N + l.length
  | [], st, N, h1, h2 => ⟨h1, h2⟩
  | c :: l, st, N, h1, h2 => by
    rw [List.foldl_cons, show N + (c :: l).length = (N + 1) + l.length by simp; omega]
    refine wRun_size l _ (N + 1) ?_ ?_
    · intro x hx
      unfold wStep at hx
      split at hx
      · rcases List.mem_append.1 hx with h | h
        · have := h1 x h; omega
        · rw [List.mem_singleton.1 h]; omega
      · have := h1 x hx; omega
    · unfold wStep
      split
      · simp
      · simp; omega
theorem wordsL_len (l x : List UInt8) (h : x ∈ wordsL l) : x.length ≤ l.length := by
  have := wRun_size l ([], []) 0 (by simp) (by simp)
  rw [Nat.zero_add] at this
  rcases List.mem_append.1 h with h | h
  · exact this.1 x h
  · rw [List.mem_singleton.1 h]; exact this.2

end Go.Proofs.YthldcfiemfccpaaDoor
end

