/- What lies somewhere, plainly. -/
import Derived.Test.YtbgjagmnpfcfaalDoorPageMath
namespace Go.Proofs.YtbgjagmnpfcfaalDoor
open Go.RowKit
set_option linter.unusedVariables false

/-- The byte number i. -/
def byN (t : ByteArray) (i : Nat) : Nat := (t.data.toList.getD i 0).toNat
theorem byN_lt (t : ByteArray) (i : Nat) : byN t i < 256 := UInt8.toNat_lt _
theorem byN_at (t : ByteArray) (i : Nat) (h : i < t.size) : (t[i]).toNat = byN t i := by rw [byN, byte_at t i h]
def stampN (t : ByteArray) : Nat := byN t 2 * 65536 + byN t 3 * 256 + byN t 4
def textIn (t : ByteArray) : ByteArray := t.extract 6 (t.size - 2)
theorem textIn_size (t : ByteArray) (h : 8 ≤ t.size) : (textIn t).size = t.size - 8 := by
  unfold textIn
  rw [ByteArray.size_extract]
  omega
/-- Does a body tell a Page? -/
def bodyOk (t : ByteArray) : Bool := decide (8 ≤ t.size) && (whole t && (decide (byN t 5 = t.size - 8) && pageOk (byN t 0) (byN t 1) (stampN t) (textIn t)))
def headT (s : ByteArray) : ByteArray × Int × Bool := healedAll (s.extract 0 2)
def restT (s : ByteArray) : ByteArray × Int × Bool := healedAll (unwoven (s.extract 2 s.size) 2)
def goodL (s : ByteArray) : Bool := decide (2 ≤ s.size) && ((headT s).2.2 && ((restT s).2.2 && (decide (byN (headT s).1 0 = (restT s).1.size) && bodyOk (restT s).1)))
/-- Kind, At, Stamp, Text and what is told of them. -/
def lyP (s : ByteArray) : Int × Int × Int × ByteArray × Int :=
  if s.size = 0 then (0, 0, 0, ⟨#[]⟩, 0)
  else if goodL s = true then ((byN (restT s).1 0 : Int), (byN (restT s).1 1 : Int), (stampN (restT s).1 : Int), textIn (restT s).1, if 0 < (restT s).2.1 + (headT s).2.1 then 2 else 1)
  else (0, 0, 0, ⟨#[]⟩, 3)
def lyV (r : Int × Int × Int × ByteArray × Int) : Value := .tuple #[.agg #[.int .i64 r.1, .int .i64 r.2.1, .int .i64 r.2.2.1, .string r.2.2.2.1], .int .i64 r.2.2.2.2]
theorem lyP_blank {s : ByteArray} (h : s.size = 0) : lyP s = (0, 0, 0, ⟨#[]⟩, 0) := if_pos h
theorem lyP_torn {s : ByteArray} (h : s.size ≠ 0) (hg : goodL s = false) : lyP s = (0, 0, 0, ⟨#[]⟩, 3) := by
  unfold lyP; rw [if_neg h, if_neg (by simp [hg])]
theorem lyP_good {s : ByteArray} (h : s.size ≠ 0) (hg : goodL s = true) : lyP s = ((byN (restT s).1 0 : Int), (byN (restT s).1 1 : Int), (stampN (restT s).1 : Int), textIn (restT s).1, if 0 < (restT s).2.1 + (headT s).2.1 then 2 else 1) := by
  unfold lyP; rw [if_neg h, if_pos hg]
theorem extract_size2 (s : ByteArray) (h : 2 ≤ s.size) : (s.extract 0 2).size = 2 := by rw [ByteArray.size_extract]; omega
theorem extract_rest (s : ByteArray) (h : 2 ≤ s.size) : (s.extract 2 s.size).size = s.size - 2 := by rw [ByteArray.size_extract]; omega
theorem unwoven_size_le (s : ByteArray) (d : Int) : (unwoven s d).size ≤ s.size := by
  unfold unwoven
  split
  · rw [str_size, Wv.unwovenL_length]; simp
  · exact Nat.zero_le _
theorem healed_size {s : ByteArray} (h : (healedAll s).2.2 = true) : s.size = 2 * (healedAll s).1.size := by
  by_cases hc : s.size % 2 = 0 ∧ s.size ≤ 600 ∧ goodTo s (s.size / 2)
  · rw [healedAll_yes hc]
    show s.size = 2 * (bytesTo s (s.size / 2)).length
    rw [bytesTo_length]; omega
  · rw [healedAll_no hc] at h; simp at h
theorem healed_size_le (s : ByteArray) : (healedAll s).1.size ≤ 300 := by
  by_cases hc : s.size % 2 = 0 ∧ s.size ≤ 600 ∧ goodTo s (s.size / 2)
  · rw [healedAll_yes hc]
    show (bytesTo s (s.size / 2)).length ≤ 300
    rw [bytesTo_length]; omega
  · rw [healedAll_no hc]; exact Nat.zero_le _
theorem healed_fixed (s : ByteArray) : 0 ≤ (healedAll s).2.1 ∧ (healedAll s).2.1 ≤ 300 := by
  by_cases hc : s.size % 2 = 0 ∧ s.size ≤ 600 ∧ goodTo s (s.size / 2)
  · rw [healedAll_yes hc]
    have := fixedTo_bd s (s.size / 2) hc.2.2
    show 0 ≤ fixedTo s (s.size / 2) ∧ fixedTo s (s.size / 2) ≤ 300
    omega
  · rw [healedAll_no hc]; exact ⟨Int.le_refl _, by show (0 : Int) ≤ 300; omega⟩
theorem unwoven_size {s : ByteArray} (h : s.size ≤ 600) : (unwoven s 2).size = s.size := by
  have hw : woveOk s 2 = true := by simp [woveOk, inB]; omega
  unfold unwoven
  rw [if_pos hw, str_size, Wv.unwovenL_length]; simp
/-- A text that has not as many bytes as its head tells is no Page. -/
theorem torn_len {s : ByteArray} (h2 : 2 ≤ s.size) (hne : s.size - 2 ≠ 2 * byN (headT s).1 0) : goodL s = false := by
  cases hg : goodL s
  · rfl
  · exfalso
    simp only [goodL, Bool.and_eq_true, decide_eq_true_eq] at hg
    obtain ⟨_, h1, h3, h4, h5⟩ := hg
    have hz := healed_size (s := unwoven (s.extract 2 s.size) 2) h3
    have h8 : 8 ≤ (restT s).1.size := by simp only [bodyOk, Bool.and_eq_true, decide_eq_true_eq] at h5; exact h5.1
    by_cases h6 : s.size - 2 ≤ 600
    · have := unwoven_size (s := s.extract 2 s.size) (by rw [extract_rest s h2]; exact h6)
      rw [extract_rest s h2] at this
      have hr : (restT s).1.size = (healedAll (unwoven (s.extract 2 s.size) 2)).1.size := rfl
      omega
    · have hw : woveOk (s.extract 2 s.size) 2 = false := by simp [woveOk, inB, extract_rest s h2]; omega
      have : (unwoven (s.extract 2 s.size) 2).size = 0 := by unfold unwoven; rw [if_neg (by simp [hw])]; rfl
      have hr : (restT s).1.size = (healedAll (unwoven (s.extract 2 s.size) 2)).1.size := rfl
      omega
theorem slice_mid {P : Program} (t : TypeId) (ht : P.underlying t = some .string) (s : ByteArray) (I J : Int) (i j : Nat) (hI : I = (i : Int)) (hJ : J = (j : Int)) (hij : i ≤ j) (hj : j ≤ s.size) (x : ByteArray) (hx : x = s.extract i j) :
    ∀ w, (Instr.sliceAt t (.string s) (some (.int .i64 I)) (some (.int .i64 J)) none).run P w = .ok (.string x) w := by
  intro w
  subst hI; subst hJ; subst hx
  rw [run_sliceAt_string w t _ _ _ _ ht, run_slice_string (P := P) w t s .i64 .i64 (i : Int) (j : Int) ht (by omega) (by omega) (by omega)]
  simp
theorem slice_mid2 {P : Program} (t : TypeId) (ht : P.underlying t = some .string) (s : ByteArray) (I J : Int) (i j : Nat) (hI : I = (i : Int)) (hJ : J = (j : Int)) (hij : i ≤ j) (hj : j ≤ s.size) (x : ByteArray) (hx : x = s.extract i j) :
    ∀ w, (Instr.slice t (.string s) (some (.int .i64 I)) (some (.int .i64 J)) none).run P w = .ok (.string x) w := by
  intro w
  subst hI; subst hJ; subst hx
  rw [run_slice_string (P := P) w t s .i64 .i64 (i : Int) (j : Int) ht (by omega) (by omega) (by omega)]
  simp
end Go.Proofs.YtbgjagmnpfcfaalDoor
