/- The walks of chapter 3's model: Check, Checked, Whole. -/
import Derived.Test.YthldcfiemfccpaaNWalkB1
import Derived.Test.YthldcfiemfccpaaNAppendZ
import Derived.Test.YthldcfiemfccpaaNBase
import Derived.Laws.Strings
namespace Go.Proofs.Ythldcfiemfccpaa
open Go.RowKit
set_option linter.unusedVariables false
set_option maxRecDepth 20000

/-- The bits of bytes, and sixteen 0 behind them. -/
def bitsZ (l : List UInt8) : List Int := bitsL l ++ List.replicate 16 0
def natL (xs : List Int) : List Nat := xs.map Int.toNat
def checkN (s : ByteArray) : Nat := Crc.crc (natL (bitsL s.data.toList))
theorem bitsZ_length (l : List UInt8) : (bitsZ l).length = 8 * l.length + 16 := by simp [bitsZ, bitsL_length]
theorem natL_bitsZ (l : List UInt8) : natL (bitsZ l) = natL (bitsL l) ++ List.replicate 16 0 := by simp [natL, bitsZ]
theorem bits8_01 (n : Nat) : ∀ b ∈ bits8 n, 0 ≤ b ∧ b ≤ 1 := by
  intro b hb
  simp only [bits8, List.mem_cons, List.not_mem_nil, or_false] at hb
  rcases hb with rfl | rfl | rfl | rfl | rfl | rfl | rfl | rfl <;> exact bitOf_bd _ _
theorem bitsL_01 (l : List UInt8) : ∀ b ∈ bitsL l, 0 ≤ b ∧ b ≤ 1 := by
  intro b hb
  simp only [bitsL, List.mem_flatMap] at hb
  obtain ⟨c, _, hb⟩ := hb
  exact bits8_01 _ b hb
theorem bitsZ_01 (l : List UInt8) : ∀ b ∈ bitsZ l, 0 ≤ b ∧ b ≤ 1 := by
  intro b hb
  rcases List.mem_append.1 hb with h | h
  · exact bitsL_01 l b h
  · rw [(List.mem_replicate.1 h).2]; omega
theorem natL_bit {xs : List Int} (h : ∀ b ∈ xs, 0 ≤ b ∧ b ≤ 1) : Crc.bitL (natL xs) := by
  intro b hb
  obtain ⟨c, hc, rfl⟩ := List.mem_map.1 hb
  have := h c hc
  omega
theorem bitZ_at (l : List UInt8) (k : Nat) (hk : k < (bitsZ l).length) : ∃ q : Nat, (bitsZ l).getD k 0 = (q : Int) ∧ q < 2 ∧ (natL (bitsZ l)).take (k + 1) = (natL (bitsZ l)).take k ++ [q] := by
  have hm := bitsZ_01 l (bitsZ l)[k] (List.getElem_mem hk)
  refine ⟨(bitsZ l)[k].toNat, ?_, by omega, ?_⟩
  · rw [List.getD_eq_getElem?_getD, List.getElem?_eq_getElem hk]; simp; omega
  · rw [List.take_succ_eq_append_getElem (by simpa [natL] using hk)]; simp [natL]
theorem run_snoc (l : List Nat) (q r : Nat) : Crc.run r (l ++ [q]) = Crc.stp (Crc.run r l) q := by rw [Crc.run_append]; rfl

theorem checkN_lt (s : ByteArray) : checkN s < 65536 := Crc.crc_lt (natL_bit (bitsL_01 _))
/-- A text and the two bytes of its check. -/
def tail2 (c : Nat) : List UInt8 := [UInt8.ofNat (c / 256), UInt8.ofNat (c % 256)]
def checked (s : ByteArray) : ByteArray := s ++ str (tail2 (checkN s))
theorem two_reads (w : World) (c : Nat) (hc : c < 65536) : Bytes w.heap.size (w.heap.size + 1) (w.alloc (.cells #[.int .u8 ((c : Int) / 256), .int .u8 ((c : Int) % 256)] 5)) (some ⟨w.heap.size, 0, none⟩) 2 (tail2 c) := by
  refine ⟨rfl, by simp, fun _ => ⟨w.heap.size, 0, rfl, Nat.le_refl _, Nat.lt_succ_self _, fun i hi => ?_⟩⟩
  rw [World.cell?_alloc_new, Nat.zero_add]
  have h : i = 0 ∨ i = 1 := by omega
  rcases h with rfl | rfl
  · simp [cellB, tail2]; omega
  · simp [cellB, tail2]


theorem checked_size (s : ByteArray) : (checked s).size = s.size + 2 := by
  unfold checked; rw [ByteArray.size_append]; rfl
theorem text_eq (s t : ByteArray) : (s.toList == t.toList) = decide (s = t) := by
  rw [ByteArray.toList_eq, ByteArray.toList_eq]
  by_cases h : s = t
  · subst h; simp
  · have : ¬ s.data = t.data := fun e => h (ByteArray.ext e)
    simp [h, this]
/-- Is it a text and its check? -/
def whole (s : ByteArray) : Bool := decide (2 ≤ s.size) && decide (checked (s.extract 0 (s.size - 2)) = s)
end Go.Proofs.Ythldcfiemfccpaa
