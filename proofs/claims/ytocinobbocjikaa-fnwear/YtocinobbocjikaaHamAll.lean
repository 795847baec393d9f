/- Texts spread and healed, plainly. -/
import Derived.Test.YtocinobbocjikaaJHamSpec
import Derived.Test.YtocinobbocjikaaBytesBase
namespace Go.Proofs.Ytocinobbocjikaa
open Go.RowKit

/-- The two bytes of a word. -/
def wordB (x : Nat) : List UInt8 := [UInt8.ofNat (x / 256), UInt8.ofNat (x % 256)]
def spreadL (l : List UInt8) : List UInt8 := l.flatMap fun b => wordB (Ham.spread b.toNat)
theorem spreadL_snoc (l : List UInt8) (b : UInt8) : spreadL (l ++ [b]) = spreadL l ++ wordB (Ham.spread b.toNat) := by simp [spreadL, List.flatMap_append]
theorem spreadL_length (l : List UInt8) : (spreadL l).length = 2 * l.length := by
  induction l with
  | nil => rfl
  | cons b l ih => simp only [spreadL, List.flatMap_cons, List.length_append] at ih ⊢; rw [ih]; simp [wordB]; omega
def spreadAll (s : ByteArray) : ByteArray := if s.size ≤ 300 then str (spreadL s.data.toList) else ⟨#[]⟩
theorem spreadAll_size (s : ByteArray) : (spreadAll s).size ≤ 600 := by
  unfold spreadAll
  split
  · show (spreadL s.data.toList).length ≤ 600
    rw [spreadL_length]; simp; omega
  · show 0 ≤ 600; omega
/-- The word number k of a text. -/
def wordAt (s : ByteArray) (k : Nat) : Nat := 256 * (s.data.toList.getD (2 * k) 0).toNat + (s.data.toList.getD (2 * k + 1) 0).toNat
def bytesTo (s : ByteArray) (k : Nat) : List UInt8 := (List.range k).map fun j => UInt8.ofNat (healedI (wordAt s j)).1.toNat
def fixedTo (s : ByteArray) (k : Nat) : Int := ((List.range k).map fun j => (healedI (wordAt s j)).2).sum
def goodTo (s : ByteArray) (k : Nat) : Prop := ∀ j, j < k → (healedI (wordAt s j)).2 ≠ 2
instance (s : ByteArray) (k : Nat) : Decidable (goodTo s k) := inferInstanceAs (Decidable (∀ j, j < k → _))
theorem bytesTo_succ (s : ByteArray) (k : Nat) : bytesTo s (k + 1) = bytesTo s k ++ [UInt8.ofNat (healedI (wordAt s k)).1.toNat] := by simp [bytesTo, List.range_succ]
theorem fixedTo_succ (s : ByteArray) (k : Nat) : fixedTo s (k + 1) = fixedTo s k + (healedI (wordAt s k)).2 := by simp [fixedTo, List.range_succ]
theorem bytesTo_length (s : ByteArray) (k : Nat) : (bytesTo s k).length = k := by simp [bytesTo]
theorem healed_cases (x : Nat) : (∃ b : Nat, b < 256 ∧ Ham.healed x = ((b : Int), 1)) ∨ (∃ b : Nat, b < 256 ∧ Ham.healed x = ((b : Int), 0)) ∨ Ham.healed x = (-1, 2) := by
  unfold Ham.healed
  split
  · exact .inl ⟨_, Ham.byteOf_lt _, rfl⟩
  · split
    · exact .inr (.inl ⟨_, Ham.byteOf_lt _, rfl⟩)
    · exact .inr (.inr rfl)
theorem healedI_cases (x : Int) : (∃ b : Nat, b < 256 ∧ healedI x = ((b : Int), 1)) ∨ (∃ b : Nat, b < 256 ∧ healedI x = ((b : Int), 0)) ∨ healedI x = (-1, 2) := by
  unfold healedI
  split
  · exact healed_cases _
  · exact .inr (.inr rfl)
theorem fixedTo_bd (s : ByteArray) : ∀ k, goodTo s k → 0 ≤ fixedTo s k ∧ fixedTo s k ≤ k
  | 0, _ => by simp [fixedTo]
  | k + 1, h => by
    have ih := fixedTo_bd s k (fun j hj => h j (by omega))
    have hk := h k (by omega)
    rw [fixedTo_succ]
    rcases healedI_cases (wordAt s k) with ⟨b, _, e⟩ | ⟨b, _, e⟩ | e <;> rw [e] at hk ⊢ <;> simp at hk ⊢ <;> omega
def healedAll (s : ByteArray) : ByteArray × Int × Bool :=
  if s.size % 2 = 0 ∧ s.size ≤ 600 ∧ goodTo s (s.size / 2) then (str (bytesTo s (s.size / 2)), fixedTo s (s.size / 2), true) else (⟨#[]⟩, 0, false)
theorem healedAll_no {s : ByteArray} (h : ¬ (s.size % 2 = 0 ∧ s.size ≤ 600 ∧ goodTo s (s.size / 2))) : healedAll s = (⟨#[]⟩, 0, false) := if_neg h
theorem healedAll_yes {s : ByteArray} (h : s.size % 2 = 0 ∧ s.size ≤ 600 ∧ goodTo s (s.size / 2)) : healedAll s = (str (bytesTo s (s.size / 2)), fixedTo s (s.size / 2), true) := if_pos h
/-- What a call of HealedAll answers. -/
def toldV (r : ByteArray × Int × Bool) : Value := .tuple #[.string r.1, .int .i64 r.2.1, .bool r.2.2]
end Go.Proofs.Ytocinobbocjikaa
