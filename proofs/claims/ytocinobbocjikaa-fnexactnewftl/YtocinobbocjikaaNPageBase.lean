/- Several texts in one: PageBase, HamAll. -/
import Derived.Test.YtocinobbocjikaaNInfo
import Derived.Test.YtocinobbocjikaaNBytesBase
import Derived.Lib.SmallJoins
section
namespace Go.Proofs.Ytocinobbocjikaa
open Go.RowKit Go.ChangeShapes Go.WideShapes Go.ChangeAt
set_option linter.unusedVariables false
set_option maxRecDepth 20000

theorem page_read {H : Type} {enc : TypeId × Value → H} {P : Program} {w : World} {base : Nat} {spare : Nat → Bool} {held : Bool} {r : Reach} {b0 : Nat} {t : TypeId} {f0 f1 f2 f3 : Field} {v : Value} {d : DataW H} {p : List MemPlace}
    (hs : P.underlying t = some (.struct #[f0, f1, f2, f3])) (hone : Go.Deep.oneCellFields P #[f0, f1, f2, f3] = true) (hC : P.cellsOf t = 4)
    (h0 : P.underlying f0.type = some (.int .i64)) (h1 : P.underlying f1.type = some (.int .i64)) (h2 : P.underlying f2.type = some (.int .i64)) (h3 : P.underlying f3.type = some .string)
    (hv : Value.okWide P w r b0 t v) (h : DataW.Trod enc P w base spare held t v d p) :
    ∃ (k a s : Int) (x : ByteArray), v = .agg #[.int .i64 k, .int .i64 a, .int .i64 s, .string x] ∧ (Lit.int .i64 k).wf = true ∧ (Lit.int .i64 a).wf = true ∧ (Lit.int .i64 s).wf = true ∧ x.size ≤ maxLen := by
  obtain ⟨v0, v1, v2, v3, y0, y1, y2, y3, n, rfl, _, _, t0, t1, t2, t3⟩ := Go.Joins.open_agg4 hs hone hC hv h
  obtain ⟨k, e0, _, k0⟩ := DataW.trod_int h0 t0
  obtain ⟨a, e1, _, k1⟩ := DataW.trod_int h1 t1
  obtain ⟨s, e2, _, k2⟩ := DataW.trod_int h2 t2
  obtain ⟨x, e3, _, k3⟩ := DataW.trod_string h3 t3
  simp only [List.cons.injEq, and_true] at e0 e1 e2 e3
  subst e0; subst e1; subst e2; subst e3
  exact ⟨k, a, s, x, rfl, k0, k1, k2, k3⟩

/-- Is it a Page? -/
def pageOk (k a s : Int) (x : ByteArray) : Bool := inB k 1 2 && (inB a 0 63 && (inB s 1 1000000 && (decide (x.size ≤ 24) && (k == 1 || decide (x.size = 0)))))
theorem pageOk_iff (k a s : Int) (x : ByteArray) : pageOk k a s x = decide ((1 ≤ k ∧ k ≤ 2) ∧ (0 ≤ a ∧ a ≤ 63) ∧ (1 ≤ s ∧ s ≤ 1000000) ∧ x.size ≤ 24 ∧ (k = 1 ∨ x.size = 0)) := by
  unfold pageOk inB
  rw [Bool.eq_iff_iff]
  simp
theorem text_empty (x : ByteArray) : x.toList.isEmpty = decide (x.size = 0) := by
  rw [ByteArray.toList_eq]
  by_cases h : x.size = 0
  · have h' : x.data.size = 0 := h
    have : x.data = #[] := Array.eq_empty_of_size_eq_zero h'
    simp [this, h]
  · have h' : ¬ x.data.size = 0 := h
    have : ¬ x.data = #[] := fun e => h' (by simp [e])
    simp [this, h]

end Go.Proofs.Ytocinobbocjikaa
end

section
namespace Go.Proofs.Ytocinobbocjikaa
open Go.RowKit

/-- The two bytes of a word. -/
def wordB (x : Nat) : List UInt8 := [UInt8.ofNat (x / 256), UInt8.ofNat (x % 256)]
def spreadL (l : List UInt8) : List UInt8 := l.flatMap fun b => wordB (Ham.spread b.toNat)
theorem spreadL_snoc (l : List UInt8) (b : UInt8) : spreadL (l ++ [b]) = spreadL l ++ wordB (Ham.spread b.toNat) := by simp [spreadL, List.flatMap_append]
theorem spreadL_length (l : List UInt8) : (spreadL l).length = 2 * l.length := by
  induction l with
  | nil => rfl
  | cons b l ih => simp only [spreadL, List.flatMap_cons, List.length_append] at ih ⊢; rw [ih]; simp [wordB]; omega
def spreadAll (s : ByteArray) : ByteArray := if s.size ≤ 300 then str (spreadL s.data.toList) else ⟨#[]⟩
theorem spreadAll_size (s : ByteArray) : (spreadAll s).size ≤ 600 := by
  unfold spreadAll
  split
  · show (spreadL s.data.toList).length ≤ 600
    rw [spreadL_length]; simp; omega
  · show 0 ≤ 600; omega
/-- The word number k of a text. -/
def wordAt (s : ByteArray) (k : Nat) : Nat := 256 * (s.data.toList.getD (2 * k) 0).toNat + (s.data.toList.getD (2 * k + 1) 0).toNat
def bytesTo (s : ByteArray) (k : Nat) : List UInt8 := (List.range k).map fun j => UInt8.ofNat (healedI (wordAt s j)).1.toNat
def fixedTo (s : ByteArray) (k : Nat) : Int := ((List.range k).map fun j => (healedI (wordAt s j)).2).sum
def goodTo (s : ByteArray) (k : Nat) : Prop := ∀ j, j < k → (healedI (wordAt s j)).2 ≠ 2
instance (s : ByteArray) (k : Nat) : Decidable (goodTo s k) := inferInstanceAs (Decidable (∀ j, j < k → _))
theorem bytesTo_succ (s : ByteArray) (k : Nat) : bytesTo s (k + 1) = bytesTo s k ++ [UInt8.ofNat (healedI (wordAt s k)).1.toNat] := by simp [bytesTo, List.range_succ]
theorem fixedTo_succ (s : ByteArray) (k : Nat) : fixedTo s (k + 1) = fixedTo s k + (healedI (wordAt s k)).2 := by simp [fixedTo, List.range_succ]
theorem bytesTo_length (s : ByteArray) (k : Nat) : (bytesTo s k).length = k := by simp [bytesTo]
theorem healed_cases (x : Nat) : (∃ b : Nat, b < 256 ∧ Ham.healed x = ((b : Int), 1)) ∨ (∃ b : Nat, b < 256 ∧ Ham.healed x = ((b : Int), 0)) ∨ Ham.healed x = (-1, 2) := by
  unfold Ham.healed
  split
  · exact .inl ⟨_, Ham.byteOf_lt _, rfl⟩
  · split
    · exact .inr (.inl ⟨_, Ham.byteOf_lt _, rfl⟩)
    · exact .inr (.inr rfl)
theorem healedI_cases (x : Int) : (∃ b : Nat, b < 256 ∧ healedI x = ((b : Int), 1)) ∨ (∃ b : Nat, b < 256 ∧ healedI x = ((b : Int), 0)) ∨ healedI x = (-1, 2) := by
  unfold healedI
  split
  · exact healed_cases _
  · exact .inr (.inr rfl)
theorem fixedTo_bd (s : ByteArray) : ∀ k, goodTo s k → 0 ≤ fixedTo s k ∧ fixedTo s k ≤ k
  | 0, _ => by simp [fixedTo]
  | k + 1, h => by
    have ih := fixedTo_bd s k (fun j hj => h j (by omega))
    have hk := h k (by omega)
    rw [fixedTo_succ]
    rcases healedI_cases (wordAt s k) with ⟨b, _, e⟩ | ⟨b, _, e⟩ | e <;> rw [e] at hk ⊢ <;> simp at hk ⊢ <;> omega
def healedAll (s : ByteArray) : ByteArray × Int × Bool :=
  if s.size % 2 = 0 ∧ s.size ≤ 600 ∧ goodTo s (s.size / 2) then (str (bytesTo s (s.size / 2)), fixedTo s (s.size / 2), true) else (⟨#[]⟩, 0, false)
theorem healedAll_no {s : ByteArray} (h : ¬ (s.size % 2 = 0 ∧ s.size ≤ 600 ∧ goodTo s (s.size / 2))) : healedAll s = (⟨#[]⟩, 0, false) := if_neg h
theorem healedAll_yes {s : ByteArray} (h : s.size % 2 = 0 ∧ s.size ≤ 600 ∧ goodTo s (s.size / 2)) : healedAll s = (str (bytesTo s (s.size / 2)), fixedTo s (s.size / 2), true) := if_pos h
/-- What a call of HealedAll answers. -/
def toldV (r : ByteArray × Int × Bool) : Value := .tuple #[.string r.1, .int .i64 r.2.1, .bool r.2.2]
end Go.Proofs.Ytocinobbocjikaa
end

