/- The walk of chapter 6's model: Spares. -/
import Derived.Test.YteooaljhdmmooaaDoorMDSpareSpec2
import Derived.Test.YteooaljhdmmooaaDoorMDDrawBase
namespace Go.Proofs.YteooaljhdmmooaaDoor
open Go.RowKit
set_option linter.unusedVariables false
set_option linter.unusedSimpArgs false
set_option maxRecDepth 20000

/-- What Spares tells. -/
def sparesT (ts : List ByteArray) (d : Int) : List ByteArray := if columnsOk ts = true ∧ inB d 1 4 = true then (List.range d.toNat).map (spareT ts) else []
theorem sparesT_no {ts : List ByteArray} {d : Int} (h : columnsOk ts = false ∨ inB d 1 4 = false) : sparesT ts d = [] := by
  unfold sparesT
  rw [if_neg]
  rintro ⟨h1, h2⟩
  rcases h with h | h
  · rw [h] at h1; cases h1
  · rw [h] at h2; cases h2
theorem sparesT_yes {ts : List ByteArray} {D : Nat} (h : columnsOk ts = true) (h1 : 1 ≤ D) (h4 : D ≤ 4) : sparesT ts (D : Int) = (List.range D).map (spareT ts) := by
  unfold sparesT
  rw [if_pos ⟨h, by simp [inB]; omega⟩]; simp
theorem strV_one (s : ByteArray) : ∀ u ∈ [Value.string s], u.oneCell' = true := by
  intro u hu; simp only [List.mem_singleton] at hu; subst hu; rfl
/-- What an appended slice of texts owns, told by its cells. -/
theorem ownTexts_of {w : World} {base B n : Nat} {v : Value} {ts : List ByteArray} (h : w.ownsRow base 9 1 v n (ts.map Value.string)) (hB : B ≤ base) : ∃ a cap, v = .slice a n cap ∧ n ≤ cap ∧ OwnTexts B w.heap.size w a n ts := by
  obtain ⟨a, cap, rfl, hcap, hlen, _, how⟩ := owned_of_own h
  have hl : ts.length = n := by simpa using hlen
  refine ⟨a, cap, rfl, hcap, hl, how.1, fun hn => ?_⟩
  obtain ⟨b, off, rfl, h1, h2, h3⟩ := how.2 hn
  refine ⟨b, off, rfl, by omega, h2, fun i hi => ?_⟩
  obtain ⟨h4, h5⟩ := h3 i hi
  refine ⟨?_, h5⟩
  rw [h4]
  unfold cellT
  dsimp only
  rw [List.getD_eq_getElem?_getD, List.getD_eq_getElem?_getD, List.getElem?_map, List.getElem?_eq_getElem (by omega)]
  rfl

end Go.Proofs.YteooaljhdmmooaaDoor
