/- Jobs copied into new memory. -/
import Derived.Test.YtnemncmaaejajaaChipMark
namespace Go.Proofs.Ytnemncmaaejajaa
open Go.RowKit
set_option linter.unusedVariables false
set_option maxRecDepth 20000

theorem job_cells {n B : Nat} {w w' : World} {js : List Jb} {b off k : Nat} (hc : ∀ i, i < 3 * n → w.cell? ⟨b, off + i, none⟩ = some (cellJ js i)) (hbel : Below B w w') (hb : b < B) (hk : k < n) :
    w'.cell? ⟨b, off + k * 3, none⟩ = some (.int .i64 (jbAt js k).1) ∧ w'.cell? ⟨b, off + k * 3 + 1, none⟩ = some (.int .i64 (jbAt js k).2.1) ∧ w'.cell? ⟨b, off + k * 3 + 2, none⟩ = some (.string (jbAt js k).2.2) := by
  refine ⟨?_, ?_, ?_⟩
  · rw [hbel.cell (p := ⟨b, off + k * 3, none⟩) hb, show off + k * 3 = off + 3 * k by omega, hc _ (by omega), cellJ0]
  · rw [hbel.cell (p := ⟨b, off + k * 3 + 1, none⟩) hb, show off + k * 3 + 1 = off + (3 * k + 1) by omega, hc _ (by omega), cellJ1]
  · rw [hbel.cell (p := ⟨b, off + k * 3 + 2, none⟩) hb, show off + k * 3 + 2 = off + (3 * k + 2) by omega, hc _ (by omega), cellJ2]
def zeroJ (j : Nat) : Value := if j % 3 = 0 then .int .i64 0 else if j % 3 = 1 then .int .i64 0 else .string ByteArray.empty
theorem madeJ (w : World) (n : Nat) (e : TypeId) : Owned w.heap.size (w.heap.size + 1) (w.alloc (.cells (madeCells #[.int .i64 0, .int .i64 0, .string ByteArray.empty] (n * 3)) e)) (some ⟨w.heap.size, 0, none⟩) (3 * n) zeroJ := by
  refine ⟨by simp, fun _ => ⟨w.heap.size, 0, rfl, Nat.le_refl _, Nat.lt_succ_self _, fun j hj => ⟨?_, ?_⟩⟩⟩
  · rw [World.cell?_alloc_new, Nat.zero_add]
    have hj' : j < n * 3 := by omega
    have h3 : j % 3 = 0 ∨ j % 3 = 1 ∨ j % 3 = 2 := by omega
    rcases h3 with h | h | h <;> simp [madeCells, hj', zeroJ, h]
  · exact four_frozen (heap_new w _) _
theorem rowJ_step (js : List Jb) (k j : Nat) :
    (if j = k * 3 + 2 then Value.string (jbAt js k).2.2 else if j = k * 3 + 1 then .int .i64 (jbAt js k).2.1 else if j = k * 3 then .int .i64 (jbAt js k).1 else if j < 3 * k then cellJ js j else zeroJ j) = (if j < 3 * (k + 1) then cellJ js j else zeroJ j) := by
  by_cases e2 : j = k * 3 + 2
  · rw [if_pos e2, if_pos (by omega), e2, show k * 3 + 2 = 3 * k + 2 by omega, cellJ2]
  · rw [if_neg e2]
    by_cases e1 : j = k * 3 + 1
    · rw [if_pos e1, if_pos (by omega), e1, show k * 3 + 1 = 3 * k + 1 by omega, cellJ1]
    · rw [if_neg e1]
      by_cases e0 : j = k * 3
      · rw [if_pos e0, if_pos (by omega), e0, show k * 3 = 3 * k by omega, cellJ0]
      · rw [if_neg e0]
        by_cases h : j < 3 * k
        · rw [if_pos h, if_pos (by omega)]
        · rw [if_neg h, if_neg (by omega)]

end Go.Proofs.Ytnemncmaaejajaa
