/- The model's NewChip. -/
import Derived.Test.YtceidhlcbbikcamChipOkS
namespace Go.Proofs.Ytceidhlcbbikcam
open Go.RowKit
set_option linter.unusedVariables false
set_option maxRecDepth 20000

theorem sqAt_new (n i : Nat) : sqAt (List.replicate n (([], 0, false) : Sq)) i = ([], 0, false) := by
  unfold sqAt
  rw [List.getD_eq_getElem?_getD, List.getElem?_replicate]
  split <;> rfl
theorem cellQ_new (n j : Nat) : zero3 j = cellQ (fun _ => none) (fun _ => 0) (List.replicate n (([], 0, false) : Sq)) j := by
  unfold cellQ zero3
  rw [sqAt_new]
  rfl
theorem squares_new {lo g n : Nat} {w : World} (h : Owned g (g + 1) w (some ⟨g, 0, none⟩) (3 * n) zero3) (hlo : lo ≤ g) : OwnSquares lo w.heap.size w (some ⟨g, 0, none⟩) n (List.replicate n ([], 0, false)) := by
  have hs := h.1
  refine ⟨g, 0, fun _ => none, fun _ => 0, fun _ => g, ⟨by simp, h.congr (fun j _ => cellQ_new n j), fun _ => rfl, fun i _ => ?_, fun i _ => by rw [sqAt_new]; exact Nat.le_refl _, ⟨hlo, by omega⟩, fun i _ => ⟨hlo, by omega⟩, fun i _ h' => ?_, fun i j _ _ _ h' => ?_, Nat.le_refl _⟩⟩
  · rw [sqAt_new]
    exact ⟨rfl, hs, fun h' => absurd h' (by simp)⟩
  · rw [sqAt_new] at h'
    exact absurd h' (by simp)
  · rw [sqAt_new] at h'
    exact absurd h' (by simp)

end Go.Proofs.Ytceidhlcbbikcam
