/- How an argument is read that is a slice of int64 or of booleans. -/
import Derived.Test.YtnemncmaaejajaaTextBase
import Derived.ChangeSlices
import Derived.Deep.Grids
namespace Go.Proofs.Ytnemncmaaejajaa
open Go.RowKit Go.ChangeShapes Go.Deep
set_option linter.unusedVariables false

theorem ints_read {H : Type} {enc : TypeId × Value → H} {P : Program} {W : World} {t e : TypeId} {a : Option Addr} {len cap : Nat} {d : DataW H} {ps : List MemPlace} (ht : P.underlying t = some (.slice e)) (he : P.underlying e = some (.int .i64)) (hc : P.cellsOf e = 1)
    (h : DataW.Trod enc P W 0 (fun _ => true) true t (.slice a len cap) d ps) : ∃ xs, Ints 0 W.heap.size W a len xs ∧ len ≤ maxLen := by
  obtain ⟨fuel, hf⟩ := h
  rcases open_ints ht he hc hf with ⟨hcs, _⟩ | ⟨x, l, c, zs, hcs, _, hl, hm, hz, _, hcell, hwf⟩
  · simp [Value.cells] at hcs
    obtain ⟨rfl, rfl, rfl⟩ := hcs
    exact ⟨[], ⟨rfl, Nat.le_refl _, fun h => absurd h (Nat.lt_irrefl _)⟩, Nat.zero_le _⟩
  · simp [Value.cells] at hcs
    obtain ⟨rfl, rfl, rfl⟩ := hcs
    simp only [if_true] at hz
    exact ⟨_, ints_of (cap := cap) (.inr ⟨x, rfl, hl, hm, hz, hcell, hwf⟩), by omega⟩

/-- Booleans. -/
def Bools (lo hi : Nat) (w : World) (a : Option Addr) (n : Nat) (bs : List Bool) : Prop := bs.length = n ∧ Reads lo hi w a n (cellO bs)
def OwnBools (lo hi : Nat) (w : World) (a : Option Addr) (n : Nat) (bs : List Bool) : Prop := bs.length = n ∧ Owned lo hi w a n (cellO bs)
section
variable {lo hi : Nat} {w w' : World} {a : Option Addr} {n : Nat} {bs : List Bool}
theorem OwnBools.bools (h : OwnBools lo hi w a n bs) : Bools lo hi w a n bs := ⟨h.1, h.2.reads⟩
theorem Bools.later (h : Bools lo hi w a n bs) {B : Nat} (hb : Below B w w') (hB : hi ≤ B) : Bools lo hi w' a n bs := ⟨h.1, h.2.later hb hB⟩
theorem OwnBools.later (h : OwnBools lo hi w a n bs) {B : Nat} (hb : Below B w w') (hB : hi ≤ B) : OwnBools lo hi w' a n bs := ⟨h.1, h.2.later hb hB⟩
theorem Bools.aside (h : Bools lo hi w a n bs) {l r : Nat} (hb : Aside l r w w') (hB : hi ≤ l ∨ r ≤ lo) : Bools lo hi w' a n bs := ⟨h.1, h.2.aside hb hB⟩
theorem OwnBools.aside (h : OwnBools lo hi w a n bs) {l r : Nat} (hb : Aside l r w w') (hB : hi ≤ l ∨ r ≤ lo) : OwnBools lo hi w' a n bs := ⟨h.1, h.2.aside hb hB⟩
end
theorem bools_read {H : Type} {enc : TypeId × Value → H} {P : Program} {W : World} {t e : TypeId} {a : Option Addr} {len cap : Nat} {d : DataW H} {ps : List MemPlace} (ht : P.underlying t = some (.slice e)) (he : P.underlying e = some .bool) (hc : P.cellsOf e = 1)
    (h : DataW.Trod enc P W 0 (fun _ => true) true t (.slice a len cap) d ps) : ∃ bs, Bools 0 W.heap.size W a len bs ∧ len ≤ maxLen := by
  obtain ⟨fuel, hf⟩ := h
  rcases open_bools ht he hc hf with ⟨hcs, _⟩ | ⟨x, l, c, B, hcs, _, hl, hm, _, hcell⟩
  · simp [Value.cells] at hcs
    obtain ⟨rfl, rfl, rfl⟩ := hcs
    exact ⟨[], ⟨rfl, Nat.le_refl _, fun h => absurd h (Nat.lt_irrefl _)⟩, Nat.zero_le _⟩
  · simp [Value.cells] at hcs
    obtain ⟨rfl, rfl, rfl⟩ := hcs
    refine ⟨(List.range len).map B, ⟨by simp, reads_of fun i hi => ?_⟩, by omega⟩
    rw [hcell i (by omega)]
    unfold cellO
    rw [List.getD_eq_getElem?_getD, List.getElem?_map, List.getElem?_range hi]
    rfl
end Go.Proofs.Ytnemncmaaejajaa
