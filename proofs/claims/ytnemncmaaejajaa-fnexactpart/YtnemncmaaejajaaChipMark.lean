/- Marks written into Squares. -/
import Derived.Test.YtnemncmaaejajaaChipOwn3
namespace Go.Proofs.Ytnemncmaaejajaa
open Go.RowKit
set_option linter.unusedVariables false
set_option maxRecDepth 20000

/-- How many Pages there are. -/
def lens (qs : List Sq) : Nat := (qs.map fun q => q.1.length).sum
theorem lens_take (qs : List Sq) (k : Nat) (h : k < qs.length) : lens (qs.take (k + 1)) = lens (qs.take k) + (sqAt qs k).1.length := by
  unfold lens sqAt
  rw [List.take_succ_eq_append_getElem h, List.map_append, List.sum_append, List.getD_eq_getElem?_getD, List.getElem?_eq_getElem h]
  simp
theorem lens_whole (qs : List Sq) (k : Nat) : lens (qs.take k) ≤ lens qs := by
  unfold lens
  conv => rhs; rw [← List.take_append_drop k qs, List.map_append, List.sum_append]
  omega
theorem lens_weight (qs : List Sq) : lens qs ≤ weight qs := by
  unfold lens weight
  induction qs with
  | nil => simp
  | cons q qs ih => simp only [List.map_cons, List.sum_cons]; omega
/-- Where the marks of a Square begin. -/
def markS (qs : List Sq) (m i : Nat) : Nat := m + lens (qs.take i) + 2 * i
/-- Squares that are marked. -/
def sqMark (qs : List Sq) (m : Nat) : List Sq := (List.range qs.length).map fun i => (marksT (markS qs m i) (sqAt qs i).1.length, ((markS qs m i + (sqAt qs i).1.length : Nat) : Int), decide ((markS qs m i + (sqAt qs i).1.length + 1) % 3 = 0))
theorem sqMark_length (qs : List Sq) (m : Nat) : (sqMark qs m).length = qs.length := by simp [sqMark]
theorem sqMark_at (qs : List Sq) (m i : Nat) (h : i < qs.length) : sqAt (sqMark qs m) i = (marksT (markS qs m i) (sqAt qs i).1.length, ((markS qs m i + (sqAt qs i).1.length : Nat) : Int), decide ((markS qs m i + (sqAt qs i).1.length + 1) % 3 = 0)) := by
  show (sqMark qs m).getD i ([], 0, false) = _
  unfold sqMark
  rw [List.getD_eq_getElem?_getD, List.getElem?_map, List.getElem?_range h]; rfl
theorem sqMark_len (qs : List Sq) (m i : Nat) (h : i < qs.length) : (sqAt (sqMark qs m) i).1.length = (sqAt qs i).1.length := by
  rw [sqMark_at qs m i h]; exact marksT_length _ _
theorem markQ_step (A : Nat → Option Addr) (C : Nat → Nat) (qs : List Sq) (m k j : Nat) (h : k < qs.length) :
    (if j = k * 3 + 2 then Value.bool (decide ((markS qs m k + (sqAt qs k).1.length + 1) % 3 = 0)) else if j = k * 3 + 1 then .int .i64 ((markS qs m k + (sqAt qs k).1.length : Nat) : Int) else if j < 3 * k then cellQ A C (sqMark qs m) j else cellQ A C qs j) = (if j < 3 * (k + 1) then cellQ A C (sqMark qs m) j else cellQ A C qs j) := by
  by_cases e2 : j = k * 3 + 2
  · rw [if_pos e2, if_pos (by omega), e2, show k * 3 + 2 = 3 * k + 2 by omega, cellQ2, sqMark_at qs m k h]
  · rw [if_neg e2]
    by_cases e1 : j = k * 3 + 1
    · rw [if_pos e1, if_pos (by omega), e1, show k * 3 + 1 = 3 * k + 1 by omega, cellQ1, sqMark_at qs m k h]
    · rw [if_neg e1]
      by_cases e0 : j = k * 3
      · rw [if_neg (by omega), if_pos (by omega), e0, show k * 3 = 3 * k by omega, cellQ0, cellQ0, sqMark_len qs m k h]
      · by_cases h' : j < 3 * k
        · rw [if_pos h', if_pos (by omega)]
        · rw [if_neg h', if_neg (by omega)]
theorem Owned.place {lo hi n i : Nat} {w : World} {b off : Nat} {f : Nat → Value} (h : Owned lo hi w (some ⟨b, off, none⟩) n f) (hi' : i < n) : w.cell? ⟨b, off + i, none⟩ = some (f i) ∧ w.frozen? ⟨b, off + i, none⟩ = false ∧ lo ≤ b ∧ b < hi := by
  obtain ⟨b', off', e, h1, h2, h3⟩ := h.2 (by omega)
  simp at e
  obtain ⟨rfl, rfl⟩ := e
  exact ⟨(h3 i hi').1, (h3 i hi').2, h1, h2⟩
theorem aside_wideQ {lo hi lo' hi' : Nat} {w w' : World} (h : Aside lo hi w w') (h1 : lo' ≤ lo) (h2 : hi ≤ hi') : Aside lo' hi' w w' := ⟨h.os, h.tape, h.output, h.size, fun k hk h' => h.block k hk (by omega)⟩

/-- Of what was there only the row g and the Pages' rows were written. -/
def Bare (g n : Nat) (P : Nat → Nat) (qs : List Sq) (w w' : World) : Prop := ∀ k, k < w.heap.size → k ≠ g → (∀ i, i < n → 0 < (sqAt qs i).1.length → k ≠ P i) → w'.heap[k]? = w.heap[k]?
end Go.Proofs.Ytnemncmaaejajaa
