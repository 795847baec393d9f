/- Squares that a call has made: each row of Pages in a block of its own. -/
import Derived.Test.YtnemncmaaejajaaChipSz
namespace Go.Proofs.Ytnemncmaaejajaa
open Go.RowKit
set_option linter.unusedVariables false
set_option maxRecDepth 20000

/-- Squares whose memory is one's own: the row lies in block g, the Pages of number i in block P i. -/
structure OwnSqs (lo hi : Nat) (w : World) (a : Option Addr) (n : Nat) (qs : List Sq) (g off : Nat) (A : Nat → Option Addr) (C P : Nat → Nat) : Prop where
  len : qs.length = n
  row : Owned g (g + 1) w a (3 * n) (cellQ A C qs)
  addr : 0 < n → a = some ⟨g, off, none⟩
  pages : ∀ i, i < n → OwnTexts (P i) (P i + 1) w (A i) (sqAt qs i).1.length (sqAt qs i).1
  room : ∀ i, i < n → (sqAt qs i).1.length ≤ C i
  atG : lo ≤ g ∧ g < hi
  atP : ∀ i, i < n → lo ≤ P i ∧ P i < hi
  apartG : ∀ i, i < n → 0 < (sqAt qs i).1.length → P i ≠ g
  apartP : ∀ i j, i < n → j < n → i ≠ j → 0 < (sqAt qs i).1.length → 0 < (sqAt qs j).1.length → P i ≠ P j
  top : hi ≤ w.heap.size
def OwnSquares (lo hi : Nat) (w : World) (a : Option Addr) (n : Nat) (qs : List Sq) : Prop := ∃ g off A C P, OwnSqs lo hi w a n qs g off A C P

theorem reads_wide {lo hi lo' hi' n : Nat} {w : World} {a : Option Addr} {f : Nat → Value} (h : Reads lo hi w a n f) (h1 : lo' ≤ lo) (h2 : hi ≤ hi') (h3 : hi' ≤ w.heap.size) : Reads lo' hi' w a n f :=
  ⟨h3, fun hn => by obtain ⟨b, off, e, h4, h5, h6⟩ := h.2 hn; exact ⟨b, off, e, by omega, by omega, h6⟩⟩
theorem OwnSqs.squares {lo hi n g off : Nat} {w : World} {a : Option Addr} {qs : List Sq} {A : Nat → Option Addr} {C P : Nat → Nat} (h : OwnSqs lo hi w a n qs g off A C P) : Squares lo hi w a n qs :=
  ⟨h.len, A, C, reads_wide h.row.reads h.atG.1 (by have := h.atG.2; omega) h.top, fun i hi => ⟨rfl, reads_wide (h.pages i hi).2.reads (h.atP i hi).1 (by have := (h.atP i hi).2; omega) h.top⟩⟩
theorem OwnSquares.squares {lo hi n : Nat} {w : World} {a : Option Addr} {qs : List Sq} (h : OwnSquares lo hi w a n qs) : Squares lo hi w a n qs := by
  obtain ⟨g, off, A, C, P, h⟩ := h
  exact h.squares
theorem OwnSqs.later {lo hi n g off B : Nat} {w w' : World} {a : Option Addr} {qs : List Sq} {A : Nat → Option Addr} {C P : Nat → Nat} (h : OwnSqs lo hi w a n qs g off A C P) (hb : Below B w w') (hB : hi ≤ B) : OwnSqs lo hi w' a n qs g off A C P :=
  ⟨h.len, h.row.later hb (by have := h.atG.2; omega), h.addr, fun i hi => (h.pages i hi).later hb (by have := (h.atP i hi).2; omega), h.room, h.atG, h.atP, h.apartG, h.apartP, Nat.le_trans h.top hb.size⟩
theorem OwnSquares.later {lo hi n B : Nat} {w w' : World} {a : Option Addr} {qs : List Sq} (h : OwnSquares lo hi w a n qs) (hb : Below B w w') (hB : hi ≤ B) : OwnSquares lo hi w' a n qs := by
  obtain ⟨g, off, A, C, P, h⟩ := h
  exact ⟨g, off, A, C, P, h.later hb hB⟩
/-- Texts of one's own lie in one block (where there are none, in whichever one likes). -/
theorem texts_block {lo hi n : Nat} {w : World} {a : Option Addr} {ts : List ByteArray} (h : OwnTexts lo hi w a n ts) (Q : Nat) (hQ : Q < w.heap.size) : ∃ P, (0 < n → lo ≤ P ∧ P < hi) ∧ (¬ 0 < n → P = Q) ∧ OwnTexts P (P + 1) w a n ts := by
  by_cases hn : 0 < n
  · obtain ⟨b, off, e, h1, h2, h3⟩ := h.2.2 hn
    exact ⟨b, fun _ => ⟨h1, h2⟩, fun h' => absurd hn h', h.1, by have := h.2.1; omega, fun _ => ⟨b, off, e, Nat.le_refl _, Nat.lt_succ_self _, h3⟩⟩
  · exact ⟨Q, fun h' => absurd h' hn, fun _ => rfl, h.1, by omega, fun h' => absurd h' hn⟩
theorem texts_aside {P n lo hi : Nat} {w w' : World} {a : Option Addr} {ts : List ByteArray} (h : OwnTexts P (P + 1) w a n ts) (hb : Aside lo hi w w') (hB : 0 < n → P < lo ∨ hi ≤ P) : OwnTexts P (P + 1) w' a n ts := by
  by_cases hn : 0 < n
  · exact h.aside hb (by have := hB hn; omega)
  · exact ⟨h.1, Nat.le_trans h.2.1 hb.size, fun h' => absurd h' hn⟩
theorem three_cells {W : World} {b : Nat} {c0 c1 c2 : Value} {t : TypeId} {fr : Nat × Nat} (h : W.heap[b]? = some (.cells #[c0, c1, c2] t fr)) :
    W.cell? ⟨b, 0, none⟩ = some c0 ∧ W.cell? ⟨b, 1, none⟩ = some c1 ∧ W.cell? ⟨b, 2, none⟩ = some c2 := by
  simp [World.cell?, h]
theorem three_set {W : World} {b : Nat} {c0 c1 c2 : Value} {t : TypeId} {fr : Nat × Nat} (h : W.heap[b]? = some (.cells #[c0, c1, c2] t fr)) (v0 v1 v2 : Value) :
    (((W.setCell ⟨b, 0, none⟩ v0).setCell ⟨b, 1, none⟩ v1).setCell ⟨b, 2, none⟩ v2).heap[b]? = some (.cells #[v0, v1, v2] t fr) :=
  set_block (set_block (set_block h 0 v0 (by simp)) 1 v1 (by simp)) 2 v2 (by simp)
theorem set_other {W : World} {b k o : Nat} {x : Option Obj} (h : W.heap[b]? = x) (hne : k ≠ b) (u : Value) : (W.setCell ⟨k, o, none⟩ u).heap[b]? = x := by
  rw [Go.Deep.blk_setCell_other _ _ _ _ (by exact fun e => hne (by simpa using e.symm))]; exact h
theorem three_other {W : World} {b k : Nat} {x : Option Obj} (h : W.heap[b]? = x) (hne : k ≠ b) (v0 v1 v2 : Value) : (((W.setCell ⟨k, 0, none⟩ v0).setCell ⟨k, 1, none⟩ v1).setCell ⟨k, 2, none⟩ v2).heap[b]? = x :=
  set_other (set_other (set_other h hne v0) hne v1) hne v2
theorem three_aside {lo hi : Nat} {w W : World} {b : Nat} (h : Aside lo hi w W) (h1 : lo ≤ b) (h2 : b < hi) (v0 v1 v2 : Value) : Aside lo hi w (((W.setCell ⟨b, 0, none⟩ v0).setCell ⟨b, 1, none⟩ v1).setCell ⟨b, 2, none⟩ v2) :=
  ((h.setCell (p := ⟨b, 0, none⟩) h1 h2 v0).setCell (p := ⟨b, 1, none⟩) h1 h2 v1).setCell (p := ⟨b, 2, none⟩) h1 h2 v2

end Go.Proofs.Ytnemncmaaejajaa
