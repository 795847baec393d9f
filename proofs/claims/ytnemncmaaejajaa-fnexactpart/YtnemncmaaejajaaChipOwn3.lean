/- A Chip copied into new memory. -/
import Derived.Test.YtnemncmaaejajaaChipOwn2
namespace Go.Proofs.Ytnemncmaaejajaa
open Go.RowKit
set_option linter.unusedVariables false
set_option maxRecDepth 20000

theorem OwnSqs.aside {lo hi n g off l r : Nat} {w w' : World} {a : Option Addr} {qs : List Sq} {A : Nat → Option Addr} {C P : Nat → Nat} (h : OwnSqs lo hi w a n qs g off A C P) (hb : Aside l r w w') (hr : r ≤ lo ∨ hi ≤ l) : OwnSqs lo hi w' a n qs g off A C P :=
  ⟨h.len, h.row.aside hb (by have := h.atG; omega), h.addr, fun i hi => (h.pages i hi).aside hb (by have := h.atP i hi; omega), h.room, h.atG, h.atP, h.apartG, h.apartP, Nat.le_trans h.top hb.size⟩
theorem OwnSqs.wide {lo hi lo' hi' n g off : Nat} {w : World} {a : Option Addr} {qs : List Sq} {A : Nat → Option Addr} {C P : Nat → Nat} (h : OwnSqs lo hi w a n qs g off A C P) (h1 : lo' ≤ lo) (h2 : hi ≤ hi') (h3 : hi' ≤ w.heap.size) : OwnSqs lo' hi' w a n qs g off A C P :=
  ⟨h.len, h.row, h.addr, h.pages, h.room, by have := h.atG; omega, fun i hi => by have := h.atP i hi; omega, h.apartG, h.apartP, h3⟩
theorem OwnSquares.aside {lo hi n l r : Nat} {w w' : World} {a : Option Addr} {qs : List Sq} (h : OwnSquares lo hi w a n qs) (hb : Aside l r w w') (hr : r ≤ lo ∨ hi ≤ l) : OwnSquares lo hi w' a n qs := by
  obtain ⟨g, off, A, C, P, h⟩ := h
  exact ⟨g, off, A, C, P, h.aside hb hr⟩
theorem OwnSquares.wide {lo hi lo' hi' n : Nat} {w : World} {a : Option Addr} {qs : List Sq} (h : OwnSquares lo hi w a n qs) (h1 : lo' ≤ lo) (h2 : hi ≤ hi') (h3 : hi' ≤ w.heap.size) : OwnSquares lo' hi' w a n qs := by
  obtain ⟨g, off, A, C, P, h⟩ := h
  exact ⟨g, off, A, C, P, h.wide h1 h2 h3⟩
theorem two_cells {W : World} {b : Nat} {c0 c1 : Value} {t : TypeId} {fr : Nat × Nat} (h : W.heap[b]? = some (.cells #[c0, c1] t fr)) :
    W.cell? ⟨b, 0, none⟩ = some c0 ∧ W.cell? ⟨b, 1, none⟩ = some c1 := by
  simp [World.cell?, h]
theorem two_set {W : World} {b : Nat} {c0 c1 : Value} {t : TypeId} {fr : Nat × Nat} (h : W.heap[b]? = some (.cells #[c0, c1] t fr)) (v0 v1 : Value) :
    ((W.setCell ⟨b, 0, none⟩ v0).setCell ⟨b, 1, none⟩ v1).heap[b]? = some (.cells #[v0, v1] t fr) :=
  set_block (set_block h 0 v0 (by simp)) 1 v1 (by simp)
theorem two_other {W : World} {b k : Nat} {x : Option Obj} (h : W.heap[b]? = x) (hne : k ≠ b) (v0 v1 : Value) : ((W.setCell ⟨k, 0, none⟩ v0).setCell ⟨k, 1, none⟩ v1).heap[b]? = x :=
  set_other (set_other h hne v0) hne v1
theorem two_aside {lo hi : Nat} {w W : World} {b : Nat} (h : Aside lo hi w W) (h1 : lo ≤ b) (h2 : b < hi) (v0 v1 : Value) : Aside lo hi w ((W.setCell ⟨b, 0, none⟩ v0).setCell ⟨b, 1, none⟩ v1) :=
  (h.setCell (p := ⟨b, 0, none⟩) h1 h2 v0).setCell (p := ⟨b, 1, none⟩) h1 h2 v1

end Go.Proofs.Ytnemncmaaejajaa
