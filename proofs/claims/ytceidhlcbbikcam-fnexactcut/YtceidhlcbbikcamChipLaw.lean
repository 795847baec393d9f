/- What the laws on Chips carry along: the arguments' boxes, Chips in variables. Nothing of Go's text here. -/
import Derived.Test.YtceidhlcbbikcamChipAns
import Derived.Test.YtceidhlcbbikcamChipOnly
namespace Go.Proofs.Ytceidhlcbbikcam
open Go.RowKit
set_option linter.unusedVariables false

/-- A variable's zero Chip. -/
abbrev zC : Obj := .cells #[.int .i64 0, .slice none 0 0] 31
/-- A Chip in a variable: it lies in block b, its Squares in blocks from lo to below hi, all made behind s. -/
structure VarC (s b lo hi : Nat) (z : Int) (qs : List Sq) (a : Option Addr) (c : Nat) (w : World) : Prop where
  var : w.heap[b]? = some (.cells #[.int .i64 z, .slice a qs.length c] 31)
  ans : AnsQ lo hi w a qs.length qs
  apart : b < lo ∨ hi ≤ b
  atB : s ≤ b
  atL : s ≤ lo
section
variable {s b lo hi c : Nat} {z : Int} {qs : List Sq} {a : Option Addr} {w w' : World}
theorem VarC.lt (h : VarC s b lo hi z qs a c w) : b < w.heap.size := (Array.getElem?_eq_some_iff.1 h.var).1
theorem VarC.on (h : VarC s b lo hi z qs a c w) (hb : Below w.heap.size w w') : VarC s b lo hi z qs a c w' := ⟨block_on h.var hb, h.ans.later hb h.ans.1, h.apart, h.atB, h.atL⟩
theorem VarC.aside (h : VarC s b lo hi z qs a c w) {l r : Nat} (hb : Aside l r w w') (h1 : b < l ∨ r ≤ b) (h2 : r ≤ lo ∨ hi ≤ l) : VarC s b lo hi z qs a c w' :=
  ⟨(hb.block b h.lt h1).trans h.var, h.ans.aside hb h2, h.apart, h.atB, h.atL⟩
theorem VarC.cells (h : VarC s b lo hi z qs a c w) : w.cell? ⟨b, 0, none⟩ = some (.int .i64 z) ∧ w.cell? ⟨b, 1, none⟩ = some (.slice a qs.length c) := two_cells h.var
theorem VarC.squares (h : VarC s b lo hi z qs a c w) : Squares lo hi w a qs.length qs := h.ans.squares
theorem VarC.hi_le (h : VarC s b lo hi z qs a c w) : hi ≤ w.heap.size := h.ans.1
/-- A Chip that was answered in w1 and laid into a variable that had been made before. -/
theorem varC_store {w1 : World} {z : Int} {qs : List Sq} {a : Option Addr} {c : Nat} (hv : w'.heap[b]? = some zC) (hq : AnsQ w1.heap.size w'.heap.size w' a qs.length qs) (hs : s ≤ b) (hb : b < w1.heap.size) (hl : s ≤ w1.heap.size) :
    VarC s b w1.heap.size w'.heap.size z qs a c ((w'.setCell ⟨b, 0, none⟩ (.int .i64 z)).setCell ⟨b, 1, none⟩ (.slice a qs.length c)) :=
  ⟨two_set hv _ _, hq.aside (two_aside (b := b) (Aside.refl b (b + 1) w') (Nat.le_refl _) (Nat.lt_succ_self _) _ _) (.inl (by omega)), .inl hb, hs, hl⟩
theorem varC_new {w1 : World} {z : Int} {qs : List Sq} {a : Option Addr} {c : Nat} (hq : AnsQ w1.heap.size w'.heap.size w' a qs.length qs) (hs : s ≤ w1.heap.size) (h1 : w1.heap.size ≤ w'.heap.size) :
    VarC s w'.heap.size w1.heap.size w'.heap.size z qs a c (w'.alloc (.cells #[.int .i64 z, .slice a qs.length c] 31)) :=
  ⟨heap_new _ _, hq.later ((Below.refl w'.heap.size w').alloc (Nat.le_refl _) _) (Nat.le_refl _), .inr (Nat.le_refl _), Nat.le_trans hs h1, hs⟩
/-- A Chip answered and laid into a variable, wherever among the calls the variable was made. -/
theorem store_below {B b : Nat} {w w' : World} (h : Below B w w') (hb : B ≤ b) (u v : Value) : Below B w ((w'.setCell ⟨b, 0, none⟩ u).setCell ⟨b, 1, none⟩ v) := (h.setCell (p := ⟨b, 0, none⟩) hb u).setCell (p := ⟨b, 1, none⟩) hb v
end
/-- The boxes of a Chip and of a Job that came in. -/
structure BoxCJ (w : World) (z : Int) (a : Option Addr) (n cap : Nat) (k j : Int) (x : ByteArray) (w' : World) : Prop where
  chip : w'.heap[w.heap.size]? = some (.cells #[.int .i64 z, .slice a n cap] 24)
  job : w'.heap[w.heap.size + 1]? = some (.cells #[.int .i64 k, .int .i64 j, .string x] 26)
  below : Below w.heap.size w w'
theorem BoxCJ.on {w : World} {z : Int} {a : Option Addr} {n cap : Nat} {k j : Int} {x : ByteArray} {w1 w2 : World} (h : BoxCJ w z a n cap k j x w1) (hb : Below w1.heap.size w1 w2) : BoxCJ w z a n cap k j x w2 :=
  ⟨block_on h.chip hb, block_on h.job hb, below_here h.below hb⟩
theorem BoxCJ.size {w : World} {z : Int} {a : Option Addr} {n cap : Nat} {k j : Int} {x : ByteArray} {w1 : World} (h : BoxCJ w z a n cap k j x w1) : w.heap.size + 2 ≤ w1.heap.size := by
  have := (Array.getElem?_eq_some_iff.1 h.job).1; omega
theorem BoxCJ.aside {w : World} {z : Int} {a : Option Addr} {n cap : Nat} {k j : Int} {x : ByteArray} {w1 w2 : World} (h : BoxCJ w z a n cap k j x w1) {l r : Nat} (hb : Aside l r w1 w2) (hl : w.heap.size + 2 ≤ l) : BoxCJ w z a n cap k j x w2 :=
  ⟨(hb.block _ (by have := h.size; omega) (.inl (by omega))).trans h.chip, (hb.block _ (by have := h.size; omega) (.inl (by omega))).trans h.job, h.below.trans (hb.below (by omega) (by have := h.size; omega))⟩
theorem BoxCJ.cells {w : World} {z : Int} {a : Option Addr} {n cap : Nat} {k j : Int} {x : ByteArray} {w1 : World} (h : BoxCJ w z a n cap k j x w1) :
    w1.cell? ⟨w.heap.size, 0, none⟩ = some (.int .i64 z) ∧ w1.cell? ⟨w.heap.size, 1, none⟩ = some (.slice a n cap) ∧ w1.cell? ⟨w.heap.size + 1, 0, none⟩ = some (.int .i64 k) ∧ w1.cell? ⟨w.heap.size + 1, 1, none⟩ = some (.int .i64 j) ∧ w1.cell? ⟨w.heap.size + 1, 2, none⟩ = some (.string x) := by
  obtain ⟨h1, h2⟩ := two_cells h.chip
  obtain ⟨h3, h4, h5⟩ := three_cells h.job
  exact ⟨h1, h2, h3, h4, h5⟩
end Go.Proofs.Ytceidhlcbbikcam
