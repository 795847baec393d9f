/- Rows in memory, and how they stay. -/
import Derived.Test.YtceidhlcbbikcamBase
namespace Go.Proofs.Ytceidhlcbbikcam
open Go.RowKit
set_option linter.unusedVariables false

theorem Aside.thenNew {lo hi l r : Nat} {w wr w2 : World} (h : Aside lo hi w wr) (h2 : Aside l r wr w2) (hl : w.heap.size ≤ l) : Aside lo hi w w2 :=
  ⟨h2.os.trans h.os, h2.tape.trans h.tape, h2.output.trans h.output, Nat.le_trans h.size h2.size, fun k hk h' => (h2.block k (Nat.lt_of_lt_of_le hk h.size) (.inl (by omega))).trans (h.block k hk h')⟩
theorem Aside.thenBelow {lo hi B : Nat} {w wr w2 : World} (h : Aside lo hi w wr) (h2 : Below B wr w2) (hl : w.heap.size ≤ B) : Aside lo hi w w2 :=
  ⟨h2.os.trans h.os, h2.tape.trans h.tape, h2.output.trans h.output, Nat.le_trans h.size h2.size, fun k hk h' => (h2.block k (by omega)).trans (h.block k hk h')⟩
theorem Aside.ofBelow {lo hi : Nat} {w w2 : World} (h2 : Below w.heap.size w w2) : Aside lo hi w w2 := (Aside.refl lo hi w).thenBelow h2 (Nat.le_refl _)
theorem Aside.widen {lo hi lo' hi' : Nat} {w w2 : World} (h : Aside lo hi w w2) (h1 : lo' ≤ lo) (h2 : hi ≤ hi') : Aside lo' hi' w w2 :=
  ⟨h.os, h.tape, h.output, h.size, fun k hk h' => h.block k hk (by omega)⟩
theorem Aside.thenAlloc {lo hi : Nat} {w wr : World} (h : Aside lo hi w wr) (o : Obj) : Aside lo hi w (wr.alloc o) :=
  h.thenBelow ((Below.refl wr.heap.size wr).alloc (Nat.le_refl _) o) h.size
theorem row_aside {lo hi b t n : Nat} {w w' : World} {f : Nat → Value} (h : w.rowIs b t n f) (ha : Aside lo hi w w') (hb : b < lo ∨ hi ≤ b) : w'.rowIs b t n f := h.of_block (ha.block b h.lt hb)
theorem row_below {B b t n : Nat} {w w' : World} {f : Nat → Value} (h : w.rowIs b t n f) (ha : Below B w w') (hb : b < B) : w'.rowIs b t n f := h.of_block (ha.block b hb)
theorem row_one {b t t' n n' : Nat} {w : World} {f f' : Nat → Value} (h : w.rowIs b t n f) (h' : w.rowIs b t' n' f') : t = t' ∧ n = n' ∧ ∀ i, i < n → f i = f' i := by
  obtain ⟨c, h1, h2, h3⟩ := h
  obtain ⟨c', h1', h2', h3'⟩ := h'
  rw [h1] at h1'
  simp only [Option.some.injEq, Obj.cells.injEq, and_true] at h1'
  obtain ⟨rfl, rfl⟩ := h1'
  refine ⟨rfl, by omega, fun i hi => ?_⟩
  have e1 := h3 i hi
  rw [h3' i (by omega)] at e1
  exact (Option.some.inj e1).symm

/-- A place of row i is in no other row. -/
theorem slot_lt {i j W k : Nat} (h : i < j) (hk : k < W) : i * W + k < j * W := by
  have := Nat.mul_le_mul_right W (show i + 1 ≤ j from h)
  rw [Nat.add_mul, Nat.one_mul] at this
  omega
end Go.Proofs.Ytceidhlcbbikcam
