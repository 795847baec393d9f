/- The model's l8Do: a Job done to a Chip itself. -/
import Derived.Test.YtceidhlcbbikcamChipOnly
import Derived.Deep.RegionLaw
import Derived.Deep.AppendLies
import Derived.Deep.QuietTactic
import Derived.BigQuiet
namespace Go.Proofs.Ytceidhlcbbikcam
open Go.RowKit
set_option linter.unusedVariables false
set_option maxRecDepth 20000

theorem GrowSqs.fresh {B n g : Nat} {w w' : World} {qs : List Sq} {A : Nat → Option Addr} {C : Nat → Nat} (h : GrowSqs B w n qs g A C) (hb : Below w.heap.size w w') : GrowSqs B w' n qs g A C := h.later hb
/-- A page written behind Square i's, as the walk leaves it. -/
theorem GrowSqs.wrote {B n g i g' c' : Nat} {w w1 : World} {qs : List Sq} {A : Nat → Option Addr} {C : Nat → Nat} {tx : ByteArray} (h : GrowSqs B w n qs g A C) (hi : i < n) (hg : w.grownBy w1 (oB (A i)))
    (ho : w1.ownsRow B 9 1 (.slice (some ⟨g', 0, none⟩) ((sqAt qs i).1.length + 1) c') ((sqAt qs i).1.length + 1) (pgV (sqAt qs i).1 ++ [.string tx])) (hat : oB (A i) = some g' ∨ w.heap.size ≤ g') :
    GrowSqs B (w1.setCell ⟨g, i * 3, none⟩ (.slice (some ⟨g', 0, none⟩) ((sqAt qs i).1.length + 1) c')) n (qs.set i ((sqAt qs i).1 ++ [tx], (sqAt qs i).2.1, (sqAt qs i).2.2)) g (upd A i (some ⟨g', 0, none⟩)) (upd C i c') := by
  have e : (sqAt qs i).1.length + 1 = ((sqAt qs i).1 ++ [tx]).length := by simp
  rw [e, pgV_snoc] at ho
  rw [e]
  exact h.setPages hi hg ho (fun m hm => by have e' : some g' = some m := hm; simp only [Option.some.injEq] at e'; subst e'; exact hat)

theorem two_moved (w : World) (o : Obj) (g j k : Nat) (u v : Value) (h : g < w.heap.size) : ((w.alloc o).setCell ⟨g, j, none⟩ u).setCell ⟨g, k, none⟩ v = ((w.setCell ⟨g, j, none⟩ u).setCell ⟨g, k, none⟩ v).alloc o := by
  rw [World.setCell_alloc_past _ _ _ _ h, World.setCell_alloc_past _ _ _ _ (by rw [Go.Deep.nblk_setCell]; exact h)]

theorem cells01 {W : World} {b : Nat} {cs : Array Value} {t : TypeId} {fr : Nat × Nat} {c0 c1 : Value} (h : W.heap[b]? = some (.cells cs t fr)) (h0 : cs[0]? = some c0) (h1 : cs[1]? = some c1) : W.cell? ⟨b, 0, none⟩ = some c0 ∧ W.cell? ⟨b, 1, none⟩ = some c1 := by
  simp [World.cell?, h, h0, h1]
end Go.Proofs.Ytceidhlcbbikcam
