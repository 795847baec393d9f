/- The laws' own walks over a Page: its size, its copy, two held against each other; Newer on both sides. -/
import Derived.Test.YtbgjagmnpfcfaakDoorPageBase
import Derived.Test.YtbgjagmnpfcfaakDoorResCell
namespace Go.Proofs.YtbgjagmnpfcfaakDoor
open Go.RowKit
set_option linter.unusedVariables false
set_option maxRecDepth 20000

theorem szPage_in (k a s : Int) (x : ByteArray) (L : Int) (w : World) (h : (x.size : Int) ≤ L) (hL : L ≤ 1048576) :
    Calls Tryd.prog 4 #[.agg #[.int .i64 k, .int .i64 a, .int .i64 s, .string x], .int .i64 L] w fun e w' => e = .returned (.int .i64 (L - (x.size : Int))) ∧ Below w.heap.size w w' := by
  have hd : decide (L - (x.size : Int) < 0) = false := by simp; omega
  go_enter Tryd.func4, Tryd.ntmps4
  go_wp2_with fail
  all_goals go_ret
  all_goals first
    | exact ⟨rfl, (Below.refl w.heap.size w).alloc (Nat.le_refl _) _⟩
    | omega
theorem szPage_over (k a s : Int) (x : ByteArray) (L : Int) (w : World) (h : ¬ (x.size : Int) ≤ L) (hL : 0 ≤ L ∧ L ≤ 1048576) (hx : x.size ≤ maxLen) :
    Calls Tryd.prog 4 #[.agg #[.int .i64 k, .int .i64 a, .int .i64 s, .string x], .int .i64 L] w fun e w' => e = .returned (.int .i64 (-1)) ∧ Below w.heap.size w w' := by
  unfold maxLen at hx
  have hd : decide (L - (x.size : Int) < 0) = true := by simp; omega
  go_enter Tryd.func4, Tryd.ntmps4
  go_wp2_with fail
  all_goals go_ret
  all_goals first
    | exact ⟨rfl, (Below.refl w.heap.size w).alloc (Nat.le_refl _) _⟩
    | omega
theorem toPage_any (k a s : Int) (x : ByteArray) (w : World) :
    Calls Tryd.prog 6 #[.agg #[.int .i64 k, .int .i64 a, .int .i64 s, .string x]] w fun e w' => e = .returned (.agg #[.int .i64 k, .int .i64 a, .int .i64 s, .string x]) ∧ Below w.heap.size w w' := by
  go_enter Tryd.func6, Tryd.ntmps6
  go_wp2_with fail
  refine bodyPost_ret (results_cell rfl rfl (run_loadVar_row _ _ _ _ _ _ _ (heap_old (heap_at (by simp))) Tryd.underlying26 rfl (by kernel_rfl))) rfl ⟨rfl, ?_⟩
  exact (((Below.refl w.heap.size w).alloc (Nat.le_refl _) _).alloc (by simp) _).alloc (by simp; omega) _
/-- Two Pages that came in, where they lie; and nothing below has turned. -/
def TwoP (w : World) (k a s : Int) (x : ByteArray) (k' a' s' : Int) (x' : ByteArray) (W : World) : Prop :=
  W.heap[w.heap.size]? = some (.cells #[.int .i64 k, .int .i64 a, .int .i64 s, .string x] 23) ∧ W.heap[w.heap.size + 1]? = some (.cells #[.int .i64 k', .int .i64 a', .int .i64 s', .string x'] 23) ∧ Below w.heap.size w W
section
variable {w W W' : World} {k a s k' a' s' : Int} {x x' : ByteArray}
theorem TwoP.drewN (h : TwoP w k a s x k' a' s' x' W) (n : Nat) : TwoP w k a s x k' a' s' x' (W.drewN n) := ⟨h.1, h.2.1, h.2.2.os, h.2.2.tape, h.2.2.output, h.2.2.size, h.2.2.block⟩
theorem TwoP.on (h : TwoP w k a s x k' a' s' x' W) (b : Below W.heap.size W W') : TwoP w k a s x k' a' s' x' W' := ⟨block_on h.1 b, block_on h.2.1 b, below_here h.2.2 b⟩
theorem TwoP.made (w : World) (k a s k' a' s' : Int) (x x' : ByteArray) : TwoP w k a s x k' a' s' x' ((w.alloc (.cells #[.int .i64 k, .int .i64 a, .int .i64 s, .string x] 23)).alloc (.cells #[.int .i64 k', .int .i64 a', .int .i64 s', .string x'] 23)) :=
  ⟨heap_old (heap_new w _), heap_at (by simp), ((Below.refl w.heap.size w).alloc (Nat.le_refl _) _).alloc (by simp) _⟩
theorem toPage_first (h : TwoP w k a s x k' a' s' x' W) :
    Calls Tryd.prog 6 #[.agg #[.int .i64 k, .int .i64 a, .int .i64 s, .string x]] W fun e w' => e = .returned (.agg #[.int .i64 k, .int .i64 a, .int .i64 s, .string x]) ∧ TwoP w k a s x k' a' s' x' w' :=
  (toPage_any k a s x W).mono fun e w' ⟨h1, h2⟩ => ⟨h1, h.on h2⟩
theorem toPage_second (h : TwoP w k a s x k' a' s' x' W) :
    Calls Tryd.prog 6 #[.agg #[.int .i64 k', .int .i64 a', .int .i64 s', .string x']] W fun e w' => e = .returned (.agg #[.int .i64 k', .int .i64 a', .int .i64 s', .string x']) ∧ TwoP w k a s x k' a' s' x' w' :=
  (toPage_any k' a' s' x' W).mono fun e w' ⟨h1, h2⟩ => ⟨h1, h.on h2⟩
end
end Go.Proofs.YtbgjagmnpfcfaakDoor
