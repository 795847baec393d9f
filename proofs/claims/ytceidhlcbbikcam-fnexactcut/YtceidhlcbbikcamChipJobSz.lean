/- How much room is left behind Jobs. -/
import Derived.Test.YtceidhlcbbikcamChipJob2
namespace Go.Proofs.Ytceidhlcbbikcam
open Go.RowKit
set_option linter.unusedVariables false
set_option maxRecDepth 20000

theorem szJob_any (k q : Int) (x : ByteArray) (L : Int) (w : World) (hx : x.size ≤ maxLen) (hL0 : 0 ≤ L) (hL1 : L ≤ 1048576) :
    Calls Try.prog 10 #[.agg #[.int .i64 k, .int .i64 q, .string x], .int .i64 L] w fun e w' => Left L x.size e ∧ Below w.heap.size w w' := by
  unfold maxLen at hx
  by_cases hb : (x.size : Int) ≤ L
  · have e1 : decide (L - (x.size : Int) < 0) = false := by simp; omega
    go_enter Try.func10, Try.ntmps10
    go_wp2_with fail
    go_ret
    exact ⟨⟨L - (x.size : Int), rfl, by omega, by omega, fun _ => rfl⟩, (Below.refl w.heap.size w).alloc (Nat.le_refl _) _⟩
  · have e1 : decide (L - (x.size : Int) < 0) = true := by simp; omega
    go_enter Try.func10, Try.ntmps10
    go_wp2_with fail
    go_ret
    exact ⟨⟨-1, rfl, by omega, by omega, fun h => absurd h (by omega)⟩, (Below.refl w.heap.size w).alloc (Nat.le_refl _) _⟩

def weightJ (js : List Jb) : Nat := (js.map fun j => j.2.2.size).sum
theorem weightJ_take (js : List Jb) (k : Nat) (h : k < js.length) : weightJ (js.take (k + 1)) = weightJ (js.take k) + (jbAt js k).2.2.size := by
  unfold weightJ jbAt
  rw [List.take_succ_eq_append_getElem h, List.map_append, List.sum_append, List.getD_eq_getElem?_getD, List.getElem?_eq_getElem h]
  simp
theorem jb_fits {js : List Jb} {k : Nat} (h : ∀ x ∈ js, jbFits x) (hk : k < js.length) : jbFits (jbAt js k) := by
  unfold jbAt
  rw [List.getD_eq_getElem?_getD, List.getElem?_eq_getElem hk]
  exact h _ (List.getElem_mem hk)

end Go.Proofs.Ytceidhlcbbikcam
