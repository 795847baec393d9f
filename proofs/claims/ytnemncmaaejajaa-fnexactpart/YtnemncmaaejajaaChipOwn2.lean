/- Squares copied into new memory. -/
import Derived.Test.YtnemncmaaejajaaChipOwn
import Derived.Test.YtnemncmaaejajaaCopyBase
namespace Go.Proofs.Ytnemncmaaejajaa
open Go.RowKit
set_option linter.unusedVariables false
set_option maxRecDepth 20000

/-! ### Squares in new memory -/
theorem make3 {P : Program} (t e : TypeId) (z0 z1 z2 : Value) (bytes : Nat) (ht : P.underlying t = some (.slice e)) (hinfo : (P.info? e).map (fun i => (i.zero, i.size, i.bytes)) = some (some (.agg #[z0, z1, z2]), 3, bytes))
    (n : Nat) (hb : bytes * n ≤ 281474976710656) (h63 : n ≤ 9223372036854775807) (w : World) :
    (Instr.makeSlice t (.int .i64 (n : Int)) (.int .i64 (n : Int))).run P w = .ok (.slice (some ⟨w.heap.size, 0, none⟩) n n) (w.alloc (.cells (madeCells #[z0, z1, z2] (n * 3)) e)) := by
  obtain ⟨i, hi, hzz⟩ := Option.map_eq_some_iff.1 hinfo
  simp only [Prod.mk.injEq] at hzz
  obtain ⟨hz, hs, hb'⟩ := hzz
  have h := run_make (P := P) w t e i (.agg #[z0, z1, z2]) ht hi hz .i64 .i64 (n : Int) (n : Int) (by omega) (by omega) (by rw [hb', ← Int.natCast_mul]; generalize bytes * n = q at hb ⊢; omega) (by omega)
  rw [h, hs]
  rfl
def zero3 (j : Nat) : Value := if j % 3 = 0 then .slice none 0 0 else if j % 3 = 1 then .int .i64 0 else .bool false
theorem made3 (w : World) (n : Nat) (e : TypeId) : Owned w.heap.size (w.heap.size + 1) (w.alloc (.cells (madeCells #[.slice none 0 0, .int .i64 0, .bool false] (n * 3)) e)) (some ⟨w.heap.size, 0, none⟩) (3 * n) zero3 := by
  refine ⟨by simp, fun _ => ⟨w.heap.size, 0, rfl, Nat.le_refl _, Nat.lt_succ_self _, fun j hj => ⟨?_, ?_⟩⟩⟩
  · rw [World.cell?_alloc_new, Nat.zero_add]
    have hj' : j < n * 3 := by omega
    have h3 : j % 3 = 0 ∨ j % 3 = 1 ∨ j % 3 = 2 := by omega
    rcases h3 with h | h | h <;> simp [madeCells, hj', zero3, h]
  · exact four_frozen (heap_new w _) _
theorem len_weight {qs : List Sq} {k : Nat} (h : k < qs.length) : (sqAt qs k).1.length ≤ weight qs := by
  have h1 := weight_take qs k h
  have h2 : weight (qs.take (k + 1)) ≤ weight qs := by
    unfold weight
    conv => rhs; rw [← List.take_append_drop (k + 1) qs, List.map_append, List.sum_append]
    omega
  omega

theorem row3_step (A : Nat → Option Addr) (C : Nat → Nat) (qs : List Sq) (k : Nat) (p : Option Addr) (j : Nat) :
    (if j = k * 3 + 2 then Value.bool (sqAt qs k).2.2 else if j = k * 3 + 1 then .int .i64 (sqAt qs k).2.1 else if j = k * 3 then .slice p (sqAt qs k).1.length (C k) else if j < 3 * k then cellQ A C qs j else zero3 j) = (if j < 3 * (k + 1) then cellQ (fun i => if i = k then p else A i) C qs j else zero3 j) := by
  by_cases e2 : j = k * 3 + 2
  · rw [if_pos e2, if_pos (by omega), e2, show k * 3 + 2 = 3 * k + 2 by omega, cellQ2]
  · rw [if_neg e2]
    by_cases e1 : j = k * 3 + 1
    · rw [if_pos e1, if_pos (by omega), e1, show k * 3 + 1 = 3 * k + 1 by omega, cellQ1]
    · rw [if_neg e1]
      by_cases e0 : j = k * 3
      · rw [if_pos e0, if_pos (by omega), e0, show k * 3 = 3 * k by omega, cellQ0]; simp
      · rw [if_neg e0]
        by_cases h : j < 3 * k
        · rw [if_pos h, if_pos (by omega)]
          unfold cellQ
          dsimp only
          rw [if_neg (show ¬ j / 3 = k by omega)]
        · rw [if_neg h, if_neg (by omega)]

end Go.Proofs.Ytnemncmaaejajaa
