/- The walks of the draws of the second chapter: whatever is drawn is some int64. -/
import Derived.Test.YtacjaoeghjkhoabLawBase
import Derived.Deep.DeepCutAuto
import Derived.Deep.RegionWith
namespace Go.Proofs.Ytacjaoeghjkhoab
open Go.RowKit
set_option linter.unusedVariables false
set_option maxRecDepth 20000

theorem seven_at (k : Nat) (h : k < 7) : ∃ v : Int, (#[.int .i64 (-1), .int .i64 0, .int .i64 1, .int .i64 255, .int .i64 256, .int .i64 (-9223372036854775808), .int .i64 4611686018427387904] : Array Value)[k]? = some (.int .i64 v) ∧ v < 9223372036854775808 := by
  have : k = 0 ∨ k = 1 ∨ k = 2 ∨ k = 3 ∨ k = 4 ∨ k = 5 ∨ k = 6 := by omega
  rcases this with rfl | rfl | rfl | rfl | rfl | rfl | rfl <;> exact ⟨_, rfl, by omega⟩
theorem nine_at (k : Nat) (h : k < 9) : ∃ v : Int, (#[.int .i64 (-1), .int .i64 0, .int .i64 1, .int .i64 2, .int .i64 5, .int .i64 254, .int .i64 255, .int .i64 256, .int .i64 4611686018427387904] : Array Value)[k]? = some (.int .i64 v) ∧ v < 9223372036854775808 := by
  have : k = 0 ∨ k = 1 ∨ k = 2 ∨ k = 3 ∨ k = 4 ∨ k = 5 ∨ k = 6 ∨ k = 7 ∨ k = 8 := by omega
  rcases this with rfl | rfl | rfl | rfl | rfl | rfl | rfl | rfl | rfl <;> exact ⟨_, rfl, by omega⟩

set_option maxRecDepth 20000 in
set_option maxHeartbeats 800000 in
theorem l2Draw_any (p : Nat) (w : World) (hc : Cur w p) :
    Calls Try.prog 64 #[.pointer (some ⟨p, 0, none⟩)] w fun e w' => ∃ x : Int, e = .returned (.int .i64 x) ∧ x < 9223372036854775808 ∧ Cur w' p ∧ Below p w w' := by
  go_enter Try.func64, Try.ntmps64
  go_wp2_with fail
  refine (l1Once_any p 8 w hc (by omega)).mono ?_
  rintro e w1 ⟨c, rfl, c1, s1⟩
  have hp1 := c1.lt
  have hp := hc.lt
  have HB1 := hide (s1.below (Nat.le_refl p) (Nat.le_of_lt hp))
  cases c
  · go_wp2_with fail
    refine (l1Byte_any p w1 c1).mono ?_
    rintro e w2 ⟨x, rfl, x0, x1, c2, s2⟩
    have HB2 := hide (HB1.out.trans (s2.below (Nat.le_refl p) (Nat.le_of_lt hp1)))
    go_wp2_with fail
    go_ret
    exact ⟨_, rfl, by omega, c2, HB2.out⟩
  · have HC := hide c1
    clear c1 s1 hc
    go_wp2_with fail
    refine (l1Below_any p 7 _ (HC.out.alloc _) (by omega)).mono ?_
    rintro e w2 ⟨x, rfl, x0, x1, c2, s2⟩
    obtain ⟨k, rfl⟩ : ∃ k : Nat, x = (k : Int) := ⟨x.toNat, by omega⟩
    have hk : k < 7 := by omega
    obtain ⟨v, hv, hv1⟩ := seven_at k hk
    have hcell : w2.cell? ⟨w1.heap.size, k, none⟩ = some (.int .i64 v) := by
      rw [World.cell?_of_block (a := ⟨w1.heap.size, k, none⟩) (s2.block w1.heap.size (by simp) (.inr hp1)), World.cell?_alloc_new]; exact hv
    have HB2 := hide (HB1.out.trans (((Below.refl p w1).alloc (Nat.le_of_lt hp1) _).trans (s2.below (Nat.le_refl p) (by simp; omega))))
    have HC2 := hide c2
    clear c2 s2 x0 x1 hv
    go_wp2_with fail
    go_ret
    exact ⟨v, rfl, hv1, HC2.out, HB2.out⟩
end Go.Proofs.Ytacjaoeghjkhoab
