/- The walks of the draws of the second chapter: whatever is drawn is some int64. -/
import Derived.Test.YtigfhhififcllaaLawBase
import Derived.Deep.DeepCutAuto
import Derived.Deep.RegionWith
namespace Go.Proofs.Ytigfhhififcllaa
open Go.RowKit
set_option linter.unusedVariables false

theorem seven_at (k : Nat) (h : k < 7) : ∃ v : Int, (#[.int .i64 (-1), .int .i64 0, .int .i64 1, .int .i64 255, .int .i64 256, .int .i64 (-9223372036854775808), .int .i64 4611686018427387904] : Array Value)[k]? = some (.int .i64 v) ∧ v < 9223372036854775808 := by
  have : k = 0 ∨ k = 1 ∨ k = 2 ∨ k = 3 ∨ k = 4 ∨ k = 5 ∨ k = 6 := by omega
  rcases this with rfl | rfl | rfl | rfl | rfl | rfl | rfl <;> exact ⟨_, rfl, by omega⟩
theorem nine_at (k : Nat) (h : k < 9) : ∃ v : Int, (#[.int .i64 (-1), .int .i64 0, .int .i64 1, .int .i64 2, .int .i64 5, .int .i64 254, .int .i64 255, .int .i64 256, .int .i64 4611686018427387904] : Array Value)[k]? = some (.int .i64 v) ∧ v < 9223372036854775808 := by
  have : k = 0 ∨ k = 1 ∨ k = 2 ∨ k = 3 ∨ k = 4 ∨ k = 5 ∨ k = 6 ∨ k = 7 ∨ k = 8 := by omega
  rcases this with rfl | rfl | rfl | rfl | rfl | rfl | rfl | rfl | rfl <;> exact ⟨_, rfl, by omega⟩

set_option maxRecDepth 20000 in
set_option maxHeartbeats 800000 in
theorem l2Draw_any (p : Nat) (w : World) (hc : Cur w p) :
    Calls Try.prog 56 #[.pointer (some ⟨p, 0, none⟩)] w fun e w' => ∃ x : Int, e = .returned (.int .i64 x) ∧ x < 9223372036854775808 ∧ Cur w' p ∧ Below p w w' := by
  go_enter Try.func56, Try.ntmps56
  go_wp2_with fail
  refine (l1Once_any p 8 w hc (by omega)).mono ?_
  rintro e w1 ⟨c, rfl, c1, s1⟩
  have hp1 := c1.lt
  have hp := hc.lt
  have HB1 := hide (s1.below (Nat.le_refl p) (Nat.le_of_lt hp))
  cases c
  · go_wp2_with fail
    refine (l1Byte_any p w1 c1).mono ?_
    rintro e w2 ⟨x, rfl, x0, x1, c2, s2⟩
    have HB2 := hide (HB1.out.trans (s2.below (Nat.le_refl p) (Nat.le_of_lt hp1)))
    go_wp2_with fail
    go_ret
    exact ⟨_, rfl, by omega, c2, HB2.out⟩
  · have HC := hide c1
    clear c1 s1 hc
    go_wp2_with fail
    refine (l1Below_any p 7 _ (HC.out.alloc _) (by omega)).mono ?_
    rintro e w2 ⟨x, rfl, x0, x1, c2, s2⟩
    obtain ⟨k, rfl⟩ : ∃ k : Nat, x = (k : Int) := ⟨x.toNat, by omega⟩
    have hk : k < 7 := by omega
    obtain ⟨v, hv, hv1⟩ := seven_at k hk
    have hcell : w2.cell? ⟨w1.heap.size, k, none⟩ = some (.int .i64 v) := by
      rw [World.cell?_of_block (a := ⟨w1.heap.size, k, none⟩) (s2.block w1.heap.size (by simp) (.inr hp1)), World.cell?_alloc_new]; exact hv
    have HB2 := hide (HB1.out.trans (((Below.refl p w1).alloc (Nat.le_of_lt hp1) _).trans (s2.below (Nat.le_refl p) (by simp; omega))))
    have HC2 := hide c2
    clear c2 s2 x0 x1 hv
    go_wp2_with fail
    go_ret
    exact ⟨v, rfl, hv1, HC2.out, HB2.out⟩
set_option maxRecDepth 20000 in
set_option maxHeartbeats 800000 in
theorem drawSum_any (a : Option Addr) (n cap : Nat) (l : List UInt8) (w : World) {lo hi : Nat} (hB : Bytes lo hi w a n l) (hn : n ≤ 4096) :
    Calls Try.prog 55 #[.slice a n cap] w fun e w' => ∃ x y : Int, e = .returned (.tuple #[.int .i64 x, .int .i64 y]) ∧ Below w.heap.size w w' := by
  go_enter Try.func55, Try.ntmps55
  go_wp2_with fail
  refine (l1New_any a n cap l w hB hn).mono ?_
  rintro e w1 ⟨p, rfl, hp, c1, b1⟩
  have HB1 := hide b1
  go_wp2_with fail
  refine (l2Draw_any p w1 c1).mono ?_
  rintro e w2 ⟨x, rfl, _, c2, b2⟩
  have HB2 := hide (HB1.out.trans (b2.mono hp))
  clear b1 b2
  go_wp2_with fail
  refine (l2Draw_any p w2 c2).mono ?_
  rintro e w3 ⟨y, rfl, _, c3, b3⟩
  have HB3 := hide (HB2.out.trans (b3.mono hp))
  clear b3
  go_wp2_with fail
  go_ret2
  exact ⟨x, y, rfl, HB3.out⟩
theorem drawProduct_any (a : Option Addr) (n cap : Nat) (l : List UInt8) (w : World) {lo hi : Nat} (hB : Bytes lo hi w a n l) (hn : n ≤ 4096) :
    Calls Try.prog 28 #[.slice a n cap] w fun e w' => ∃ x y : Int, e = .returned (.tuple #[.int .i64 x, .int .i64 y]) ∧ Below w.heap.size w w' := by
  go_enter Try.func28, Try.ntmps28
  go_wp2_with fail
  refine (drawSum_any a n cap l w hB hn).mono ?_
  rintro e w1 ⟨x, y, rfl, b1⟩
  go_wp2_with fail
  go_ret2
  exact ⟨x, y, rfl, b1⟩
set_option maxRecDepth 20000 in
set_option maxHeartbeats 800000 in
theorem drawPower_any (a : Option Addr) (n cap : Nat) (l : List UInt8) (w : World) {lo hi : Nat} (hB : Bytes lo hi w a n l) (hn : n ≤ 4096) :
    Calls Try.prog 29 #[.slice a n cap] w fun e w' => ∃ x y : Int, e = .returned (.tuple #[.int .i64 x, .int .i64 y]) ∧ y < 9223372036854775808 ∧ Below w.heap.size w w' := by
  go_enter Try.func29, Try.ntmps29
  go_wp2_with fail
  refine (l1New_any a n cap l w hB hn).mono ?_
  rintro e w1 ⟨p, rfl, hp, c1, b1⟩
  have HB1 := hide b1
  go_wp2_with fail
  refine (l2Draw_any p w1 c1).mono ?_
  rintro e w2 ⟨x, rfl, _, c2, b2⟩
  have HB2 := hide (HB1.out.trans (b2.mono hp))
  clear b1 b2
  have HC := hide c2
  have hp2 := c2.lt
  clear c2 c1
  go_wp2_with fail
  have hnine := nine_at
  have cont : ∀ (W : World), Cur W p → Calls Try.prog 42 #[.pointer (some ⟨p, 0, none⟩), .int .i64 9] W fun e w' => ∃ k : Nat, e = .returned (.int .i64 (k : Int)) ∧ k < 9 ∧ Cur w' p ∧ Aside p (p + 1) W w' := by
    intro W h
    refine (l1Below_any p 9 W h (by omega)).mono ?_
    rintro e w' ⟨x, rfl, x0, x1, c, s⟩
    exact ⟨x.toNat, by rw [Int.toNat_of_nonneg x0], by omega, c, s⟩
  clear hnine
  go_region_with (go_at_call 42; first | (refine (cont _ (by exact HC.out.alloc _)).mono ?_; rintro e w3 ⟨k, rfl, hk, c3, s3⟩; obtain ⟨v, hv, hv1⟩ := nine_at k hk; have hcell : w3.cell? ⟨w2.heap.size, k, none⟩ = some (.int .i64 v) := (by rw [World.cell?_of_block (a := ⟨w2.heap.size, k, none⟩) (s3.block w2.heap.size (by simp) (.inr hp2)), World.cell?_drew, World.cell?_alloc_new]; exact hv); clear hv) | (refine (cont _ (by exact HC.out)).mono ?_; rintro e w3 ⟨k, rfl, hk, c3, s3⟩; obtain ⟨v, hv, hv1⟩ := nine_at k hk))
  · have HB3 := hide (((Below.refl p w2).alloc (Nat.le_of_lt hp2) (.cells #[.int .i64 (-1), .int .i64 0, .int .i64 1, .int .i64 2, .int .i64 5, .int .i64 254, .int .i64 255, .int .i64 256, .int .i64 4611686018427387904] 2)).drew.trans (s3.below (Nat.le_refl p) (by simp; omega)))
    clear s3 c3 hcell
    go_wp2_with fail
    go_ret2
    exact ⟨x, v, rfl, hv1, HB2.out.trans (HB3.out.mono hp)⟩
  · have HV : Hid (([.int .i64 (-1), .int .i64 0, .int .i64 1, .int .i64 2, .int .i64 5, .int .i64 254, .int .i64 255, .int .i64 256, .int .i64 4611686018427387904] : List Value)[k] = .int .i64 v) := by
      show _ = _
      rw [List.getElem_eq_iff]
      simpa using hv
    have HB3 := hide ((Below.refl p w2).drew.trans (s3.below (Nat.le_refl p) (Nat.le_of_lt hp2)))
    have HL := hide c3.lt
    have HV1 := hide hv1
    clear s3 c3 hv hv1
    rw [HV.out]
    go_wp2_with fail
    go_ret2
    exact ⟨x, v, rfl, HV1.out, (HB2.out.trans (HB3.out.mono hp)).alloc (by have := (HB2.out.trans (HB3.out.mono hp)).size; exact this) _⟩
end Go.Proofs.Ytigfhhififcllaa
