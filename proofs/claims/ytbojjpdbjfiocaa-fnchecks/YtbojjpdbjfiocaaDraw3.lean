/- The walks of the draws of the third chapter. -/
import Derived.Test.YtbojjpdbjfiocaaDrawBend
import Derived.Test.YtbojjpdbjfiocaaCheckSpec
import Derived.OwnWalk
namespace Go.Proofs.Ytbojjpdbjfiocaa
open Go.RowKit
set_option linter.unusedVariables false
set_option maxRecDepth 20000

set_option maxHeartbeats 800000 in
theorem drawCheck_any (a : Option Addr) (n cap : Nat) (l : List UInt8) (w : World) {lo hi : Nat} (hB : Bytes lo hi w a n l) (hn : n ≤ 4096) :
    Calls Try.prog 75 #[.slice a n cap] w fun e w' => ∃ s : ByteArray, e = .returned (.string s) ∧ s.size ≤ 9 ∧ Below w.heap.size w w' := by
  go_enter Try.func75, Try.ntmps75
  go_wp2_with fail
  refine (l1New_any a n cap l w hB hn).mono ?_
  rintro e w1 ⟨p, rfl, hp, c1, b1⟩
  go_wp2_with fail
  refine (drawText_any p 9 w1 c1 (by omega) (by omega)).mono ?_
  rintro e w2 ⟨s, rfl, hs, c2, s2⟩
  have b2 := b1.trans (s2.below hp b1.size)
  go_wp2_with fail
  go_ret
  exact ⟨_, rfl, by omega, b2⟩

set_option maxHeartbeats 800000 in
theorem drawChecked_any (a : Option Addr) (n cap : Nat) (l : List UInt8) (w : World) {lo hi : Nat} (hB : Bytes lo hi w a n l) (hn : n ≤ 4096) :
    Calls Try.prog 41 #[.slice a n cap] w fun e w' => ∃ s : ByteArray, e = .returned (.string s) ∧ s.size ≤ 9 ∧ Below w.heap.size w w' := by
  go_enter Try.func41, Try.ntmps41
  go_wp2_with fail
  refine (drawCheck_any a n cap l w hB hn).mono ?_
  rintro e w1 ⟨s, rfl, hs, b1⟩
  go_wp2_with fail
  go_ret
  exact ⟨_, rfl, hs, b1⟩

set_option maxHeartbeats 800000 in
theorem drawWhole_any (a : Option Addr) (n cap : Nat) (l : List UInt8) (w : World) {lo hi : Nat} (hB : Bytes lo hi w a n l) (hn : n ≤ 4096) :
    Calls Try.prog 43 #[.slice a n cap] w fun e w' => ∃ s : ByteArray, e = .returned (.string s) ∧ s.size ≤ 10 ∧ Below w.heap.size w w' := by
  go_enter Try.func43, Try.ntmps43
  go_wp2_with fail
  refine (l1New_any a n cap l w hB hn).mono ?_
  rintro e w1 ⟨p, rfl, hp, c1, b1⟩
  go_wp2_with fail
  refine (drawText_any p 6 w1 c1 (by omega) (by omega)).mono ?_
  rintro e w2 ⟨s, rfl, hs, c2, s2⟩
  have HB2 := hide (b1.trans (s2.below hp b1.size))
  have hs6 : s.size ≤ 6 := by omega
  clear b1 s2 hs
  go_wp2_with fail
  refine (specChecked_any s w2 (by omega)).mono ?_
  rintro e w3 ⟨rfl, b3⟩
  have HB3 := hide (HB2.out.trans (b3.mono HB2.out.size))
  have c3 := c2.below b3 c2.lt
  have hz := checked_size s
  obtain ⟨t, ht⟩ : ∃ t, t = checked s := ⟨_, rfl⟩
  rw [← ht] at hz ⊢
  have htz : t.size ≤ 8 := by omega
  clear b3 HB2 c2 hz ht
  go_wp2_with fail
  refine (l1Once_any p 2 w3 c3 (by omega)).mono ?_
  rintro e w4 ⟨b, rfl, c4, s4⟩
  have HB4 := hide (HB3.out.trans (s4.below hp HB3.out.size))
  clear HB3 s4 c3
  cases b
  · go_wp2_with fail
    go_ret
    exact ⟨_, rfl, by omega, HB4.out⟩
  · go_wp2_with fail
    refine (bend_any p t ⟨#[0, 255, 97, 98]⟩ w4 c4 (by omega) (by simp [ByteArray.size]) (by simp [ByteArray.size])).mono ?_
    rintro e w5 ⟨u, rfl, hu, c5, s5⟩
    have HB5 := hide (HB4.out.trans (s5.below hp HB4.out.size))
    clear HB4 s5 c4
    go_wp2_with fail
    go_ret
    exact ⟨_, rfl, by omega, HB5.out⟩

theorem seven_at : ∀ q, q < 7 → ∃ v : Int, (#[.int .i64 (-1), .int .i64 0, .int .i64 1, .int .i64 32768, .int .i64 65535, .int .i64 65536, .int .i64 4611686018427387904] : Array Value)[q]? = some (.int .i64 v) := by
  intro q h
  match q, h with
  | 0, _ | 1, _ | 2, _ | 3, _ | 4, _ | 5, _ | 6, _ => exact ⟨_, rfl⟩
set_option maxHeartbeats 1600000 in
theorem drawSmeared_any (a : Option Addr) (n cap : Nat) (l : List UInt8) (w : World) {lo hi : Nat} (hB : Bytes lo hi w a n l) (hn : n ≤ 4096) :
    Calls Try.prog 44 #[.slice a n cap] w fun e w' => ∃ (s : ByteArray) (x y : Int), e = .returned (.tuple #[.string s, .int .i64 x, .int .i64 y]) ∧ s.size ≤ 6 ∧ Below w.heap.size w w' := by
  go_enter Try.func44, Try.ntmps44
  go_wp2_with fail
  refine (l1New_any a n cap l w hB hn).mono ?_
  rintro e w1 ⟨p, rfl, hp, c1, b1⟩
  go_wp2_with fail
  refine (drawText_any p 6 w1 c1 (by omega) (by omega)).mono ?_
  rintro e w2 ⟨s, rfl, hs, c2, s2⟩
  have HB2 := hide (b1.trans (s2.below hp b1.size))
  have hs6 : s.size ≤ 6 := by omega
  clear b1 s2 hs c1
  go_wp2_with fail
  refine (l1From_any p (-1) 50 w2 c2 (by omega) (by omega) (by omega) (by omega)).mono ?_
  rintro e w3 ⟨x, rfl, x0, x1, c3, s3⟩
  have HB3 := hide (HB2.out.trans (s3.below hp HB2.out.size))
  clear s3 HB2 c2
  go_wp2_with fail
  refine (l1Byte_any p w3 c3).mono ?_
  rintro e w4 ⟨y, rfl, y0, y1, c4, s4⟩
  have HB4 := hide (HB3.out.trans (s4.below hp HB3.out.size))
  clear s4 HB3 c3
  go_wp2_with fail
  refine (l1Byte_any p w4 c4).mono ?_
  rintro e w5 ⟨z, rfl, z0, z1, c5, s5⟩
  have HB5 := hide (HB4.out.trans (s5.below hp HB4.out.size))
  clear s5 HB4 c4
  go_wp2_with fail
  refine (l1Once_any p 10 w5 c5 (by omega)).mono ?_
  rintro e w6 ⟨b, rfl, c6, s6⟩
  have HB6 := hide (HB5.out.trans (s6.below hp HB5.out.size))
  clear s6 HB5 c5
  cases b
  · go_wp2_with fail
    go_ret3
    exact ⟨_, _, _, rfl, hs6, HB6.out⟩
  · have hp6 := c6.lt
    go_wp2_with fail
    refine (l1Below_any p 7 _ (c6.alloc _) (by omega)).mono ?_
    rintro e w7 ⟨d, rfl, d0, d1, c7, s7⟩
    obtain ⟨q, rfl⟩ := Int.eq_ofNat_of_zero_le d0
    have hq : q < 7 := by omega
    obtain ⟨v, hcell⟩ : ∃ v : Int, w7.cell? ⟨w6.heap.size, q, none⟩ = some (.int .i64 v) := by
      obtain ⟨v, hv⟩ := seven_at q hq
      refine ⟨v, ?_⟩
      rw [World.cell?_of_block (a := ⟨w6.heap.size, q, none⟩) (s7.block w6.heap.size (by simp) (.inr (by omega))), World.cell?_alloc_new]
      exact hv
    have HB7 := hide ((HB6.out.alloc HB6.out.size (.cells #[.int .i64 (-1), .int .i64 0, .int .i64 1, .int .i64 32768, .int .i64 65535, .int .i64 65536, .int .i64 4611686018427387904] 2)).trans (s7.below hp (by simp; exact Nat.le_succ_of_le HB6.out.size)))
    clear s7 c7 c6 HB6 d0 d1
    go_wp2_with fail
    go_ret3
    exact ⟨_, _, _, rfl, hs6, HB7.out⟩
end Go.Proofs.Ytbojjpdbjfiocaa
