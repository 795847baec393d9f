/- The walks of the draws of the fourth chapter. -/
import Derived.Test.YtldcgjilafibkaaDoorHamSpec3
import Derived.Test.YtldcgjilafibkaaDoorDraw2
import Derived.Test.YtldcgjilafibkaaDoorCopyBase
import Derived.Deep.RegionWith
namespace Go.Proofs.YtldcgjilafibkaaDoor
open Go.RowKit
set_option linter.unusedVariables false
set_option maxRecDepth 20000

set_option maxHeartbeats 400000 in
theorem drawSpread_any (a : Option Addr) (n cap : Nat) (l : List UInt8) (w : World) {lo hi : Nat} (hB : Bytes lo hi w a n l) (hn : n ≤ 4096) :
    Calls Tryd.prog 5 #[.slice a n cap] w fun e w' => ∃ x : Int, e = .returned (.int .i64 x) ∧ Below w.heap.size w w' := by
  go_enter Tryd.func5, Tryd.ntmps5
  go_wp2_with fail
  refine (l1New_any a n cap l w hB hn).mono ?_
  rintro e w1 ⟨p, rfl, hp, c1, b1⟩
  go_wp2_with fail
  refine (l2Draw_any p w1 c1).mono ?_
  rintro e w2 ⟨x, rfl, _, c2, b2⟩
  have HB2 := hide (b1.trans (b2.mono hp))
  go_wp2_with fail
  go_ret
  exact ⟨_, rfl, HB2.out⟩

theorem five_at : ∀ q, q < 5 → ∃ v : Int, (#[.int .i64 (-1), .int .i64 0, .int .i64 8191, .int .i64 8192, .int .i64 4611686018427387904] : Array Value)[q]? = some (.int .i64 v) := by
  intro q h
  match q, h with
  | 0, _ | 1, _ | 2, _ | 3, _ | 4, _ => exact ⟨_, rfl⟩
set_option maxHeartbeats 1600000 in
theorem drawWord_any (p : Nat) (w : World) (hc : Cur w p) :
    Calls Tryd.prog 32 #[.pointer (some ⟨p, 0, none⟩)] w fun e w' => ∃ x : Int, e = .returned (.int .i64 x) ∧ Cur w' p ∧ Aside p (p + 1) w w' := by
  go_enter Tryd.func32, Tryd.ntmps32
  go_wp2_with fail
  refine (l1Byte_any p w hc).mono ?_
  rintro e w1 ⟨z, rfl, z0, z1, c1, s1⟩
  obtain ⟨b, rfl⟩ := Int.eq_ofNat_of_zero_le z0
  have HA1 := hide s1
  clear s1 hc
  go_wp2_with fail
  refine (l4Spread_any b w1 (by omega)).mono ?_
  rintro e w2 ⟨rfl, b2⟩
  have HA2 := hide (HA1.out.trans (aside_of_below b2))
  have c2 := c1.below b2 c1.lt
  clear b2 HA1 c1
  go_wp2_with fail
  refine (l1Below_any p 4 w2 c2 (by omega)).mono ?_
  rintro e w3 ⟨k, rfl, k0, k1, c3, s3⟩
  have HA3 := hide (HA2.out.trans s3)
  clear s3 HA2 c2
  go_wp2_with fail
  go_loopw [3, 4] (fun v i wr => ∃ (x k : Int), v = .int .i64 x ∧ i = .int .i64 k ∧ 0 ≤ k ∧ k ≤ 4 ∧ Cur wr p ∧ Aside p (p + 1) w wr) (fun _ i _ => (intOf i).toNat)
  case atStart => exact ⟨_, k, rfl, rfl, k0, by omega, c3, HA3.out⟩
  case round =>
    obtain ⟨x, k, rfl, rfl, k0, k4, hcr, hA⟩ := hrel
    have HA := hide hA
    clear hA HA3
    by_cases hlt : 0 < k
    · go_wp2_with fail
      refine (l1Below_any p 13 wr hcr (by omega)).mono ?_
      rintro e w4 ⟨y, rfl, y0, y1, c4, s4⟩
      obtain ⟨q, rfl⟩ := Int.eq_ofNat_of_zero_le y0
      have hq : q < 13 := by omega
      have HA4 := hide (HA.out.trans s4)
      clear s4 HA hcr y0 y1
      go_wp2_with fail
      go_roundw
      case rel => exact ⟨_, k - 1, rfl, by go_num, by omega, by omega, c4, HA4.out⟩
      case measure => simp [intOf]; omega
    · go_wp2_with fail
      refine (l1Once_any p 12 wr hcr (by omega)).mono ?_
      rintro e w4 ⟨b, rfl, c4, s4⟩
      have HA4 := hide (HA.out.trans s4)
      clear s4 HA hcr
      cases b
      · go_wp2_with fail
        go_ret
        exact ⟨_, rfl, c4, HA4.out⟩
      · have hp4 := c4.lt
        go_wp2_with fail
        refine (l1Below_any p 5 _ (c4.alloc _) (by omega)).mono ?_
        rintro e w5 ⟨d, rfl, d0, d1, c5, s5⟩
        obtain ⟨q, rfl⟩ := Int.eq_ofNat_of_zero_le d0
        have hq : q < 5 := by omega
        obtain ⟨v, hcell⟩ : ∃ v : Int, w5.cell? ⟨w4.heap.size, q, none⟩ = some (.int .i64 v) := by
          obtain ⟨v, hv⟩ := five_at q hq
          refine ⟨v, ?_⟩
          rw [World.cell?_of_block (a := ⟨w4.heap.size, q, none⟩) (s5.block w4.heap.size (by simp) (.inr (by omega))), World.cell?_alloc_new]
          exact hv
        have HA5 := hide ((HA4.out.alloc (.cells #[.int .i64 (-1), .int .i64 0, .int .i64 8191, .int .i64 8192, .int .i64 4611686018427387904] 2)).trans s5)
        clear s5 HA4 c4 d0 d1
        go_wp2_with fail
        go_ret
        exact ⟨_, rfl, c5, HA5.out⟩

set_option maxHeartbeats 400000 in
theorem drawOdd_any (a : Option Addr) (n cap : Nat) (l : List UInt8) (w : World) {lo hi : Nat} (hB : Bytes lo hi w a n l) (hn : n ≤ 4096) :
    Calls Tryd.prog 18 #[.slice a n cap] w fun e w' => ∃ x : Int, e = .returned (.int .i64 x) ∧ Below w.heap.size w w' := by
  go_enter Tryd.func18, Tryd.ntmps18
  go_wp2_with fail
  refine (l1New_any a n cap l w hB hn).mono ?_
  rintro e w1 ⟨p, rfl, hp, c1, b1⟩
  go_wp2_with fail
  refine (drawWord_any p w1 c1).mono ?_
  rintro e w2 ⟨x, rfl, c2, s2⟩
  have HB2 := hide (b1.trans (s2.below hp b1.size))
  go_wp2_with fail
  go_ret
  exact ⟨_, rfl, HB2.out⟩
set_option maxHeartbeats 400000 in
theorem drawHealed_any (a : Option Addr) (n cap : Nat) (l : List UInt8) (w : World) {lo hi : Nat} (hB : Bytes lo hi w a n l) (hn : n ≤ 4096) :
    Calls Tryd.prog 7 #[.slice a n cap] w fun e w' => ∃ x : Int, e = .returned (.int .i64 x) ∧ Below w.heap.size w w' := by
  go_enter Tryd.func7, Tryd.ntmps7
  go_wp2_with fail
  refine (drawOdd_any a n cap l w hB hn).mono ?_
  rintro e w1 ⟨x, rfl, b1⟩
  go_wp2_with fail
  go_ret
  exact ⟨_, rfl, b1⟩

theorem keeps_cell {w w' : World} {p g q : Nat} {v : Value} (h : w.cell? ⟨g, q, none⟩ = some v) (hs : Aside p (p + 1) w w') (hg : p + 1 ≤ g) : w'.cell? ⟨g, q, none⟩ = some v :=
  (World.cell?_of_block (a := ⟨g, q, none⟩) (hs.block g (World.block_lt_of_cell? _ _ h) (.inr hg))).trans h
theorem keeps_free {w w' : World} {p g q : Nat} {v : Value} {b : Bool} (h : w.cell? ⟨g, q, none⟩ = some v) (hf : w.frozen? ⟨g, q, none⟩ = b) (hs : Aside p (p + 1) w w') (hg : p + 1 ≤ g) : w'.frozen? ⟨g, q, none⟩ = b :=
  (World.frozen?_of_block (a := ⟨g, q, none⟩) (hs.block g (World.block_lt_of_cell? _ _ h) (.inr hg))).trans hf
theorem xor_u8 (a b : Int) : ∃ u : UInt8, bits .xor .u8 a b = (u.toNat : Int) := by
  have h : ∀ N : Nat, ∃ u : UInt8, IntKind.u8.wrap (N : Int) = (u.toNat : Int) := fun N => by
    apply byte_of
    · simp [IntKind.wrap, IntKind.bits, IntKind.signed]; omega
    · simp [IntKind.wrap, IntKind.bits, IntKind.signed]; omega
  exact h _
end Go.Proofs.YtldcgjilafibkaaDoor
