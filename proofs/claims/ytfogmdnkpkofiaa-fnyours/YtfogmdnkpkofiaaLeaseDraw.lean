/- The draws of chapter 16: whatever is drawn is some int64. -/
import Derived.Test.YtfogmdnkpkofiaaLeaseSpec
import Derived.Test.YtfogmdnkpkofiaaLawBase
namespace Go.Proofs.Ytfogmdnkpkofiaa
open Go.RowKit
set_option linter.unusedVariables false
set_option linter.unusedSimpArgs false
set_option maxRecDepth 20000

set_option maxHeartbeats 400000 in
theorem pick_far (a : Option Addr) (n cap : Nat) (l : List UInt8) (seed m : Int) (w : World) {lo hi : Nat} (hB : Bytes lo hi w a n l) (hn : n ≤ 4096) (h0 : 0 ≤ seed) (h1 : seed ≤ 65536) (m0 : 0 < m) (m1 : m ≤ 1000000000) :
    Calls Try.prog 19 #[.slice a n cap, .int .i64 seed, .int .i64 m] w fun e w' => ∃ x : Int, e = .returned (.int .i64 x) ∧ 0 ≤ x ∧ x < m ∧ w = w' := by
  obtain ⟨hl, hsz, hx⟩ := hB
  clear hl
  go_enter Try.func19, Try.ntmps19
  go_wp2
  go_loop [7, 8] (fun t i => ∃ (k : Nat) (h : Int), k ≤ n ∧ i = .int .i64 k ∧ t = .int .i64 h ∧ 0 ≤ h ∧ h ≤ 1000000000) (fun _ i => n - (intOf i).toNat)
  case atStart => exact ⟨0, _, Nat.zero_le _, rfl, rfl, by omega, by omega⟩
  case round =>
    obtain ⟨k, h, hk, rfl, rfl, hh0, hh1⟩ := hrel
    by_cases hlt : k < n
    · obtain ⟨b, off, rfl, _, hb, hc⟩ := hx (by omega)
      have hck : w.cell? ⟨b, off + k, none⟩ = some (.int .u8 ((l.getD k 0).toNat : Int)) := hc k hlt
      obtain ⟨v, hv⟩ : ∃ v, v = (l.getD k 0).toNat := ⟨_, rfl⟩
      have hv2 : v < 256 := by rw [hv]; exact UInt8.toNat_lt _
      rw [← hv] at hck
      clear hc hx hv
      go_wp2
      go_round
      case rel => exact ⟨k + 1, _, by omega, by go_num, rfl, by omega, by omega⟩
      case measure => simp [intOf]; omega
    · have hne : (m == 0) = false := by simp; omega
      go_wp2
      go_ret
      exact ⟨_, rfl, Int.emod_nonneg _ (by omega), Int.emod_lt_of_pos _ m0, rfl⟩
theorem least_in {r d : Int} (h : 0 ≤ leastI r d) : 0 ≤ leastI r d ∧ leastI r d ≤ 1209462790554 ∧ 0 ≤ r ∧ r ≤ 1099511627776 ∧ 0 ≤ d ∧ d ≤ 100000 := by
  cases hok : tmOk r && drOk d with
  | false => rw [leastI_no hok] at h; omega
  | true =>
    rw [leastI_at hok] at h ⊢
    simp only [Bool.and_eq_true] at hok
    obtain ⟨r0, r1⟩ := tmOk_in hok.1
    obtain ⟨d0, d1⟩ := drOk_in hok.2
    have hp := prod_small r0 r1 (c := 1000000 - d) (by omega) (by omega)
    refine ⟨h, ?_, r0, r1, d0, d1⟩
    omega
theorem six_at (k : Nat) (h : k < 6) : ∃ v : Int, (#[.int .i64 (-1), .int .i64 0, .int .i64 1, .int .i64 1099511627776, .int .i64 1099511627777, .int .i64 (-9223372036854775808)] : Array Value)[k]? = some (.int .i64 v) ∧ v ≤ 1099511627777 := by
  have : k = 0 ∨ k = 1 ∨ k = 2 ∨ k = 3 ∨ k = 4 ∨ k = 5 := by omega
  rcases this with rfl | rfl | rfl | rfl | rfl | rfl <;> exact ⟨_, rfl, by omega⟩
theorem four_at16 (k : Nat) (h : k < 4) : ∃ v : Int, (#[.int .i64 (-1), .int .i64 0, .int .i64 100000, .int .i64 100001] : Array Value)[k]? = some (.int .i64 v) ∧ v ≤ 1099511627777 := by
  have : k = 0 ∨ k = 1 ∨ k = 2 ∨ k = 3 := by omega
  rcases this with rfl | rfl | rfl | rfl <;> exact ⟨_, rfl, by omega⟩
set_option maxHeartbeats 800000 in
theorem l16DrawTime_any (p : Nat) (w : World) (hc : Cur w p) :
    Calls Try.prog 60 #[.pointer (some ⟨p, 0, none⟩)] w fun e w' => ∃ x : Int, e = .returned (.int .i64 x) ∧ x ≤ 1099511627777 ∧ Cur w' p ∧ Below p w w' := by
  go_enter Try.func60, Try.ntmps60
  go_wp2_with fail
  refine (l1Once_any p 8 w hc (by omega)).mono ?_
  rintro e w1 ⟨c, rfl, c1, s1⟩
  have hp1 := c1.lt
  have hp := hc.lt
  have HB1 := hide (s1.below (Nat.le_refl p) (Nat.le_of_lt hp))
  cases c
  · go_wp2_with fail
    refine (l1Below_any p 3000 w1 c1 (by omega)).mono ?_
    rintro e w2 ⟨x, rfl, x0, x1, c2, s2⟩
    have HB2 := hide (HB1.out.trans (s2.below (Nat.le_refl p) (Nat.le_of_lt hp1)))
    go_wp2_with fail
    go_ret
    exact ⟨_, rfl, by omega, c2, HB2.out⟩
  · have HC := hide c1
    clear c1 s1 hc
    go_wp2_with fail
    refine (l1Below_any p 6 _ (HC.out.alloc _) (by omega)).mono ?_
    rintro e w2 ⟨x, rfl, x0, x1, c2, s2⟩
    obtain ⟨k, rfl⟩ : ∃ k : Nat, x = (k : Int) := ⟨x.toNat, by omega⟩
    have hk : k < 6 := by omega
    obtain ⟨v, hv, hv1⟩ := six_at k hk
    have hcell : w2.cell? ⟨w1.heap.size, k, none⟩ = some (.int .i64 v) := by
      rw [World.cell?_of_block (a := ⟨w1.heap.size, k, none⟩) (s2.block w1.heap.size (by simp) (.inr hp1)), World.cell?_alloc_new]; exact hv
    have HB2 := hide (HB1.out.trans (((Below.refl p w1).alloc (Nat.le_of_lt hp1) _).trans (s2.below (Nat.le_refl p) (by simp; omega))))
    have HC2 := hide c2
    clear c2 s2 x0 x1 hv
    go_wp2_with fail
    go_ret
    exact ⟨v, rfl, hv1, HC2.out, HB2.out⟩
set_option maxHeartbeats 800000 in
theorem l16DrawDrift_any (p : Nat) (w : World) (hc : Cur w p) :
    Calls Try.prog 61 #[.pointer (some ⟨p, 0, none⟩)] w fun e w' => ∃ x : Int, e = .returned (.int .i64 x) ∧ x ≤ 1099511627777 ∧ Cur w' p ∧ Below p w w' := by
  go_enter Try.func61, Try.ntmps61
  go_wp2_with fail
  refine (l1Once_any p 8 w hc (by omega)).mono ?_
  rintro e w1 ⟨c, rfl, c1, s1⟩
  have hp1 := c1.lt
  have hp := hc.lt
  have HB1 := hide (s1.below (Nat.le_refl p) (Nat.le_of_lt hp))
  cases c
  · go_wp2_with fail
    refine (l1Below_any p 100000 w1 c1 (by omega)).mono ?_
    rintro e w2 ⟨x, rfl, x0, x1, c2, s2⟩
    have HB2 := hide (HB1.out.trans (s2.below (Nat.le_refl p) (Nat.le_of_lt hp1)))
    go_wp2_with fail
    go_ret
    exact ⟨_, rfl, by omega, c2, HB2.out⟩
  · have HC := hide c1
    clear c1 s1 hc
    go_wp2_with fail
    refine (l1Below_any p 4 _ (HC.out.alloc _) (by omega)).mono ?_
    rintro e w2 ⟨x, rfl, x0, x1, c2, s2⟩
    obtain ⟨k, rfl⟩ : ∃ k : Nat, x = (k : Int) := ⟨x.toNat, by omega⟩
    have hk : k < 4 := by omega
    obtain ⟨v, hv, hv1⟩ := four_at16 k hk
    have hcell : w2.cell? ⟨w1.heap.size, k, none⟩ = some (.int .i64 v) := by
      rw [World.cell?_of_block (a := ⟨w1.heap.size, k, none⟩) (s2.block w1.heap.size (by simp) (.inr hp1)), World.cell?_alloc_new]; exact hv
    have HB2 := hide (HB1.out.trans (((Below.refl p w1).alloc (Nat.le_of_lt hp1) _).trans (s2.below (Nat.le_refl p) (by simp; omega))))
    have HC2 := hide c2
    clear c2 s2 x0 x1 hv
    go_wp2_with fail
    go_ret
    exact ⟨v, rfl, hv1, HC2.out, HB2.out⟩
set_option maxHeartbeats 800000 in
theorem drawLeast_any (a : Option Addr) (n cap : Nat) (l : List UInt8) (w : World) {lo hi : Nat} (hB : Bytes lo hi w a n l) (hn : n ≤ 4096) :
    Calls Try.prog 38 #[.slice a n cap] w fun e w' => ∃ x y : Int, e = .returned (.tuple #[.int .i64 x, .int .i64 y]) ∧ Below w.heap.size w w' := by
  go_enter Try.func38, Try.ntmps38
  go_wp2_with fail
  refine (l1New_any a n cap l w hB hn).mono ?_
  rintro e w1 ⟨p, rfl, hp, c1, b1⟩
  have HB1 := hide b1
  go_wp2_with fail
  refine (l16DrawTime_any p w1 c1).mono ?_
  rintro e w2 ⟨x, rfl, x1, c2, b2⟩
  have HB2 := hide (HB1.out.trans (b2.mono hp))
  clear b1 b2
  go_wp2_with fail
  refine (l16DrawDrift_any p w2 c2).mono ?_
  rintro e w3 ⟨z, rfl, z1, c3, b3⟩
  have HB3 := hide (HB2.out.trans (b3.mono hp))
  clear b3
  go_wp2_with fail
  go_ret2
  exact ⟨x, z, rfl, HB3.out⟩
theorem results_tmp4 {fn : Func} {t u v x : Tmp} (h : fn.results = #[.tmp t, .tmp u, .tmp v, .tmp x]) (tmps : Array Value) (P : Program) (w : World) :
    (results fn tmps).run P w = .ok (.tuple #[tmps.getD t undef, tmps.getD u undef, tmps.getD v undef, tmps.getD x undef]) w := by
  simp [results, h]
theorem drawYours_any (a : Option Addr) (n cap : Nat) (l : List UInt8) (w : World) {lo hi : Nat} (hB : Bytes lo hi w a n l) (hn : n ≤ 4096) :
    Calls Try.prog 16 #[.slice a n cap] w fun e w' => ∃ x y : Int, e = .returned (.tuple #[.int .i64 x, .int .i64 y]) ∧ Below w.heap.size w w' := by
  go_enter Try.func16, Try.ntmps16
  go_wp2_with fail
  refine (drawLeast_any a n cap l w hB hn).mono ?_
  rintro e w1 ⟨x, y, rfl, b1⟩
  go_wp2_with fail
  go_ret2
  exact ⟨x, y, rfl, b1⟩
end Go.Proofs.Ytfogmdnkpkofiaa
