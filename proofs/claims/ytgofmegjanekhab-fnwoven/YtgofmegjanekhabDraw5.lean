/- The draws of chapter 5: texts and depths. -/
import Derived.Test.YtgofmegjanekhabDrawText
import Derived.Test.YtgofmegjanekhabCopyBase
import Derived.Deep.RegionWith
namespace Go.Proofs.Ytgofmegjanekhab
open Go.RowKit
set_option linter.unusedVariables false
set_option maxRecDepth 20000

theorem results_tmp4 {fn : Func} {t u v x : Tmp} (h : fn.results = #[.tmp t, .tmp u, .tmp v, .tmp x]) (tmps : Array Value) (P : Program) (w : World) :
    (results fn tmps).run P w = .ok (.tuple #[tmps.getD t undef, tmps.getD u undef, tmps.getD v undef, tmps.getD x undef]) w := by
  simp [results, h]
theorem depth_at : ∀ k, k < 8 → ∃ v : Int, (#[.int .i64 0, .int .i64 1, .int .i64 2, .int .i64 3, .int .i64 5, .int .i64 16, .int .i64 17, .int .i64 (-9223372036854775808)] : Array Value)[k]? = some (.int .i64 v) ∧ -9223372036854775808 ≤ v ∧ v ≤ 17 := by
  intro k hk
  match k, hk with
  | 0, _ => exact ⟨0, rfl, by omega, by omega⟩
  | 1, _ => exact ⟨1, rfl, by omega, by omega⟩
  | 2, _ => exact ⟨2, rfl, by omega, by omega⟩
  | 3, _ => exact ⟨3, rfl, by omega, by omega⟩
  | 4, _ => exact ⟨5, rfl, by omega, by omega⟩
  | 5, _ => exact ⟨16, rfl, by omega, by omega⟩
  | 6, _ => exact ⟨17, rfl, by omega, by omega⟩
  | 7, _ => exact ⟨-9223372036854775808, rfl, by omega, by omega⟩

set_option maxHeartbeats 1600000 in
theorem drawWoven_any (a : Option Addr) (n cap : Nat) (l : List UInt8) (w : World) {lo hi : Nat} (hB : Bytes lo hi w a n l) (hn : n ≤ 4096) :
    Calls Try.prog 5 #[.slice a n cap] w fun e w' => ∃ (s : ByteArray) (d : Int), e = .returned (.tuple #[.string s, .int .i64 d]) ∧ s.size ≤ 601 ∧ -9223372036854775808 ≤ d ∧ d ≤ 17 ∧ Below w.heap.size w w' := by
  have tail : ∀ (p : Nat) (W : World), Cur W p → Calls Try.prog 17 #[.pointer (some ⟨p, 0, none⟩), .int .i64 8] W fun e w' => ∃ k : Nat, e = .returned (.int .i64 (k : Int)) ∧ k < 8 ∧ Cur w' p ∧ Aside p (p + 1) W w' := by
    intro p W h
    refine (l1Below_any p 8 W h (by omega)).mono ?_
    rintro e w' ⟨x, rfl, x0, x1, c, s⟩
    exact ⟨x.toNat, by rw [Int.toNat_of_nonneg x0], by omega, c, s⟩
  have HTL := hide tail
  clear tail
  go_enter Try.func5, Try.ntmps5
  go_wp2_with fail
  refine (l1New_any a n cap l w hB hn).mono ?_
  rintro e w1 ⟨p, rfl, hp, c1, b1⟩
  have HB1 := hide b1
  clear b1
  go_wp2_with fail
  refine (drawText_any p 20 w1 c1 (by omega) (by omega)).mono ?_
  rintro e w2 ⟨s, rfl, hs, c2, s2⟩
  have HB2 := hide (HB1.out.trans (s2.below hp HB1.out.size))
  clear s2 HB1 c1
  go_wp2_with fail
  refine (l1Once_any p 20 w2 c2 (by omega)).mono ?_
  rintro e w3 ⟨b, rfl, c3, s3⟩
  have HB3 := hide (HB2.out.trans (s3.below hp HB2.out.size))
  have HC3 := hide c3
  have hp3 := c3.lt
  clear s3 HB2 c2 c3
  cases b
  · go_wp2_with fail
    go_region_with (go_at_call 17; first | (refine (HTL.out p _ (by exact HC3.out.alloc _)).mono ?_; rintro e w9 ⟨k, rfl, hk, c9, s9⟩; obtain ⟨v, hv, hv1, hv2⟩ := depth_at k hk; have hcell : w9.cell? ⟨w3.heap.size, k, none⟩ = some (.int .i64 v) := (by rw [World.cell?_of_block (a := ⟨w3.heap.size, k, none⟩) (s9.block w3.heap.size (by simp) (.inr hp3)), World.cell?_drew, World.cell?_alloc_new]; exact hv); clear hv) | (refine (HTL.out p _ (by exact HC3.out)).mono ?_; rintro e w9 ⟨k, rfl, hk, c9, s9⟩; obtain ⟨v, hv, hv1, hv2⟩ := depth_at k hk))
    · have HB9 := hide (((Below.refl p w3).alloc (Nat.le_of_lt hp3) (.cells #[.int .i64 0, .int .i64 1, .int .i64 2, .int .i64 3, .int .i64 5, .int .i64 16, .int .i64 17, .int .i64 (-9223372036854775808)] 2)).drew.trans (s9.below (Nat.le_refl p) (by simp; omega)))
      have HV1 := hide (And.intro hv1 hv2)
      clear s9 c9 hcell
      go_wp2_with fail
      go_ret2
      exact ⟨_, v, rfl, by omega, HV1.out.1, HV1.out.2, HB3.out.trans (HB9.out.mono hp)⟩
    · have HV : Hid (([.int .i64 0, .int .i64 1, .int .i64 2, .int .i64 3, .int .i64 5, .int .i64 16, .int .i64 17, .int .i64 (-9223372036854775808)] : List Value)[k] = .int .i64 v) := by
        show _ = _
        rw [List.getElem_eq_iff]
        simpa using hv
      have HB9 := hide ((Below.refl p w3).drew.trans (s9.below (Nat.le_refl p) (Nat.le_of_lt hp3)))
      have HV1 := hide (And.intro hv1 hv2)
      clear s9 c9 hv hv1 hv2
      rw [HV.out]
      go_wp2_with fail
      go_ret2
      exact ⟨_, v, rfl, by omega, HV1.out.1, HV1.out.2, (HB3.out.trans (HB9.out.mono hp)).alloc (by have := (HB3.out.trans (HB9.out.mono hp)).size; exact this) _⟩
  · go_wp2_with fail
    refine (l1Below_any p 2 w3 HC3.out (by omega)).mono ?_
    rintro e w4 ⟨d, rfl, d0, d1, c4, s4⟩
    obtain ⟨q, rfl⟩ := Int.eq_ofNat_of_zero_le d0
    have hq : q < 2 := by omega
    have HB4 := hide (HB3.out.trans (s4.below hp HB3.out.size))
    have hmk := make_row (P := Try.prog) 22 5 (.int .u8 0) 1 Try.underlying22 Try.infoU8d rfl (600 + (q : Int)) (600 + (q : Int)) (600 + q) (600 + q) (by omega) (by omega) (by omega) (by omega) (by omega) w4
    have hBy : Bytes w4.heap.size (w4.heap.size + 1) (w4.alloc (.cells (madeCells #[.int .u8 0] (600 + q)) 5)) (some ⟨w4.heap.size, 0, none⟩) (600 + q) (List.replicate (600 + q) 0) :=
      ⟨by simp, ((owned_of_row (World.rowIs_made w4 (.int .u8 0) (600 + q) 5) (Nat.le_refl _) (Nat.lt_succ_self _) (by simp)).congr (fun i hi => by simp [cellB, List.getD_eq_getElem?_getD, hi])).reads⟩
    have hst := fun cap => string_of (P := Try.prog) hBy 22 9 5 cap Try.underlying22 Try.underlying5 Try.underlying9
    have HB5 := hide (HB4.out.alloc HB4.out.size (.cells (madeCells #[.int .u8 0] (600 + q)) 5))
    have HC5 := hide (c4.alloc (.cells (madeCells #[.int .u8 0] (600 + q)) 5))
    have hp5 : p < (w4.alloc (.cells (madeCells #[.int .u8 0] (600 + q)) 5)).heap.size := HC5.out.lt
    obtain ⟨t, ht⟩ : ∃ t : ByteArray, t = ⟨(List.replicate (600 + q) (0 : UInt8)).toArray⟩ := ⟨_, rfl⟩
    rw [← ht] at hst
    have htz : t.size ≤ 601 := by rw [ht, size_mk]; simp; omega
    obtain ⟨w5, hw5⟩ : ∃ w5, w5 = w4.alloc (.cells (madeCells #[.int .u8 0] (600 + q)) 5) := ⟨_, rfl⟩
    rw [← hw5] at hst hmk HB5 HC5 hp5
    clear hw5
    clear s4 HB3 HC3 d0 d1 hBy HB4 c4 ht hp3
    go_wp2_with fail
    clear hmk hst
    go_region_with (go_at_call 17; first | (refine (HTL.out p _ (by exact HC5.out.alloc _)).mono ?_; rintro e w9 ⟨k, rfl, hk, c9, s9⟩; obtain ⟨v, hv, hv1, hv2⟩ := depth_at k hk; have hcell : w9.cell? ⟨w5.heap.size, k, none⟩ = some (.int .i64 v) := (by rw [World.cell?_of_block (a := ⟨w5.heap.size, k, none⟩) (s9.block w5.heap.size (by simp) (.inr hp5)), World.cell?_drew, World.cell?_alloc_new]; exact hv); clear hv) | (refine (HTL.out p _ (by exact HC5.out)).mono ?_; rintro e w9 ⟨k, rfl, hk, c9, s9⟩; obtain ⟨v, hv, hv1, hv2⟩ := depth_at k hk))
    · have HB9 := hide (((Below.refl p w5).alloc (Nat.le_of_lt hp5) (.cells #[.int .i64 0, .int .i64 1, .int .i64 2, .int .i64 3, .int .i64 5, .int .i64 16, .int .i64 17, .int .i64 (-9223372036854775808)] 2)).drew.trans (s9.below (Nat.le_refl p) (by simp; omega)))
      have HV1 := hide (And.intro hv1 hv2)
      clear s9 c9 hcell
      go_wp2_with fail
      go_ret2
      exact ⟨_, v, rfl, htz, HV1.out.1, HV1.out.2, HB5.out.trans (HB9.out.mono hp)⟩
    · have HV : Hid (([.int .i64 0, .int .i64 1, .int .i64 2, .int .i64 3, .int .i64 5, .int .i64 16, .int .i64 17, .int .i64 (-9223372036854775808)] : List Value)[k] = .int .i64 v) := by
        show _ = _
        rw [List.getElem_eq_iff]
        simpa using hv
      have HB9 := hide ((Below.refl p w5).drew.trans (s9.below (Nat.le_refl p) (Nat.le_of_lt hp5)))
      have HV1 := hide (And.intro hv1 hv2)
      clear s9 c9 hv hv1 hv2
      rw [HV.out]
      go_wp2_with fail
      go_ret2
      exact ⟨_, v, rfl, htz, HV1.out.1, HV1.out.2, (HB5.out.trans (HB9.out.mono hp)).alloc (by have := (HB5.out.trans (HB9.out.mono hp)).size; exact this) _⟩

theorem drawUnwoven_any (a : Option Addr) (n cap : Nat) (l : List UInt8) (w : World) {lo hi : Nat} (hB : Bytes lo hi w a n l) (hn : n ≤ 4096) :
    Calls Try.prog 7 #[.slice a n cap] w fun e w' => ∃ (s : ByteArray) (d : Int), e = .returned (.tuple #[.string s, .int .i64 d]) ∧ s.size ≤ 601 ∧ -9223372036854775808 ≤ d ∧ d ≤ 17 ∧ Below w.heap.size w w' := by
  go_enter Try.func7, Try.ntmps7
  go_wp2_with fail
  refine (drawWoven_any a n cap l w hB hn).mono ?_
  rintro e w1 ⟨s, d, rfl, h1, h2, h3, b1⟩
  go_wp2_with fail
  go_ret2
  exact ⟨s, d, rfl, h1, h2, h3, b1⟩

set_option maxHeartbeats 1600000 in
theorem drawNearest_any (a : Option Addr) (n cap : Nat) (l : List UInt8) (w : World) {lo hi : Nat} (hB : Bytes lo hi w a n l) (hn : n ≤ 4096) :
    Calls Try.prog 9 #[.slice a n cap] w fun e w' => ∃ (s : ByteArray) (d x m : Int), e = .returned (.tuple #[.string s, .int .i64 d, .int .i64 x, .int .i64 m]) ∧ s.size ≤ 40 ∧ -9223372036854775808 ≤ d ∧ d ≤ 17 ∧ -1 ≤ x ∧ x ≤ 41 ∧ 0 ≤ m ∧ m ≤ 8 ∧ Below w.heap.size w w' := by
  have HBY := hide hB
  clear hB
  go_enter Try.func9, Try.ntmps9
  go_wp2_with fail
  refine (l1New_any a n cap l w HBY.out hn).mono ?_
  rintro e w1 ⟨p, rfl, hp, c1, b1⟩
  have HB1 := hide b1
  have HC1 := hide c1
  clear b1 c1
  go_wp2_with fail
  refine (drawWoven_any a n cap l w1 (HBY.out.later HB1.out HBY.out.2.1) hn).mono ?_
  rintro e w2 ⟨s, d, rfl, h1, h2, h3, b2⟩
  have HC2 := hide (HC1.out.below b2 HC1.out.lt)
  have HB2 := hide (below_here HB1.out b2)
  clear b2 HC1 HB1
  by_cases h40 : s.size ≤ 40
  · have hd : decide ((40 : Int) < (s.size : Int)) = false := by simp; omega
    go_wp2_with fail
    refine (l1From_any p (-1) _ w2 HC2.out (by omega) (by omega) (by omega) (by omega)).mono ?_
    rintro e w3 ⟨x, rfl, x0, x1, c3, s3⟩
    have HB3 := hide (HB2.out.trans (s3.below hp HB2.out.size))
    clear s3 HB2 HC2
    go_wp2_with fail
    refine (l1From_any p 0 8 w3 c3 (by omega) (by omega) (by omega) (by omega)).mono ?_
    rintro e w4 ⟨m, rfl, m0, m1, c4, s4⟩
    have HB4 := hide (HB3.out.trans (s4.below hp HB3.out.size))
    clear s4 HB3 c3
    go_wp2_with fail
    (try simp only [Exit.inBlock, Exit.then]); refine bodyPost_ret (results_tmp4 rfl _ _ _) rfl ?_
    exact ⟨s, d, x, m, rfl, h40, h2, h3, x0, by omega, m0, m1, HB4.out⟩
  · have hd : decide ((40 : Int) < (s.size : Int)) = true := by simp; omega
    have hsz : (s.extract 0 40).size = 40 := by simp; omega
    have hmin : min 40 s.size = 40 := by omega
    go_wp2_with fail
    refine (l1From_any p (-1) _ w2 HC2.out (by omega) (by omega) (by omega) (by omega)).mono ?_
    rintro e w3 ⟨x, rfl, x0, x1, c3, s3⟩
    have HB3 := hide (HB2.out.trans (s3.below hp HB2.out.size))
    clear s3 HB2 HC2
    go_wp2_with fail
    refine (l1From_any p 0 8 w3 c3 (by omega) (by omega) (by omega) (by omega)).mono ?_
    rintro e w4 ⟨m, rfl, m0, m1, c4, s4⟩
    have HB4 := hide (HB3.out.trans (s4.below hp HB3.out.size))
    clear s4 HB3 c3
    go_wp2_with fail
    (try simp only [Exit.inBlock, Exit.then]); refine bodyPost_ret (results_tmp4 rfl _ _ _) rfl ?_
    exact ⟨_, d, x, m, rfl, by simp; omega, h2, h3, x0, by omega, m0, m1, HB4.out⟩
end Go.Proofs.Ytgofmegjanekhab
