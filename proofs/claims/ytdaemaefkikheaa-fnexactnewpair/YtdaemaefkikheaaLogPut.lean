/- The laws' walks over a Put: a Job's, its types and functions turned. -/
import Derived.Test.YtdaemaefkikheaaJobMark
import Derived.Test.YtdaemaefkikheaaChipJobSz
namespace Go.Proofs.Ytdaemaefkikheaa
open Go.RowKit
set_option linter.unusedVariables false
set_option maxRecDepth 20000

theorem toPut_any (k q : Int) (x : ByteArray) (w : World) :
    Calls Try.prog 62 #[.agg #[.int .i64 k, .int .i64 q, .string x]] w fun e w' => e = .returned (.agg #[.int .i64 k, .int .i64 q, .string x]) ∧ Below w.heap.size w w' := by
  go_enter Try.func62, Try.ntmps62
  go_wp2_with fail
  refine bodyPost_ret (results_cell rfl rfl (run_loadVar_row _ _ _ _ _ _ _ (heap_old (heap_at (by simp))) Try.underlying51 rfl (by kernel_rfl))) rfl ⟨rfl, ?_⟩
  exact (((Below.refl w.heap.size w).alloc (Nat.le_refl _) _).alloc (by simp) _).alloc (by simp; omega) _
theorem Try.infoPt : (Try.prog.info? 51).map (fun i => (i.zero, i.size, i.bytes)) = some (some (.agg #[.int .i64 0, .int .i64 0, .string ByteArray.empty]), 3, 32) := by kernel_rfl
theorem toPutS_any (a : Option Addr) (n cap : Nat) (js : List Jb) (w : World) {lo hi : Nat} (h : Jobs lo hi w a n js) (hn : n ≤ 1048576) :
    Calls Try.prog 28 #[.slice a n cap] w fun e w' => ∃ a', e = .returned (.slice a' n n) ∧ OwnJobs w.heap.size (w.heap.size + 1) w' a' n js ∧ Below w.heap.size w w' := by
  obtain ⟨hl, hx⟩ := h
  have HL := hide hl
  have HX := hide hx
  have hsz := hx.1
  clear hl hx
  have hmk := make3 (P := Try.prog) 35 51 (.int .i64 0) (.int .i64 0) (.string ByteArray.empty) 32 Try.underlying35 Try.infoPt n (by omega) (by omega) w
  have HM := hide (madeJ w n 51)
  go_enter Try.func28, Try.ntmps28
  go_wp2_with fail
  go_loopw [4] (fun i wr => ∃ k : Nat, k ≤ n ∧ i = .int .i64 (k : Int) ∧
    Owned w.heap.size (w.heap.size + 1) wr (some ⟨w.heap.size, 0, none⟩) (3 * n) (fun j => if j < 3 * k then cellJ js j else zeroJ j) ∧ Below w.heap.size w wr) (fun i _ => n - (intOf i).toNat)
  case atStart => exact ⟨0, Nat.zero_le _, rfl, HM.out.congr (fun j _ => by simp), (Below.refl _ _).alloc (Nat.le_refl _) _⟩
  case round =>
    obtain ⟨k, hk, rfl, hrow, hbel⟩ := hrel
    clear HM
    by_cases hlt : k < n
    · obtain ⟨b, off, rfl, _, hb1, hc⟩ := HX.out.2 (by omega)
      have hbw : b < w.heap.size := by omega
      obtain ⟨c0, c1, c2⟩ := job_cells hc hbel hbw hlt
      have HRW := hide hrow
      have HBB := hide hbel
      have HK3 := rowJ_step js k
      clear hrow hc hbel
      generalize hy : jbAt js k = y at *
      obtain ⟨kd, sq, tx⟩ := y
      have HST := hide HK3
      clear hy HK3
      go_wp2_with fail
      refine (toPut_any kd sq tx wr).mono ?_
      rintro e w2 ⟨rfl, b2⟩
      have hgs := HRW.out.1
      have hro := HRW.out.later b2 hgs
      obtain ⟨d0, f0, _, _⟩ := hro.at0 (show k * 3 < 3 * n by omega)
      obtain ⟨d1, f1, _, _⟩ := hro.at0 (show k * 3 + 1 < 3 * n by omega)
      obtain ⟨d2, f2, _, _⟩ := hro.at0 (show k * 3 + 2 < 3 * n by omega)
      have HAS := hide ((((Aside.refl w.heap.size (w.heap.size + 1) w2).setCell (p := ⟨w.heap.size, k * 3, none⟩) (Nat.le_refl _) (Nat.lt_succ_self _) (.int .i64 kd)).setCell (p := ⟨w.heap.size, k * 3 + 1, none⟩) (Nat.le_refl _) (Nat.lt_succ_self _) (.int .i64 sq)).setCell (p := ⟨w.heap.size, k * 3 + 2, none⟩) (Nat.le_refl _) (Nat.lt_succ_self _) (.string tx))
      have HNR := hide ((((hro.set0 (show k * 3 < 3 * n by omega) (.int .i64 kd)).set0 (show k * 3 + 1 < 3 * n by omega) (.int .i64 sq)).set0 (show k * 3 + 2 < 3 * n by omega) (.string tx)).congr (fun j _ => HST.out j))
      have hs2 := b2.size
      have HB2 := hide (below_here HBB.out b2)
      clear b2 hro c0 c1 c2 HRW HST
      go_wp2_with fail
      exact ⟨⟨k + 1, by omega, by go_num, HNR.out, HB2.out.trans (HAS.out.below (Nat.le_refl _) (by omega))⟩, by simp [intOf]; omega⟩
    · obtain rfl : k = n := by omega
      go_wp2_with fail
      go_ret
      exact ⟨_, rfl, ⟨HL.out, hrow.congr (fun j hj => if_pos hj)⟩, hbel⟩
theorem eqPut_same (k q : Int) (x : ByteArray) (w : World) :
    Calls Try.prog 74 #[.agg #[.int .i64 k, .int .i64 q, .string x], .agg #[.int .i64 k, .int .i64 q, .string x]] w fun e w' => e = .returned (.bool true) ∧ Below w.heap.size w w' := by
  go_enter Try.func74, Try.ntmps74
  go_wp2_with fail
  all_goals go_ret
  all_goals exact ⟨rfl, ((Below.refl w.heap.size w).alloc (Nat.le_refl _) _).alloc (by simp) _⟩

theorem eqPutS_same (a a' : Option Addr) (n cap cap' : Nat) (js : List Jb) (w : World) {lo hi lo' hi' : Nat} (h : Jobs lo hi w a n js) (h' : Jobs lo' hi' w a' n js) (hn : n ≤ 1048576) :
    Calls Try.prog 38 #[.slice a n cap, .slice a' n cap'] w fun e w' => e = .returned (.bool true) ∧ Below w.heap.size w w' := by
  obtain ⟨hl, hx⟩ := h
  obtain ⟨hl', hx'⟩ := h'
  have HX := hide hx
  have HX' := hide hx'
  have hsz := hx.1
  have hsz' := hx'.1
  clear hl hl' hx hx'
  go_enter Try.func38, Try.ntmps38
  go_wp2_with fail
  go_loopw [5] (fun i wr => ∃ k : Nat, k ≤ n ∧ i = .int .i64 k ∧ Below w.heap.size w wr) (fun i _ => n - (intOf i).toNat)
  case atStart => exact ⟨0, Nat.zero_le _, rfl, Below.refl _ _⟩
  case round =>
    obtain ⟨k, hk, rfl, hbel⟩ := hrel
    by_cases hlt : k < n
    · obtain ⟨b, off, rfl, _, hb, hc⟩ := HX.out.2 (by omega)
      obtain ⟨b', off', rfl, _, hb', hc'⟩ := HX'.out.2 (by omega)
      obtain ⟨c0, c1, c2⟩ := job_cells hc hbel (show b < w.heap.size by omega) hlt
      obtain ⟨d0, d1, d2⟩ := job_cells hc' hbel (show b' < w.heap.size by omega) hlt
      have HBB := hide hbel
      clear hc hc' hbel
      generalize jbAt js k = y at *
      obtain ⟨kd, sq, tx⟩ := y
      go_wp2_with fail
      go_region_with (go_at_call 74; refine (eqPut_same kd sq tx _).mono ?_; rintro e w1 ⟨rfl, b1⟩; have HB1 := hide (below_here (show Below w.heap.size w wr.drew from HBB.out.drew) b1); clear b1)
      all_goals go_wp2_with fail
      all_goals exact ⟨⟨k + 1, by omega, by go_num, HB1.out⟩, by simp [intOf]; omega⟩
    · go_wp2_with fail
      go_ret
      exact ⟨rfl, hbel⟩

set_option maxHeartbeats 1600000 in
theorem markPutS_any (a : Option Addr) (n cap : Nat) (js : List Jb) (m : Nat) (w : World) {lo hi : Nat} (h : OwnJobs lo hi w a n js) (hn : n ≤ 1048576) (m0 : 1 ≤ m) (m1 : m + 3 * n ≤ 4194304) :
    Calls Try.prog 44 #[.slice a n cap, .int .i64 (m : Int)] w fun e w' => e = .returned (.int .i64 ((m + 3 * n : Nat) : Int)) ∧ Aside lo hi w w' := by
  obtain ⟨hl, hx⟩ := h
  have HX := hide hx
  clear hl hx
  go_enter Try.func44, Try.ntmps44
  go_wp2_with fail
  go_loopw [1, 5] (fun t i wr => ∃ (k : Nat) (f : Nat → Value), k ≤ n ∧ i = .int .i64 (k : Int) ∧ t = .int .i64 ((m + 3 * k : Nat) : Int) ∧ Owned lo hi wr a (3 * n) f ∧ Aside lo hi w wr) (fun _ i _ => n - (intOf i).toNat)
  case atStart => exact ⟨0, _, Nat.zero_le _, rfl, by simp, HX.out, Aside.refl _ _ _⟩
  case round =>
    obtain ⟨k, f, hk, rfl, rfl, hrow, hasd⟩ := hrel
    clear HX
    by_cases hlt : k < n
    · obtain ⟨b, off, rfl, hb1, hb2, hc⟩ := hrow.2 (by omega)
      obtain ⟨c0, f0, _, _⟩ := hrow.place (show k * 3 < 3 * n by omega)
      obtain ⟨c1, f1, _, _⟩ := hrow.place (show k * 3 + 1 < 3 * n by omega)
      rw [← Nat.add_assoc] at c1 f1
      have HRW := hide hrow
      have HAS := hide hasd
      clear hrow hasd hc
      obtain ⟨s, hs⟩ : ∃ s, s = m + 3 * k := ⟨_, rfl⟩
      rw [← hs]
      have HN1 := hide ((HRW.out.set (show k * 3 < 3 * n by omega) (.int .i64 (s : Int))).set (show k * 3 + 1 < 3 * n by omega) (.int .i64 ((s : Int) + 1)))
      have HA1 := hide ((HAS.out.setCell (p := ⟨b, off + k * 3, none⟩) hb1 hb2 (.int .i64 (s : Int))).setCell (p := ⟨b, off + k * 3 + 1, none⟩) hb1 hb2 (.int .i64 ((s : Int) + 1)))
      have hs9 : s + 3 ≤ 4194304 := by omega
      have HS := hide hs
      clear HRW HAS hs
      go_wp2_with fail
      refine (markText_to (s + 2) _ (by omega) (by omega) (by omega) _).mono ?_
      rintro e w2 ⟨rfl, b2⟩
      have hro := HN1.out.later b2 HN1.out.1
      obtain ⟨c2, f2, _, _⟩ := hro.place (show k * 3 + 2 < 3 * n by omega)
      rw [← Nat.add_assoc] at c2 f2
      have HN2 := hide (hro.set (show k * 3 + 2 < 3 * n by omega) (.string (markT (s + 2))))
      have HA2 := hide ((HA1.out.trans (aside_new b2)).setCell (p := ⟨b, off + k * 3 + 2, none⟩) hb1 hb2 (.string (markT (s + 2))))
      clear hro b2 HN1 HA1 c0 c1
      go_wp2_with fail
      exact ⟨⟨k + 1, _, by omega, by go_num, by have := HS.out; go_num, HN2.out, HA2.out⟩, by simp [intOf]; omega⟩
    · obtain rfl : k = n := by omega
      go_wp2_with fail
      go_ret
      exact ⟨rfl, hasd⟩
theorem szPut_any (k q : Int) (x : ByteArray) (L : Int) (w : World) (hx : x.size ≤ maxLen) (hL0 : 0 ≤ L) (hL1 : L ≤ 1048576) :
    Calls Try.prog 55 #[.agg #[.int .i64 k, .int .i64 q, .string x], .int .i64 L] w fun e w' => Left L x.size e ∧ Below w.heap.size w w' := by
  unfold maxLen at hx
  by_cases hb : (x.size : Int) ≤ L
  · have e1 : decide (L - (x.size : Int) < 0) = false := by simp; omega
    go_enter Try.func55, Try.ntmps55
    go_wp2_with fail
    go_ret
    exact ⟨⟨L - (x.size : Int), rfl, by omega, by omega, fun _ => rfl⟩, (Below.refl w.heap.size w).alloc (Nat.le_refl _) _⟩
  · have e1 : decide (L - (x.size : Int) < 0) = true := by simp; omega
    go_enter Try.func55, Try.ntmps55
    go_wp2_with fail
    go_ret
    exact ⟨⟨-1, rfl, by omega, by omega, fun h => absurd h (by omega)⟩, (Below.refl w.heap.size w).alloc (Nat.le_refl _) _⟩

theorem szPutS_any (a : Option Addr) (n cap : Nat) (js : List Jb) (L : Int) (w : World) {lo hi : Nat} (h : Jobs lo hi w a n js) (hhi : hi ≤ w.heap.size) (hn : n ≤ maxLen) (hfit : ∀ x ∈ js, jbFits x) (hL0 : 0 ≤ L) (hL1 : L ≤ 1048576) :
    Calls Try.prog 20 #[.slice a n cap, .int .i64 L] w fun e w' => Left L (n + weightJ js) e ∧ Below w.heap.size w w' := by
  obtain ⟨hl, hx⟩ := h
  have HL := hide hl
  have HX := hide hx
  have HF := hide hfit
  unfold maxLen at hn
  clear hl hx hfit
  by_cases hb : (n : Int) ≤ L
  · go_enter Try.func20, Try.ntmps20
    go_wp2_with fail
    go_loopw [1, 5] (fun t i wr => ∃ k : Nat, k ≤ n ∧ i = .int .i64 (k : Int) ∧ (n : Int) + (weightJ (js.take k) : Int) ≤ L ∧ t = .int .i64 (L - (n : Int) - (weightJ (js.take k) : Int)) ∧ Below w.heap.size w wr) (fun _ i _ => n - (intOf i).toNat)
    case atStart => exact ⟨0, Nat.zero_le _, rfl, by simp [weightJ]; omega, by simp [weightJ], Below.refl _ _⟩
    case round =>
      obtain ⟨k, hk, rfl, htot, rfl, hbel⟩ := hrel
      by_cases hlt : k < n
      · obtain ⟨b, off, rfl, _, hb1, hc⟩ := HX.out.2 (by omega)
        have hbw : b < w.heap.size := by omega
        obtain ⟨c0, c1, c2⟩ := job_cells hc hbel hbw hlt
        have HFK := hide (jb_fits HF.out (show k < js.length by rw [HL.out]; exact hlt))
        have HWT := hide (weightJ_take js k (by rw [HL.out]; exact hlt))
        clear hc
        generalize weightJ (js.take k) = q at *
        generalize jbAt js k = y at *
        obtain ⟨kd, sq, tx⟩ := y
        have hL2 : 0 ≤ L - (n : Int) - (q : Int) := by omega
        go_wp2_with fail
        refine (szPut_any kd sq tx (L - (n : Int) - (q : Int)) wr HFK.out.2.2 hL2 (by omega)).mono ?_
        rintro e w2 ⟨⟨r, rfl, r1, r2, r3⟩, b2⟩
        have HR := hide r3
        have HB2 := hide (below_here hbel b2)
        clear r3 b2 hbel c0 c1 c2
        by_cases h0 : r < 0
        · go_wp2_with fail
          go_ret
          exact ⟨⟨-1, rfl, by omega, by omega, by omega⟩, HB2.out⟩
        · have hr : r = L - (n : Int) - (q : Int) - (tx.size : Int) := HR.out (by omega)
          go_wp2_with fail
          go_roundw
          case rel => exact ⟨k + 1, by omega, by go_num, by rw [HWT.out]; omega, by rw [HWT.out]; congr 1; omega, HB2.out⟩
          case measure => simp [intOf]; omega
      · have HW : Hid (weightJ (js.take k) = weightJ js) := by show _ = _; rw [List.take_of_length_le (by rw [HL.out]; omega)]
        generalize weightJ (js.take k) = q at *
        go_wp2_with fail
        go_ret
        exact ⟨⟨_, rfl, by omega, by omega, fun _ => by have := HW.out; omega⟩, hbel⟩
  · go_enter Try.func20, Try.ntmps20
    go_wp2_with fail
    go_ret
    exact ⟨⟨-1, rfl, by omega, by omega, by omega⟩, Below.refl _ _⟩
theorem markPutS_to (a : Option Addr) (n cap : Nat) (js : List Jb) (m : Nat) (w : World) {lo hi : Nat} (h : OwnJobs lo hi w a n js) (hn : n ≤ 1048576) (m0 : 1 ≤ m) (m1 : m + 3 * n ≤ 4194304) :
    Calls Try.prog 44 #[.slice a n cap, .int .i64 (m : Int)] w fun e w' => e = .returned (.int .i64 ((m + 3 * n : Nat) : Int)) ∧ OwnJobs lo hi w' a n (jbMark m n) ∧ Aside lo hi w w' := by
  obtain ⟨hl, hx⟩ := h
  have HX := hide hx
  clear hl hx
  go_enter Try.func44, Try.ntmps44
  go_wp2_with fail
  go_loopw [1, 5] (fun t i wr => ∃ k : Nat, k ≤ n ∧ i = .int .i64 (k : Int) ∧ t = .int .i64 ((m + 3 * k : Nat) : Int) ∧ Owned lo hi wr a (3 * n) (mixJ m n js k) ∧ Aside lo hi w wr) (fun _ i _ => n - (intOf i).toNat)
  case atStart => exact ⟨0, Nat.zero_le _, rfl, by simp, HX.out.congr (fun j _ => by unfold mixJ; rw [if_neg (by omega)]), Aside.refl _ _ _⟩
  case round =>
    obtain ⟨k, hk, rfl, rfl, hrow, hasd⟩ := hrel
    clear HX
    by_cases hlt : k < n
    · obtain ⟨b, off, rfl, hb1, hb2, hc⟩ := hrow.2 (by omega)
      obtain ⟨c0, f0, _, _⟩ := hrow.place (show k * 3 < 3 * n by omega)
      obtain ⟨c1, f1, _, _⟩ := hrow.place (show k * 3 + 1 < 3 * n by omega)
      rw [← Nat.add_assoc] at c1 f1
      have HRW := hide hrow
      have HAS := hide hasd
      clear hrow hasd hc
      obtain ⟨s, hs⟩ : ∃ s, s = m + 3 * k := ⟨_, rfl⟩
      rw [← hs]
      have HN1 := hide ((HRW.out.set (show k * 3 < 3 * n by omega) (.int .i64 (s : Int))).set (show k * 3 + 1 < 3 * n by omega) (.int .i64 ((s : Int) + 1)))
      have HA1 := hide ((HAS.out.setCell (p := ⟨b, off + k * 3, none⟩) hb1 hb2 (.int .i64 (s : Int))).setCell (p := ⟨b, off + k * 3 + 1, none⟩) hb1 hb2 (.int .i64 ((s : Int) + 1)))
      have hs9 : s + 3 ≤ 4194304 := by omega
      have HS := hide hs
      clear HRW HAS hs
      go_wp2_with fail
      refine (markText_to (s + 2) _ (by omega) (by omega) (by omega) _).mono ?_
      rintro e w2 ⟨rfl, b2⟩
      have hro := HN1.out.later b2 HN1.out.1
      obtain ⟨c2, f2, _, _⟩ := hro.place (show k * 3 + 2 < 3 * n by omega)
      rw [← Nat.add_assoc] at c2 f2
      have HN2 := hide ((hro.set (show k * 3 + 2 < 3 * n by omega) (.string (markT (s + 2)))).congr (g := mixJ m n js (k + 1)) (fun j _ => by
        have := mixJ_step m n js k j hlt
        rw [← HS.out] at this
        rw [← this]
        rfl))
      have HA2 := hide ((HA1.out.trans (aside_new b2)).setCell (p := ⟨b, off + k * 3 + 2, none⟩) hb1 hb2 (.string (markT (s + 2))))
      clear hro b2 HN1 HA1 c0 c1
      go_wp2_with fail
      exact ⟨⟨k + 1, by omega, by go_num, by have := HS.out; go_num, HN2.out, HA2.out⟩, by simp [intOf]; omega⟩
    · obtain rfl : k = n := by omega
      go_wp2_with fail
      go_ret
      exact ⟨rfl, ⟨jbMark_length m k, hrow.congr (fun i hi => by unfold mixJ; rw [if_pos hi])⟩, hasd⟩

theorem heldPutS_any (a : Option Addr) (n cap : Nat) (m : Nat) (w : World) {lo hi : Nat} (h : Jobs lo hi w a n (jbMark m n)) (hhi : hi ≤ w.heap.size) (hn : n ≤ 1048576) (m0 : 1 ≤ m) (m1 : m + 3 * n ≤ 4194304) :
    Calls Try.prog 48 #[.slice a n cap, .int .i64 (m : Int)] w fun e w' => e = .returned (.int .i64 ((m + 3 * n : Nat) : Int)) ∧ Below w.heap.size w w' := by
  obtain ⟨hl, hx⟩ := h
  have HX := hide hx
  clear hx hl
  go_enter Try.func48, Try.ntmps48
  go_wp2_with fail
  go_loopw [1, 5] (fun t i wr => ∃ k : Nat, k ≤ n ∧ i = .int .i64 (k : Int) ∧ t = .int .i64 ((m + 3 * k : Nat) : Int) ∧ Below w.heap.size w wr) (fun _ i _ => n - (intOf i).toNat)
  case atStart => exact ⟨0, Nat.zero_le _, rfl, by simp, Below.refl _ _⟩
  case round =>
    obtain ⟨k, hk, rfl, rfl, hbel⟩ := hrel
    by_cases hlt : k < n
    · obtain ⟨b, off, rfl, hb1, hb2, hc⟩ := (HX.out.later hbel hhi).2 (by omega)
      have c0 := hc (k * 3) (by omega)
      have c1 := hc (k * 3 + 1) (by omega)
      have c2 := hc (k * 3 + 2) (by omega)
      rw [show k * 3 = 3 * k by omega, cellJ0, jbMark_at m n k hlt] at c0
      rw [show k * 3 = 3 * k by omega, cellJ1, jbMark_at m n k hlt, ← Nat.add_assoc] at c1
      rw [show k * 3 = 3 * k by omega, cellJ2, jbMark_at m n k hlt, ← Nat.add_assoc] at c2
      rw [show 3 * k = k * 3 by omega] at c0 c1 c2
      dsimp only at c0 c1 c2
      have hlt2 : (k : Int) < (n : Int) := by omega
      have e2 : m + 3 * (k + 1) = m + k * 3 + 1 + 1 + 1 := by omega
      have HE2 := hide e2
      have hqb : m + k * 3 + 3 ≤ 4194304 := by omega
      have hq1 : 1 ≤ m + k * 3 := by omega
      have hbb : b < wr.heap.size := by have := hbel.size; omega
      have HBL := hide hbel
      clear hc e2 hbel
      rw [show m + 3 * k = m + k * 3 by omega]
      generalize m + k * 3 = q at *
      rw [show ((q + 1 : Nat) : Int) = (q : Int) + 1 by omega] at c1
      have e0 := text_same (markT (q + 2))
      have d2 : ∀ w', Below wr.heap.size wr w' → w'.cell? ⟨b, off + k * 3 + 2, none⟩ = some (.string (markT (q + 2))) := fun w' h' => (h'.cell (p := ⟨b, off + k * 3 + 2, none⟩) hbb).trans c2
      have HD2 := hide d2
      clear d2
      go_wp2_with fail
      go_region_with (go_at_call 77; refine (markText_to (q + 2) _ (by omega) (by omega) (by omega) _).mono ?_; rintro e w2 ⟨rfl, b2⟩; have d9 := HD2.out w2 (below_here (Below.refl wr.heap.size wr).drew b2); have HB2 := hide (below_here (show Below w.heap.size w wr.drew from HBL.out.drew) b2); clear b2)
      all_goals go_wp2_with fail
      all_goals exact ⟨⟨k + 1, by omega, by go_num, by rw [HE2.out]; go_num, HB2.out⟩, by simp [intOf]; omega⟩
    · obtain rfl : k = n := by omega
      go_wp2_with fail
      go_ret
      exact ⟨rfl, hbel⟩
end Go.Proofs.Ytdaemaefkikheaa
