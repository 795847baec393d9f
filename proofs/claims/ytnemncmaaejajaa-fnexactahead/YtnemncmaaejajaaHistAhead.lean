/- Chapter 19: Ahead, the model's and the program's. -/
import Derived.Test.YtnemncmaaejajaaHistImplE
import Derived.Test.YtnemncmaaejajaaHistImplH
namespace Go.Proofs.Ytnemncmaaejajaa
open Go.RowKit
set_option linter.unusedVariables false
set_option linter.unusedSimpArgs false
set_option maxRecDepth 20000

def aheadF (L : List O9) (a b : Int) : Bool := histOk L && (inB a 0 ((L.length : Int) - 1) && (inB b 0 ((L.length : Int) - 1) && (decide (0 ≤ (o9At L a.toNat).e) && decide ((o9At L a.toNat).e < (o9At L b.toNat).b))))
theorem aheadF_no (L : List O9) (a b : Int) {p q r : Bool} (hp : histOk L = p) (hq : inB a 0 ((L.length : Int) - 1) = q) (hr : inB b 0 ((L.length : Int) - 1) = r) (h : (p && (q && r)) = false) : aheadF L a b = false := by
  unfold aheadF
  rw [hp, hq, hr]
  cases p <;> cases q <;> cases r <;> simp_all
set_option maxHeartbeats 6400000 in
theorem specAhead_any (a : Option Addr) (n cap : Nat) (L : List O9) (x y : Int) (w : World) {lo hi : Nat} (h : Ops9 lo hi w a n L) (hn : n ≤ 9223372036854775807) :
    Calls Try.prog 13 #[.slice a n cap, .int .i64 x, .int .i64 y] w fun r w' => r = .returned (.bool (aheadF L x y)) ∧ Below w.heap.size w w' := by
  have HH := hide h
  have HLN := hide h.1
  have HC := hide (specHistoryOk_any a n cap L w h hn)
  have hj1 : IntKind.i64.wrap ((n : Int) - 1) = (n : Int) - 1 := by rw [IntKind.wrap_i64]; omega
  clear h
  go_enter Try.func13, Try.ntmps13
  go_wp2_with fail
  refine HC.out.mono ?_
  rintro e w1 ⟨rfl, b1⟩
  have HB1 := hide b1
  clear b1 HC
  obtain ⟨p, hp⟩ : ∃ p, histOk L = p := ⟨_, rfl⟩
  obtain ⟨q, hq⟩ : ∃ q, inB x 0 ((n : Int) - 1) = q := ⟨_, rfl⟩
  obtain ⟨r, hr⟩ : ∃ r, inB y 0 ((n : Int) - 1) = r := ⟨_, rfl⟩
  have HNO : Hid ((p && (q && r)) = false → aheadF L x y = false) := fun h => aheadF_no L x y hp (by rw [HLN.out]; exact hq) (by rw [HLN.out]; exact hr) h
  have HP := hide hp
  have HQ := hide hq
  have HR := hide hr
  rw [hp]
  clear hp hq hr
  cases p with
  | false =>
    have HE := hide (HNO.out rfl)
    go_wp2_with fail
    go_ret
    exact ⟨ret_of HE.out.symm, HB1.out⟩
  | true =>
    go_wp2_with fail
    refine (l1In_any _ _ _ _).mono ?_
    rintro e w2 ⟨rfl, rfl⟩
    rw [HQ.out]
    cases q with
    | false =>
      have HE := hide (HNO.out rfl)
      go_wp2_with fail
      go_ret
      exact ⟨ret_of HE.out.symm, HB1.out⟩
    | true =>
      go_wp2_with fail
      refine (l1In_any _ _ _ _).mono ?_
      rintro e w2 ⟨rfl, rfl⟩
      rw [HR.out]
      cases r with
      | false =>
        have HE := hide (HNO.out rfl)
        go_wp2_with fail
        go_ret
        exact ⟨ret_of HE.out.symm, HB1.out⟩
      | true =>
        obtain ⟨i, hi9, hin⟩ : ∃ i : Nat, x = (i : Int) ∧ i < n := by
          have h2 := HQ.out
          simp only [inB, Bool.and_eq_true, decide_eq_true_eq] at h2
          exact ⟨x.toNat, by omega, by omega⟩
        obtain ⟨k, hk9, hkn⟩ : ∃ k : Nat, y = (k : Int) ∧ k < n := by
          have h2 := HR.out
          simp only [inB, Bool.and_eq_true, decide_eq_true_eq] at h2
          exact ⟨y.toNat, by omega, by omega⟩
        subst hi9
        subst hk9
        obtain ⟨b, off, rfl, _, hb, hc⟩ := HH.out.2.2 (by omega)
        have hbl : b < w.heap.size := by have := HH.out.2.1; omega
        obtain ⟨_, _, _, _, x4⟩ := op9_row hc HB1.out hbl hin
        obtain ⟨_, _, _, y3, _⟩ := op9_row hc HB1.out hbl hkn
        obtain ⟨E, hE⟩ : ∃ E, E = (o9At L i).e := ⟨_, rfl⟩
        obtain ⟨T, hT⟩ : ∃ T, T = (o9At L k).b := ⟨_, rfl⟩
        have HE : Hid (aheadF L (i : Int) (k : Int) = (decide (0 ≤ E) && decide (E < T))) := by show _ = _; unfold aheadF; rw [HP.out, HLN.out, HQ.out, HR.out, hE, hT]; rfl
        rw [← hE] at x4
        rw [← hT] at y3
        have hinI : (i : Int) < (n : Int) := by omega
        have hknI : (k : Int) < (n : Int) := by omega
        clear hc hE hT hj1 HNO
        by_cases h0 : 0 ≤ E
        · have g0 : decide (0 ≤ E) = true := decide_eq_true h0
          have HE2 : Hid (aheadF L (i : Int) (k : Int) = decide (E < T)) := by show _ = _; rw [HE.out, g0]; rfl
          clear h0 HE
          go_upto_region 4 with fail
          go_quiet (fail)
          go_wp2_with fail
          go_ret
          exact ⟨ret_of HE2.out.symm, drew_below _ HB1.out⟩
        · have g0 : decide (0 ≤ E) = false := decide_eq_false h0
          have HE2 : Hid (aheadF L (i : Int) (k : Int) = false) := by show _ = _; rw [HE.out, g0]; rfl
          clear h0 HE
          go_upto_region 4 with fail
          go_quiet (fail)
          go_wp2_with fail
          go_ret
          exact ⟨ret_of HE2.out.symm, drew_below _ HB1.out⟩
set_option maxHeartbeats 6400000 in
theorem implAhead_any (a : Option Addr) (n cap : Nat) (L : List O9) (x y : Int) (w : World) {lo hi : Nat} (h : Ops9 lo hi w a n L) (hn : n ≤ 9223372036854775807) (hcap : n ≤ cap) :
    Calls Try.prog 14 #[.slice a n cap, .int .i64 x, .int .i64 y] w fun r w' => r = .returned (.bool (aheadF L x y)) ∧ Below w.heap.size w w' := by
  have HH := hide h
  have HLN := hide h.1
  obtain ⟨p, hp⟩ : ∃ p, histOk L = p := ⟨_, rfl⟩
  obtain ⟨q, hq⟩ : ∃ q, inB x 0 ((n : Int) - 1) = q := ⟨_, rfl⟩
  obtain ⟨r, hr⟩ : ∃ r, inB y 0 ((n : Int) - 1) = r := ⟨_, rfl⟩
  have HNO : Hid ((p && (q && r)) = false → aheadF L x y = false) := fun h => aheadF_no L x y hp (by rw [HLN.out]; exact hq) (by rw [HLN.out]; exact hr) h
  have HQ := hide hq
  have HR := hide hr
  have HP := hide hp
  have cH : ∀ d os, Calls Try.prog 11 #[.slice a n cap] (Go.Sort.grow (redrawn w d) os) fun e w'' => e = .returned (.bool p) ∧ ∃ p : Regrown, w'' = Go.Sort.grow (redrawn w p.d) p.os := fun d os => Calls.regrown_of (by rw [← hp]; exact implHistoryOk_any a n cap L _ (h.later (below_regrown w d os) h.2.1) hn hcap)
  clear h
  cases p with
  | false =>
    have HE := hide (HNO.out rfl)
    go_enter Try.func14, Try.ntmps14
    go_upto_region 1 with fail
    refine wp_region_quiet_below (by kernel_rfl) (by kernel_rfl) ?_
    repeat (go_big_quiet_step (first | (go_at_call 11; exact cH _ _)))
    refine wpQuiet_nil ?_
    intro _ hw'
    obtain ⟨⟨dq, osq⟩, hw''⟩ := hw'
    subst hw''
    have HBQ := hide (below_regrown w dq osq)
    go_wp2_with fail
    go_ret
    exact ⟨ret_of HE.out.symm, HBQ.out⟩
  | true =>
    have hn12 : n ≤ 12 := by rw [← HLN.out]; exact histOk_len HP.out
    have cN : ∀ z d os, Calls Try.prog 34 #[.slice a n cap, .int .i64 z] (Go.Sort.grow (redrawn w d) os) fun e w'' => e = .returned (.bool (inB z 0 ((n : Int) - 1))) ∧ ∃ p : Regrown, w'' = Go.Sort.grow (redrawn w p.d) p.os := fun z d os => Calls.regrown_of ((isNumberOf_any a n cap z _ (by omega)).mono (by rintro e w' ⟨rfl, rfl⟩; exact ⟨rfl, Below.refl _ _⟩))
    have cX := cN x
    have cY := cN y
    rw [hq] at cX
    rw [hr] at cY
    clear hp cN
    cases q with
    | false =>
      have HE := hide (HNO.out rfl)
      go_enter Try.func14, Try.ntmps14
      go_upto_region 1 with fail
      refine wp_region_quiet_below (by kernel_rfl) (by kernel_rfl) ?_
      repeat (go_big_quiet_step (first | (go_at_call 11; exact cH _ _) | (go_at_call 34; with_reducible exact cX _ _)))
      refine wpQuiet_nil ?_
      intro _ hw'
      obtain ⟨⟨dq, osq⟩, hw''⟩ := hw'
      subst hw''
      have HBQ := hide (below_regrown w dq osq)
      go_wp2_with fail
      go_ret
      exact ⟨ret_of HE.out.symm, HBQ.out⟩
    | true =>
      cases r with
      | false =>
        have HE := hide (HNO.out rfl)
        go_enter Try.func14, Try.ntmps14
        go_upto_region 1 with fail
        refine wp_region_quiet_below (by kernel_rfl) (by kernel_rfl) ?_
        repeat (go_big_quiet_step (first | (go_at_call 11; exact cH _ _) | (go_at_call 34; first | with_reducible exact cX _ _ | with_reducible exact cY _ _)))
        refine wpQuiet_nil ?_
        intro _ hw'
        obtain ⟨⟨dq, osq⟩, hw''⟩ := hw'
        subst hw''
        have HBQ := hide (below_regrown w dq osq)
        go_wp2_with fail
        go_ret
        exact ⟨ret_of HE.out.symm, HBQ.out⟩
      | true =>
        obtain ⟨i, hi9, hin⟩ : ∃ i : Nat, x = (i : Int) ∧ i < n := by
          have h2 := HQ.out
          simp only [inB, Bool.and_eq_true, decide_eq_true_eq] at h2
          exact ⟨x.toNat, by omega, by omega⟩
        obtain ⟨k, hk9, hkn⟩ : ∃ k : Nat, y = (k : Int) ∧ k < n := by
          have h2 := HR.out
          simp only [inB, Bool.and_eq_true, decide_eq_true_eq] at h2
          exact ⟨y.toNat, by omega, by omega⟩
        subst hi9
        subst hk9
        obtain ⟨b, off, rfl, _, hb, hc⟩ := HH.out.2.2 (by omega)
        have hbl : b < w.heap.size := by have := HH.out.2.1; omega
        obtain ⟨x0, x1, x2, x3, x4⟩ := op9_row hc (Below.refl w.heap.size w) hbl hin
        obtain ⟨y0, y1, y2, y3, y4⟩ := op9_row hc (Below.refl w.heap.size w) hbl hkn
        have HE : Hid (aheadF L (i : Int) (k : Int) = aheadB (o9At L i) (o9At L k)) := by
          show _ = _
          unfold aheadF aheadB
          rw [HP.out, HLN.out, HQ.out, HR.out, Int.toNat_natCast, Int.toNat_natCast]
          have h1 := o9Ok_end (histOk_at HP.out (show i < L.length by rw [HLN.out]; exact hin))
          by_cases c : (o9At L i).e = -1
          · simp [c]
          · rw [decide_eq_false c, decide_eq_true (show 0 ≤ (o9At L i).e by omega)]; rfl
        obtain ⟨ox, hox⟩ : ∃ o, o = o9At L i := ⟨_, rfl⟩
        obtain ⟨oy, hoy⟩ : ∃ o, o = o9At L k := ⟨_, rfl⟩
        rw [← hox] at x0 x1 x2 x3 x4 HE
        rw [← hoy] at y0 y1 y2 y3 y4 HE
        have cA : ∀ d os, Calls Try.prog 35 #[o9G ox, o9G oy] (Go.Sort.grow (redrawn w d) os) fun e w'' => e = .returned (.bool (aheadB ox oy)) ∧ ∃ p : Regrown, w'' = Go.Sort.grow (redrawn w p.d) p.os := fun d os => Calls.regrown_of (isAhead_any ox oy _)
        obtain ⟨R, hR⟩ : ∃ R, aheadB ox oy = R := ⟨_, rfl⟩
        rw [hR] at cA HE
        clear hc hox hoy HNO hR
        obtain ⟨xa, xw, xt, xb, xe⟩ := ox
        obtain ⟨ya, yw, yt, yb, ye⟩ := oy
        dsimp only at x0 x1 x2 x3 x4 y0 y1 y2 y3 y4
        have hinI : (i : Int) < (n : Int) := by omega
        have hknI : (k : Int) < (n : Int) := by omega
        have q0 := fun d os => cell_regrown x0 d os
        have q1 := fun d os => cell_regrown x1 d os
        have q2 := fun d os => cell_regrown x2 d os
        have q3 := fun d os => cell_regrown x3 d os
        have q4 := fun d os => cell_regrown x4 d os
        have r0 := fun d os => cell_regrown y0 d os
        have r1 := fun d os => cell_regrown y1 d os
        have r2 := fun d os => cell_regrown y2 d os
        have r3 := fun d os => cell_regrown y3 d os
        have r4 := fun d os => cell_regrown y4 d os
        go_enter Try.func14, Try.ntmps14
        go_upto_region 1 with fail
        refine wp_region_quiet_below (by kernel_rfl) (by kernel_rfl) ?_
        repeat (go_big_quiet_step (first | (go_at_call 11; exact cH _ _) | (go_at_call 34; first | with_reducible exact cX _ _ | with_reducible exact cY _ _) | (go_at_call 35; exact cA _ _)))
        refine wpQuiet_nil ?_
        intro _ hw'
        obtain ⟨⟨dq, osq⟩, hw''⟩ := hw'
        subst hw''
        have HBQ := hide (below_regrown w dq osq)
        go_wp2_with fail
        go_ret
        exact ⟨ret_of HE.out.symm, HBQ.out⟩
end Go.Proofs.Ytnemncmaaejajaa
