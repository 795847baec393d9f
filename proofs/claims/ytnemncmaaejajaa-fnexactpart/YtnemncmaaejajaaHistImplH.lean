/- Chapter 19, the program: is it a history? -/
import Derived.Test.YtnemncmaaejajaaHistImplB
import Derived.Deep.RegionHeld3
import Derived.Deep.DeepCutAuto
import Derived.Deep.RegionLaw
import Derived.Lib.QuietBelow
import Derived.BigQuiet
namespace Go.Proofs.Ytnemncmaaejajaa
open Go.RowKit
set_option linter.unusedVariables false
set_option linter.unusedSimpArgs false
set_option maxRecDepth 20000

def timeB (x : O9) (t : Int) : Bool := decide (x.b = t) || decide (x.e = t)
def timedB (o x : O9) : Bool := timeB x o.b || (endB o && timeB x o.e)
/-- Is one of the first k so? -/
def timeK (L : List O9) (o : O9) : Nat → Bool
  | 0 => false
  | k + 1 => timeK L o k || timedB o (o9At L k)
theorem timeK_yes {L : List O9} {o : O9} {k : Nat} (h : timeK L o k = true) : ∀ d, timeK L o (k + d) = true
  | 0 => h
  | d + 1 => by show (timeK L o (k + d) || _) = true; rw [timeK_yes h d]; rfl
theorem timed_apart {o x : O9} (hx : 0 ≤ x.b) (ho : 0 ≤ o.b) : o9Apart o x = !timedB o x := by
  unfold o9Apart timedB timeB endB
  by_cases h1 : x.b = o.b
  · simp [h1]
  · by_cases h2 : x.e = o.b
    · by_cases h3 : x.b = o.e <;> simp [h1, h2, h3]
    · by_cases h4 : o.e = -1
      · have h5 : ¬ x.b = o.e := by omega
        simp [h1, h2, h4, show ¬ x.b = -1 by omega]
      · by_cases h5 : x.b = o.e
        · simp [h1, h2, h4, h5]
        · by_cases h6 : x.e = o.e
          · simp [h4, h6, h1, h2, h5]
          · simp [h1, h2, h4, h5, h6]
theorem timeK_apart {L : List O9} {i : Nat} (hi : 0 ≤ (o9At L i).b) : ∀ k, (∀ j, j < k → 0 ≤ (o9At L j).b) → apartK L i k = !timeK L (o9At L i) k
  | 0, _ => rfl
  | k + 1, h => by
    show (apartK L i k && _) = !(timeK L (o9At L i) k || _)
    rw [timeK_apart hi k (fun j hj => h j (by omega)), timed_apart (h k (by omega)) hi]
    simp
set_option maxHeartbeats 800000 in
theorem hasTime_any (x : O9) (t : Int) (w : World) : Calls Try.prog 48 #[o9G x, .int .i64 t] w fun e w' => e = .returned (.bool (timeB x t)) ∧ Below w.heap.size w w' := by
  obtain ⟨wA, hwA⟩ : ∃ wA, wA = w.alloc (o9O x 45) := ⟨_, rfl⟩
  have HBA : Hid (Below w.heap.size w wA) := by rw [hwA]; exact (Below.refl _ _).alloc (Nat.le_refl _) _
  have H1 : Hid (wA.heap[w.heap.size]? = some (o9O x 45)) := by rw [hwA]; exact heap_new _ _
  have HQ : Hid (∀ p, decide (x.b = t) = p → timeB x t = (p || decide (x.e = t))) := fun p hp => by unfold timeB; rw [hp]
  obtain ⟨xa, xw, xt, xb, xe⟩ := x
  obtain ⟨c0, c1, c2, c3, c4⟩ := op9_cells H1.out
  dsimp only at c3 c4
  clear c0 c1 c2
  by_cases h1 : xb = t
  · have g1 : (xb == t) = true := by simp [h1]
    have HF : Hid (timeB ⟨xa, xw, xt, xb, xe⟩ t = true) := by show _ = _; rw [HQ.out true (decide_eq_true h1)]; rfl
    clear h1
    go_enter Try.func48, Try.ntmps48
    go_upto_region 1 with fail
    rw [← hwA]
    clear hwA
    go_wp2_with fail
    go_ret
    exact ⟨ret_of HF.out.symm, HBA.out⟩
  · have g1 : (xb == t) = false := by simp [h1]
    have HF : Hid ((xe == t) = timeB ⟨xa, xw, xt, xb, xe⟩ t) := by show _ = _; rw [HQ.out false (decide_eq_false h1)]; by_cases h4 : xe = t <;> simp [h4]
    clear h1
    go_enter Try.func48, Try.ntmps48
    go_upto_region 1 with fail
    rw [← hwA]
    clear hwA
    go_wp2_with fail
    go_ret
    exact ⟨ret_of HF.out, HBA.out⟩
set_option maxHeartbeats 1600000 in
theorem isTimedLike_any (x y : O9) (w : World) : Calls Try.prog 32 #[o9G x, o9G y] w fun e w' => e = .returned (.bool (timedB x y)) ∧ Below w.heap.size w w' := by
  obtain ⟨wA, hwA⟩ : ∃ wA, wA = (w.alloc (o9O x 45)).alloc (o9O y 45) := ⟨_, rfl⟩
  have HBA : Hid (Below w.heap.size w wA) := by rw [hwA]; exact ((Below.refl _ _).alloc (Nat.le_refl _) _).alloc (by simp) _
  have H1 : Hid (wA.heap[w.heap.size]? = some (o9O x 45)) := by rw [hwA]; exact heap_old (heap_new _ _)
  have H2 : Hid (wA.heap[w.heap.size + 1]? = some (o9O y 45)) := by rw [hwA]; exact heap_at (by simp)
  have HE : ∀ (W : World), Hid (Calls Try.prog 46 #[o9G x] W fun e w' => e = .returned (.bool (endB x)) ∧ Below W.heap.size W w') := fun W => hasEnd_any x W
  have HT : ∀ (t : Int) (W : World), Hid (Calls Try.prog 48 #[o9G y, .int .i64 t] W fun e w' => e = .returned (.bool (timeB y t)) ∧ Below W.heap.size W w') := fun t W => hasTime_any y t W
  have HQ : Hid (∀ p q, timeB y x.b = p → endB x = q → timedB x y = (p || (q && timeB y x.e))) := fun p q hp hq => by unfold timedB; rw [hp, hq]
  obtain ⟨xa, xw, xt, xb, xe⟩ := x
  obtain ⟨ya, yw, yt, yb, ye⟩ := y
  obtain ⟨c0, c1, c2, c3, c4⟩ := op9_cells H1.out
  obtain ⟨d0, d1, d2, d3, d4⟩ := op9_cells H2.out
  dsimp only at c0 c1 c2 c3 c4 d0 d1 d2 d3 d4
  go_enter Try.func32, Try.ntmps32
  go_upto_region 1 with fail
  rw [← hwA]
  clear hwA
  go_wp2_with fail
  refine (HT _ _).out.mono ?_
  rintro e w1 ⟨rfl, b1⟩
  have HB1 := hide (below_here HBA.out b1)
  have H1b := hide (block_on H1.out b1)
  have H2b := hide (block_on H2.out b1)
  clear b1 c0 c1 c2 c3 c4 d0 d1 d2 d3 d4 H1 H2 HBA
  obtain ⟨c0, c1, c2, c3, c4⟩ := op9_cells H1b.out
  obtain ⟨d0, d1, d2, d3, d4⟩ := op9_cells H2b.out
  dsimp only at c0 c1 c2 c3 c4 d0 d1 d2 d3 d4
  obtain ⟨p, hp⟩ : ∃ p, timeB ⟨ya, yw, yt, yb, ye⟩ xb = p := ⟨_, rfl⟩
  have HP := hide hp
  rw [hp]
  clear hp
  cases p with
  | true =>
    go_wp2_with fail
    go_ret
    exact ⟨ret_of (by rw [HQ.out true _ HP.out rfl]; rfl), HB1.out⟩
  | false =>
    go_wp2_with fail
    refine (HE _).out.mono ?_
    rintro e w2 ⟨rfl, b2⟩
    have HB2 := hide (below_here HB1.out b2)
    have H1c := hide (block_on H1b.out b2)
    have H2c := hide (block_on H2b.out b2)
    clear b2 c0 c1 c2 c3 c4 d0 d1 d2 d3 d4 H1b H2b HB1
    obtain ⟨c0, c1, c2, c3, c4⟩ := op9_cells H1c.out
    obtain ⟨d0, d1, d2, d3, d4⟩ := op9_cells H2c.out
    dsimp only at c0 c1 c2 c3 c4 d0 d1 d2 d3 d4
    obtain ⟨q, hq⟩ : ∃ q, endB ⟨xa, xw, xt, xb, xe⟩ = q := ⟨_, rfl⟩
    have HR := hide hq
    rw [hq]
    clear hq
    cases q with
    | false =>
      go_wp2_with fail
      go_ret
      exact ⟨ret_of (by rw [HQ.out false false HP.out HR.out]; rfl), HB2.out⟩
    | true =>
      go_wp2_with fail
      refine (HT _ _).out.mono ?_
      rintro e w3 ⟨rfl, b3⟩
      have HB3 := hide (below_here HB2.out b3)
      clear b3 c0 c1 c2 c3 c4 d0 d1 d2 d3 d4
      go_wp2_with fail
      go_ret
      exact ⟨ret_of (by rw [HQ.out false true HP.out HR.out]; rfl), HB3.out⟩
set_option maxHeartbeats 1600000 in
theorem indexTimed_any (a : Option Addr) (n cap : Nat) (L : List O9) (o : O9) (w : World) {lo hi : Nat} (h : Ops9 lo hi w a n L) (hn : n ≤ 1000) :
    Calls Try.prog 47 #[.slice a n cap, .func (.func 32) #[o9G o] #[]] w fun e w' => ∃ i : Int, e = .returned (.int .i64 i) ∧ decide (0 ≤ i) = timeK L o L.length ∧ Below w.heap.size w w' := by
  have HY := hide h
  have HTF : ∀ (x : O9) (W : World), Hid (Calls Try.prog 32 #[o9G o, o9G x] W fun e w' => e = .returned (.bool (timedB o x)) ∧ Below W.heap.size W w') := fun x W => isTimedLike_any o x W
  clear h
  go_enter Try.func47, Try.ntmps47
  go_wp2_with fail
  go_loopw [8] (fun i wr => ∃ k : Nat, k ≤ n ∧ i = .int .i64 (k : Int) ∧ timeK L o k = false ∧ Below w.heap.size w wr) (fun i _ => n - (intOf i).toNat)
  case atStart => exact ⟨0, Nat.zero_le _, rfl, rfl, Below.refl _ _⟩
  case round =>
    obtain ⟨k, hk, rfl, hall, hbel⟩ := hrel
    obtain ⟨w1, hw1⟩ : ∃ w1, w1 = wr := ⟨_, rfl⟩
    subst hw1
    have HAL := hide hall
    have HBL := hide hbel
    clear hall hbel
    by_cases hlt : k < n
    · obtain ⟨b, off, rfl, _, hb, hc⟩ := HY.out.2.2 (by omega)
      obtain ⟨x0, x1, x2, x3, x4⟩ := op9_row hc HBL.out (show b < w.heap.size by have := HY.out.2.1; omega) hlt
      have hkn : (k : Int) < (n : Int) := by omega
      have HKL : Hid (k < L.length) := by show k < _; rw [HY.out.1]; exact hlt
      obtain ⟨x, hx⟩ : ∃ x, x = o9At L k := ⟨_, rfl⟩
      have HX := hide hx
      rw [← hx] at x0 x1 x2 x3 x4
      have HC := hide ((HTF x w1).out)
      obtain ⟨xa, xw, xt, xb, xe⟩ := x
      dsimp only at x0 x1 x2 x3 x4
      clear hc hx
      go_wp2_with fail
      refine HC.out.mono ?_
      rintro e w2 ⟨rfl, b2⟩
      have HB2 := hide (below_here HBL.out b2)
      clear b2 x0 x1 x2 x3 x4
      obtain ⟨q, hq⟩ : ∃ q, timedB o ⟨xa, xw, xt, xb, xe⟩ = q := ⟨_, rfl⟩
      have HQ := hide hq
      rw [hq]
      clear hq
      cases q with
      | true =>
        have HI : Hid (timeK L o L.length = true) := by
          show _ = _
          have h1 : timeK L o (k + 1) = true := by show (timeK L o k || _) = true; rw [← HX.out, HQ.out, Bool.or_true]
          have h2 := timeK_yes h1 (L.length - (k + 1))
          rwa [show k + 1 + (L.length - (k + 1)) = L.length by have := HKL.out; omega] at h2
        go_wp2_with fail
        go_ret
        exact ⟨_, rfl, by rw [HI.out]; exact decide_eq_true (by omega), HB2.out⟩
      | false =>
        go_wp2_with fail
        go_roundw
        case rel => exact ⟨k + 1, by omega, by go_num, by show (timeK L o k || _) = false; rw [HAL.out, ← HX.out, HQ.out]; rfl, HB2.out⟩
        case measure => simp [intOf]; omega
    · obtain rfl : k = n := by omega
      have HI : Hid (timeK L o L.length = false) := by show _ = _; rw [HY.out.1]; exact HAL.out
      go_wp2_with fail
      go_ret
      exact ⟨_, rfl, by rw [HI.out]; rfl, HBL.out⟩
set_option maxHeartbeats 800000 in
theorem containsTimed_any (a : Option Addr) (n cap : Nat) (L : List O9) (o : O9) (w : World) {lo hi : Nat} (h : Ops9 lo hi w a n L) (hn : n ≤ 1000) :
    Calls Try.prog 31 #[.slice a n cap, .func (.func 32) #[o9G o] #[]] w fun e w' => e = .returned (.bool (timeK L o L.length)) ∧ Below w.heap.size w w' := by
  have HC := hide (indexTimed_any a n cap L o w h hn)
  clear h
  go_enter Try.func31, Try.ntmps31
  go_wp2_with fail
  refine HC.out.mono ?_
  rintro e w1 ⟨i, rfl, hi, hb⟩
  have HI := hide hi
  have HB := hide hb
  clear hi hb
  go_wp2_with fail
  go_ret
  exact ⟨ret_of HI.out, HB.out⟩
theorem ops9_take {lo hi n k : Nat} {w : World} {a : Option Addr} {L : List O9} (h : Ops9 lo hi w a n L) (hk : k ≤ n) : Ops9 lo hi w a k (L.take k) := by
  refine ⟨by rw [List.length_take, h.1]; omega, h.2.1, fun h0 => ?_⟩
  obtain ⟨b, off, e, h1, h2, hc⟩ := h.2.2 (by omega)
  refine ⟨b, off, e, h1, h2, fun i hi => ?_⟩
  rw [hc i (by omega)]
  unfold o9C o9At
  rw [List.getD_eq_getElem?_getD, List.getD_eq_getElem?_getD, List.getElem?_take, if_pos (by omega)]
theorem timeK_take {L : List O9} {o : O9} {k : Nat} : ∀ j, j ≤ k → timeK (L.take k) o j = timeK L o j
  | 0, _ => rfl
  | j + 1, h => by
    show (timeK (L.take k) o j || timedB o (o9At (L.take k) j)) = (timeK L o j || timedB o (o9At L j))
    rw [timeK_take j (by omega)]
    congr 2
    unfold o9At
    rw [List.getD_eq_getElem?_getD, List.getD_eq_getElem?_getD, List.getElem?_take, if_pos (by omega)]
theorem o9Ok_b {o : O9} (h : o9Ok o = true) : 0 ≤ o.b := by
  unfold o9Ok at h
  simp only [Bool.and_eq_true, Bool.not_eq_true', decide_eq_false_iff_not] at h
  omega
set_option maxHeartbeats 3200000 in
theorem implHistoryOk_any (a : Option Addr) (n cap : Nat) (L : List O9) (w : World) {lo hi : Nat} (h : Ops9 lo hi w a n L) (hn : n ≤ 9223372036854775807) (hcap : n ≤ cap) :
    Calls Try.prog 11 #[.slice a n cap] w fun r w' => r = .returned (.bool (histOk L)) ∧ Below w.heap.size w w' := by
  have HH := hide h
  have HL := hide h.1
  clear h
  by_cases h12 : 12 < n
  · have HE : Hid (histOk L = false) := by show _ = _; unfold histOk; rw [decide_eq_false (by have := HL.out; omega)]; rfl
    have h12' : (12 : Int) < (n : Int) := by omega
    go_enter Try.func11, Try.ntmps11
    go_wp2_with fail
    go_ret
    exact ⟨ret_of HE.out.symm, Below.refl _ _⟩
  · have h12' : ¬ (12 : Int) < (n : Int) := by omega
    go_enter Try.func11, Try.ntmps11
    go_wp2_with fail
    go_loopw [10] (fun i wr => ∃ k : Nat, k ≤ n ∧ i = .int .i64 (k : Int) ∧ histK L k = true ∧ Below w.heap.size w wr) (fun i _ => n - (intOf i).toNat)
    case atStart => exact ⟨0, Nat.zero_le _, rfl, rfl, Below.refl _ _⟩
    case round =>
      obtain ⟨k, hk, rfl, hhk, hbel⟩ := hrel
      obtain ⟨w1, hw1⟩ : ∃ w1, w1 = wr := ⟨_, rfl⟩
      subst hw1
      have HHK := hide hhk
      have HB := hide hbel
      clear hhk hbel
      by_cases hlt : k < n
      · have hkn : (k : Int) < (n : Int) := by omega
        obtain ⟨b, off, rfl, _, hb, hc⟩ := HH.out.2.2 (by omega)
        obtain ⟨x0, x1, x2, x3, x4⟩ := op9_row hc HB.out (show b < w.heap.size by have := HH.out.2.1; omega) hlt
        have HKL : Hid (k < L.length) := by show k < _; rw [HL.out]; exact hlt
        obtain ⟨x, hx⟩ : ∃ x, x = o9At L k := ⟨_, rfl⟩
        have HX := hide hx
        rw [← hx] at x0 x1 x2 x3 x4
        obtain ⟨w2, hw2⟩ : ∃ w2, w2 = w1.alloc (o9O x 45) := ⟨_, rfl⟩
        have HP : Hid (w2.heap[w1.heap.size]? = some (o9O x 45)) := by rw [hw2]; exact heap_new _ _
        have HB2 : Hid (Below w.heap.size w w2) := by rw [hw2]; exact HB.out.alloc HB.out.size _
        have HOB : Hid (∀ j, j < k → 0 ≤ (o9At L j).b) := fun j hj => o9Ok_b (histK_at HHK.out j hj)
        have HFALL : Hid ((o9Ok x && apartK L k k) = false → histOk L = false) := fun hh => hist_fall HKL.out (by rw [← HX.out]; exact hh)
        have HNEXT : Hid ((o9Ok x && apartK L k k) = true → histK L (k + 1) = true) := fun hh => by show (histK L k && (o9Ok (o9At L k) && apartK L k k)) = true; rw [HHK.out, ← HX.out, hh]; rfl
        obtain ⟨q, hq⟩ : ∃ q, o9Ok x = q := ⟨_, rfl⟩
        obtain ⟨r, hr⟩ : ∃ r, timeK L x k = r := ⟨_, rfl⟩
        have HAP : Hid (q = true → apartK L k k = !r) := fun hq1 => by rw [timeK_apart (by rw [← HX.out]; exact o9Ok_b (hq.trans hq1)) k HOB.out, ← HX.out, hr]
        have cI : ∀ d os, Calls Try.prog 30 #[o9G x] (Go.Sort.grow (redrawn w2 d) os) fun e w'' => e = .returned (.bool q) ∧ ∃ p : Regrown, w'' = Go.Sort.grow (redrawn w2 p.d) p.os := fun d os => Calls.regrown_of (by rw [← hq]; exact isOp_any x _)
        have cT : ∀ d os, Calls Try.prog 31 #[.slice (some ⟨b, off, none⟩) k cap, .func (.func 32) #[o9G x] #[]] (Go.Sort.grow (redrawn w2 d) os) fun e w'' => e = .returned (.bool r) ∧ ∃ p : Regrown, w'' = Go.Sort.grow (redrawn w2 p.d) p.os := fun d os => Calls.regrown_of (by
          have h := containsTimed_any (some ⟨b, off, none⟩) k cap (L.take k) x (Go.Sort.grow (redrawn w2 d) os) (ops9_take (HH.out.later (HB2.out.trans ((below_regrown w2 d os).mono HB2.out.size)) HH.out.2.1) (by omega)) (by omega)
          rw [List.length_take, show min k L.length = k by have := HKL.out; omega, timeK_take k (Nat.le_refl _), hr] at h
          exact h)
        obtain ⟨xa, xw, xt, xb, xe⟩ := x
        dsimp only at x0 x1 x2 x3 x4
        have HQ := hide hq
        clear hc hx hq hr
        go_upto_region 6 with fail
        rw [← hw2]
        clear hw2 x0 x1 x2 x3 x4
        obtain ⟨c0, c1, c2, c3, c4⟩ := op9_cells HP.out
        dsimp only at c0 c1 c2 c3 c4
        have q0 := fun d os => cell_regrown c0 d os
        have q1 := fun d os => cell_regrown c1 d os
        have q2 := fun d os => cell_regrown c2 d os
        have q3 := fun d os => cell_regrown c3 d os
        have q4 := fun d os => cell_regrown c4 d os
        have hkc : k ≤ cap := by omega
        cases q with
        | false =>
          have HE : Hid (histOk L = false) := HFALL.out (by rw [HQ.out]; rfl)
          refine wp_region_quiet_below (by kernel_rfl) (by kernel_rfl) ?_
          repeat (go_big_quiet_step (first | (go_at_call 30; exact cI _ _) | (go_at_call 31; exact cT _ _)))
          refine wpQuiet_nil ?_
          intro _ hw'
          obtain ⟨⟨dq, osq⟩, hw''⟩ := hw'
          subst hw''
          have HBQ := hide (HB2.out.trans ((below_regrown w2 dq osq).mono HB2.out.size))
          clear q0 q1 q2 q3 q4 c0 c1 c2 c3 c4 cI cT
          generalize Go.Sort.grow (redrawn w2 dq) osq = wq at *
          go_wp2_with fail
          go_ret
          exact ⟨ret_of HE.out.symm, HBQ.out⟩
        | true =>
          cases r with
          | true =>
            have HE : Hid (histOk L = false) := HFALL.out (by rw [HQ.out, HAP.out rfl]; rfl)
            refine wp_region_quiet_below (by kernel_rfl) (by kernel_rfl) ?_
            repeat (go_big_quiet_step (first | (go_at_call 30; exact cI _ _) | (go_at_call 31; exact cT _ _)))
            refine wpQuiet_nil ?_
            intro _ hw'
            obtain ⟨⟨dq, osq⟩, hw''⟩ := hw'
            subst hw''
            have HBQ := hide (HB2.out.trans ((below_regrown w2 dq osq).mono HB2.out.size))
            clear q0 q1 q2 q3 q4 c0 c1 c2 c3 c4 cI cT
            generalize Go.Sort.grow (redrawn w2 dq) osq = wq at *
            go_wp2_with fail
            go_ret
            exact ⟨ret_of HE.out.symm, HBQ.out⟩
          | false =>
            have HE : Hid (histK L (k + 1) = true) := HNEXT.out (by rw [HQ.out, HAP.out rfl]; rfl)
            refine wp_region_quiet_below (by kernel_rfl) (by kernel_rfl) ?_
            repeat (go_big_quiet_step (first | (go_at_call 30; exact cI _ _) | (go_at_call 31; exact cT _ _)))
            refine wpQuiet_nil ?_
            intro _ hw'
            obtain ⟨⟨dq, osq⟩, hw''⟩ := hw'
            subst hw''
            have HBQ := hide (HB2.out.trans ((below_regrown w2 dq osq).mono HB2.out.size))
            clear q0 q1 q2 q3 q4 c0 c1 c2 c3 c4 cI cT
            generalize Go.Sort.grow (redrawn w2 dq) osq = wq at *
            go_wp2_with fail
            go_roundw
            case rel => exact ⟨k + 1, by omega, by go_num, HE.out, HBQ.out⟩
            case measure => simp [intOf]; omega
      · obtain rfl : k = n := by omega
        have HE : Hid (histOk L = true) := by show _ = _; unfold histOk; rw [HL.out, HHK.out, decide_eq_true (by omega)]; rfl
        go_wp2_with fail
        go_ret
        exact ⟨ret_of HE.out.symm, HB.out⟩
end Go.Proofs.Ytnemncmaaejajaa
