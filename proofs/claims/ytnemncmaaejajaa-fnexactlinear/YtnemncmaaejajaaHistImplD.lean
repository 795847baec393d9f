/- Chapter 19, the program: how far an order has come. -/
import Derived.Test.YtnemncmaaejajaaHistImplC
import Derived.Test.YtnemncmaaejajaaHistOrd
namespace Go.Proofs.Ytnemncmaaejajaa
open Go.RowKit
set_option linter.unusedVariables false
set_option linter.unusedSimpArgs false
set_option maxRecDepth 20000

abbrev stV (p a b c : Int) : Value := .agg #[.int .i64 p, .int .i64 a, .int .i64 b, .int .i64 c]
abbrev stO (p a b c : Int) : Obj := .cells #[.int .i64 p, .int .i64 a, .int .i64 b, .int .i64 c] 60
/-- Marks as a number. -/
def pb : List Bool → Nat
  | [] => 0
  | b :: us => (if b then 1 else 0) + 2 * pb us
theorem pb_bit : ∀ (us : List Bool) (i : Nat), (pb us).testBit i = us.getD i false
  | [], i => by simp [pb]
  | b :: us, 0 => by cases b <;> simp [pb, Nat.testBit_zero, Nat.add_mod]
  | b :: us, i + 1 => by
    have h : pb (b :: us) / 2 = pb us := by show ((if b then 1 else 0) + 2 * pb us) / 2 = _; cases b <;> simp <;> omega
    rw [Nat.testBit_succ, h, pb_bit us i]; simp
theorem pb_lt : ∀ us : List Bool, pb us < 2 ^ us.length
  | [] => by simp [pb]
  | b :: us => by
    have := pb_lt us
    show (if b then 1 else 0) + 2 * pb us < 2 ^ (us.length + 1)
    rw [Nat.pow_succ]
    cases b <;> simp <;> omega
theorem pb_set {us : List Bool} {i : Nat} (h : i < us.length) : pb (us.set i true) = pb us ||| 1 <<< i := by
  apply Nat.eq_of_testBit_eq
  intro j
  rw [pb_bit, Nat.testBit_or, pb_bit, Nat.one_shiftLeft, Nat.testBit_two_pow, List.getD_eq_getElem?_getD, List.getElem?_set, List.getD_eq_getElem?_getD]
  by_cases e : i = j
  · subst e; simp [h]
  · simp [e]
theorem pb_inj {us us' : List Bool} (hl : us.length = us'.length) (h : pb us = pb us') : us = us' := by
  apply List.ext_getElem hl
  intro i h1 h2
  have e := congrArg (fun x => x.testBit i) h
  simp only [pb_bit, List.getD_eq_getElem?_getD, List.getElem?_eq_getElem h1, List.getElem?_eq_getElem h2] at e
  exact e
theorem pb_zero (n : Nat) : pb (marks0 n) = 0 := by
  apply Nat.eq_of_testBit_eq
  intro j
  rw [pb_bit]
  by_cases h : j < n <;> simp [marks0, List.getD_eq_getElem?_getD, h, List.getElem?_replicate]
set_option maxHeartbeats 800000 in
theorem newStanding_any (w : World) : Calls Try.prog 38 #[] w fun e w' => e = .returned (stV 0 (-1) (-1) (-1)) ∧ Below w.heap.size w w' := by
  obtain ⟨wA, hwA⟩ : ∃ wA, wA = (w.alloc (stO 0 0 0 0)).alloc (stO 0 0 0 0) := ⟨_, rfl⟩
  have HBA : Hid (Below w.heap.size w wA) := by rw [hwA]; exact ((Below.refl _ _).alloc (Nat.le_refl _) _).alloc (by simp) _
  have H0 : Hid (wA.heap[w.heap.size]? = some (stO 0 0 0 0)) := by rw [hwA]; exact heap_old (heap_new _ _)
  have H1 : Hid (wA.heap[w.heap.size + 1]? = some (stO 0 0 0 0)) := by rw [hwA]; exact heap_at (by simp)
  go_enter Try.func38, Try.ntmps38
  go_upto_region 2 with fail
  rw [← hwA]
  clear hwA
  go_wp2_with fail
  go_loopw [4] (fun i wr => ∃ k : Nat, k ≤ 3 ∧ i = .int .i64 (k : Int) ∧ wr.heap[w.heap.size]? = some (stO 0 0 0 0) ∧ wr.heap[w.heap.size + 1]? = some (stO 0 (if 0 < k then -1 else 0) (if 1 < k then -1 else 0) (if 2 < k then -1 else 0)) ∧ Below w.heap.size w wr) (fun i _ => 3 - (intOf i).toNat)
  case atStart => exact ⟨0, by omega, rfl, H0.out, H1.out, HBA.out⟩
  case round =>
    clear H0 H1 HBA
    obtain ⟨k, hk, rfl, hr0, hr1, hbel⟩ := hrel
    obtain ⟨w1, hw1⟩ : ∃ w1, w1 = wr := ⟨_, rfl⟩
    subst hw1
    have HR0 := hide hr0
    have HR1 := hide hr1
    have HB := hide hbel
    have AS : ∀ (j : Nat) (v : Value), Hid (Aside (w.heap.size + 1) (w.heap.size + 1 + 1) w1 (w1.setCell ⟨w.heap.size + 1, j, none⟩ v)) := fun j v => (Aside.refl _ _ _).setCell (p := ⟨w.heap.size + 1, j, none⟩) (Nat.le_refl _) (Nat.lt_succ_self _) _
    have K0 : ∀ (j : Nat) (v : Value), Hid ((w1.setCell ⟨w.heap.size + 1, j, none⟩ v).heap[w.heap.size]? = some (stO 0 0 0 0)) := fun j v => ((AS j v).out.block _ (Array.getElem?_eq_some_iff.1 HR0.out).1 (.inl (Nat.lt_succ_self _))).trans HR0.out
    have KB : ∀ (j : Nat) (v : Value), Hid (Below w.heap.size w (w1.setCell ⟨w.heap.size + 1, j, none⟩ v)) := fun j v => HB.out.setCell (p := ⟨w.heap.size + 1, j, none⟩) (Nat.le_succ _) _
    clear hr0 hr1 hbel
    by_cases hlt : k < 3
    · have hc := four_cells HR1.out
      have f1 := four_frozen HR1.out 1
      have f2 := four_frozen HR1.out 2
      have f3 := four_frozen HR1.out 3
      rcases (show k = 0 ∨ k = 1 ∨ k = 2 by omega) with rfl | rfl | rfl
      · have HS := hide (set_block HR1.out 1 (.int .i64 (-1)) (by simp))
        obtain ⟨c0, c1, c2, c3⟩ := hc
        go_wp2_with fail
        go_roundw
        case rel => exact ⟨1, by omega, by go_num, (K0 _ _).out, HS.out, (KB _ _).out⟩
        case measure => simp [intOf]
      · have HS := hide (set_block HR1.out 2 (.int .i64 (-1)) (by simp))
        obtain ⟨c0, c1, c2, c3⟩ := hc
        go_wp2_with fail
        go_roundw
        case rel => exact ⟨2, by omega, by go_num, (K0 _ _).out, HS.out, (KB _ _).out⟩
        case measure => simp [intOf]
      · have HS := hide (set_block HR1.out 3 (.int .i64 (-1)) (by simp))
        obtain ⟨c0, c1, c2, c3⟩ := hc
        go_wp2_with fail
        go_roundw
        case rel => exact ⟨3, by omega, by go_num, (K0 _ _).out, HS.out, (KB _ _).out⟩
        case measure => simp [intOf]
    · obtain rfl : k = 3 := by omega
      obtain ⟨c0, c1, c2, c3⟩ := four_cells HR1.out
      obtain ⟨d0, d1, d2, d3⟩ := four_cells HR0.out
      have f0 := four_frozen HR0.out 0
      have f1 := four_frozen HR0.out 1
      have f2 := four_frozen HR0.out 2
      have f3 := four_frozen HR0.out 3
      have HRS := hide (four_set HR0.out (.int .i64 0) (.int .i64 (-1)) (.int .i64 (-1)) (.int .i64 (-1)))
      have HBS := hide (four_below (b := w.heap.size) HB.out (Nat.le_refl _) (.int .i64 0) (.int .i64 (-1)) (.int .i64 (-1)) (.int .i64 (-1)))
      go_wp2_with fail
      refine bodyPost_ret (results_cell rfl rfl (run_loadVar_row _ _ _ _ _ _ _ HRS.out Try.underlying60 rfl (by kernel_rfl))) rfl ⟨rfl, HBS.out⟩
theorem h9_and1 (q : Nat) (hq : q < 65536) : bits .and .i64 (q : Int) 1 = ((q % 2 : Nat) : Int) := by
  show IntKind.i64.wrap ((BitVec.ofInt 64 (q : Int) &&& BitVec.ofInt 64 1).toNat : Int) = _
  rw [BitVec.toNat_and, ofInt_u64 q (by omega), show (BitVec.ofInt 64 1).toNat = 1 from rfl, Nat.and_one_is_mod]
  simp [IntKind.wrap, IntKind.bits, IntKind.signed]
  omega
theorem h9_or (a b : Nat) (ha : a < 65536) (hb : b < 65536) : bits .or .i64 (a : Int) (b : Int) = ((a ||| b : Nat) : Int) := by
  have hx : a ||| b < 2 ^ 16 := Nat.or_lt_two_pow (by omega) (by omega)
  show IntKind.i64.wrap ((BitVec.ofInt 64 (a : Int) ||| BitVec.ofInt 64 (b : Int)).toNat : Int) = _
  rw [BitVec.toNat_or, ofInt_u64 a (by omega), ofInt_u64 b (by omega)]
  simp [IntKind.wrap, IntKind.bits, IntKind.signed]
  omega
theorem pb_small {us : List Bool} (hu : us.length ≤ 12) : pb us < 4096 := Nat.lt_of_lt_of_le (pb_lt us) (Nat.le_trans (Nat.pow_le_pow_right (by omega) hu) (by decide))
theorem has_bit {us : List Bool} {k : Nat} (hu : us.length ≤ 12) : (bits .and .i64 ((pb us : Int) / 2 ^ k) 1 == 1) = us.getD k false := by
  have hp : ((pb us : Int) / 2 ^ k) = ((pb us / 2 ^ k : Nat) : Int) := by simp
  have hs := pb_small hu
  rw [hp, h9_and1 _ (Nat.lt_of_le_of_lt (Nat.div_le_self _ _) (by omega)), ← pb_bit us k, Nat.testBit_eq_decide_div_mod_eq]
  have := Nat.mod_lt (pb us / 2 ^ k) (show 0 < 2 by omega)
  rcases (show pb us / 2 ^ k % 2 = 0 ∨ pb us / 2 ^ k % 2 = 1 by omega) with h | h <;> simp [h]
set_option maxHeartbeats 800000 in
theorem has_any (us : List Bool) (a b c : Int) (k : Nat) (w : World) (hk : k < 12) (hu : us.length ≤ 12) (K : IntKind) (hK : K = .i64) : Calls Try.prog 50 #[stV (pb us : Int) a b c, .int K (k : Int)] w fun e w' => e = .returned (.bool (us.getD k false)) ∧ Below w.heap.size w w' := by
  subst hK
  obtain ⟨wA, hwA⟩ : ∃ wA, wA = w.alloc (stO (pb us : Int) a b c) := ⟨_, rfl⟩
  have HBA : Hid (Below w.heap.size w wA) := by rw [hwA]; exact (Below.refl _ _).alloc (Nat.le_refl _) _
  have H1 : Hid (wA.heap[w.heap.size]? = some (stO (pb us : Int) a b c)) := by rw [hwA]; exact heap_new _ _
  obtain ⟨c0, c1, c2, c3⟩ := four_cells H1.out
  have HQ : Hid ((bits .and .i64 ((pb us : Int) / 2 ^ k) 1 == 1) = us.getD k false) := has_bit hu
  go_enter Try.func50, Try.ntmps50
  go_upto_region 1 with fail
  rw [← hwA]
  clear hwA
  go_wp2_with fail
  go_ret
  exact ⟨ret_of HQ.out, HBA.out⟩
def aheadOf (o y : O9) : Bool := aheadB y o
/-- Is there one, of the first k, that does not stand and is so? -/
def waitK (L : List O9) (us : List Bool) (p : O9 → Bool) : Nat → Bool
  | 0 => false
  | k + 1 => waitK L us p k || (!us.getD k false && p (o9At L k))
theorem waitK_yes {L : List O9} {us : List Bool} {p : O9 → Bool} {k : Nat} (h : waitK L us p k = true) : ∀ d, waitK L us p (k + d) = true
  | 0 => h
  | d + 1 => by show (waitK L us p (k + d) || _) = true; rw [waitK_yes h d]; rfl
theorem wait_hit {L : List O9} {us : List Bool} {p : O9 → Bool} {k : Nat} (hk : k < L.length) (h1 : us.getD k false = false) (h2 : p (o9At L k) = true) : waitK L us p L.length = true := by
  have h3 : waitK L us p (k + 1) = true := by show (waitK L us p k || _) = true; rw [h1, h2]; simp
  have h4 := waitK_yes h3 (L.length - (k + 1))
  rwa [show k + 1 + (L.length - (k + 1)) = L.length by omega] at h4
set_option maxHeartbeats 400000 in
theorem placedFn_any (x o : O9) (p : Nat) (T : TypeId) (w : World) (h : w.heap[p]? = some (o9O o T)) :
    Calls Try.prog 52 #[o9G x, .pointer (some ⟨p, 0, none⟩)] w fun e w' => e = .returned (.bool (aheadOf o x)) ∧ Below w.heap.size w w' := by
  obtain ⟨wA, hwA⟩ : ∃ wA, wA = w.alloc (o9O x 45) := ⟨_, rfl⟩
  have HBA : Hid (Below w.heap.size w wA) := by rw [hwA]; exact (Below.refl _ _).alloc (Nat.le_refl _) _
  have H1 : Hid (wA.heap[w.heap.size]? = some (o9O x 45)) := by rw [hwA]; exact heap_new _ _
  obtain ⟨d0, d1, d2, d3, d4⟩ := op9_cells (block_on h HBA.out)
  have HC := hide (isAhead_any x o wA)
  obtain ⟨xa, xw, xt, xb, xe⟩ := x
  obtain ⟨ya, yw, yt, yb, ye⟩ := o
  obtain ⟨c0, c1, c2, c3, c4⟩ := op9_cells H1.out
  dsimp only at c0 c1 c2 c3 c4 d0 d1 d2 d3 d4
  clear h
  go_enter Try.func52, Try.ntmps52
  go_upto_region 1 with fail
  rw [← hwA]
  clear hwA
  go_wp2_with fail
  refine HC.out.mono ?_
  rintro e w1 ⟨rfl, b1⟩
  have HB1 := hide (below_here HBA.out b1)
  clear b1 c0 c1 c2 c3 c4 d0 d1 d2 d3 d4
  go_wp2_with fail
  go_ret
  exact ⟨rfl, HB1.out⟩
set_option maxHeartbeats 1600000 in
theorem waitsEnd_any (a : Option Addr) (n cap : Nat) (L : List O9) (us : List Bool) (vt : Value) (m0 m1 m2 : Int) (w : World) {lo hi : Nat} (h : Ops9 lo hi w a n L) (hn : n ≤ 12) (hu : us.length = n) :
    Calls Try.prog 51 #[.agg #[.slice a n cap, vt], stV (pb us : Int) m0 m1 m2, .func (.func 46) #[] #[]] w fun e w' => e = .returned (.bool (waitK L us endB L.length)) ∧ Below w.heap.size w w' := by
  obtain ⟨wA, hwA⟩ : ∃ wA, wA = (w.alloc (.cells #[.slice a n cap, vt] 56)).alloc (stO (pb us : Int) m0 m1 m2) := ⟨_, rfl⟩
  have HBA : Hid (Below w.heap.size w wA) := by rw [hwA]; exact ((Below.refl _ _).alloc (Nat.le_refl _) _).alloc (by simp) _
  have H0 : Hid (wA.heap[w.heap.size]? = some (.cells #[.slice a n cap, vt] 56)) := by rw [hwA]; exact heap_old (heap_new _ _)
  have H1 : Hid (wA.heap[w.heap.size + 1]? = some (stO (pb us : Int) m0 m1 m2)) := by rw [hwA]; exact heap_at (by simp)
  have HY := hide (h.later HBA.out h.2.1)
  have HUL := hide hu
  obtain ⟨z0, z1⟩ := h9_two H0.out
  clear h hu
  go_enter Try.func51, Try.ntmps51
  go_upto_region 1 with fail
  rw [← hwA]
  clear hwA
  go_wp2_with fail
  go_loopw [12] (fun i wr => ∃ k : Nat, k ≤ n ∧ i = .int .i64 (k : Int) ∧ waitK L us endB k = false ∧ Below wA.heap.size wA wr) (fun i _ => n - (intOf i).toNat)
  case atStart => exact ⟨0, Nat.zero_le _, rfl, rfl, Below.refl _ _⟩
  case round =>
    clear z0 z1
    obtain ⟨k, hk, rfl, hwk, hbel⟩ := hrel
    obtain ⟨w1, hw1⟩ : ∃ w1, w1 = wr := ⟨_, rfl⟩
    subst hw1
    have HWK := hide hwk
    have HB := hide hbel
    clear hwk hbel
    by_cases hlt : k < n
    · obtain ⟨b, off, rfl, _, hb, hc⟩ := HY.out.2.2 (by omega)
      obtain ⟨x0, x1, x2, x3, x4⟩ := op9_row hc HB.out (show b < wA.heap.size by have := HY.out.2.1; have := HBA.out.size; omega) hlt
      have hkn : (k : Int) < (n : Int) := by omega
      have HKL : Hid (k < L.length) := by show k < _; rw [HY.out.1]; exact hlt
      obtain ⟨x, hx⟩ : ∃ x, x = o9At L k := ⟨_, rfl⟩
      have HX := hide hx
      rw [← hx] at x0 x1 x2 x3 x4
      obtain ⟨w2, hw2⟩ : ∃ w2, w2 = w1.alloc (o9O x 45) := ⟨_, rfl⟩
      have HP : Hid (w2.heap[w1.heap.size]? = some (o9O x 45)) := by rw [hw2]; exact heap_new _ _
      have HB2 : Hid (Below wA.heap.size wA w2) := by rw [hw2]; exact HB.out.alloc HB.out.size _
      have HC : ∀ W, Hid (Below wA.heap.size wA W → Calls Try.prog 46 #[o9G x] W fun e w' => e = .returned (.bool (endB x)) ∧ Below W.heap.size W w') := fun W hb => hasEnd_any x W
      have HWN : Hid (∀ q r, us.getD k false = q → endB x = r → waitK L us endB (k + 1) = (!q && r)) := fun q r hq hr => by
        show (waitK L us endB k || (!us.getD k false && endB (o9At L k))) = _
        rw [HWK.out, hq, ← HX.out, hr]; rfl
      have HWH : Hid (us.getD k false = false → endB x = true → waitK L us endB L.length = true) := fun h1 h2 => wait_hit HKL.out h1 (by rw [← HX.out]; exact h2)
      have HHS := hide (has_any us m0 m1 m2 k w2 (by omega) (by rw [HUL.out]; exact hn) .i64 rfl)
      obtain ⟨xa, xw, xt, xb, xe⟩ := x
      dsimp only at x0 x1 x2 x3 x4
      clear hc hx
      go_upto_region 4 with fail
      rw [← hw2]
      clear hw2 x0 x1 x2 x3 x4
      obtain ⟨c0, c1, c2, c3⟩ := four_cells (block_on H1.out HB2.out)
      go_wp2_with fail
      refine HHS.out.mono ?_
      rintro e w3 ⟨rfl, b3⟩
      have HB3 := hide (below_here HB2.out b3)
      have HP3 := hide (block_on HP.out b3)
      clear b3 c0 c1 c2 c3
      obtain ⟨q, hq⟩ : ∃ q, us.getD k false = q := ⟨_, rfl⟩
      have HQ := hide hq
      rw [hq]
      clear hq
      cases q with
      | true =>
        have HF : Hid (waitK L us endB (k + 1) = false) := by show _ = _; rw [HWN.out _ _ HQ.out rfl]; rfl
        go_wp2_with fail
        go_roundw
        case rel => exact ⟨k + 1, by omega, by go_num, HF.out, HB3.out⟩
        case measure => simp [intOf]; omega
      | false =>
        obtain ⟨x0, x1, x2, x3, x4⟩ := op9_cells HP3.out
        dsimp only at x0 x1 x2 x3 x4
        go_wp2_with fail
        refine ((HC _).out HB3.out).mono ?_
        rintro e w4 ⟨rfl, b4⟩
        have HB4 := hide (below_here HB3.out b4)
        clear b4 x0 x1 x2 x3 x4
        obtain ⟨r, hr⟩ : ∃ r, endB ⟨xa, xw, xt, xb, xe⟩ = r := ⟨_, rfl⟩
        have HR := hide hr
        rw [hr]
        clear hr
        cases r with
        | false =>
          have HF : Hid (waitK L us endB (k + 1) = false) := by show _ = _; rw [HWN.out _ _ HQ.out HR.out]; rfl
          go_wp2_with fail
          go_roundw
          case rel => exact ⟨k + 1, by omega, by go_num, HF.out, HB4.out⟩
          case measure => simp [intOf]; omega
        | true =>
          have HF : Hid (waitK L us endB L.length = true) := HWH.out HQ.out HR.out
          go_wp2_with fail
          go_ret
          exact ⟨ret_of HF.out.symm, below_here HBA.out HB4.out⟩
    · obtain rfl : k = n := by omega
      have HF : Hid (waitK L us endB L.length = false) := by show _ = _; rw [HY.out.1]; exact HWK.out
      go_wp2_with fail
      go_ret
      exact ⟨ret_of HF.out.symm, below_here HBA.out HB.out⟩
set_option maxHeartbeats 1600000 in
theorem waitsAhead_any (a : Option Addr) (n cap : Nat) (L : List O9) (us : List Bool) (vt : Value) (m0 m1 m2 : Int) (o : O9) (p : Nat) (T : TypeId) (w : World) {lo hi : Nat} (h : Ops9 lo hi w a n L) (hn : n ≤ 12) (hu : us.length = n) (hp : w.heap[p]? = some (o9O o T)) :
    Calls Try.prog 51 #[.agg #[.slice a n cap, vt], stV (pb us : Int) m0 m1 m2, .func (.func 52) #[] #[.pointer (some ⟨p, 0, none⟩)]] w fun e w' => e = .returned (.bool (waitK L us (aheadOf o) L.length)) ∧ Below w.heap.size w w' := by
  obtain ⟨wA, hwA⟩ : ∃ wA, wA = (w.alloc (.cells #[.slice a n cap, vt] 56)).alloc (stO (pb us : Int) m0 m1 m2) := ⟨_, rfl⟩
  have HBA : Hid (Below w.heap.size w wA) := by rw [hwA]; exact ((Below.refl _ _).alloc (Nat.le_refl _) _).alloc (by simp) _
  have H0 : Hid (wA.heap[w.heap.size]? = some (.cells #[.slice a n cap, vt] 56)) := by rw [hwA]; exact heap_old (heap_new _ _)
  have H1 : Hid (wA.heap[w.heap.size + 1]? = some (stO (pb us : Int) m0 m1 m2)) := by rw [hwA]; exact heap_at (by simp)
  have HY := hide (h.later HBA.out h.2.1)
  have HPO := hide (block_on hp HBA.out)
  clear hp
  have HUL := hide hu
  obtain ⟨z0, z1⟩ := h9_two H0.out
  clear h hu
  go_enter Try.func51, Try.ntmps51
  go_upto_region 1 with fail
  rw [← hwA]
  clear hwA
  go_wp2_with fail
  go_loopw [12] (fun i wr => ∃ k : Nat, k ≤ n ∧ i = .int .i64 (k : Int) ∧ waitK L us (aheadOf o) k = false ∧ Below wA.heap.size wA wr) (fun i _ => n - (intOf i).toNat)
  case atStart => exact ⟨0, Nat.zero_le _, rfl, rfl, Below.refl _ _⟩
  case round =>
    clear z0 z1
    obtain ⟨k, hk, rfl, hwk, hbel⟩ := hrel
    obtain ⟨w1, hw1⟩ : ∃ w1, w1 = wr := ⟨_, rfl⟩
    subst hw1
    have HWK := hide hwk
    have HB := hide hbel
    clear hwk hbel
    by_cases hlt : k < n
    · obtain ⟨b, off, rfl, _, hb, hc⟩ := HY.out.2.2 (by omega)
      obtain ⟨x0, x1, x2, x3, x4⟩ := op9_row hc HB.out (show b < wA.heap.size by have := HY.out.2.1; have := HBA.out.size; omega) hlt
      have hkn : (k : Int) < (n : Int) := by omega
      have HKL : Hid (k < L.length) := by show k < _; rw [HY.out.1]; exact hlt
      obtain ⟨x, hx⟩ : ∃ x, x = o9At L k := ⟨_, rfl⟩
      have HX := hide hx
      rw [← hx] at x0 x1 x2 x3 x4
      obtain ⟨w2, hw2⟩ : ∃ w2, w2 = w1.alloc (o9O x 45) := ⟨_, rfl⟩
      have HP : Hid (w2.heap[w1.heap.size]? = some (o9O x 45)) := by rw [hw2]; exact heap_new _ _
      have HB2 : Hid (Below wA.heap.size wA w2) := by rw [hw2]; exact HB.out.alloc HB.out.size _
      have HC : ∀ W, Hid (Below wA.heap.size wA W → Calls Try.prog 52 #[o9G x, .pointer (some ⟨p, 0, none⟩)] W fun e w' => e = .returned (.bool (aheadOf o x)) ∧ Below W.heap.size W w') := fun W hb => placedFn_any x o p T W (block_on HPO.out hb)
      have HWN : Hid (∀ q r, us.getD k false = q → (aheadOf o) x = r → waitK L us (aheadOf o) (k + 1) = (!q && r)) := fun q r hq hr => by
        show (waitK L us (aheadOf o) k || (!us.getD k false && (aheadOf o) (o9At L k))) = _
        rw [HWK.out, hq, ← HX.out, hr]; rfl
      have HWH : Hid (us.getD k false = false → (aheadOf o) x = true → waitK L us (aheadOf o) L.length = true) := fun h1 h2 => wait_hit HKL.out h1 (by rw [← HX.out]; exact h2)
      have HHS := hide (has_any us m0 m1 m2 k w2 (by omega) (by rw [HUL.out]; exact hn) .i64 rfl)
      obtain ⟨xa, xw, xt, xb, xe⟩ := x
      dsimp only at x0 x1 x2 x3 x4
      clear hc hx
      go_upto_region 4 with fail
      rw [← hw2]
      clear hw2 x0 x1 x2 x3 x4
      obtain ⟨c0, c1, c2, c3⟩ := four_cells (block_on H1.out HB2.out)
      go_wp2_with fail
      refine HHS.out.mono ?_
      rintro e w3 ⟨rfl, b3⟩
      have HB3 := hide (below_here HB2.out b3)
      have HP3 := hide (block_on HP.out b3)
      clear b3 c0 c1 c2 c3
      obtain ⟨q, hq⟩ : ∃ q, us.getD k false = q := ⟨_, rfl⟩
      have HQ := hide hq
      rw [hq]
      clear hq
      cases q with
      | true =>
        have HF : Hid (waitK L us (aheadOf o) (k + 1) = false) := by show _ = _; rw [HWN.out _ _ HQ.out rfl]; rfl
        go_wp2_with fail
        go_roundw
        case rel => exact ⟨k + 1, by omega, by go_num, HF.out, HB3.out⟩
        case measure => simp [intOf]; omega
      | false =>
        obtain ⟨x0, x1, x2, x3, x4⟩ := op9_cells HP3.out
        dsimp only at x0 x1 x2 x3 x4
        go_wp2_with fail
        refine ((HC _).out HB3.out).mono ?_
        rintro e w4 ⟨rfl, b4⟩
        have HB4 := hide (below_here HB3.out b4)
        clear b4 x0 x1 x2 x3 x4
        obtain ⟨r, hr⟩ : ∃ r, (aheadOf o) ⟨xa, xw, xt, xb, xe⟩ = r := ⟨_, rfl⟩
        have HR := hide hr
        rw [hr]
        clear hr
        cases r with
        | false =>
          have HF : Hid (waitK L us (aheadOf o) (k + 1) = false) := by show _ = _; rw [HWN.out _ _ HQ.out HR.out]; rfl
          go_wp2_with fail
          go_roundw
          case rel => exact ⟨k + 1, by omega, by go_num, HF.out, HB4.out⟩
          case measure => simp [intOf]; omega
        | true =>
          have HF : Hid (waitK L us (aheadOf o) L.length = true) := HWH.out HQ.out HR.out
          go_wp2_with fail
          go_ret
          exact ⟨ret_of HF.out.symm, below_here HBA.out HB4.out⟩
    · obtain rfl : k = n := by omega
      have HF : Hid (waitK L us (aheadOf o) L.length = false) := by show _ = _; rw [HY.out.1]; exact HWK.out
      go_wp2_with fail
      go_ret
      exact ⟨ret_of HF.out.symm, below_here HBA.out HB.out⟩
set_option maxHeartbeats 800000 in
theorem isWhole_any (a : Option Addr) (n cap : Nat) (L : List O9) (us : List Bool) (vt : Value) (m0 m1 m2 : Int) (w : World) {lo hi : Nat} (h : Ops9 lo hi w a n L) (hn : n ≤ 12) (hu : us.length = n) :
    Calls Try.prog 40 #[.agg #[.slice a n cap, vt], stV (pb us : Int) m0 m1 m2] w fun e w' => e = .returned (.bool (!waitK L us endB L.length)) ∧ Below w.heap.size w w' := by
  obtain ⟨wA, hwA⟩ : ∃ wA, wA = (w.alloc (.cells #[.slice a n cap, vt] 56)).alloc (stO (pb us : Int) m0 m1 m2) := ⟨_, rfl⟩
  have HBA : Hid (Below w.heap.size w wA) := by rw [hwA]; exact ((Below.refl _ _).alloc (Nat.le_refl _) _).alloc (by simp) _
  have H0 : Hid (wA.heap[w.heap.size]? = some (.cells #[.slice a n cap, vt] 56)) := by rw [hwA]; exact heap_old (heap_new _ _)
  have H1 : Hid (wA.heap[w.heap.size + 1]? = some (stO (pb us : Int) m0 m1 m2)) := by rw [hwA]; exact heap_at (by simp)
  have HC := hide (waitsEnd_any a n cap L us vt m0 m1 m2 wA (h.later HBA.out h.2.1) hn hu)
  obtain ⟨z0, z1⟩ := h9_two H0.out
  obtain ⟨c0, c1, c2, c3⟩ := four_cells H1.out
  go_enter Try.func40, Try.ntmps40
  go_upto_region 1 with fail
  rw [← hwA]
  clear hwA
  go_wp2_with fail
  refine HC.out.mono ?_
  rintro e w1 ⟨rfl, b1⟩
  have HB1 := hide (below_here HBA.out b1)
  clear b1
  go_wp2_with fail
  go_ret
  exact ⟨rfl, HB1.out⟩
end Go.Proofs.Ytnemncmaaejajaa
