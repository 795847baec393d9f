/- For every slice of bytes the law FnFree returns true and leaves its argument as it was; no condition. -/
import Derived.Test.YtfogmdnkpkofiaaRows
import Derived.Test.YtfogmdnkpkofiaaRDraw8k
import Derived.Test.YtfogmdnkpkofiaaRDraw8j
import Derived.Test.YtfogmdnkpkofiaaRChipGrow
import Derived.Test.YtfogmdnkpkofiaaRChipCutS
import Derived.Test.YtfogmdnkpkofiaaRChipAns
import Derived.Test.YtfogmdnkpkofiaaRWalkB1
import Derived.Deep.RegionHeld3
import Derived.Deep.DeepCutAuto
import Derived.BigRegion
import Derived.Deep.QuietTactic
import Derived.BigQuiet
import Derived.WalkKit
import Derived.ProofKit
import Derived.OpenShut
import Derived.ShutString
import Derived.ChangeOld
import Derived.Below
namespace Go.Proofs.Ytfogmdnkpkofiaa.fnFree
open Go.ChangeShapes Go.WideShapes Go.ChangeAt Go.RowKit
open Go.ChangeMaps (open_string shut_string)
set_option linter.unusedVariables false

theorem own : ownKnob Try.prog.godebug = none := by kernel_rfl
theorem laidOut : laidOutB Try.prog = true := by kernel_rfl

/-- WHAT THE WALK IS TOLD OF A SLICE OF INTEGERS THAT CAME IN: it is nil; or it leads to a row of 'cap' cells, the numbers 'zs' (the first 'len' are its elements, the rest its spare room), each fitting its kind. -/
def IsRow (k : IntKind) (w : World) (a : Option Addr) (len cap : Nat) (zs : List Int) : Prop :=
  (a = none ∧ len = 0 ∧ cap = 0 ∧ zs = []) ∨
  ∃ x, a = some x ∧ len ≤ cap ∧ cap ≤ maxLen ∧ zs.length = cap ∧ (∀ i, i < zs.length → w.cell? (x.add i) = some (.int k (zs.getD i 0))) ∧ ∀ n ∈ zs, (Lit.int k n).wf = true

set_option maxHeartbeats 8000000 in
set_option maxRecDepth 100000 in

theorem walk (a0 : Option Addr) (len0 cap0 : Nat) (z0 : List Int) (w : World) (w0 : IsRow .u8 w a0 len0 cap0 z0) :
    Calls Try.prog 3 #[.slice a0 len0 cap0] w fun e w' => e = .returned (.bool true) ∧ Below w.heap.size w w' := by
  obtain ⟨l, hA⟩ : ∃ l, Bytes 0 w.heap.size w a0 len0 l := ⟨_, bytes_of (by unfold IsRow at w0; exact w0)⟩
  have hlen : len0 ≤ 9223372036854775807 := by
    rcases w0 with ⟨_, rfl, _, _⟩ | ⟨x, _, hl, hm, _⟩
    · omega
    · unfold maxLen at hm; omega
  clear w0
  by_cases hbig : 4096 < len0
  · have hb' : decide (4096 < len0) = true := by simpa using hbig
    go_enter Try.func3, Try.ntmps3
    go_wp2_with fail
    refine (big_any a0 len0 cap0 w hlen).mono ?_
    rintro e w1 ⟨rfl, rfl⟩
    go_wp2_with fail
    go_ret
    exact ⟨rfl, Below.refl _ _⟩
  · have hb' : decide (4096 < len0) = false := by simpa using hbig
    have hn : len0 ≤ 4096 := by omega
    have hd : JobDraws := jobDraws
    clear hbig
    have HA := hide hA
    clear hA
    go_enter Try.func3, Try.ntmps3
    go_wp2_with fail
    refine (big_any a0 len0 cap0 w hlen).mono ?_
    rintro e w1 ⟨rfl, rfl⟩
    go_wp2_with fail
    refine (drawFree_any hd a0 len0 cap0 l w HA.out (Nat.le_refl _) hn).mono ?_
    rintro e w1 ⟨z3, a3, n3, c3, q3, rfl, hn3, hc3, hf3, hl3, hsq3, b1⟩
    obtain ⟨wX, hwX⟩ : ∃ wX, wX = w1.alloc (.cells #[.int .i64 z3, .slice a3 n3 c3] 26) := ⟨_, rfl⟩
    have HBX : Hid (Below w1.heap.size w1 wX) := by rw [hwX]; exact (Below.refl _ _).alloc (Nat.le_refl _) _
    have HK3 : Hid (wX.heap[w1.heap.size]? = some (.cells #[.int .i64 z3, .slice a3 n3 c3] 26)) := by rw [hwX]; exact heap_new _ _
    have HSQ3 := hide (hsq3.later HBX.out (Nat.le_refl _))
    have HB1 := hide (below_here b1 HBX.out)
    have HF3 := hide hf3
    clear hsq3 hf3 hl3 b1 HBX
    go_upto_region 4 with fail
    rw [← hwX]
    clear hwX
    obtain ⟨F, hF⟩ : ∃ F, F = free z3 q3 := ⟨_, rfl⟩
    have CI : ∀ W, Hid (Below wX.heap.size wX W → Calls Try.prog 8 #[.agg #[.int .i64 z3, .slice a3 n3 c3]] W fun e w' => e = .returned (.int .i64 F) ∧ Below W.heap.size W w') := fun W hb => by
      rw [hF]
      exact implFree_any z3 a3 n3 c3 q3 W (HSQ3.out.later hb HSQ3.out.hi_leD) (Nat.le_trans HSQ3.out.hi_leD hb.size) (by omega) HF3.out
    have CS : ∀ W, Hid (Below wX.heap.size wX W → Calls Try.prog 9 #[.agg #[.int .i64 z3, .slice a3 n3 c3]] W fun e w' => e = .returned (.int .i64 F) ∧ Below W.heap.size W w') := fun W hb => by
      rw [hF]
      exact specFree_any z3 a3 n3 c3 q3 W (HSQ3.out.later hb HSQ3.out.hi_leD) (Nat.le_trans HSQ3.out.hi_leD hb.size) (by omega) HF3.out
    clear hF HSQ3 HF3
    have hFF : (F != F) = false := by simp
    have HX0 : Hid (wX.heap[w1.heap.size]? = some (.cells #[.int .i64 z3, .slice a3 n3 c3] 26) ∧ Below wX.heap.size wX wX) := ⟨HK3.out, Below.refl _ _⟩
    go_region_held3 (fun W => W.cell? ⟨w1.heap.size, 0, none⟩ = some (.int .i64 z3) ∧ W.cell? ⟨w1.heap.size, 1, none⟩ = some (.slice a3 n3 c3))
      (first | with_reducible exact two_cells HK3.out | with_reducible exact two_cells (drew_onF HK3.out) | with_reducible exact two_cells HI1.out | with_reducible exact two_cells (drew_onF HI1.out) | with_reducible exact two_cells HI2.out | with_reducible exact two_cells (drew_onF HI2.out) | fail)
      (first
        | (go_at_call 8; refine ((CI _).out (by first | with_reducible exact HW0.out | with_reducible exact (Below.refl wX.heap.size wX).drew)).mono ?_; rintro e w2 ⟨rfl, b2⟩; have HW1 := hide (below_here (by first | with_reducible exact HW0.out | with_reducible exact (Below.refl wX.heap.size wX).drew) b2); have HI1 := hide (block_on HK3.out HW1.out); clear b2)
        | (go_at_call 9; refine ((CS _).out (by first | with_reducible exact HW1.out | with_reducible exact (Below.refl wX.heap.size wX).drew)).mono ?_; rintro e w3 ⟨rfl, b3⟩; have HW2 := hide (below_here (by first | with_reducible exact HW1.out | with_reducible exact (Below.refl wX.heap.size wX).drew) b3); have HI2 := hide (block_on HK3.out HW2.out); clear b3)
        | fail)
    have HB3 := hide (below_here HB1.out HW2.out)
    clear HW1 HW2 HI1 HI2 CI CS HX0
    go_wp2_with fail
    refine (drawDid_any hd a0 len0 cap0 l w3 (HA.out.later HB3.out (Nat.le_refl _)) HB3.out.size hn).mono ?_
    rintro e w4 ⟨z, a, n, c, qs, kd, sq, tx, rfl, hn4, htx, hf, hl, hsq, b4⟩
    obtain ⟨wY, hwY⟩ : ∃ wY, wY = (w4.alloc (.cells #[.int .i64 z, .slice a n c] 26)).alloc (.cells #[.int .i64 kd, .int .i64 sq, .string tx] 30) := ⟨_, rfl⟩
    have HZY : Hid (wY.heap.size = w4.heap.size + 2) := by show _ = _; rw [hwY]; simp
    have HBY : Hid (Below w4.heap.size w4 wY) := by rw [hwY]; exact ((Below.refl _ _).alloc (Nat.le_refl _) _).alloc (by simp) _
    have HKC : Hid (wY.heap[w4.heap.size]? = some (.cells #[.int .i64 z, .slice a n c] 26)) := by rw [hwY]; exact heap_old (heap_new _ _)
    have HKJ : Hid (wY.heap[w4.heap.size + 1]? = some (.cells #[.int .i64 kd, .int .i64 sq, .string tx] 30)) := by rw [hwY]; exact heap_at (by simp)
    have HSQ := hide (hsq.later HBY.out (Nat.le_refl _))
    have HB4 := hide (below_here (below_here HB3.out b4) HBY.out)
    have HF := hide hf
    clear hsq hf b4 HB3 HBY
    obtain ⟨k0, k1⟩ := two_cells HKC.out
    obtain ⟨j0, j1, j2⟩ := three_cells HKJ.out
    go_upto_region 7 with fail
    rw [← hwY]
    clear hwY
    go_wp2_with fail
    refine (specDid_ans z a n c qs kd sq tx wY HSQ.out HSQ.out.hi_leD (by omega) HF.out htx).mono ?_
    rintro e w5 ⟨v, rfl, ax, cx, rfl, ho, b5⟩
    obtain ⟨wZ, hwZ⟩ : ∃ wZ, wZ = w5.alloc (.cells #[.int .i64 (didZ z qs), .slice ax (didQ z qs (kd, sq, tx)).length cx] 26) := ⟨_, rfl⟩
    have HBZ : Hid (Below w5.heap.size w5 wZ) := by rw [hwZ]; exact (Below.refl _ _).alloc (Nat.le_refl _) _
    have HKX : Hid (wZ.heap[w5.heap.size]? = some (.cells #[.int .i64 (didZ z qs), .slice ax (didQ z qs (kd, sq, tx)).length cx] 26)) := by rw [hwZ]; exact heap_new _ _
    have HXO := hide (ho.later HBZ.out ho.1)
    have HKC5 := hide (block_on (block_on HKC.out b5) HBZ.out)
    have HKJ5 := hide (block_on (block_on HKJ.out b5) HBZ.out)
    have HSQ5 := hide ((HSQ.out.later b5 HSQ.out.hi_leD).later HBZ.out (Nat.le_trans HSQ.out.hi_leD b5.size))
    have HB5 := hide (below_here (below_here HB4.out b5) HBZ.out)
    clear ho b5 HBZ HKC HKJ HSQ HB4 k0 k1 j0 j1 j2
    obtain ⟨k0, k1⟩ := two_cells HKC5.out
    go_upto_region 8 with fail
    rw [← hwZ]
    clear hwZ
    go_wp2_with fail
    refine (implFree_any z a n c qs wZ HSQ5.out HSQ5.out.hi_leD (by omega) HF.out).mono ?_
    rintro e w6 ⟨rfl, b6⟩
    have HKX6 := hide (block_on HKX.out b6)
    have HKC6 := hide (block_on HKC5.out b6)
    have HKJ6 := hide (block_on HKJ5.out b6)
    have HSQ6 := hide (HSQ5.out.later b6 HSQ5.out.hi_leD)
    have HXO6 := hide (HXO.out.later b6 HXO.out.1)
    have HB6 := hide (below_here HB5.out b6)
    clear b6 HKX HKC5 HKJ5 HSQ5 HXO HB5 k0 k1
    cases hdb : didB z qs (kd, sq, tx) with
    | false =>
      obtain ⟨G, hG⟩ : ∃ G, G = free z qs := ⟨_, rfl⟩
      have hg : G = -1 ∨ 0 ≤ G := by
        rw [hG]
        cases hok : chipOk z qs with
        | false => exact .inl (by unfold free; rw [hok]; rfl)
        | true => exact .inr (by rw [free_at hok]; exact freeK_nonneg hok _ (Nat.le_refl _))
      rw [← hG]
      clear hG
      rcases hg with rfl | hg
      · go_wp2_with fail
        go_ret
        exact ⟨rfl, HB6.out⟩
      · have hne : (G == -1) = false := by rw [beq_eq_false_iff_ne]; omega
        go_wp2_with fail
        go_ret
        exact ⟨rfl, HB6.out⟩
    | true =>
      have hch : chipOk z qs = true := by
        unfold didB at hdb
        simp only [Bool.and_eq_true] at hdb
        exact hdb.1
      have hok2 : chipOk z (doJ z qs (kd, sq, tx)) = true := doJ_ok hch
      obtain ⟨i, hi, hil, hkk, g1, g2, g3⟩ := free_did hdb hok2
      dsimp only at hi hkk g1 g2 g3
      subst hi
      have hdz : didZ z qs = z := by unfold didZ; rw [hch]; rfl
      have hdq : didQ z qs (kd, (i : Int), tx) = doJ z qs (kd, (i : Int), tx) := by unfold didQ; rw [hch]; rfl
      rw [hdz, hdq] at HKX6
      rw [hdq] at HXO6
      have HFX := hide (chipOk_fits hok2)
      obtain ⟨Q, hQ⟩ : ∃ Q, Q = doJ z qs (kd, (i : Int), tx) := ⟨_, rfl⟩
      rw [← hQ] at HKX6 HXO6 HFX g1 g2 g3
      have hlq : Q.length ≤ 12 := by
        rw [hQ]
        have := hok2
        unfold chipOk at this
        simp only [Bool.and_eq_true, decide_eq_true_eq] at this
        exact this.2.2.1
      clear hQ hdz hdq hok2
      have hnq : qs.length = n := HSQ6.out.1
      obtain ⟨-, A, C, hrow, htx⟩ := HSQ6.out
      obtain ⟨b, off, rfl, _, hb, hc⟩ := hrow.2 (by omega)
      obtain ⟨y0, y1, y2⟩ := sq_cells hc (Below.refl _ w6) (show b < w6.heap.size by have := hrow.1; omega) (show i < n by omega)
      obtain ⟨H, hH⟩ : ∃ H, H = (sqAt qs i).1.length := ⟨_, rfl⟩
      rw [← hH] at y0 g2 g3
      have hH9 : H ≤ 9 := by
        rw [hH]
        have := hl (sqAt qs i) (by unfold sqAt; rw [List.getD_eq_getElem?_getD, List.getElem?_eq_getElem (by omega)]; exact List.getElem_mem _)
        exact this
      generalize A i = pA at y0
      generalize C i = cA at y0
      have hin : (i : Int) < (n : Int) := by omega
      clear hrow htx hc hH y1 y2 hdb
      obtain ⟨k0, k1⟩ := two_cells HKC6.out
      obtain ⟨j0, j1, j2⟩ := three_cells HKJ6.out
      obtain ⟨x0, x1⟩ := two_cells HKX6.out
      obtain ⟨G, hG⟩ : ∃ G, G = free z qs := ⟨_, rfl⟩
      rw [← hG] at g1 g2 g3
      rw [← hG]
      obtain ⟨G0, G1, Z0, Z1⟩ : 0 ≤ G ∧ G ≤ 1000 ∧ 1 ≤ z ∧ z ≤ 8 := by rw [hG]; exact free_in hch
      have HXS := hide HXO6.out.squares
      have CX : ∀ W, Hid (Below w6.heap.size w6 W → Calls Try.prog 8 #[.agg #[.int .i64 z, .slice ax Q.length cx]] W fun e w' => e = .returned (.int .i64 (free z Q)) ∧ Below W.heap.size W w') := fun W hb =>
        implFree_any z ax Q.length cx Q W (HXS.out.later hb HXS.out.hi_leD) (Nat.le_trans HXS.out.hi_leD hb.size) (by omega) HFX.out
      obtain ⟨R, hR⟩ : ∃ R, R = free z Q := ⟨_, rfl⟩
      rw [← hR] at g1 g2 g3 CX
      clear hG hR hch HXS HXO6 HFX
      rcases hkk with rfl | rfl | rfl
      · have hr : R = G - 1 := g1 rfl
        go_wp2_with fail
        refine ((CX _).out (Below.refl _ _)).mono ?_
        rintro e w7 ⟨rfl, b7⟩
        have HB7 := hide (below_here HB6.out b7)
        clear b7
        go_wp2_with fail
        go_ret
        exact ⟨ret_bool (by simp), HB7.out⟩
      · have hr : R = G + (H : Int) := g2 rfl
        go_wp2_with fail
        refine ((CX _).out (Below.refl _ _)).mono ?_
        rintro e w7 ⟨rfl, b7⟩
        have HB7 := hide (below_here HB6.out b7)
        clear b7
        go_wp2_with fail
        go_ret
        exact ⟨ret_bool (by simp), HB7.out⟩
      · have hr : R = G - z + (H : Int) := g3 rfl
        have hrr : (R == G - z + (H : Int)) = true := by simp [hr]
        have HRR := hide hrr
        have e1 : IntKind.i64.wrap (G - z) = G - z := by rw [IntKind.wrap_i64]; omega
        have e2 : IntKind.i64.wrap (G - z + (H : Int)) = G - z + (H : Int) := by rw [IntKind.wrap_i64]; omega
        have HE1 := hide e1
        have HE2 := hide e2
        have HRQ := hide hr
        clear hr g1 g2 g3 e1 e2
        go_upto_region 17 with fail
        go_region_held3 (fun W => W.cell? ⟨w5.heap.size, 0, none⟩ = some (.int .i64 z) ∧ W.cell? ⟨w5.heap.size, 1, none⟩ = some (.slice ax Q.length cx) ∧ W.cell? ⟨w4.heap.size, 0, none⟩ = some (.int .i64 z))
          (first | with_reducible exact ⟨(two_cells HKX6.out).1, (two_cells HKX6.out).2, (two_cells HKC6.out).1⟩ | with_reducible exact ⟨(two_cells (drew_onF HKX6.out)).1, (two_cells (drew_onF HKX6.out)).2, (two_cells (drew_onF HKC6.out)).1⟩ | with_reducible exact ⟨(two_cells HKX7.out).1, (two_cells HKX7.out).2, (two_cells HKC7.out).1⟩ | with_reducible exact ⟨(two_cells (drew_onF HKX7.out)).1, (two_cells (drew_onF HKX7.out)).2, (two_cells (drew_onF HKC7.out)).1⟩ | fail)
          (first
            | (go_at_call 8; refine ((CX _).out (Below.refl w6.heap.size w6).drew).mono ?_; rintro e w7 ⟨rfl, b7⟩; have HW7 := hide ((Below.refl w6.heap.size w6).drew.trans b7); have HKX7 := hide (block_on HKX6.out HW7.out); have HKC7 := hide (block_on HKC6.out HW7.out); clear b7)
            | fail)
        all_goals
          have HB7 := hide (below_here HB6.out HW7.out)
          go_wp2_with fail
          go_ret
          exact ⟨ret_bool (by rw [HE1.out, HE2.out]; exact HRR.out), HB7.out⟩

/-! ### THE ROW's STEP: WRITTEN OUT: LEAVE IT -/
set_option maxRecDepth 100000 in
theorem lifted (os : Os) (started : os.Started) (H : Type) (enc : TypeId × Value → H) :
    ReturnsInHanded {} Try.checked os 3 .any (Rows.fnFreeSpec.pre6 enc Try.prog Try.f3 Rows.fnFreeRow.domain false) (Rows.fnFreeSpec.post enc Try.prog Try.f3 false true false false) := by
  refine returnsInHanded_of_change (C := Try.checked) own started (by kernel_rfl) Try.func3
    (ChangeSpec.witness6 (enc := enc) (C := Try.checked) false ⟨#[], #[.slice none 0 0], []⟩ 8 (by kernel_rfl) (by kernel_rfl) (by kernel_rfl) (by kernel_rfl)) ?_
  intro W base args ds gs before hval0 hW hcnd _
  have hval : ∀ (j : Nat) t v, Try.f3.params[j]? = some t → args[j]? = some v → Value.okWide Try.prog W .any base t v := hval0
  have hW' := hW
  obtain ⟨p, q, hA0, hV, rfl, hfz, hnd⟩ := hW
  have hA : DataW.TrodAll enc Try.prog W 0 (fun _ => true) true Try.f3.params.toList args.toList ds p := hA0
  rw [Try.params3] at hA hval
  obtain ⟨v0, vs0, d0, ds0, p0, q0, hargs, rfl, rfl, h0, r0⟩ := trodAll_cons hA
  obtain ⟨rfl, rfl, rfl⟩ := trodAll_nil r0
  obtain rfl : args = #[v0] := by cases args; simp_all
  obtain ⟨rfl, rfl⟩ := trodVars_none hV
  obtain ⟨a0, len0, cap0, rfl⟩ := okWide_slice Try.underlying22 (hval 0 22 v0 rfl rfl)
  have k0 := h0
  have lt0 : ∀ x ∈ p0, x.block < W.heap.size := by obtain ⟨m, hm⟩ := k0; exact DataW.trod_lt m _ _ _ hm
  obtain ⟨z0, w0⟩ : ∃ zs, IsRow .u8 W a0 len0 cap0 zs := by
    obtain ⟨fuel, hf⟩ := h0
    rcases open_ints Try.underlying22 Try.underlying5 (by kernel_rfl) hf with ⟨hcs, _⟩ | ⟨x, l, c, zs, hcs, _, hl, hm, hz, _, hcell, hwz⟩
    · simp [Value.cells] at hcs
      obtain ⟨rfl, rfl, rfl⟩ := hcs
      exact ⟨[], .inl ⟨rfl, rfl, rfl, rfl⟩⟩
    · simp [Value.cells] at hcs
      obtain ⟨rfl, rfl, rfl⟩ := hcs
      exact ⟨zs, .inr ⟨_, rfl, hl, hm, by simpa using hz, hcell, hwz⟩⟩
  clear hA0 hval0
  refine (walk a0 len0 cap0 z0 W w0).mono fun e W' ⟨he, bel⟩ => ?_
  subst he
  exact ⟨_, rfl, _, _, _, [], _, [], hW', trodAll_mk1 (shut_bool Try.underlying4 _), (trodAll_cons_mk (Below.trod laidOut (by kernel_rfl) (of_decide_eq_true (by kernel_rfl)) k0 bel lt0) trodAll_mk0), rfl, bel.frame _, fun h => by cases h⟩

theorem over : Rows.fnFreeRow.holds Try.pinned (OpenSpec.ofChange Rows.fnFreeSpec) :=
  OpenClaim.holds_of_wide 3 Try.f3 rfl rfl rfl rfl rfl rfl rfl ⟨rfl, rfl, rfl, rfl, rfl⟩ rfl rfl rfl rfl rfl (by kernel_rfl) Try.func3 (by kernel_rfl)
    (of_decide_eq_true (by kernel_rfl)) (by unfold Func.isWrapper; first | (rw [if_pos (by decide +kernel)]; kernel_rfl) | (rw [if_neg (by decide +kernel)]; exact ⟨rfl, rfl⟩))
    (fun os started H enc _ => lifted os started H enc)

/-- ████ THE STATEMENT ████ -/
theorem proved : Rows.FnFreeSaid := over
#print axioms proved
end Go.Proofs.Ytfogmdnkpkofiaa.fnFree
