/- For every slice of bytes the law FnLeases returns true and leaves its argument as it was; no condition. -/
import Derived.Test.YtaifokpepbhmcaaRows
import Derived.Test.YtaifokpepbhmcaaLeaseImpl
import Derived.Test.YtaifokpepbhmcaaLeaseDraw
import Derived.Test.YtaifokpepbhmcaaLawBase
import Derived.Deep.DeepCutAuto
import Derived.WalkKit
import Derived.ProofKit
import Derived.OpenShut
import Derived.ShutString
import Derived.ChangeOld
import Derived.Below
namespace Go.Proofs.Ytaifokpepbhmcaa.fnLeases
open Go.ChangeShapes Go.WideShapes Go.ChangeAt Go.RowKit
open Go.ChangeMaps (open_string shut_string)
set_option linter.unusedVariables false

theorem own : ownKnob Try.prog.godebug = none := by kernel_rfl
theorem laidOut : laidOutB Try.prog = true := by kernel_rfl

/-- WHAT THE WALK IS TOLD OF A SLICE OF INTEGERS THAT CAME IN: it is nil; or it leads to a row of 'cap' cells, the numbers 'zs' (the first 'len' are its elements, the rest its spare room), each fitting its kind. -/
def IsRow (k : IntKind) (w : World) (a : Option Addr) (len cap : Nat) (zs : List Int) : Prop :=
  (a = none ∧ len = 0 ∧ cap = 0 ∧ zs = []) ∨
  ∃ x, a = some x ∧ len ≤ cap ∧ cap ≤ maxLen ∧ zs.length = cap ∧ (∀ i, i < zs.length → w.cell? (x.add i) = some (.int k (zs.getD i 0))) ∧ ∀ n ∈ zs, (Lit.int k n).wf = true

set_option maxHeartbeats 3200000 in
set_option maxRecDepth 100000 in

theorem walk (a0 : Option Addr) (len0 cap0 : Nat) (z0 : List Int) (w : World) (w0 : IsRow .u8 w a0 len0 cap0 z0) :
    Calls Try.prog 8 #[.slice a0 len0 cap0] w fun e w' => e = .returned (.bool true) ∧ Below w.heap.size w w' := by
  obtain ⟨l, hA⟩ : ∃ l, Bytes 0 w.heap.size w a0 len0 l := ⟨_, bytes_of (by unfold IsRow at w0; exact w0)⟩
  have hlen : len0 ≤ 9223372036854775807 := by
    rcases w0 with ⟨_, rfl, _, _⟩ | ⟨x, _, hl, hm, _⟩
    · omega
    · unfold maxLen at hm; omega
  clear w0
  by_cases hbig : 4096 < len0
  · have hb' : decide (4096 < len0) = true := by simpa using hbig
    go_enter Try.func8, Try.ntmps8
    go_wp2_with fail
    refine (big_any a0 len0 cap0 w hlen).mono ?_
    rintro e w1 ⟨rfl, rfl⟩
    go_wp2_with fail
    go_ret
    exact ⟨rfl, Below.refl _ _⟩
  · have hb' : decide (4096 < len0) = false := by simpa using hbig
    have hn : len0 ≤ 4096 := by omega
    clear hbig
    have HA := hide hA
    clear hA
    go_enter Try.func8, Try.ntmps8
    go_wp2_with fail
    refine (big_any a0 len0 cap0 w hlen).mono ?_
    rintro e w1 ⟨rfl, rfl⟩
    go_wp2_with fail
    refine (drawRight_any a0 len0 cap0 l w HA.out hn).mono ?_
    rintro e w1 ⟨r, n, d, rfl, b1⟩
    have HB1 := hide b1
    clear b1
    go_wp2_with fail
    refine (drawLeast_any a0 len0 cap0 l w1 (HA.out.later HB1.out (Nat.le_refl _)) hn).mono ?_
    rintro e w2 ⟨x, y, rfl, b2⟩
    have HB2 := hide (below_here HB1.out b2)
    clear b2 HB1
    go_wp2_with fail
    refine (drawHolds_any a0 len0 cap0 l w2 (HA.out.later HB2.out (Nat.le_refl _)) hn).mono ?_
    rintro e w3 ⟨h1, h2, h3, h4, rfl, b3⟩
    have HB3 := hide (below_here HB2.out b3)
    clear b3 HB2
    go_wp2_with fail
    refine (drawMine_any a0 len0 cap0 l w3 (HA.out.later HB3.out (Nat.le_refl _)) hn).mono ?_
    rintro e w4 ⟨m1, m2, rfl, b4⟩
    have HB4 := hide (below_here HB3.out b4)
    clear b4 HB3
    go_wp2_with fail
    refine (implRight_any r n d w4).mono ?_
    rintro e w5 ⟨rfl, b5⟩
    have HB5 := hide (below_here HB4.out b5)
    clear b5 HB4
    go_wp2_with fail
    refine (specRight_any r n d w5).mono ?_
    rintro e w6 ⟨rfl, rfl⟩
    go_wp2_with fail
    refine (implLeast_any x y w5).mono ?_
    rintro e w6 ⟨rfl, b6⟩
    have HB6 := hide (below_here HB5.out b6)
    clear b6 HB5
    go_wp2_with fail
    refine (specLeast_any x y w6).mono ?_
    rintro e w7 ⟨rfl, rfl⟩
    go_wp2_with fail
    refine (implHolds_any h1 h2 h3 h4 w6).mono ?_
    rintro e w7 ⟨rfl, b7⟩
    have HB7 := hide (below_here HB6.out b7)
    clear b7 HB6
    go_wp2_with fail
    refine (specHolds_any h1 h2 h3 h4 w7).mono ?_
    rintro e w8 ⟨rfl, rfl⟩
    go_wp2_with fail
    refine (implMine_any m1 m2 w7).mono ?_
    rintro e w8 ⟨rfl, b8⟩
    have HB8 := hide (below_here HB7.out b8)
    clear b8 HB7
    go_wp2_with fail
    refine (specMine_any m1 m2 w8).mono ?_
    rintro e w9 ⟨rfl, rfl⟩
    go_wp2_with fail
    refine (implLeast_any x y w8).mono ?_
    rintro e w9 ⟨rfl, b9⟩
    have HB9 := hide (below_here HB8.out b9)
    clear b9 HB8
    obtain ⟨K, hK⟩ : ∃ K, K = leastI x y := ⟨_, rfl⟩
    rw [← hK]
    have HK := hide hK
    clear hK
    go_upto_region 10 with fail
    go_cut [121] (fun c wx => c = .bool false ∧ Below w9.heap.size w9 wx)
    case first =>
      as_aux_lemma =>
        by_cases h0 : 0 ≤ K
        · obtain ⟨k0, k1, hx0, hx1, hy0, hy1⟩ := least_in (r := x) (d := y) (by rw [← HK.out]; exact h0)
          rw [← HK.out] at k0 k1
          have hq := prod_small hx0 hx1 (c := 1000000 + y) (by omega) (by omega)
          go_wp2_with fail
          refine (implRight_any x K y w9).mono ?_
          rintro e u1 ⟨rfl, d1⟩
          have HD1 := hide d1
          clear d1
          cases hr : rightB x K y
          · have HR := hide hr
            clear hr
            by_cases hp : 0 < x
            · have hno : ¬ K * 1000000 ≤ x * (1000000 + y) := fun hc => by
                have := least_right (r := x) (d := y) (by rw [← HK.out]; exact h0) (by rw [← HK.out]; exact hc)
                rw [← HK.out, HR.out] at this; cases this
              by_cases hk : 0 < K
              · go_wp2_with fail
                refine (implRight_any x (K - 1) y u1).mono ?_
                rintro e u2 ⟨rfl, d2⟩
                have HD2 := hide (below_here HD1.out d2)
                have HL : Hid (rightB x (K - 1) y = false) := by have := least_first (r := x) (d := y) (by rw [← HK.out]; exact h0); rw [← HK.out] at this; exact this
                rw [HL.out]
                clear d2
                go_wp2_with fail
                go_meet
                exact ⟨by rw [decide_eq_false (Int.not_le.2 hno)], HD2.out⟩
              · exfalso
                omega
            · by_cases hk : 0 < K
              · go_wp2_with fail
                refine (implRight_any x (K - 1) y u1).mono ?_
                rintro e u2 ⟨rfl, d2⟩
                have HD2 := hide (below_here HD1.out d2)
                have HL : Hid (rightB x (K - 1) y = false) := by have := least_first (r := x) (d := y) (by rw [← HK.out]; exact h0); rw [← HK.out] at this; exact this
                rw [HL.out]
                clear d2
                go_wp2_with fail
                go_meet
                exact ⟨rfl, HD2.out⟩
              · go_wp2_with fail
                go_meet
                exact ⟨rfl, HD1.out⟩
          · clear hr
            by_cases hk : 0 < K
            · go_wp2_with fail
              refine (implRight_any x (K - 1) y u1).mono ?_
              rintro e u2 ⟨rfl, d2⟩
              have HD2 := hide (below_here HD1.out d2)
              have HL : Hid (rightB x (K - 1) y = false) := by have := least_first (r := x) (d := y) (by rw [← HK.out]; exact h0); rw [← HK.out] at this; exact this
              rw [HL.out]
              clear d2
              go_wp2_with fail
              go_meet
              exact ⟨rfl, HD2.out⟩
            · go_wp2_with fail
              go_meet
              exact ⟨rfl, HD1.out⟩
        · go_wp2_with fail
          go_meet
          exact ⟨rfl, Below.refl _ _⟩
    case rest =>
      obtain ⟨rfl, hbc⟩ := hcut
      have HB10 := hide (below_here HB9.out hbc)
      clear hbc HB9
      go_wp2_with fail
      refine (pick_far a0 len0 cap0 l 1 100001 _ (HA.out.later HB10.out (Nat.le_refl _)) hn (by omega) (by omega) (by omega) (by omega)).mono ?_
      rintro e w11 ⟨D, rfl, D0, D1, rfl⟩
      go_wp2_with fail
      refine (pick_any a0 len0 cap0 l 2 5000 _ (HA.out.later HB10.out (Nat.le_refl _)) hn (by omega) (by omega) (by omega) (by omega)).mono ?_
      rintro e w11 ⟨L, rfl, L0, L1, rfl⟩
      go_wp2_with fail
      go_loopw [17] (fun i wr => ∃ k : Nat, k ≤ 8 ∧ i = .int .i64 (k : Int) ∧ Below w.heap.size w wr) (fun i _ => 8 - (intOf i).toNat)
      case atStart => exact ⟨0, Nat.zero_le _, rfl, HB10.out⟩
      case round =>
        as_aux_lemma =>
          obtain ⟨k, hk, rfl, hbel⟩ := hrel
          obtain ⟨wo, hwo⟩ : ∃ wo, wo = wr := ⟨_, rfl⟩
          subst hwo
          have HBL := hide hbel
          clear hbel HB10
          by_cases hlt : k < 8
          · go_wp2_with fail
            refine (pick_any a0 len0 cap0 l (10 + k) 6000 _ (HA.out.later HBL.out (Nat.le_refl _)) hn (by omega) (by omega) (by omega) (by omega)).mono ?_
            rintro e w11 ⟨R, rfl, R0, R1, rfl⟩
            go_wp2_with fail
            refine (pick_any a0 len0 cap0 l (20 + k) 1200 _ (HA.out.later HBL.out (Nat.le_refl _)) hn (by omega) (by omega) (by omega) (by omega)).mono ?_
            rintro e w11 ⟨M, rfl, M0, M1, rfl⟩
            go_wp2_with fail
            refine (pick_any a0 len0 cap0 l (30 + k) 1200 _ (HA.out.later HBL.out (Nat.le_refl _)) hn (by omega) (by omega) (by omega) (by omega)).mono ?_
            rintro e w11 ⟨Y, rfl, Y0, Y1, rfl⟩
            obtain ⟨A, hAe⟩ : ∃ A, A = R + M - 600 := ⟨_, rfl⟩
            obtain ⟨B, hBe⟩ : ∃ B, B = R + Y - 600 := ⟨_, rfl⟩
            by_cases hm0 : A < 0
            · go_wp2_with fail
              go_round
              case rel => exact ⟨k + 1, by omega, by go_num, HBL.out⟩
              case measure => simp [intOf]; omega
            · by_cases hy0 : B < 0
              · go_wp2_with fail
                go_round
                case rel => exact ⟨k + 1, by omega, by go_num, HBL.out⟩
                case measure => simp [intOf]; omega
              · go_wp2_with fail
                rw [← hAe]
                refine (specRight_any R A D _).mono ?_
                rintro e w12 ⟨rfl, rfl⟩
                cases hRA : rightB R A D
                · go_wp2_with fail
                  go_round
                  case rel => exact ⟨k + 1, by omega, by go_num, HBL.out⟩
                  case measure => simp [intOf]; omega
                · go_wp2_with fail
                  rw [← hBe]
                  refine (specRight_any R B D _).mono ?_
                  rintro e w12 ⟨rfl, rfl⟩
                  cases hRB : rightB R B D
                  · go_wp2_with fail
                    go_round
                    case rel => exact ⟨k + 1, by omega, by go_num, HBL.out⟩
                    case measure => simp [intOf]; omega
                  · go_wp2_with fail
                    rw [← hAe]
                    refine (implHolds_any 0 A L D _).mono ?_
                    rintro e w13 ⟨rfl, b13⟩
                    have HB13 := hide (below_here HBL.out b13)
                    clear b13
                    cases hH : holdsB 0 A L D
                    · go_wp2_with fail
                      go_round
                      case rel => exact ⟨k + 1, by omega, by go_num, HB13.out⟩
                      case measure => simp [intOf]; omega
                    · have hlt2 : B < L := holds_ahead hRA hRB hH
                      have hnl : ¬ L ≤ R + Y - 600 := by omega
                      go_wp2_with fail
                      go_round
                      case rel => exact ⟨k + 1, by omega, by go_num, HB13.out⟩
                      case measure => simp [intOf]; omega
          · go_wp2_with fail
            go_ret
            exact ⟨rfl, HBL.out⟩

/-! ### THE ROW's STEP: WRITTEN OUT: LEAVE IT -/
set_option maxRecDepth 100000 in
theorem lifted (os : Os) (started : os.Started) (H : Type) (enc : TypeId × Value → H) :
    ReturnsInHanded {} Try.checked os 8 .any (Rows.fnLeasesSpec.pre6 enc Try.prog Try.f8 Rows.fnLeasesRow.domain false) (Rows.fnLeasesSpec.post enc Try.prog Try.f8 false true false false) := by
  refine returnsInHanded_of_change (C := Try.checked) own started (by kernel_rfl) Try.func8
    (ChangeSpec.witness6 (enc := enc) (C := Try.checked) false ⟨#[], #[.slice none 0 0], []⟩ 8 (by kernel_rfl) (by kernel_rfl) (by kernel_rfl) (by kernel_rfl)) ?_
  intro W base args ds gs before hval0 hW hcnd _
  have hval : ∀ (j : Nat) t v, Try.f8.params[j]? = some t → args[j]? = some v → Value.okWide Try.prog W .any base t v := hval0
  have hW' := hW
  obtain ⟨p, q, hA0, hV, rfl, hfz, hnd⟩ := hW
  have hA : DataW.TrodAll enc Try.prog W 0 (fun _ => true) true Try.f8.params.toList args.toList ds p := hA0
  rw [Try.params8] at hA hval
  obtain ⟨v0, vs0, d0, ds0, p0, q0, hargs, rfl, rfl, h0, r0⟩ := trodAll_cons hA
  obtain ⟨rfl, rfl, rfl⟩ := trodAll_nil r0
  obtain rfl : args = #[v0] := by cases args; simp_all
  obtain ⟨rfl, rfl⟩ := trodVars_none hV
  obtain ⟨a0, len0, cap0, rfl⟩ := okWide_slice Try.underlying26 (hval 0 26 v0 rfl rfl)
  have k0 := h0
  have lt0 : ∀ x ∈ p0, x.block < W.heap.size := by obtain ⟨m, hm⟩ := k0; exact DataW.trod_lt m _ _ _ hm
  obtain ⟨z0, w0⟩ : ∃ zs, IsRow .u8 W a0 len0 cap0 zs := by
    obtain ⟨fuel, hf⟩ := h0
    rcases open_ints Try.underlying26 Try.underlying5 (by kernel_rfl) hf with ⟨hcs, _⟩ | ⟨x, l, c, zs, hcs, _, hl, hm, hz, _, hcell, hwz⟩
    · simp [Value.cells] at hcs
      obtain ⟨rfl, rfl, rfl⟩ := hcs
      exact ⟨[], .inl ⟨rfl, rfl, rfl, rfl⟩⟩
    · simp [Value.cells] at hcs
      obtain ⟨rfl, rfl, rfl⟩ := hcs
      exact ⟨zs, .inr ⟨_, rfl, hl, hm, by simpa using hz, hcell, hwz⟩⟩
  clear hA0 hval0
  refine (walk a0 len0 cap0 z0 W w0).mono fun e W' ⟨he, bel⟩ => ?_
  subst he
  exact ⟨_, rfl, _, _, _, [], _, [], hW', trodAll_mk1 (shut_bool Try.underlying4 _), (trodAll_cons_mk (Below.trod laidOut (by kernel_rfl) (of_decide_eq_true (by kernel_rfl)) k0 bel lt0) trodAll_mk0), rfl, bel.frame _, fun h => by cases h⟩

theorem over : Rows.fnLeasesRow.holds Try.pinned (OpenSpec.ofChange Rows.fnLeasesSpec) :=
  OpenClaim.holds_of_wide 8 Try.f8 rfl rfl rfl rfl rfl rfl rfl ⟨rfl, rfl, rfl, rfl, rfl⟩ rfl rfl rfl rfl rfl (by kernel_rfl) Try.func8 (by kernel_rfl)
    (of_decide_eq_true (by kernel_rfl)) (by unfold Func.isWrapper; first | (rw [if_pos (by decide +kernel)]; kernel_rfl) | (rw [if_neg (by decide +kernel)]; exact ⟨rfl, rfl⟩))
    (fun os started H enc _ => lifted os started H enc)

/-- ████ THE STATEMENT ████ -/
theorem proved : Rows.FnLeasesSaid := over
#print axioms proved
end Go.Proofs.Ytaifokpepbhmcaa.fnLeases
