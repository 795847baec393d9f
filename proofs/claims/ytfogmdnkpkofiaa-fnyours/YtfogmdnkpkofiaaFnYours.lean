/- For every slice of bytes the law FnYours returns true and leaves its argument as it was; no condition. -/
import Derived.Test.YtfogmdnkpkofiaaRows
import Derived.Test.YtfogmdnkpkofiaaLeaseImpl
import Derived.Test.YtfogmdnkpkofiaaLeaseDraw
import Derived.Test.YtfogmdnkpkofiaaLawBase
import Derived.Deep.DeepCutAuto
import Derived.WalkKit
import Derived.ProofKit
import Derived.OpenShut
import Derived.ShutString
import Derived.ChangeOld
import Derived.Below
namespace Go.Proofs.Ytfogmdnkpkofiaa.fnYours
open Go.ChangeShapes Go.WideShapes Go.ChangeAt Go.RowKit
open Go.ChangeMaps (open_string shut_string)
set_option linter.unusedVariables false

theorem own : ownKnob Try.prog.godebug = none := by kernel_rfl
theorem laidOut : laidOutB Try.prog = true := by kernel_rfl

/-- WHAT THE WALK IS TOLD OF A SLICE OF INTEGERS THAT CAME IN: it is nil; or it leads to a row of 'cap' cells, the numbers 'zs' (the first 'len' are its elements, the rest its spare room), each fitting its kind. -/
def IsRow (k : IntKind) (w : World) (a : Option Addr) (len cap : Nat) (zs : List Int) : Prop :=
  (a = none ∧ len = 0 ∧ cap = 0 ∧ zs = []) ∨
  ∃ x, a = some x ∧ len ≤ cap ∧ cap ≤ maxLen ∧ zs.length = cap ∧ (∀ i, i < zs.length → w.cell? (x.add i) = some (.int k (zs.getD i 0))) ∧ ∀ n ∈ zs, (Lit.int k n).wf = true

theorem yours_no {l d : Int} (h : (tmOk l && drOk d) = false) : yoursI l d = -1 := by unfold yoursI; rw [if_neg (by rw [h]; simp)]
theorem yours_yes {l d : Int} (h : (tmOk l && drOk d) = true) : l < yoursI l d ∧ 0 ≤ l ∧ l ≤ 1099511627776 ∧ 0 ≤ d ∧ d ≤ 100000 ∧ mineI l d ≤ l ∧ yoursI l d ≤ 4398046511104 := by
  have h9 := h
  simp only [tmOk, drOk, inB, Bool.and_eq_true, decide_eq_true_eq] at h
  obtain ⟨⟨l0, l1⟩, d0, d1⟩ := h
  have e1 : yoursI l d = l * (1000000 + d) / (1000000 - d) + 1 := by unfold yoursI; rw [if_pos h9]
  have e2 : mineI l d = max 0 (l * (1000000 - d) / (1000000 + d) - 1) := by unfold mineI; rw [if_pos h9]
  have h1 : l ≤ l * (1000000 + d) / (1000000 - d) := by
    rw [Int.le_ediv_iff_mul_le (by omega)]
    exact Int.mul_le_mul_of_nonneg_left (by omega) l0
  have h2 : l * (1000000 - d) / (1000000 + d) ≤ l := by
    apply Int.ediv_le_of_le_mul (by omega)
    exact Int.mul_le_mul_of_nonneg_left (by omega) l0
  have h3 : l * (1000000 + d) / (1000000 - d) ≤ 2 * l := by
    apply Int.ediv_le_of_le_mul (by omega)
    have : l * (1000000 + d) ≤ l * (2 * (1000000 - d)) := Int.mul_le_mul_of_nonneg_left (by omega) l0
    have e : 2 * l * (1000000 - d) = l * (2 * (1000000 - d)) := by rw [Int.mul_comm 2 l, Int.mul_assoc]
    omega
  omega
set_option maxHeartbeats 3200000 in
set_option maxRecDepth 100000 in

theorem walk (a0 : Option Addr) (len0 cap0 : Nat) (z0 : List Int) (w : World) (w0 : IsRow .u8 w a0 len0 cap0 z0) :
    Calls Try.prog 5 #[.slice a0 len0 cap0] w fun e w' => e = .returned (.bool true) ∧ Below w.heap.size w w' := by
  obtain ⟨l, hA⟩ : ∃ l, Bytes 0 w.heap.size w a0 len0 l := ⟨_, bytes_of (by unfold IsRow at w0; exact w0)⟩
  have hlen : len0 ≤ 9223372036854775807 := by
    rcases w0 with ⟨_, rfl, _, _⟩ | ⟨x, _, hl, hm, _⟩
    · omega
    · unfold maxLen at hm; omega
  clear w0
  by_cases hbig : 4096 < len0
  · have hb' : decide (4096 < len0) = true := by simpa using hbig
    go_enter Try.func5, Try.ntmps5
    go_wp2_with fail
    refine (big_any a0 len0 cap0 w hlen).mono ?_
    rintro e w1 ⟨rfl, rfl⟩
    go_wp2_with fail
    go_ret
    exact ⟨rfl, Below.refl _ _⟩
  · have hb' : decide (4096 < len0) = false := by simpa using hbig
    have hn : len0 ≤ 4096 := by omega
    clear hbig
    have HA := hide hA
    clear hA
    go_enter Try.func5, Try.ntmps5
    go_wp2_with fail
    refine (big_any a0 len0 cap0 w hlen).mono ?_
    rintro e w1 ⟨rfl, rfl⟩
    go_wp2_with fail
    refine (drawYours_any a0 len0 cap0 l w HA.out hn).mono ?_
    rintro e w1 ⟨x, y, rfl, b1⟩
    have HB1 := hide b1
    clear b1
    go_wp2_with fail
    refine (implYours_any x y w1).mono ?_
    rintro e w2 ⟨rfl, b2⟩
    have HB2 := hide (below_here HB1.out b2)
    clear b2 HB1
    go_wp2_with fail
    refine (specYours_any x y w2).mono ?_
    rintro e w3 ⟨rfl, rfl⟩
    have hself : (yoursI x y != yoursI x y) = false := by simp
    cases hok : tmOk x && drOk y with
    | false =>
      rw [yours_no hok] at *
      by_cases h1 : x < 0
      · go_wp2_with fail
        go_ret
        exact ⟨rfl, HB2.out⟩
      · by_cases h2 : 1099511627776 < x
        · go_wp2_with fail
          go_ret
          exact ⟨rfl, HB2.out⟩
        · by_cases h3 : y < 0
          · go_wp2_with fail
            go_ret
            exact ⟨rfl, HB2.out⟩
          · by_cases h4 : 100000 < y
            · go_wp2_with fail
              go_ret
              exact ⟨rfl, HB2.out⟩
            · exfalso
              simp [tmOk, drOk, inB] at hok
              omega
    | true =>
      obtain ⟨y1, x0, x1, d0, d1, m1, ym⟩ := yours_yes hok
      have HM := hide m1
      have HY1 := hide y1
      clear m1 hok
      generalize yoursI x y = Z at *
      have hz0 : ¬ Z < 0 := by omega
      go_wp2_with fail
      refine (pick_far a0 len0 cap0 l 1 100001 _ (HA.out.later HB2.out (Nat.le_refl _)) hn (by omega) (by omega) (by omega) (by omega)).mono ?_
      rintro e w11 ⟨D, rfl, D0, D1, rfl⟩
      go_wp2_with fail
      refine (pick_any a0 len0 cap0 l 2 5000 _ (HA.out.later HB2.out (Nat.le_refl _)) hn (by omega) (by omega) (by omega) (by omega)).mono ?_
      rintro e w11 ⟨L, rfl, L0, L1, rfl⟩
      have HLD : Hid ((tmOk L && drOk D) = true) := by show _ = _; simp [tmOk, drOk, inB]; omega
      go_wp2_with fail
      go_loopw [8] (fun i wr => ∃ k : Nat, k ≤ 8 ∧ i = .int .i64 (k : Int) ∧ Below w.heap.size w wr) (fun i _ => 8 - (intOf i).toNat)
      case atStart => exact ⟨0, Nat.zero_le _, rfl, HB2.out⟩
      case round =>
        as_aux_lemma =>
          obtain ⟨k, hk, rfl, hbel⟩ := hrel
          obtain ⟨wo, hwo⟩ : ∃ wo, wo = wr := ⟨_, rfl⟩
          subst hwo
          have HBL := hide hbel
          clear hbel HB2
          by_cases hlt : k < 8
          · go_wp2_with fail
            refine (pick_any a0 len0 cap0 l (10 + k) 7000 _ (HA.out.later HBL.out (Nat.le_refl _)) hn (by omega) (by omega) (by omega) (by omega)).mono ?_
            rintro e w11 ⟨R, rfl, R0, R1, rfl⟩
            go_wp2_with fail
            refine (pick_any a0 len0 cap0 l (20 + k) 1400 _ (HA.out.later HBL.out (Nat.le_refl _)) hn (by omega) (by omega) (by omega) (by omega)).mono ?_
            rintro e w11 ⟨M, rfl, M0, M1, rfl⟩
            go_wp2_with fail
            refine (pick_any a0 len0 cap0 l (30 + k) 1400 _ (HA.out.later HBL.out (Nat.le_refl _)) hn (by omega) (by omega) (by omega) (by omega)).mono ?_
            rintro e w11 ⟨Y, rfl, Y0, Y1, rfl⟩
            obtain ⟨A, hAe⟩ : ∃ A, A = R + M - 700 := ⟨_, rfl⟩
            obtain ⟨B, hBe⟩ : ∃ B, B = R + Y - 700 := ⟨_, rfl⟩
            by_cases hm0 : A < 0
            · go_wp2_with fail
              go_round
              case rel => exact ⟨k + 1, by omega, by go_num, HBL.out⟩
              case measure => simp [intOf]; omega
            · by_cases hy0 : B < 0
              · go_wp2_with fail
                go_round
                case rel => exact ⟨k + 1, by omega, by go_num, HBL.out⟩
                case measure => simp [intOf]; omega
              · go_wp2_with fail
                rw [← hAe]
                refine (specRight_any R A D _).mono ?_
                rintro e w12 ⟨rfl, rfl⟩
                cases hRA : rightB R A D
                · go_wp2_with fail
                  go_round
                  case rel => exact ⟨k + 1, by omega, by go_num, HBL.out⟩
                  case measure => simp [intOf]; omega
                · go_wp2_with fail
                  rw [← hBe]
                  refine (specRight_any R B D _).mono ?_
                  rintro e w12 ⟨rfl, rfl⟩
                  cases hRB : rightB R B D
                  · go_wp2_with fail
                    go_round
                    case rel => exact ⟨k + 1, by omega, by go_num, HBL.out⟩
                    case measure => simp [intOf]; omega
                  · go_wp2_with fail
                    refine (implYours_any L D _).mono ?_
                    rintro e w13 ⟨rfl, b13⟩
                    have HB13 := hide (below_here HBL.out b13)
                    clear b13
                    by_cases hH : yoursI L D ≤ B
                    · have hlt2 : L ≤ A := yours_over hRA hRB HLD.out hH
                      have hnl : ¬ R + M - 700 < L := by omega
                      have hgl : yoursI L D ≤ R + Y - 700 := by omega
                      go_wp2_with fail
                      go_round
                      case rel => exact ⟨k + 1, by omega, by go_num, HB13.out⟩
                      case measure => simp [intOf]; omega
                    · have hgl : ¬ yoursI L D ≤ R + Y - 700 := by omega
                      go_wp2_with fail
                      go_round
                      case rel => exact ⟨k + 1, by omega, by go_num, HB13.out⟩
                      case measure => simp [intOf]; omega
          · have hy1 := HY1.out
            go_wp2_with fail
            refine (implMine_any x y _).mono ?_
            rintro e w13 ⟨rfl, b13⟩
            have HB13 := hide (below_here HBL.out b13)
            have hm1 := HM.out
            clear b13
            go_wp2_with fail
            go_ret
            exact ⟨ret_bool (by simp), HB13.out⟩

/-! ### THE ROW's STEP: WRITTEN OUT: LEAVE IT -/
set_option maxRecDepth 100000 in
theorem lifted (os : Os) (started : os.Started) (H : Type) (enc : TypeId × Value → H) :
    ReturnsInHanded {} Try.checked os 5 .any (Rows.fnYoursSpec.pre6 enc Try.prog Try.f5 Rows.fnYoursRow.domain false) (Rows.fnYoursSpec.post enc Try.prog Try.f5 false true false false) := by
  refine returnsInHanded_of_change (C := Try.checked) own started (by kernel_rfl) Try.func5
    (ChangeSpec.witness6 (enc := enc) (C := Try.checked) false ⟨#[], #[.slice none 0 0], []⟩ 8 (by kernel_rfl) (by kernel_rfl) (by kernel_rfl) (by kernel_rfl)) ?_
  intro W base args ds gs before hval0 hW hcnd _
  have hval : ∀ (j : Nat) t v, Try.f5.params[j]? = some t → args[j]? = some v → Value.okWide Try.prog W .any base t v := hval0
  have hW' := hW
  obtain ⟨p, q, hA0, hV, rfl, hfz, hnd⟩ := hW
  have hA : DataW.TrodAll enc Try.prog W 0 (fun _ => true) true Try.f5.params.toList args.toList ds p := hA0
  rw [Try.params5] at hA hval
  obtain ⟨v0, vs0, d0, ds0, p0, q0, hargs, rfl, rfl, h0, r0⟩ := trodAll_cons hA
  obtain ⟨rfl, rfl, rfl⟩ := trodAll_nil r0
  obtain rfl : args = #[v0] := by cases args; simp_all
  obtain ⟨rfl, rfl⟩ := trodVars_none hV
  obtain ⟨a0, len0, cap0, rfl⟩ := okWide_slice Try.underlying22 (hval 0 22 v0 rfl rfl)
  have k0 := h0
  have lt0 : ∀ x ∈ p0, x.block < W.heap.size := by obtain ⟨m, hm⟩ := k0; exact DataW.trod_lt m _ _ _ hm
  obtain ⟨z0, w0⟩ : ∃ zs, IsRow .u8 W a0 len0 cap0 zs := by
    obtain ⟨fuel, hf⟩ := h0
    rcases open_ints Try.underlying22 Try.underlying5 (by kernel_rfl) hf with ⟨hcs, _⟩ | ⟨x, l, c, zs, hcs, _, hl, hm, hz, _, hcell, hwz⟩
    · simp [Value.cells] at hcs
      obtain ⟨rfl, rfl, rfl⟩ := hcs
      exact ⟨[], .inl ⟨rfl, rfl, rfl, rfl⟩⟩
    · simp [Value.cells] at hcs
      obtain ⟨rfl, rfl, rfl⟩ := hcs
      exact ⟨zs, .inr ⟨_, rfl, hl, hm, by simpa using hz, hcell, hwz⟩⟩
  clear hA0 hval0
  refine (walk a0 len0 cap0 z0 W w0).mono fun e W' ⟨he, bel⟩ => ?_
  subst he
  exact ⟨_, rfl, _, _, _, [], _, [], hW', trodAll_mk1 (shut_bool Try.underlying4 _), (trodAll_cons_mk (Below.trod laidOut (by kernel_rfl) (of_decide_eq_true (by kernel_rfl)) k0 bel lt0) trodAll_mk0), rfl, bel.frame _, fun h => by cases h⟩

theorem over : Rows.fnYoursRow.holds Try.pinned (OpenSpec.ofChange Rows.fnYoursSpec) :=
  OpenClaim.holds_of_wide 5 Try.f5 rfl rfl rfl rfl rfl rfl rfl ⟨rfl, rfl, rfl, rfl, rfl⟩ rfl rfl rfl rfl rfl (by kernel_rfl) Try.func5 (by kernel_rfl)
    (of_decide_eq_true (by kernel_rfl)) (by unfold Func.isWrapper; first | (rw [if_pos (by decide +kernel)]; kernel_rfl) | (rw [if_neg (by decide +kernel)]; exact ⟨rfl, rfl⟩))
    (fun os started H enc _ => lifted os started H enc)

/-- ████ THE STATEMENT ████ -/
theorem proved : Rows.FnYoursSaid := over
#print axioms proved
end Go.Proofs.Ytfogmdnkpkofiaa.fnYours
