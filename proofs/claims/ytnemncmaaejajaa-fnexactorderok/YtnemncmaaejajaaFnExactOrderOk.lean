/- For every list of operations and every list of int64 the law FnExactOrderOk returns true and leaves its arguments as they were; no condition. -/
import Derived.Test.YtnemncmaaejajaaRows
import Derived.Test.YtnemncmaaejajaaHistRead
import Derived.Test.YtnemncmaaejajaaHistWalk
import Derived.Test.YtnemncmaaejajaaHistOrd
import Derived.Test.YtnemncmaaejajaaHistImplF
import Derived.Test.YtnemncmaaejajaaWalkA
import Derived.Deep.Cut
import Derived.WalkKit
import Derived.ProofKit
import Derived.OpenShut
import Derived.ShutString
import Derived.ChangeOld
import Derived.Below
namespace Go.Proofs.Ytnemncmaaejajaa.fnExactOrderOk
open Go.ChangeShapes Go.WideShapes Go.ChangeAt Go.RowKit
open Go.ChangeMaps (open_string shut_string)
set_option linter.unusedVariables false

theorem own : ownKnob Try.prog.godebug = none := by kernel_rfl
theorem laidOut : laidOutB Try.prog = true := by kernel_rfl

set_option maxHeartbeats 4000000 in
set_option maxRecDepth 20000 in

theorem walk (a0 : Option Addr) (len0 cap0 : Nat) (z0 : List O9) (a1 : Option Addr) (len1 cap1 : Nat) (z1 : List Int) (w : World) (w0 : Ops9 0 w.heap.size w a0 len0 z0 ∧ (∀ x ∈ z0, o9Fits x) ∧ len0 ≤ maxLen) (w1 : Ints 0 w.heap.size w a1 len1 z1 ∧ len1 ≤ maxLen) :
    Calls Try.prog 5 #[.slice a0 len0 cap0, .slice a1 len1 cap1] w fun e w' => e = .returned (.bool true) ∧ Below w.heap.size w w' := by
  obtain ⟨hsq, hfi, hm⟩ := w0
  have HSQ := hide hsq
  have HF := hide hfi
  have HM := hide hm
  clear hsq hfi hm
  obtain ⟨hin, hm1⟩ := w1
  have HIN := hide hin
  have HM1 := hide hm1
  clear hin hm1
  by_cases hbig : 1048576 < len1
  · have hbigI : (1048576 : Int) < (len1 : Int) := by omega
    go_enter Try.func5, Try.ntmps5
    go_wp2_with fail
    go_ret
    exact ⟨rfl, Below.refl _ _⟩
  have HL1 : Hid (len1 ≤ 1048576) := by show _ ≤ _; omega
  have hbigI : ¬ (1048576 : Int) < (len1 : Int) := by omega
  clear hbig
  go_enter Try.func5, Try.ntmps5
  go_wp2_with fail
  refine (szOpS_any a0 len0 cap0 z0 1048576 w HSQ.out HM.out HF.out (by omega) (by omega)).mono ?_
  rintro e v1 ⟨⟨r, rfl, r1, r2, hr⟩, b1⟩
  have HB1 := hide b1
  clear b1
  by_cases h0 : 0 ≤ r
  · have hlen : len0 ≤ 1048576 := by have := hr h0; omega
    have HWT : Hid (weightO z0 ≤ 1048576) := by have := hr h0; show _ ≤ _; omega
    have HLEN := hide hlen
    clear hr
    have HTO : ∀ W, Hid (Below w.heap.size w W → Calls Try.prog 10 #[.slice a0 len0 cap0] W fun e w' => ∃ a', e = .returned (.slice a' len0 len0) ∧ OwnOps9 W.heap.size (W.heap.size + 1) w' a' len0 z0 ∧ Below W.heap.size W w') := fun W hb => toOpS_any a0 len0 cap0 z0 W (HSQ.out.later hb (Nat.le_refl _)) HLEN.out
    have hbb : (orderF z0 z1 != orderF z0 z1) = false := by simp
    have HTI : ∀ W, Hid (Below w.heap.size w W → Calls Try.prog 16 #[.slice a1 len1 cap1] W fun e w' => ∃ a', e = .returned (.slice a' len1 len1) ∧ OwnInts W.heap.size w'.heap.size w' a' len1 z1 ∧ Below W.heap.size W w') := fun W hb => to_any a1 len1 cap1 z1 W (HIN.out.later hb (Nat.le_refl _)) HL1.out
    go_wp2_with fail
    refine ((HTO _).out HB1.out).mono ?_
    rintro e v2 ⟨p2, rfl, o2, b2⟩
    have HB2 := hide (below_here HB1.out b2)
    have HO2 := hide o2
    clear b2 o2
    go_wp2_with fail
    refine ((HTI _).out HB2.out).mono ?_
    rintro e v3 ⟨s3, rfl, o3, b3⟩
    have HB3 := hide (below_here HB2.out b3)
    have HI3 := hide o3
    have HO23 := hide (HO2.out.later b3 HO2.out.2.1)
    clear b3 o3
    go_wp2_with fail
    refine (specOrderOk_any p2 len0 len0 z0 s3 len1 len1 z1 v3 HO23.out.ops (by have := HLEN.out; omega) HI3.out.ints HI3.out.2.1).mono ?_
    rintro e v4 ⟨rfl, b4⟩
    have HB4 := hide (below_here HB3.out b4)
    have BB4 := hide b4
    clear b4
    go_wp2_with fail
    refine ((HTO _).out HB4.out).mono ?_
    rintro e v5 ⟨p5, rfl, o5, b5⟩
    have HB5 := hide (below_here HB4.out b5)
    have HO5 := hide o5
    clear b5 o5
    go_wp2_with fail
    refine ((HTI _).out HB5.out).mono ?_
    rintro e v6 ⟨s6, rfl, o6, b6⟩
    have HB6 := hide (below_here HB5.out b6)
    have HI6 := hide o6
    have HO56 := hide (HO5.out.later b6 HO5.out.2.1)
    clear b6 o6
    go_wp2_with fail
    refine (implOrderOk_any p5 len0 len0 z0 s6 len1 len1 z1 v6 HO56.out.ops (by have := HLEN.out; omega) (Nat.le_refl _) HI6.out.ints HL1.out).mono ?_
    rintro e v7 ⟨rfl, b7⟩
    have HB7 := hide (below_here HB6.out b7)
    have BB7 := hide b7
    clear b7
    go_wp2_with fail
    refine ((HTO _).out HB7.out).mono ?_
    rintro e v8 ⟨p8, rfl, o8, b8⟩
    have HB8 := hide (below_here HB7.out b8)
    have HO8 := hide o8
    have HV8 := hide ((HO56.out.ops.later BB7.out HO56.out.2.1).later b8 (Nat.le_trans HO56.out.2.1 BB7.out.size))
    have HJ8 := hide ((HI6.out.ints.later BB7.out HI6.out.2.1).later b8 (Nat.le_trans HI6.out.2.1 BB7.out.size))
    clear b8 o8
    go_wp2_with fail
    refine (eqOpS_same p5 p8 len0 len0 len0 z0 v8 HV8.out HO8.out.ops HLEN.out).mono ?_
    rintro e v9 ⟨rfl, b9⟩
    have HB9 := hide (below_here HB8.out b9)
    have BB9 := hide b9
    clear b9
    go_wp2_with fail
    refine ((HTI _).out HB9.out).mono ?_
    rintro e v10 ⟨s10, rfl, o10, b10⟩
    have HB10 := hide (below_here HB9.out b10)
    have HI10 := hide o10
    have HJ10 := hide ((HJ8.out.later BB9.out HJ8.out.2.1).later b10 (Nat.le_trans HJ8.out.2.1 BB9.out.size))
    clear b10 o10
    have hdd : decide (z1 = z1) = true := decide_eq_true rfl
    have HEQ : Hid (Calls Try.prog 18 #[.slice s6 len1 len1, .slice s10 len1 len1] v10 fun e w' => e = .returned (.bool true) ∧ Below v10.heap.size v10 w') := by
      have h := eq_any s6 len1 len1 z1 s10 len1 len1 z1 v10 HJ10.out HI10.out.ints HL1.out HL1.out
      rw [hdd] at h
      exact h
    clear hdd
    go_wp2_with fail
    refine (HEQ.out).mono ?_
    rintro e v11 ⟨rfl, b11⟩
    have HB11 := hide (below_here HB10.out b11)
    have BB11 := hide b11
    clear b11
    go_wp2_with fail
    go_ret
    exact ⟨rfl, HB11.out⟩
  · clear hr
    go_wp2_with fail
    go_ret
    exact ⟨rfl, HB1.out⟩

/-! ### THE ROW's STEP: WRITTEN OUT: LEAVE IT -/
set_option maxRecDepth 100000 in
theorem lifted (os : Os) (started : os.Started) (H : Type) (enc : TypeId × Value → H) :
    ReturnsInHanded {} Try.checked os 5 .any (Rows.fnExactOrderOkSpec.pre6 enc Try.prog Try.f5 Rows.fnExactOrderOkRow.domain false) (Rows.fnExactOrderOkSpec.post enc Try.prog Try.f5 false true false false) := by
  refine returnsInHanded_of_change (C := Try.checked) own started (by kernel_rfl) Try.func5
    (ChangeSpec.witness6 (enc := enc) (C := Try.checked) false ⟨#[], #[.slice none 0 0, .slice none 0 0], []⟩ 8 (by kernel_rfl) (by kernel_rfl) (by kernel_rfl) (by kernel_rfl)) ?_
  intro W base args ds gs before hval0 hW hcnd _
  have hval : ∀ (j : Nat) t v, Try.f5.params[j]? = some t → args[j]? = some v → Value.okWide Try.prog W .any base t v := hval0
  have hW' := hW
  obtain ⟨p, q, hA0, hV, rfl, hfz, hnd⟩ := hW
  have hA : DataW.TrodAll enc Try.prog W 0 (fun _ => true) true Try.f5.params.toList args.toList ds p := hA0
  rw [Try.params5] at hA hval
  obtain ⟨v0, vs0, d0, ds0, p0, q0, hargs, rfl, rfl, h0, r0⟩ := trodAll_cons hA
  obtain ⟨v1, vs1, d1, ds1, p1, q1, rfl, rfl, rfl, h1, r1⟩ := trodAll_cons r0
  obtain ⟨rfl, rfl, rfl⟩ := trodAll_nil r1
  obtain rfl : args = #[v0, v1] := by cases args; simp_all
  obtain ⟨rfl, rfl⟩ := trodVars_none hV
  obtain ⟨a0, len0, cap0, rfl⟩ := okWide_slice Try.underlying22 (hval 0 22 v0 rfl rfl)
  have k0 := h0
  have lt0 : ∀ x ∈ p0, x.block < W.heap.size := by obtain ⟨m, hm⟩ := k0; exact DataW.trod_lt m _ _ _ hm
  obtain ⟨z0, w0⟩ := ops_read Try.underlying22 Try.underlying44 (by kernel_rfl) (by kernel_rfl) Try.underlying2 Try.underlying4 Try.underlying9 Try.underlying2 Try.underlying2 h0
  obtain ⟨a1, len1, cap1, rfl⟩ := okWide_slice Try.underlying31 (hval 1 31 v1 rfl rfl)
  have k1 := h1
  have lt1 : ∀ x ∈ p1, x.block < W.heap.size := by obtain ⟨m, hm⟩ := k1; exact DataW.trod_lt m _ _ _ hm
  obtain ⟨z1, w1⟩ := ints_read Try.underlying31 Try.underlying2 (by kernel_rfl) h1
  clear hA0 hval0
  refine (walk a0 len0 cap0 z0 a1 len1 cap1 z1 W w0 w1).mono fun e W' ⟨he, bel⟩ => ?_
  subst he
  exact ⟨_, rfl, _, _, _, [], _, [], hW', trodAll_mk1 (shut_bool Try.underlying4 _), (trodAll_cons_mk (Below.trod laidOut (by kernel_rfl) (of_decide_eq_true (by kernel_rfl)) k0 bel lt0) (trodAll_cons_mk (Below.trod laidOut (by kernel_rfl) (of_decide_eq_true (by kernel_rfl)) k1 bel lt1) trodAll_mk0)), rfl, bel.frame _, fun h => by cases h⟩

theorem over : Rows.fnExactOrderOkRow.holds Try.pinned (OpenSpec.ofChange Rows.fnExactOrderOkSpec) :=
  OpenClaim.holds_of_wide 5 Try.f5 rfl rfl rfl rfl rfl rfl rfl ⟨rfl, rfl, rfl, rfl, rfl⟩ rfl rfl rfl rfl rfl (by kernel_rfl) Try.func5 (by kernel_rfl)
    (of_decide_eq_true (by kernel_rfl)) (by unfold Func.isWrapper; first | (rw [if_pos (by decide +kernel)]; kernel_rfl) | (rw [if_neg (by decide +kernel)]; exact ⟨rfl, rfl⟩))
    (fun os started H enc _ => lifted os started H enc)

/-- ████ THE STATEMENT ████ -/
theorem proved : Rows.FnExactOrderOkSaid := over
#print axioms proved
end Go.Proofs.Ytnemncmaaejajaa.fnExactOrderOk
