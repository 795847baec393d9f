/- For every list of operations and every two int64 the law FnExactAhead returns true and leaves its arguments as they were; no condition. -/
import Derived.Test.YtnemncmaaejajaaRows
import Derived.Test.YtnemncmaaejajaaHistRead
import Derived.Test.YtnemncmaaejajaaHistWalk
import Derived.Test.YtnemncmaaejajaaHistAhead
import Derived.Deep.Cut
import Derived.WalkKit
import Derived.ProofKit
import Derived.OpenShut
import Derived.ShutString
import Derived.ChangeOld
import Derived.Below
namespace Go.Proofs.Ytnemncmaaejajaa.fnExactAhead
open Go.ChangeShapes Go.WideShapes Go.ChangeAt Go.RowKit
open Go.ChangeMaps (open_string shut_string)
set_option linter.unusedVariables false

theorem own : ownKnob Try.prog.godebug = none := by kernel_rfl
theorem laidOut : laidOutB Try.prog = true := by kernel_rfl

set_option maxHeartbeats 4000000 in
set_option maxRecDepth 20000 in

theorem walk (a0 : Option Addr) (len0 cap0 : Nat) (z0 : List O9) (a1 : Int) (a2 : Int) (w : World) (w0 : Ops9 0 w.heap.size w a0 len0 z0 ∧ (∀ x ∈ z0, o9Fits x) ∧ len0 ≤ maxLen) (w1 : (Lit.int .i64 a1).wf = true) (w2 : (Lit.int .i64 a2).wf = true) :
    Calls Try.prog 4 #[.slice a0 len0 cap0, .int .i64 a1, .int .i64 a2] w fun e w' => e = .returned (.bool true) ∧ Below w.heap.size w w' := by
  obtain ⟨hsq, hfi, hm⟩ := w0
  have HSQ := hide hsq
  have HF := hide hfi
  have HM := hide hm
  clear hsq hfi hm
  go_enter Try.func4, Try.ntmps4
  go_wp2_with fail
  refine (szOpS_any a0 len0 cap0 z0 1048576 w HSQ.out HM.out HF.out (by omega) (by omega)).mono ?_
  rintro e v1 ⟨⟨r, rfl, r1, r2, hr⟩, b1⟩
  have HB1 := hide b1
  clear b1
  by_cases h0 : 0 ≤ r
  · have hlen : len0 ≤ 1048576 := by have := hr h0; omega
    have HWT : Hid (weightO z0 ≤ 1048576) := by have := hr h0; show _ ≤ _; omega
    have HLEN := hide hlen
    clear hr
    have HTO : ∀ W, Hid (Below w.heap.size w W → Calls Try.prog 10 #[.slice a0 len0 cap0] W fun e w' => ∃ a', e = .returned (.slice a' len0 len0) ∧ OwnOps9 W.heap.size (W.heap.size + 1) w' a' len0 z0 ∧ Below W.heap.size W w') := fun W hb => toOpS_any a0 len0 cap0 z0 W (HSQ.out.later hb (Nat.le_refl _)) HLEN.out
    have hbb : (aheadF z0 a1 a2 != aheadF z0 a1 a2) = false := by simp
    go_wp2_with fail
    refine ((HTO _).out HB1.out).mono ?_
    rintro e v2 ⟨p2, rfl, o2, b2⟩
    have HB2 := hide (below_here HB1.out b2)
    have HO2 := hide o2
    clear b2 o2
    go_wp2_with fail
    refine (specAhead_any p2 len0 len0 z0 a1 a2 v2 HO2.out.ops (by have := HLEN.out; omega)).mono ?_
    rintro e v3 ⟨rfl, b3⟩
    have HB3 := hide (below_here HB2.out b3)
    have BB3 := hide b3
    clear b3
    go_wp2_with fail
    refine ((HTO _).out HB3.out).mono ?_
    rintro e v4 ⟨p4, rfl, o4, b4⟩
    have HB4 := hide (below_here HB3.out b4)
    have HO4 := hide o4
    clear b4 o4
    go_wp2_with fail
    refine (implAhead_any p4 len0 len0 z0 a1 a2 v4 HO4.out.ops (by have := HLEN.out; omega) (Nat.le_refl _)).mono ?_
    rintro e v5 ⟨rfl, b5⟩
    have HB5 := hide (below_here HB4.out b5)
    have BB5 := hide b5
    clear b5
    go_wp2_with fail
    refine ((HTO _).out HB5.out).mono ?_
    rintro e v6 ⟨p6, rfl, o6, b6⟩
    have HV6 := hide b6
    have HB6 := hide (below_here HB5.out b6)
    have HO6 := hide o6
    clear b6 o6
    go_wp2_with fail
    refine (eqOpS_same p4 p6 len0 len0 len0 z0 v6 ((HO4.out.ops.later BB5.out HO4.out.2.1).later (show Below v5.heap.size v5 v6 from HV6.out) (Nat.le_trans HO4.out.2.1 BB5.out.size)) HO6.out.ops HLEN.out).mono ?_
    rintro e v7 ⟨rfl, b7⟩
    have HB7 := hide (below_here HB6.out b7)
    have BB7 := hide b7
    clear b7
    go_wp2_with fail
    go_ret
    exact ⟨rfl, HB7.out⟩
  · clear hr
    go_wp2_with fail
    go_ret
    exact ⟨rfl, HB1.out⟩

/-! ### THE ROW's STEP: WRITTEN OUT: LEAVE IT -/
set_option maxRecDepth 100000 in
theorem lifted (os : Os) (started : os.Started) (H : Type) (enc : TypeId × Value → H) :
    ReturnsInHanded {} Try.checked os 4 .any (Rows.fnExactAheadSpec.pre6 enc Try.prog Try.f4 Rows.fnExactAheadRow.domain false) (Rows.fnExactAheadSpec.post enc Try.prog Try.f4 false true false false) := by
  refine returnsInHanded_of_change (C := Try.checked) own started (by kernel_rfl) Try.func4
    (ChangeSpec.witness6 (enc := enc) (C := Try.checked) false ⟨#[], #[.slice none 0 0, .int .i64 0, .int .i64 0], []⟩ 8 (by kernel_rfl) (by kernel_rfl) (by kernel_rfl) (by kernel_rfl)) ?_
  intro W base args ds gs before hval0 hW hcnd _
  have hval : ∀ (j : Nat) t v, Try.f4.params[j]? = some t → args[j]? = some v → Value.okWide Try.prog W .any base t v := hval0
  have hW' := hW
  obtain ⟨p, q, hA0, hV, rfl, hfz, hnd⟩ := hW
  have hA : DataW.TrodAll enc Try.prog W 0 (fun _ => true) true Try.f4.params.toList args.toList ds p := hA0
  rw [Try.params4] at hA hval
  obtain ⟨v0, vs0, d0, ds0, p0, q0, hargs, rfl, rfl, h0, r0⟩ := trodAll_cons hA
  obtain ⟨v1, vs1, d1, ds1, p1, q1, rfl, rfl, rfl, h1, r1⟩ := trodAll_cons r0
  obtain ⟨v2, vs2, d2, ds2, p2, q2, rfl, rfl, rfl, h2, r2⟩ := trodAll_cons r1
  obtain ⟨rfl, rfl, rfl⟩ := trodAll_nil r2
  obtain rfl : args = #[v0, v1, v2] := by cases args; simp_all
  obtain ⟨rfl, rfl⟩ := trodVars_none hV
  obtain ⟨a0, len0, cap0, rfl⟩ := okWide_slice Try.underlying22 (hval 0 22 v0 rfl rfl)
  have k0 := h0
  have lt0 : ∀ x ∈ p0, x.block < W.heap.size := by obtain ⟨m, hm⟩ := k0; exact DataW.trod_lt m _ _ _ hm
  obtain ⟨z0, w0⟩ := ops_read Try.underlying22 Try.underlying44 (by kernel_rfl) (by kernel_rfl) Try.underlying2 Try.underlying4 Try.underlying9 Try.underlying2 Try.underlying2 h0
  obtain ⟨a1, rfl, rfl, rfl, w1⟩ := open_int Try.underlying2 (hval 1 2 v1 rfl rfl) h1
  obtain ⟨a2, rfl, rfl, rfl, w2⟩ := open_int Try.underlying2 (hval 2 2 v2 rfl rfl) h2
  clear hA0 hval0
  refine (walk a0 len0 cap0 z0 a1 a2 W w0 w1 w2).mono fun e W' ⟨he, bel⟩ => ?_
  subst he
  exact ⟨_, rfl, _, _, _, [], _, [], hW', trodAll_mk1 (shut_bool Try.underlying4 _), (trodAll_cons_mk (Below.trod laidOut (by kernel_rfl) (of_decide_eq_true (by kernel_rfl)) k0 bel lt0) (trodAll_cons_mk (shut_int Try.underlying2 w1) (trodAll_cons_mk (shut_int Try.underlying2 w2) trodAll_mk0))), rfl, bel.frame _, fun h => by cases h⟩

theorem over : Rows.fnExactAheadRow.holds Try.pinned (OpenSpec.ofChange Rows.fnExactAheadSpec) :=
  OpenClaim.holds_of_wide 4 Try.f4 rfl rfl rfl rfl rfl rfl rfl ⟨rfl, rfl, rfl, rfl, rfl⟩ rfl rfl rfl rfl rfl (by kernel_rfl) Try.func4 (by kernel_rfl)
    (of_decide_eq_true (by kernel_rfl)) (by unfold Func.isWrapper; first | (rw [if_pos (by decide +kernel)]; kernel_rfl) | (rw [if_neg (by decide +kernel)]; exact ⟨rfl, rfl⟩))
    (fun os started H enc _ => lifted os started H enc)

/-- ████ THE STATEMENT ████ -/
theorem proved : Rows.FnExactAheadSaid := over
#print axioms proved
end Go.Proofs.Ytnemncmaaejajaa.fnExactAhead
