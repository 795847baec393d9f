/- For every list of operations and every int64 the law FnExactPart returns true and leaves its arguments as they were; no condition. -/
import Derived.Test.YtnemncmaaejajaaRows
import Derived.Test.YtnemncmaaejajaaHistRead
import Derived.Test.YtnemncmaaejajaaHistMark
import Derived.Test.YtnemncmaaejajaaHistPartI
import Derived.Deep.Cut
import Derived.WalkKit
import Derived.ProofKit
import Derived.OpenShut
import Derived.ShutString
import Derived.ChangeOld
import Derived.Below
namespace Go.Proofs.Ytnemncmaaejajaa.fnExactPart
open Go.ChangeShapes Go.WideShapes Go.ChangeAt Go.RowKit
open Go.ChangeMaps (open_string shut_string)
set_option linter.unusedVariables false

theorem own : ownKnob Try.prog.godebug = none := by kernel_rfl
theorem laidOut : laidOutB Try.prog = true := by kernel_rfl

set_option maxHeartbeats 4000000 in
set_option maxRecDepth 20000 in

theorem walk (a0 : Option Addr) (len0 cap0 : Nat) (z0 : List O9) (a1 : Int) (w : World) (w0 : Ops9 0 w.heap.size w a0 len0 z0 ∧ (∀ x ∈ z0, o9Fits x) ∧ len0 ≤ maxLen) (w1 : (Lit.int .i64 a1).wf = true) :
    Calls Try.prog 7 #[.slice a0 len0 cap0, .int .i64 a1] w fun e w' => e = .returned (.bool true) ∧ Below w.heap.size w w' := by
  obtain ⟨hsq, hfi, hm⟩ := w0
  have HSQ := hide hsq
  have HF := hide hfi
  have HM := hide hm
  clear hsq hfi hm
  go_enter Try.func7, Try.ntmps7
  go_wp2_with fail
  refine (szOpS_any a0 len0 cap0 z0 1048576 w HSQ.out HM.out HF.out (by omega) (by omega)).mono ?_
  rintro e v1 ⟨⟨r, rfl, r1, r2, hr⟩, b1⟩
  have HB1 := hide b1
  clear b1
  by_cases h0 : 0 ≤ r
  · have hlen : len0 ≤ 1048576 := by have := hr h0; omega
    have HWT : Hid (weightO z0 ≤ 1048576) := by have := hr h0; show _ ≤ _; omega
    have HLEN := hide hlen
    clear hr
    have HTO : ∀ W, Hid (Below w.heap.size w W → Calls Try.prog 10 #[.slice a0 len0 cap0] W fun e w' => ∃ a', e = .returned (.slice a' len0 len0) ∧ OwnOps9 W.heap.size (W.heap.size + 1) w' a' len0 z0 ∧ Below W.heap.size W w') := fun W hb => toOpS_any a0 len0 cap0 z0 W (HSQ.out.later hb (Nat.le_refl _)) HLEN.out
    have HTX : Hid (∀ i, i < len0 → (o9At z0 i).t.size ≤ 1048576) := fun i hi => Nat.le_trans (weightO_le (by rw [HSQ.out.1]; exact hi)) HWT.out
    obtain ⟨P, hP⟩ : ∃ P, partF z0 a1 = P := ⟨_, rfl⟩
    have HSX : ∀ p W lo hi, Hid (Ops9 lo hi W p len0 z0 → Calls Try.prog 24 #[.slice p len0 len0, .int .i64 a1] W (PartTo P W)) := fun p W lo hi hh => by rw [← hP]; exact specPart_any p len0 len0 z0 a1 W hh (by have := HLEN.out; omega)
    have HIX : ∀ p W lo hi, Hid (Ops9 lo hi W p len0 z0 → Calls Try.prog 25 #[.slice p len0 len0, .int .i64 a1] W (PartTo P W)) := fun p W lo hi hh => by rw [← hP]; exact implPart_any p len0 len0 z0 a1 W hh (by have := HLEN.out; omega) (Nat.le_refl _) HTX.out
    have hml : P.length ≤ 12 := by
      rw [← hP]
      unfold partF
      split
      · rename_i hok
        exact Nat.le_trans (List.length_filter_le _ _) (histOk_len hok)
      · simp
    clear hP
    have hLT : ∀ (W : World) e W', PartTo P W e W' → ∃ a c, e = .returned (.slice a P.length c) ∧ OwnOps9 W.heap.size W'.heap.size W' a P.length P ∧ Below W.heap.size W W' := fun W e W' h => by
      obtain ⟨v, rfl, ho, hb⟩ := h
      obtain ⟨a, c, rfl, _⟩ := o9_form ho
      exact ⟨a, c, rfl, o9_own ho, hb⟩
    have HLT := hide hLT
    obtain ⟨nx, hnx⟩ : ∃ nx, nx = P.length := ⟨_, rfl⟩
    rw [← hnx] at hml HLT
    have HML := hide hml
    clear hLT hml hnx
    go_wp2_with fail
    refine ((HTO _).out HB1.out).mono ?_
    rintro e v2 ⟨p2, rfl, o2, b2⟩
    have HB2 := hide (below_here HB1.out b2)
    have HO2 := hide o2
    clear b2 o2
    go_wp2_with fail
    refine (((HSX p2 v2 _ _).out HO2.out.ops).mono (HLT.out v2)).mono ?_
    rintro e v3 ⟨ay, cy, rfl, i3, b3⟩
    have HB3 := hide (below_here HB2.out b3)
    have HS3 := hide i3
    clear b3 i3 HO2
    go_wp2_with fail
    refine ((HTO _).out HB3.out).mono ?_
    rintro e v4 ⟨p4, rfl, o4, b4⟩
    have HB4 := hide (below_here HB3.out b4)
    have HO4 := hide o4
    have HS4 := hide (HS3.out.later b4 HS3.out.2.1)
    clear b4 o4 HS3
    go_wp2_with fail
    refine (((HIX p4 v4 _ _).out HO4.out.ops).mono (HLT.out v4)).mono ?_
    rintro e v5 ⟨ag, cg, rfl, i5, b5⟩
    have HB5 := hide (below_here HB4.out b5)
    have HG5 := hide i5
    have HO5 := hide (HO4.out.later b5 HO4.out.2.1)
    have HS5 := hide (HS4.out.later b5 HS4.out.2.1)
    have HZ5 : Hid (v4.heap.size ≤ v5.heap.size) := b5.size
    have HZ4 : Hid (v3.heap.size + 1 ≤ v4.heap.size) := HO4.out.2.1
    clear b5 i5 HO4 HS4
    go_wp2_with fail
    refine (eqOpS_same ag ay nx cg cy P v5 HG5.out.ops HS5.out.ops (by have := HML.out; omega)).mono ?_
    rintro e v6 ⟨rfl, b6⟩
    have HB6 := hide (below_here HB5.out b6)
    have HG6 := hide (HG5.out.later b6 HG5.out.2.1)
    have HO6 := hide (HO5.out.later b6 HO5.out.2.1)
    have HS6 := hide (HS5.out.later b6 HS5.out.2.1)
    clear b6 HG5 HO5 HS5
    go_wp2_with fail
    refine ((HTO _).out HB6.out).mono ?_
    rintro e v7 ⟨p7, rfl, o7, b7⟩
    have HB7 := hide (below_here HB6.out b7)
    have HO7 := hide o7
    have HG7 := hide (HG6.out.later b7 HG6.out.2.1)
    have HX7 := hide (HO6.out.later b7 HO6.out.2.1)
    have HS7 := hide (HS6.out.later b7 HS6.out.2.1)
    clear b7 o7 HG6 HO6 HS6
    go_wp2_with fail
    refine (eqOpS_same p4 p7 len0 len0 len0 z0 v7 HX7.out.ops HO7.out.ops HLEN.out).mono ?_
    rintro e v8 ⟨rfl, b8⟩
    have HB8 := hide (below_here HB7.out b8)
    have HG8 := hide (HG7.out.later b8 HG7.out.2.1)
    have HX8 := hide (HX7.out.later b8 HX7.out.2.1)
    have HS8 := hide (HS7.out.later b8 HS7.out.2.1)
    clear b8 HG7 HX7 HS7 HO7
    go_wp2_with fail
    refine (markOpS_to p4 len0 len0 z0 1 v8 HX8.out HLEN.out (by omega) (by have := HLEN.out; omega)).mono ?_
    rintro e v9 ⟨rfl, -, a9⟩
    have HB9 : Hid (Below w.heap.size w v9) := HB8.out.trans (a9.below (by have := HZ4.out; have := HB3.out.size; omega) HB8.out.size)
    have HG9 := hide (HG8.out.aside a9 (.inr (by have := HZ4.out; omega)))
    have HS9 := hide (HS8.out.aside a9 (.inl (by have := HZ4.out; omega)))
    clear a9 HG8 HX8 HS8
    have hkk : ¬ (((1 + 5 * len0 : Nat) : Int) < 0) := by omega
    go_wp2_with fail
    refine (eqOpS_same ag ay nx cg cy P v9 HG9.out.ops HS9.out.ops (by have := HML.out; omega)).mono ?_
    rintro e v10 ⟨rfl, b10⟩
    have HB10 := hide (below_here HB9.out b10)
    have HG10 := hide (HG9.out.later b10 HG9.out.2.1)
    have HS10 := hide (HS9.out.later b10 HS9.out.2.1)
    clear b10 HG9 HS9 hkk
    go_wp2_with fail
    refine (markOpS_to ag nx cg P 1 v10 HG10.out (by have := HML.out; omega) (by omega) (by have := HML.out; omega)).mono ?_
    rintro e v11 ⟨rfl, m11, a11⟩
    have HB11 : Hid (Below w.heap.size w v11) := HB10.out.trans (a11.below (by have := HZ4.out; have := HB3.out.size; omega) HB10.out.size)
    have HM11 := hide m11
    have HS11 := hide (HS10.out.aside a11 (.inl (by have := HZ4.out; omega)))
    clear a11 m11 HG10 HS10
    go_wp2_with fail
    refine (heldOpS_any ag nx cg 1 v11 HM11.out.ops (by have := HML.out; omega) (by omega) (by have := HML.out; omega)).mono ?_
    rintro e v12 ⟨rfl, b12⟩
    have HB12 := hide (below_here HB11.out b12)
    have HM12 := hide (HM11.out.later b12 HM11.out.2.1)
    have HS12 := hide (HS11.out.later b12 HS11.out.2.1)
    clear b12 HM11 HS11
    have hqq : ¬ (((1 + 5 * nx : Nat) : Int) < 0) := by omega
    go_wp2_with fail
    refine ((HTO _).out HB12.out).mono ?_
    rintro e v13 ⟨p13, rfl, o13, b13⟩
    have HB13 := hide (below_here HB12.out b13)
    have HO13 := hide o13
    have HM13 := hide (HM12.out.later b13 HM12.out.2.1)
    have HS13 := hide (HS12.out.later b13 HS12.out.2.1)
    clear b13 o13 HM12 HS12
    go_wp2_with fail
    refine (((HIX p13 v13 _ _).out HO13.out.ops).mono (HLT.out v13)).mono ?_
    rintro e v14 ⟨ah, ch, rfl, i14, b14⟩
    have HB14 := hide (below_here HB13.out b14)
    have HH14 := hide i14
    have HM14 := hide (HM13.out.later b14 HM13.out.2.1)
    have HS14 := hide (HS13.out.later b14 HS13.out.2.1)
    clear b14 i14 HM13 HS13 HO13
    go_wp2_with fail
    refine (eqOpS_same ah ay nx ch cy P v14 HH14.out.ops HS14.out.ops (by have := HML.out; omega)).mono ?_
    rintro e v15 ⟨rfl, b15⟩
    have HB15 := hide (below_here HB14.out b15)
    have HM15 := hide (HM14.out.later b15 HM14.out.2.1)
    clear b15 HM14 HS14 HH14
    go_wp2_with fail
    refine (heldOpS_any ag nx cg 1 v15 HM15.out.ops (by have := HML.out; omega) (by omega) (by have := HML.out; omega)).mono ?_
    rintro e v16 ⟨rfl, b16⟩
    have HB16 := hide (below_here HB15.out b16)
    clear b16
    go_wp2_with fail
    go_ret
    exact ⟨rfl, HB16.out⟩
  · clear hr
    go_wp2_with fail
    go_ret
    exact ⟨rfl, HB1.out⟩

/-! ### THE ROW's STEP: WRITTEN OUT: LEAVE IT -/
set_option maxRecDepth 100000 in
theorem lifted (os : Os) (started : os.Started) (H : Type) (enc : TypeId × Value → H) :
    ReturnsInHanded {} Try.checked os 7 .any (Rows.fnExactPartSpec.pre6 enc Try.prog Try.f7 Rows.fnExactPartRow.domain false) (Rows.fnExactPartSpec.post enc Try.prog Try.f7 false true false false) := by
  refine returnsInHanded_of_change (C := Try.checked) own started (by kernel_rfl) Try.func7
    (ChangeSpec.witness6 (enc := enc) (C := Try.checked) false ⟨#[], #[.slice none 0 0, .int .i64 0], []⟩ 8 (by kernel_rfl) (by kernel_rfl) (by kernel_rfl) (by kernel_rfl)) ?_
  intro W base args ds gs before hval0 hW hcnd _
  have hval : ∀ (j : Nat) t v, Try.f7.params[j]? = some t → args[j]? = some v → Value.okWide Try.prog W .any base t v := hval0
  have hW' := hW
  obtain ⟨p, q, hA0, hV, rfl, hfz, hnd⟩ := hW
  have hA : DataW.TrodAll enc Try.prog W 0 (fun _ => true) true Try.f7.params.toList args.toList ds p := hA0
  rw [Try.params7] at hA hval
  obtain ⟨v0, vs0, d0, ds0, p0, q0, hargs, rfl, rfl, h0, r0⟩ := trodAll_cons hA
  obtain ⟨v1, vs1, d1, ds1, p1, q1, rfl, rfl, rfl, h1, r1⟩ := trodAll_cons r0
  obtain ⟨rfl, rfl, rfl⟩ := trodAll_nil r1
  obtain rfl : args = #[v0, v1] := by cases args; simp_all
  obtain ⟨rfl, rfl⟩ := trodVars_none hV
  obtain ⟨a0, len0, cap0, rfl⟩ := okWide_slice Try.underlying22 (hval 0 22 v0 rfl rfl)
  have k0 := h0
  have lt0 : ∀ x ∈ p0, x.block < W.heap.size := by obtain ⟨m, hm⟩ := k0; exact DataW.trod_lt m _ _ _ hm
  obtain ⟨z0, w0⟩ := ops_read Try.underlying22 Try.underlying44 (by kernel_rfl) (by kernel_rfl) Try.underlying2 Try.underlying4 Try.underlying9 Try.underlying2 Try.underlying2 h0
  obtain ⟨a1, rfl, rfl, rfl, w1⟩ := open_int Try.underlying2 (hval 1 2 v1 rfl rfl) h1
  clear hA0 hval0
  refine (walk a0 len0 cap0 z0 a1 W w0 w1).mono fun e W' ⟨he, bel⟩ => ?_
  subst he
  exact ⟨_, rfl, _, _, _, [], _, [], hW', trodAll_mk1 (shut_bool Try.underlying4 _), (trodAll_cons_mk (Below.trod laidOut (by kernel_rfl) (of_decide_eq_true (by kernel_rfl)) k0 bel lt0) (trodAll_cons_mk (shut_int Try.underlying2 w1) trodAll_mk0)), rfl, bel.frame _, fun h => by cases h⟩

theorem over : Rows.fnExactPartRow.holds Try.pinned (OpenSpec.ofChange Rows.fnExactPartSpec) :=
  OpenClaim.holds_of_wide 7 Try.f7 rfl rfl rfl rfl rfl rfl rfl ⟨rfl, rfl, rfl, rfl, rfl⟩ rfl rfl rfl rfl rfl (by kernel_rfl) Try.func7 (by kernel_rfl)
    (of_decide_eq_true (by kernel_rfl)) (by unfold Func.isWrapper; first | (rw [if_pos (by decide +kernel)]; kernel_rfl) | (rw [if_neg (by decide +kernel)]; exact ⟨rfl, rfl⟩))
    (fun os started H enc _ => lifted os started H enc)

/-- ████ THE STATEMENT ████ -/
theorem proved : Rows.FnExactPartSaid := over
#print axioms proved
end Go.Proofs.Ytnemncmaaejajaa.fnExactPart
