/- For every slice of texts the law FnExactNewest returns true and leaves its argument as it was; no condition. -/
import Derived.Test.YteooaljhdmmooaaRows
import Derived.Test.YteooaljhdmmooaaM2MarkSpecC
import Derived.Test.YteooaljhdmmooaaM2MarkImplC
import Derived.Test.YteooaljhdmmooaaM2MarkImplA
import Derived.Test.YteooaljhdmmooaaM2TextWalk
import Derived.Test.YteooaljhdmmooaaM2ReadBase
import Derived.WalkKit
import Derived.ProofKit
import Derived.OpenShut
import Derived.ShutString
import Derived.ChangeOld
import Derived.Below
namespace Go.Proofs.Yteooaljhdmmooaa.fnExactNewest
open Go.ChangeShapes Go.WideShapes Go.ChangeAt Go.RowKit
open Go.ChangeMaps (open_string shut_string)
set_option linter.unusedVariables false

theorem own : ownKnob Try.prog.godebug = none := by kernel_rfl
theorem laidOut : laidOutB Try.prog = true := by kernel_rfl


theorem walk (a0 : Option Addr) (len0 cap0 : Nat) (z0 : List ByteArray) (w : World) (w0 : Texts 0 w.heap.size w a0 len0 z0 ∧ (∀ s ∈ z0, s.size ≤ maxLen) ∧ len0 ≤ maxLen) :
    Calls Try.prog 4 #[.slice a0 len0 cap0] w fun e w' => e = .returned (.bool true) ∧ Below w.heap.size w w' := by
  obtain ⟨hT, hsz, hm⟩ := w0
  have HT := hide hT
  have HS := hide (szT_any a0 len0 cap0 z0 w hT hm hsz)
  clear hT hsz hm
  go_enter Try.func4, Try.ntmps4
  go_wp2_with fail
  refine HS.out.mono ?_
  rintro e w1 ⟨⟨r, rfl, r1, r2, hr⟩, rfl⟩
  clear HS
  by_cases h0 : 0 ≤ r
  · have htot := hr h0
    have hn : len0 ≤ 1048576 := by omega
    have HZ : Hid (∀ s ∈ z0, s.size ≤ 1048576) := fun s hs => by have := total_le hs; omega
    clear hr htot
    go_wp2_with fail
    refine (toT_any a0 len0 cap0 z0 w HT.out hn).mono ?_
    rintro e w1 ⟨a1, rfl, o1, b1⟩
    have HO1 := hide o1
    have HB1 := hide b1
    clear o1 b1
    go_wp2_with fail
    obtain ⟨E, Q, B, A, hm⟩ : ∃ (E Q : Int) (B : Bool) (A : Int), newV (newestF z0) = .tuple #[.agg #[.int .i64 E, .int .i64 Q, .bool B], .int .i64 A] := ⟨_, _, _, _, rfl⟩
    have HCS : ∀ (a : Option Addr) (W : World), Hid (OwnTexts w.heap.size W.heap.size W a len0 z0 → Calls Try.prog 9 #[.slice a len0 len0] W fun r w' => r = .returned (.tuple #[.agg #[.int .i64 E, .int .i64 Q, .bool B], .int .i64 A]) ∧ Below W.heap.size W w') := fun a W ho => by
      have := specNewest_any a len0 len0 z0 W ho.texts hn HZ.out
      rw [hm] at this
      exact this
    have HCI : ∀ (lo : Nat) (a : Option Addr) (W : World), Hid (OwnTexts lo W.heap.size W a len0 z0 → Calls Try.prog 11 #[.slice a len0 len0] W fun r w' => r = .returned (.tuple #[.agg #[.int .i64 E, .int .i64 Q, .bool B], .int .i64 A]) ∧ Below W.heap.size W w') := fun lo a W ho => by
      have := implNewest_any a len0 len0 z0 W ho.texts hn HZ.out
      rw [hm] at this
      exact this
    clear hm
    refine ((HCS a1 w1).out HO1.out).mono ?_
    rintro e w2 ⟨rfl, b2⟩
    have hb2 := below_here HB1.out b2
    obtain ⟨w2', hw2⟩ : ∃ w', w' = w2.alloc (.cells #[.int .i64 E, .int .i64 Q, .bool B] 23) := ⟨_, rfl⟩
    have HB2 : Hid (Below w.heap.size w w2') := by rw [hw2]; exact hb2.alloc hb2.size _
    have HM2 : Hid (w2'.heap[w2.heap.size]? = some (.cells #[.int .i64 E, .int .i64 Q, .bool B] 23)) := by rw [hw2]; exact heap_new _ _
    clear b2 hb2 HO1 HB1
    go_upto_region 6 with fail
    rw [← hw2]
    clear hw2
    go_wp2_with fail
    refine (toT_any a0 len0 cap0 z0 w2' (HT.out.later HB2.out (Nat.le_refl _)) hn).mono ?_
    rintro e w3 ⟨a3, rfl, o3, b3⟩
    have HO3 := hide o3
    have HB3 := hide (below_here HB2.out b3)
    have HM3 := hide (block_on HM2.out b3)
    clear o3 b3 HB2 HM2
    go_wp2_with fail
    refine ((HCI _ a3 w3).out HO3.out).mono ?_
    rintro e w4 ⟨rfl, b4⟩
    have ho4 := HO3.out.later b4 (Nat.le_refl _)
    have hb4 := below_here HB3.out b4
    have hm4 := block_on HM3.out b4
    obtain ⟨w4', hw4⟩ : ∃ w', w' = w4.alloc (.cells #[.int .i64 E, .int .i64 Q, .bool B] 23) := ⟨_, rfl⟩
    have hn4 : Below w4.heap.size w4 w4' := by rw [hw4]; exact (Below.refl _ _).alloc (Nat.le_refl _) _
    have HB4 := hide (below_here hb4 hn4)
    have HO4 := hide (ho4.later hn4 ho4.2.1)
    have HM4 := hide (block_on hm4 hn4)
    have HN4 : Hid (w4'.heap[w4.heap.size]? = some (.cells #[.int .i64 E, .int .i64 Q, .bool B] 23)) := by rw [hw4]; exact heap_new _ _
    clear b4 ho4 hb4 hm4 hn4 HB3 HM3 HO3 HCS HCI
    go_upto_region 8 with fail
    rw [← hw4]
    clear hw4
    obtain ⟨d0, d1, d2⟩ := mk_cells HM4.out
    obtain ⟨e0, e1, e2⟩ := mk_cells HN4.out
    go_wp2_with fail
    refine (eqMark_any E Q B w4').mono ?_
    rintro e w5 ⟨rfl, b5⟩
    have HB5 := hide (below_here HB4.out b5)
    have HO5 := hide (HO4.out.later b5 HO4.out.2.1)
    clear b5 d0 d1 d2 e0 e1 e2 HB4 HO4 HM4 HN4
    go_wp2_with fail
    refine (toT_any a0 len0 cap0 z0 w5 (HT.out.later HB5.out (Nat.le_refl _)) hn).mono ?_
    rintro e w6 ⟨a6, rfl, o6, b6⟩
    have HO6 := hide o6
    have HO56 := hide (HO5.out.later b6 HO5.out.2.1)
    have HB6 := hide (below_here HB5.out b6)
    clear o6 b6 HO5 HB5
    go_wp2_with fail
    refine (eqT_any a3 len0 len0 z0 a6 len0 len0 z0 w6 HO56.out.texts HO6.out.texts hn hn).mono ?_
    rintro e w7 ⟨rfl, b7⟩
    have HB7 := hide (below_here HB6.out b7)
    clear b7
    go_wp2_with fail
    go_ret
    exact ⟨rfl, HB7.out⟩
  · clear hr
    go_wp2_with fail
    go_ret
    exact ⟨rfl, Below.refl _ _⟩

/-! ### THE ROW's STEP: WRITTEN OUT: LEAVE IT -/
set_option maxRecDepth 100000 in
theorem lifted (os : Os) (started : os.Started) (H : Type) (enc : TypeId × Value → H) :
    ReturnsInHanded {} Try.checked os 4 .any (Rows.fnExactNewestSpec.pre6 enc Try.prog Try.f4 Rows.fnExactNewestRow.domain false) (Rows.fnExactNewestSpec.post enc Try.prog Try.f4 false true false false) := by
  refine returnsInHanded_of_change (C := Try.checked) own started (by kernel_rfl) Try.func4
    (ChangeSpec.witness6 (enc := enc) (C := Try.checked) false ⟨#[], #[.slice none 0 0], []⟩ 8 (by kernel_rfl) (by kernel_rfl) (by kernel_rfl) (by kernel_rfl)) ?_
  intro W base args ds gs before hval0 hW hcnd _
  have hval : ∀ (j : Nat) t v, Try.f4.params[j]? = some t → args[j]? = some v → Value.okWide Try.prog W .any base t v := hval0
  have hW' := hW
  obtain ⟨p, q, hA0, hV, rfl, hfz, hnd⟩ := hW
  have hA : DataW.TrodAll enc Try.prog W 0 (fun _ => true) true Try.f4.params.toList args.toList ds p := hA0
  rw [Try.params4] at hA hval
  obtain ⟨v0, vs0, d0, ds0, p0, q0, hargs, rfl, rfl, h0, r0⟩ := trodAll_cons hA
  obtain ⟨rfl, rfl, rfl⟩ := trodAll_nil r0
  obtain rfl : args = #[v0] := by cases args; simp_all
  obtain ⟨rfl, rfl⟩ := trodVars_none hV
  obtain ⟨a0, len0, cap0, rfl⟩ := okWide_slice Try.underlying28 (hval 0 28 v0 rfl rfl)
  have k0 := h0
  have lt0 : ∀ x ∈ p0, x.block < W.heap.size := by obtain ⟨m, hm⟩ := k0; exact DataW.trod_lt m _ _ _ hm
  obtain ⟨z0, w0⟩ := texts_read Try.underlying28 Try.underlying9 (by kernel_rfl) h0
  clear hA0 hval0
  refine (walk a0 len0 cap0 z0 W w0).mono fun e W' ⟨he, bel⟩ => ?_
  subst he
  exact ⟨_, rfl, _, _, _, [], _, [], hW', trodAll_mk1 (shut_bool Try.underlying4 _), (trodAll_cons_mk (Below.trod laidOut (by kernel_rfl) (of_decide_eq_true (by kernel_rfl)) k0 bel lt0) trodAll_mk0), rfl, bel.frame _, fun h => by cases h⟩

theorem over : Rows.fnExactNewestRow.holds Try.pinned (OpenSpec.ofChange Rows.fnExactNewestSpec) :=
  OpenClaim.holds_of_wide 4 Try.f4 rfl rfl rfl rfl rfl rfl rfl ⟨rfl, rfl, rfl, rfl, rfl⟩ rfl rfl rfl rfl rfl (by kernel_rfl) Try.func4 (by kernel_rfl)
    (of_decide_eq_true (by kernel_rfl)) (by unfold Func.isWrapper; first | (rw [if_pos (by decide +kernel)]; kernel_rfl) | (rw [if_neg (by decide +kernel)]; exact ⟨rfl, rfl⟩))
    (fun os started H enc _ => lifted os started H enc)

/-- ████ THE STATEMENT ████ -/
theorem proved : Rows.FnExactNewestSaid := over
#print axioms proved
end Go.Proofs.Yteooaljhdmmooaa.fnExactNewest
