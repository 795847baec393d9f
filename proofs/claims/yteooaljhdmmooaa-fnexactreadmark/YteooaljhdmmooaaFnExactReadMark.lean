/- For every text the law FnExactReadMark returns true and leaves its argument as it was; no condition. -/
import Derived.Test.YteooaljhdmmooaaRows
import Derived.Test.YteooaljhdmmooaaM2MarkSpecC
import Derived.Test.YteooaljhdmmooaaM2MarkImplC
import Derived.Test.YteooaljhdmmooaaM2MarkImplA
import Derived.WalkKit
import Derived.ProofKit
import Derived.OpenShut
import Derived.ShutString
namespace Go.Proofs.Yteooaljhdmmooaa.fnExactReadMark
open Go.ChangeShapes Go.WideShapes Go.ChangeAt Go.RowKit
open Go.ChangeMaps (open_string shut_string)
set_option linter.unusedVariables false      -- a walk need not use every 'w<i>' (that an integer argument fits its kind)

theorem own : ownKnob Try.prog.godebug = none := by kernel_rfl


theorem walk (a0 : ByteArray) (w0 : a0.size ≤ maxLen) (w : World) :
    Calls Try.prog 3 #[.string a0] w fun e w' => e = .returned (.bool true) ∧ Below w.heap.size w w' := by
  by_cases ha : a0.size ≤ 1048576
  · go_enter Try.func3, Try.ntmps3
    go_wp2_with fail
    refine (specReadMark_any a0 ha w).mono ?_
    rintro e w1 ⟨rfl, b1⟩
    obtain ⟨E, Q, B, hm⟩ : ∃ (E Q : Int) (B : Bool), optV (readM a0) = markV E Q B := by
      cases readM a0 with
      | none => exact ⟨_, _, _, rfl⟩
      | some m => exact ⟨_, _, _, rfl⟩
    obtain ⟨f, hf⟩ : ∃ f, f = (readM a0).isSome := ⟨_, rfl⟩
    have HC : ∀ W, Hid (Calls Try.prog 6 #[.string a0] W fun r w' => r = .returned (.tuple #[.agg #[.int .i64 E, .int .i64 Q, .bool B], .bool f]) ∧ Below W.heap.size W w') := fun W => by
      have := implReadMark_any a0 ha W
      rw [hm, ← hf] at this
      exact this
    rw [hm, ← hf]
    clear hm hf
    unfold markV
    obtain ⟨w2, hw2⟩ : ∃ w2, w2 = w1.alloc (.cells #[.int .i64 E, .int .i64 Q, .bool B] 23) := ⟨_, rfl⟩
    have HB2 : Hid (Below w.heap.size w w2) := by rw [hw2]; exact b1.alloc b1.size _
    have HM2 : Hid (w2.heap[w1.heap.size]? = some (.cells #[.int .i64 E, .int .i64 Q, .bool B] 23)) := by rw [hw2]; exact heap_new _ _
    clear b1
    go_upto_region 4 with fail
    rw [← hw2]
    clear hw2
    go_wp2_with fail
    refine ((HC w2).out).mono ?_
    rintro e w3 ⟨rfl, b3⟩
    have HM3 := hide (block_on HM2.out b3)
    have hb3 := below_here HB2.out b3
    obtain ⟨w4, hw4⟩ : ∃ w4, w4 = w3.alloc (.cells #[.int .i64 E, .int .i64 Q, .bool B] 23) := ⟨_, rfl⟩
    have HB4 : Hid (Below w.heap.size w w4) := by rw [hw4]; exact hb3.alloc hb3.size _
    have HM4 : Hid (w4.heap[w1.heap.size]? = some (.cells #[.int .i64 E, .int .i64 Q, .bool B] 23)) := by rw [hw4]; exact heap_old HM3.out
    have HN4 : Hid (w4.heap[w3.heap.size]? = some (.cells #[.int .i64 E, .int .i64 Q, .bool B] 23)) := by rw [hw4]; exact heap_new _ _
    clear b3 hb3 HM3 HB2 HM2 HC
    go_upto_region 5 with fail
    rw [← hw4]
    clear hw4
    obtain ⟨d0, d1, d2⟩ := mk_cells HM4.out
    obtain ⟨e0, e1, e2⟩ := mk_cells HN4.out
    go_wp2_with fail
    refine (eqMark_any E Q B w4).mono ?_
    rintro e w5 ⟨rfl, b5⟩
    have HB5 := hide (below_here HB4.out b5)
    clear b5 d0 d1 d2 e0 e1 e2
    go_wp2_with fail
    go_ret
    exact ⟨rfl, HB5.out⟩
  · go_enter Try.func3, Try.ntmps3
    go_wp2
    go_ret
    exact ⟨rfl, Below.refl _ _⟩

/-! ### THE ROW's STEP: WRITTEN OUT: LEAVE IT -/
set_option maxRecDepth 100000 in
theorem lifted (os : Os) (started : os.Started) (H : Type) (enc : TypeId × Value → H) :
    ReturnsInHanded {} Try.checked os 3 .any (Rows.fnExactReadMarkSpec.pre6 enc Try.prog Try.f3 Rows.fnExactReadMarkRow.domain false) (Rows.fnExactReadMarkSpec.post enc Try.prog Try.f3 false true false false) := by
  refine returnsInHanded_of_change (C := Try.checked) own started (by kernel_rfl) Try.func3
    (ChangeSpec.witness6 (enc := enc) (C := Try.checked) false ⟨#[], #[.string ByteArray.empty], []⟩ 8 (by kernel_rfl) (by kernel_rfl) (by kernel_rfl) (by kernel_rfl)) ?_
  intro W base args ds gs before hval0 hW hcnd _
  have hval : ∀ (j : Nat) t v, Try.f3.params[j]? = some t → args[j]? = some v → Value.okWide Try.prog W .any base t v := hval0
  have hW' := hW
  obtain ⟨p, q, hA0, hV, rfl, hfz, hnd⟩ := hW
  have hA : DataW.TrodAll enc Try.prog W 0 (fun _ => true) true Try.f3.params.toList args.toList ds p := hA0
  rw [Try.params3] at hA hval
  obtain ⟨v0, vs0, d0, ds0, p0, q0, hargs, rfl, rfl, h0, r0⟩ := trodAll_cons hA
  obtain ⟨rfl, rfl, rfl⟩ := trodAll_nil r0
  obtain rfl : args = #[v0] := by cases args; simp_all
  obtain ⟨rfl, rfl⟩ := trodVars_none hV
  obtain ⟨a0, rfl, rfl, rfl, w0⟩ := open_string Try.underlying9 (hval 0 9 v0 rfl rfl) h0
  clear hA0 hval0
  simp only [List.append_nil] at hW'
  refine (walk a0 w0 W).mono fun e W' ⟨he, hg⟩ => ?_
  subst he
  exact ⟨_, rfl, _, _, _, [], [], [], hW', (trodAll_cons_mk (shut_bool Try.underlying4 _) trodAll_mk0), (trodAll_cons_mk (shut_string Try.underlying9 w0) trodAll_mk0), rfl, hg.frame _, fun h => by cases h⟩

theorem over : Rows.fnExactReadMarkRow.holds Try.pinned (OpenSpec.ofChange Rows.fnExactReadMarkSpec) :=
  OpenClaim.holds_of_wide 3 Try.f3 rfl rfl rfl rfl rfl rfl rfl ⟨rfl, rfl, rfl, rfl, rfl⟩ rfl rfl rfl rfl rfl (by kernel_rfl) Try.func3 (by kernel_rfl)
    (of_decide_eq_true (by kernel_rfl)) (by unfold Func.isWrapper; first | (rw [if_pos (by decide +kernel)]; kernel_rfl) | (rw [if_neg (by decide +kernel)]; exact ⟨rfl, rfl⟩))
    (fun os started H enc _ => lifted os started H enc)

/-- ████ THE STATEMENT ████ -/
theorem proved : Rows.FnExactReadMarkSaid :=
  over
#print axioms proved
end Go.Proofs.Yteooaljhdmmooaa.fnExactReadMark
