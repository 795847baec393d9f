/- For every Mark the law FnExactShowMark returns true and leaves its argument as it was; the library's tables that its row lists read as they are laid. -/
import Derived.Test.YteooaljhdmmooaaDoorRows
import Derived.Test.YteooaljhdmmooaaDoorMDMarkSpecC
import Derived.Test.YteooaljhdmmooaaDoorMDMarkShowI
import Derived.Test.YteooaljhdmmooaaDoorMDMarkLaw
import Derived.Test.YteooaljhdmmooaaDoorMDReadBase
import Derived.Test.YteooaljhdmmooaaDoorMDPowLaid
import Derived.WalkKit
import Derived.ProofKit
import Derived.OpenShut
import Derived.ShutString
import Derived.ChangeOld
import Derived.Below
namespace Go.Proofs.YteooaljhdmmooaaDoor.fnExactShowMark
open Go.ChangeShapes Go.WideShapes Go.ChangeAt Go.RowKit
open Go.ChangeMaps (open_string shut_string)
set_option linter.unusedVariables false

theorem own : ownKnob Tryd.prog.godebug = none := by kernel_rfl
theorem laidOut : laidOutB Tryd.prog = true := by kernel_rfl


theorem walk (e0 q0 : Int) (b0 : Bool) (w : World) (w0 : (Lit.int .i64 e0).wf = true ∧ (Lit.int .i64 q0).wf = true) (hP : Pow w) :
    Calls Tryd.prog 3 #[.agg #[.int .i64 e0, .int .i64 q0, .bool b0]] w fun e w' => e = .returned (.bool true) ∧ Below w.heap.size w w' := by
  have HP := hide hP
  clear hP
  obtain ⟨v0, hv0⟩ : ∃ v0, v0 = w.alloc (.cells #[.int .i64 e0, .int .i64 q0, .bool b0] 23) := ⟨_, rfl⟩
  have HB0 : Hid (Below w.heap.size w v0) := by rw [hv0]; exact (Below.refl _ _).alloc (Nat.le_refl _) _
  have HK0 : Hid (v0.heap[w.heap.size]? = some (.cells #[.int .i64 e0, .int .i64 q0, .bool b0] 23)) := by rw [hv0]; exact heap_new _ _
  obtain ⟨c0, c1, c2⟩ := mk_cells HK0.out
  go_enter Tryd.func3, Tryd.ntmps3
  go_upto_region 1 with fail
  rw [← hv0]
  clear hv0
  go_wp2_with fail
  refine (toMark_any e0 q0 b0 v0).mono ?_
  rintro e w1 ⟨rfl, b1⟩
  have HB1 := hide (below_here HB0.out b1)
  have HK1 := hide (block_on HK0.out b1)
  clear b1 HB0 HK0 c0 c1 c2
  go_wp2_with fail
  refine (specShowMark_any e0 q0 b0 w1).mono ?_
  rintro e w2 ⟨rfl, b2⟩
  have HB2 := hide (below_here HB1.out b2)
  have HK2 := hide (block_on HK1.out b2)
  clear b2 HB1 HK1
  obtain ⟨c0, c1, c2⟩ := mk_cells HK2.out
  go_wp2_with fail
  refine (toMark_any e0 q0 b0 w2).mono ?_
  rintro e w3 ⟨rfl, b3⟩
  have HB3 := hide (below_here HB2.out b3)
  clear b3 HB2 HK2 c0 c1 c2
  go_wp2_with fail
  refine (implShowMark_any e0 q0 b0 w3 (HP.out.here HB3.out)).mono ?_
  rintro e w4 ⟨rfl, b4⟩
  have HB4 := hide (below_here HB3.out b4)
  clear b4 HB3
  go_wp2_with fail
  go_ret
  exact ⟨rfl, HB4.out⟩

/-! ### THE ROW's STEP: WRITTEN OUT: LEAVE IT -/
theorem laid_met (os : Os) : laidMet Tryd.prog Rows.fnExactShowMarkRow.laid ((powWorld os).forCall (fun _ _ => 0) ⟨#[], #[.agg #[.int .i64 0, .int .i64 0, .bool false]], []⟩).memory :=
  laidMet_of_run' 8 (by kernel_rfl) (by kernel_rfl)
theorem reads (os : Os) {H : Type} (enc : TypeId × Value → H) : (DataW.whole enc Tryd.prog ((powWorld os).forCall (fun _ _ => 0) ⟨#[], #[.agg #[.int .i64 0, .int .i64 0, .bool false]], []⟩).memory Tryd.f3.params.toList Rows.fnExactShowMarkSpec.vars false (#[.agg #[.int .i64 0, .int .i64 0, .bool false]] : Array Value).toList 8).isSome = true := by kernel_rfl

set_option maxRecDepth 100000 in
theorem lifted (os : Os) (started : os.Started) (H : Type) (enc : TypeId × Value → H) (F : Stop.Interp) :
    ReturnsInHanded {} Tryd.checked os 3 .any ((OpenSpec.ofChange Rows.fnExactShowMarkSpec).preRow enc Tryd.prog Tryd.f3 Rows.fnExactShowMarkRow.domain false Rows.fnExactShowMarkRow.laid) (((OpenSpec.ofChange Rows.fnExactShowMarkSpec).at F).post enc Tryd.prog Tryd.f3 false true false false) := by
  obtain ⟨x, hx⟩ := Option.isSome_iff_exists.1 (reads os enc)
  refine returnsInHanded_of_row (C := Tryd.checked) (s := OpenSpec.ofChange Rows.fnExactShowMarkSpec) own started (by kernel_rfl) Tryd.func3
    (witness_row_at (enc := enc) (C := Tryd.checked) false (powWorld os) #[.agg #[.int .i64 0, .int .i64 0, .bool false]] rfl (by kernel_rfl) (by kernel_rfl) (by kernel_rfl)
      (OpenSpec.preRow_of_cond 8 hx rfl (fun k hk => by cases hk) (by kernel_rfl) (laid_met os))) ?_
  intro W base args ds gs before hval0 hW _ _ _ hL _ _
  have hval : ∀ (j : Nat) t v, Tryd.f3.params[j]? = some t → args[j]? = some v → Value.okWide Tryd.prog W .any base t v := hval0
  have hW' := hW
  obtain ⟨p, q, hA0, hV, rfl, hfz, hnd⟩ := hW
  have hA : DataW.TrodAll enc Tryd.prog W 0 (fun _ => true) true Tryd.f3.params.toList args.toList ds p := hA0
  rw [Tryd.params3] at hA hval
  obtain ⟨v0, vs0, d0, ds0, p0, q0, hargs, rfl, rfl, h0, r0⟩ := trodAll_cons hA
  obtain ⟨rfl, rfl, rfl⟩ := trodAll_nil r0
  obtain rfl : args = #[v0] := by cases args; simp_all
  obtain ⟨rfl, rfl⟩ := trodVars_none hV
  have kk0 := h0
  have lt0 : ∀ x ∈ p0, x.block < W.heap.size := by obtain ⟨m, hm⟩ := kk0; exact DataW.trod_lt m _ _ _ hm
  obtain ⟨e0, q0, b0, rfl, w0⟩ := mark_read Tryd.underlying23 (by kernel_rfl) (by kernel_rfl) Tryd.underlying2 Tryd.underlying2 Tryd.underlying4 (hval 0 23 v0 rfl rfl) h0
  clear hA0 hval0
  refine (walk e0 q0 b0 W w0 (pow_of_laid hL)).mono fun e W' ⟨he, bel⟩ => ?_
  subst he
  exact ⟨_, rfl, _, _, _, [], _, [], hW', trodAll_mk1 (shut_bool Tryd.underlying4 _), (trodAll_cons_mk (Below.trod laidOut (by kernel_rfl) (of_decide_eq_true (by kernel_rfl)) kk0 bel lt0) trodAll_mk0), rfl, bel.frame _, fun h => by cases h⟩

theorem and_of {a b : Bool} (h : a = true) (k : b = true) : (a && b) = true := by rw [h, k]; rfl
set_option maxHeartbeats 16000000 in
theorem facts : joinedFacts Tryd.pinned.checked.prog 3 Tryd.f3 (OpenSpec.ofChange Rows.fnExactShowMarkSpec).bare Rows.fnExactShowMarkRow = true := by
  unfold joinedFacts
  repeat (refine and_of ?_ (by as_aux_lemma => kernel_rfl))
  as_aux_lemma => kernel_rfl
theorem over : Rows.FnExactShowMarkSaid :=
  OpenClaim.holds_of_cond 3 Tryd.f3 rfl rfl rfl rfl rfl rfl rfl ⟨rfl, rfl, rfl, rfl, rfl⟩ rfl rfl rfl rfl rfl (by kernel_rfl) Tryd.func3 facts
    (of_decide_eq_true (by kernel_rfl)) (by unfold Func.isWrapper; first | (rw [if_pos (by decide +kernel)]; kernel_rfl) | (rw [if_neg (by decide +kernel)]; exact ⟨rfl, rfl⟩))
    (fun os started H enc _ F => by rw [OpenClaim.pre_eq_preRow]; exact lifted os started H enc F)
theorem plain (f : FuncId) (fn : Func) (hf : Tryd.pinned.checked.prog.funcNamed "loop.example/g00223/laws.FnExactShowMark" = some f) (hfn : Tryd.pinned.checked.prog.funcs[f]? = some fn) :
    false = Tryd.pinned.checked.prog.looks [] ∧ ∀ (j : Nat) t, fn.params[j]? = some t → Tryd.pinned.checked.prog.wantsStandIn t = false := by
  obtain rfl : f = 3 := Option.some.inj ((show Tryd.prog.funcNamed "loop.example/g00223/laws.FnExactShowMark" = some 3 by kernel_rfl).symm.trans hf) |>.symm
  obtain rfl : fn = Tryd.f3 := (Option.some.inj (Tryd.func3.symm.trans hfn)).symm
  refine ⟨by kernel_rfl, fun j t ht => ?_⟩
  have hall : (Tryd.f3.params.toList.all fun u => !Tryd.prog.wantsStandIn u) = true := by kernel_rfl
  have hm : t ∈ Tryd.f3.params.toList := by simpa using Array.mem_of_getElem? ht
  exact (show Tryd.prog.wantsStandIn t = false by simpa using List.all_eq_true.1 hall t hm)

/-- ████ THE CARD ████ -/
theorem proved : Rows.FnExactShowMarkCardSaid :=
  Claim7.holds_tied_plain_at .later [] _ _ _ _ over (fun _ h => by cases h) (by as_aux_lemma => kernel_rfl) (fun _ h => by cases h) fnExactShowMark_row_tie rfl ⟨rfl, rfl⟩ (by as_aux_lemma => kernel_rfl) rfl plain (by as_aux_lemma => kernel_rfl)
#print axioms proved
end Go.Proofs.YteooaljhdmmooaaDoor.fnExactShowMark
