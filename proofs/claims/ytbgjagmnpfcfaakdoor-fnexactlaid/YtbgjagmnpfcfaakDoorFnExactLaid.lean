/- For every Page the law FnExactLaid returns true and leaves its arguments as they were; the program's table dataPlaces holds what its initialiser lays (the tied card), no other condition. -/
import Derived.Test.YtbgjagmnpfcfaakDoorRows
import Derived.Test.YtbgjagmnpfcfaakDoorPageBase
import Derived.Test.YtbgjagmnpfcfaakDoorPageLawW
import Derived.Test.YtbgjagmnpfcfaakDoorPageLaidS
import Derived.Test.YtbgjagmnpfcfaakDoorPageLaidI
import Derived.Test.YtbgjagmnpfcfaakDoorLaidTab
import Derived.WalkKit
import Derived.ProofKit
import Derived.OpenShut
import Derived.ShutString
import Derived.ChangeOld
import Derived.Below
namespace Go.Proofs.YtbgjagmnpfcfaakDoor.fnExactLaid
open Go.ChangeShapes Go.WideShapes Go.ChangeAt Go.RowKit
open Go.ChangeMaps (open_string shut_string)
set_option linter.unusedVariables false

theorem own : ownKnob Tryd.prog.godebug = none := by kernel_rfl
theorem laidOut : laidOutB Tryd.prog = true := by kernel_rfl


theorem walk (k0 a0 s0 : Int) (x0 : ByteArray) (w : World) (w0 : (Lit.int .i64 k0).wf = true ∧ (Lit.int .i64 a0).wf = true ∧ (Lit.int .i64 s0).wf = true ∧ x0.size ≤ maxLen) (hT : Tab w) :
    Calls Tryd.prog 3 #[.agg #[.int .i64 k0, .int .i64 a0, .int .i64 s0, .string x0]] w fun e w' => e = .returned (.bool true) ∧ Below w.heap.size w w' := by
  obtain ⟨_, _, _, hx⟩ := w0
  have HT := hide hT
  clear hT
  have HO := hide (heap_new w (.cells #[.int .i64 k0, .int .i64 a0, .int .i64 s0, .string x0] 23))
  have HZ := hide ((Below.refl w.heap.size w).alloc (Nat.le_refl _) (.cells #[.int .i64 k0, .int .i64 a0, .int .i64 s0, .string x0] 23))
  by_cases ha : x0.size ≤ 1048576
  · have hd : decide ((1048576 : Int) - (x0.size : Int) < 0) = false := by simp; omega
    go_enter Tryd.func3, Tryd.ntmps3
    go_wp2_with fail
    refine (szPage_in k0 a0 s0 x0 1048576 _ (by omega) (by omega)).mono ?_
    rintro e w1 ⟨rfl, b1⟩
    have H1 := hide (block_on HO.out b1)
    have HB1 := hide (below_here HZ.out b1)
    obtain ⟨c0, c1, c2, c3⟩ := four_cells H1.out
    clear b1 HO HZ
    go_wp2_with fail
    refine (toPage_any k0 a0 s0 x0 _).mono ?_
    rintro e w2 ⟨rfl, b2⟩
    have H2 := hide (block_on H1.out b2)
    have HB2 := hide (below_here HB1.out b2)
    clear b2 H1 HB1 c0 c1 c2 c3
    go_wp2_with fail
    refine (specLaid_any k0 a0 s0 x0 _).mono ?_
    obtain ⟨tx, htx⟩ : ∃ tx, tx = laid k0 a0 s0 x0 := ⟨_, rfl⟩
    rw [← htx]
    have HTX := hide htx
    clear htx
    rintro e w3 ⟨rfl, b3⟩
    have H3 := hide (block_on H2.out b3)
    have HB3 := hide (below_here HB2.out b3)
    obtain ⟨c0, c1, c2, c3⟩ := four_cells H3.out
    clear b3 H2 HB2
    go_wp2_with fail
    refine (toPage_any k0 a0 s0 x0 _).mono ?_
    rintro e w4 ⟨rfl, b4⟩
    have HB4 := hide (below_here HB3.out b4)
    clear b4 H3 HB3 c0 c1 c2 c3
    go_wp2_with fail
    refine (implLaid_any k0 a0 s0 x0 _ (HT.out.here HB4.out)).mono ?_
    rw [← HTX.out]
    rintro e w5 ⟨rfl, b5⟩
    have HB := hide (below_here HB4.out b5)
    clear b5 HB4
    go_wp2_with fail
    go_ret
    exact ⟨rfl, HB.out⟩
  · go_enter Tryd.func3, Tryd.ntmps3
    go_wp2_with fail
    refine (szPage_over k0 a0 s0 x0 1048576 _ (by omega) (by omega) hx).mono ?_
    rintro e w1 ⟨rfl, b1⟩
    have HB := hide (below_here HZ.out b1)
    clear b1 HO HZ
    go_wp2_with fail
    go_ret
    exact ⟨rfl, HB.out⟩

/-! ### THE ROW's STEP: WRITTEN OUT: LEAVE IT -/
theorem laid_met (os : Os) : laidMet Tryd.prog Rows.fnExactLaidRow.laid ((laidWorld os).forCall (fun _ _ => 0) ⟨#[], #[.agg #[.int .i64 0, .int .i64 0, .int .i64 0, .string ByteArray.empty]], []⟩).memory :=
  laidMet_of_run' 8 (by kernel_rfl) (by kernel_rfl)
theorem reads (os : Os) {H : Type} (enc : TypeId × Value → H) : ∃ places, DataW.whole enc Tryd.prog ((laidWorld os).forCall (fun _ _ => 0) ⟨#[], #[.agg #[.int .i64 0, .int .i64 0, .int .i64 0, .string ByteArray.empty]], []⟩).memory Tryd.f3.params.toList Rows.fnExactLaidSpec.vars false (#[.agg #[.int .i64 0, .int .i64 0, .int .i64 0, .string ByteArray.empty]] : Array Value).toList 8 = some ([.agg [.lit (.int .i64 0), .lit (.int .i64 0), .lit (.int .i64 0), .lit (.string [])]], [placesD], places) :=
  ⟨MemPlace.row ⟨0, 0, none⟩ 8, by kernel_rfl⟩

set_option maxRecDepth 100000 in
theorem lifted (os : Os) (started : os.Started) (H : Type) (enc : TypeId × Value → H) (F : Stop.Interp) :
    ReturnsInHanded {} Tryd.checked os 3 .any ((OpenSpec.ofChange Rows.fnExactLaidSpec).preRow enc Tryd.prog Tryd.f3 Rows.fnExactLaidRow.domain false Rows.fnExactLaidRow.laid) (((OpenSpec.ofChange Rows.fnExactLaidSpec).at F).post enc Tryd.prog Tryd.f3 false true false false) := by
  obtain ⟨places, hx⟩ := reads os enc
  refine returnsInHanded_of_row (C := Tryd.checked) (s := OpenSpec.ofChange Rows.fnExactLaidSpec) own started (by kernel_rfl) Tryd.func3
    (witness_row_at (enc := enc) (C := Tryd.checked) false (laidWorld os) #[.agg #[.int .i64 0, .int .i64 0, .int .i64 0, .string ByteArray.empty]] rfl (by kernel_rfl) (by kernel_rfl) (by kernel_rfl)
      (OpenSpec.preRow_of_cond 8 hx (by kernel_rfl) (fun k hk => by cases hk) (by kernel_rfl) (laid_met os))) ?_
  intro W base args ds gs before hval0 hW _ _ _ hL _ _
  have hval : ∀ (j : Nat) t v, Tryd.f3.params[j]? = some t → args[j]? = some v → Value.okWide Tryd.prog W .any base t v := hval0
  have hW' := hW
  obtain ⟨p, q, hA0, hV0, rfl, hfz, hnd⟩ := hW
  have hV : DataW.TrodVars enc Tryd.prog W (fun _ => true) ["loop.example/g00223/impl.dataPlaces"] gs q := hV0
  have hA : DataW.TrodAll enc Tryd.prog W 0 (fun _ => true) true Tryd.f3.params.toList args.toList ds p := hA0
  rw [Tryd.params3] at hA hval
  obtain ⟨v0, vs0, d0, ds0, p0, q0, hargs, rfl, rfl, h0, r0⟩ := trodAll_cons hA
  obtain ⟨rfl, rfl, rfl⟩ := trodAll_nil r0
  obtain rfl : args = #[v0] := by cases args; simp_all
  obtain ⟨g, tg, cs, fuel, dg, pg, rfl, hg0, htg, hvar, hdg, rfl⟩ := trodVars_one hV
  obtain rfl := Option.some.inj (placesNamed.symm.trans hg0)
  obtain rfl := Option.some.inj (placesType.symm.trans htg)
  obtain rfl : cs = placesA := Option.some.inj (hvar.symm.trans (placesVar hL))
  obtain ⟨rfl, rfl⟩ := DataW.Trod.unique (v := .agg placesA) ⟨fuel, hdg⟩ ⟨3, placesRead enc W _⟩
  have kk0 := h0
  have lt0 : ∀ x ∈ p0, x.block < W.heap.size := by obtain ⟨m, hm⟩ := kk0; exact DataW.trod_lt m _ _ _ hm
  obtain ⟨k0, a0, s0, x0, rfl, w0⟩ := page_read Tryd.underlying23 (by kernel_rfl) (by kernel_rfl) Tryd.underlying2 Tryd.underlying2 Tryd.underlying2 Tryd.underlying9 (hval 0 23 v0 rfl rfl) h0
  clear hA0 hval0 hV0
  refine (walk k0 a0 s0 x0 W w0 (tab_of_var hvar)).mono fun e W' ⟨he, bel⟩ => ?_
  subst he
  exact ⟨_, rfl, _, _, _, [], _, _, hW', trodAll_mk1 (shut_bool Tryd.underlying4 _), (trodAll_cons_mk (Below.trod laidOut (by kernel_rfl) (of_decide_eq_true (by kernel_rfl)) kk0 bel lt0) trodAll_mk0), placesVars enc _ (var_later placesNamed hvar bel), bel.frame _, fun h => by cases h⟩


theorem over : Rows.FnExactLaidSaid :=
  OpenClaim.holds_of_cond 3 Tryd.f3 rfl rfl rfl rfl rfl rfl rfl ⟨rfl, rfl, rfl, rfl, rfl⟩ rfl rfl rfl rfl rfl (by kernel_rfl) Tryd.func3 (by kernel_rfl)
    (of_decide_eq_true (by kernel_rfl)) (by unfold Func.isWrapper; first | (rw [if_pos (by decide +kernel)]; kernel_rfl) | (rw [if_neg (by decide +kernel)]; exact ⟨rfl, rfl⟩))
    (fun os started H enc _ F => by rw [OpenClaim.pre_eq_preRow]; exact lifted os started H enc F)
theorem plain (f : FuncId) (fn : Func) (hf : Tryd.pinned.checked.prog.funcNamed "loop.example/g00223/laws.FnExactLaid" = some f) (hfn : Tryd.pinned.checked.prog.funcs[f]? = some fn) :
    false = Tryd.pinned.checked.prog.looks [] ∧ ∀ (j : Nat) t, fn.params[j]? = some t → Tryd.pinned.checked.prog.wantsStandIn t = false := by
  obtain rfl : f = 3 := Option.some.inj ((show Tryd.prog.funcNamed "loop.example/g00223/laws.FnExactLaid" = some 3 by kernel_rfl).symm.trans hf) |>.symm
  obtain rfl : fn = Tryd.f3 := (Option.some.inj (Tryd.func3.symm.trans hfn)).symm
  refine ⟨by kernel_rfl, fun j t ht => ?_⟩
  have hall : (Tryd.f3.params.toList.all fun u => !Tryd.prog.wantsStandIn u) = true := by kernel_rfl
  have hm : t ∈ Tryd.f3.params.toList := by simpa using Array.mem_of_getElem? ht
  exact (show Tryd.prog.wantsStandIn t = false by simpa using List.all_eq_true.1 hall t hm)

/-- ████ THE CARD ████ -/
theorem proved : Rows.FnExactLaidCardSaid :=
  Claim7.holds_tied_plain_at .later [] _ _ _ _ over (fun _ h => by cases h) (by kernel_rfl) (fun _ h => by cases h) fnExactLaid_row_tie rfl ⟨rfl, rfl⟩ (by kernel_rfl) rfl plain (by kernel_rfl)
#print axioms proved
end Go.Proofs.YtbgjagmnpfcfaakDoor.fnExactLaid
