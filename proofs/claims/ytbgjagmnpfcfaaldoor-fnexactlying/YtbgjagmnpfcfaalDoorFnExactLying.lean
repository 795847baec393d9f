/- For every text the law FnExactLying returns true and leaves its arguments as they were; the program's table dataPlaces, its five sentinels and errors.errorType hold what their initialisers lay (the tied card), no other condition. -/
import Derived.Test.YtbgjagmnpfcfaalDoorRows
import Derived.Test.YtbgjagmnpfcfaalDoorLyLaid
import Derived.Test.YtbgjagmnpfcfaalDoorPageLawW
import Derived.Test.YtbgjagmnpfcfaalDoorLySpec
import Derived.Test.YtbgjagmnpfcfaalDoorLyImplD
import Derived.WalkKit
import Derived.ProofKit
import Derived.OpenShut
import Derived.ShutString
import Derived.ChangeOld
import Derived.Below
namespace Go.Proofs.YtbgjagmnpfcfaalDoor.fnExactLying
open Go.ChangeShapes Go.WideShapes Go.ChangeAt Go.RowKit
open Go.ChangeMaps (open_string shut_string)
set_option linter.unusedVariables false

theorem own : ownKnob Tryd.prog.godebug = none := by kernel_rfl
theorem laidOut : laidOutB Tryd.prog = true := by kernel_rfl


theorem walk (a0 : ByteArray) (w : World) (w0 : a0.size ≤ maxLen) (hT : Tab w) {aB aL aS aC aF : Addr} (E : Errs w aB aL aS aC aF) :
    Calls Tryd.prog 3 #[.string a0] w fun e w' => e = .returned (.bool true) ∧ Below w.heap.size w w' := by
  have HT := hide hT
  have HEE := hide E
  clear hT E
  by_cases ha : a0.size ≤ 1048576
  · obtain ⟨k, a, s, x, c, hly⟩ : ∃ k a s x c, lyP a0 = (k, a, s, x, c) := ⟨_, _, _, _, _, rfl⟩
    have HL := hide hly
    clear hly
    go_enter Tryd.func3, Tryd.ntmps3
    go_wp2_with fail
    refine (specLying_any a0 w ha).mono ?_
    rw [HL.out]
    unfold lyV
    rintro e w2 ⟨rfl, b2⟩
    have HN2 := hide (heap_new w2 (.cells #[.int .i64 k, .int .i64 a, .int .i64 s, .string x] 23))
    have HB2 := hide (b2.alloc b2.size (.cells #[.int .i64 k, .int .i64 a, .int .i64 s, .string x] 23))
    clear b2
    go_wp2_with fail
    refine (implLying_any a0 _ (HT.out.here HB2.out) (HEE.out.here HB2.out) ha).mono ?_
    rw [HL.out]
    unfold lyV
    rintro e w3 ⟨rfl, b3⟩
    have HN3 := hide (heap_old (o := (.cells #[.int .i64 k, .int .i64 a, .int .i64 s, .string x] 23)) (block_on HN2.out b3))
    have HM3 := hide (heap_new w3 (.cells #[.int .i64 k, .int .i64 a, .int .i64 s, .string x] 23))
    have HB3 := hide ((below_here HB2.out b3).alloc (below_here HB2.out b3).size (.cells #[.int .i64 k, .int .i64 a, .int .i64 s, .string x] 23))
    clear b3 HB2 HN2
    obtain ⟨c0, c1, c2, c3⟩ := four_cells HN3.out
    obtain ⟨d0, d1, d2, d3⟩ := four_cells HM3.out
    go_wp2_with fail
    refine (eqPage_same k a s x _).mono ?_
    rintro e w4 ⟨rfl, b4⟩
    have HB4 := hide (below_here HB3.out b4)
    clear b4 HB3 HN3 HM3 c0 c1 c2 c3 d0 d1 d2 d3
    go_wp2_with fail
    go_ret
    exact ⟨rfl, HB4.out⟩
  · go_enter Tryd.func3, Tryd.ntmps3
    go_wp2
    go_ret
    exact ⟨rfl, Below.refl _ _⟩

/-! ### THE ROW's STEP: WRITTEN OUT: LEAVE IT -/
theorem reads (os : Os) {H : Type} (enc : TypeId × Value → H) : (DataW.whole enc Tryd.prog ((World.doorLaid Tryd.prog 116 os).forCall (fun _ _ => 0) ⟨#[], #[.string ByteArray.empty], []⟩).memory Tryd.f3.params.toList Rows.fnExactLyingSpec.vars false (#[.string ByteArray.empty] : Array Value).toList 8).isSome = true := by kernel_rfl

set_option maxRecDepth 100000 in
theorem lifted (os : Os) (started : os.Started) (H : Type) (enc : TypeId × Value → H) (F : Stop.Interp) :
    ReturnsInHanded {} Tryd.checked os 3 .any ((OpenSpec.ofChange Rows.fnExactLyingSpec).preRow enc Tryd.prog Tryd.f3 Rows.fnExactLyingRow.domain false Rows.fnExactLyingRow.laid) (((OpenSpec.ofChange Rows.fnExactLyingSpec).at F).post enc Tryd.prog Tryd.f3 false true false false) := by
  obtain ⟨x, hx⟩ := Option.isSome_iff_exists.1 (reads os enc)
  refine returnsInHanded_of_row (C := Tryd.checked) (s := OpenSpec.ofChange Rows.fnExactLyingSpec) own started (by kernel_rfl) Tryd.func3
    (witness_row_atRef (enc := enc) (C := Tryd.checked) false (World.doorLaid Tryd.prog 116 os) #[.string ByteArray.empty] rfl (by kernel_rfl) (by kernel_rfl) (by kernel_rfl)
      (OpenSpec.preRow_of_cond 8 hx rfl (fun k hk => by cases hk) (by kernel_rfl) (door_met os _))) ?_
  intro W base args ds gs before hval0 hW _ _ _ hL _ _
  have hval : ∀ (j : Nat) t v, Tryd.f3.params[j]? = some t → args[j]? = some v → Value.okWide Tryd.prog W .any base t v := hval0
  have hW' := hW
  obtain ⟨p, q, hA0, hV0, rfl, hfz, hnd⟩ := hW
  have hV : DataW.TrodVars enc Tryd.prog W (fun _ => true) ["loop.example/g00223/impl.errBlank", "loop.example/g00223/impl.errSize", "loop.example/g00223/impl.errLost", "loop.example/g00223/impl.dataPlaces", "loop.example/g00223/impl.errCheck", "loop.example/g00223/impl.errFields"] gs q := hV0
  have hA : DataW.TrodAll enc Tryd.prog W 0 (fun _ => true) true Tryd.f3.params.toList args.toList ds p := hA0
  rw [Tryd.params3] at hA hval
  obtain ⟨v0, vs0, d0, ds0, p0, q0, hargs, rfl, rfl, h0, r0⟩ := trodAll_cons hA
  obtain ⟨rfl, rfl, rfl⟩ := trodAll_nil r0
  obtain rfl : args = #[v0] := by cases args; simp_all
  obtain ⟨g1, rs1, qs1, rfl, hV1⟩ := trodVars_cons hV
  obtain ⟨g2, rs2, qs2, rfl, hV2⟩ := trodVars_cons hV1
  obtain ⟨g3, rs3, qs3, rfl, hV3⟩ := trodVars_cons hV2
  obtain ⟨g4, rs4, qs4, rfl, hV4⟩ := trodVars_cons hV3
  obtain ⟨g5, rs5, qs5, rfl, hV5⟩ := trodVars_cons hV4
  obtain ⟨g6, rs6, qs6, rfl, hV6⟩ := trodVars_cons hV5
  obtain ⟨rfl, rfl⟩ := trodVars_none hV6
  obtain ⟨hT, aB, aL, aS, aC, aF, E⟩ := errs_of_laid hL
  obtain ⟨a0, rfl, rfl, rfl, w0⟩ := open_string Tryd.underlying9 (hval 0 9 v0 rfl rfl) h0
  clear hA0 hval0 hV0
  refine (walk a0 W w0 hT E).mono fun e W' ⟨he, bel⟩ => ?_
  subst he
  exact ⟨_, rfl, _, _, _, [], _, _, hW', trodAll_mk1 (shut_bool Tryd.underlying4 _), (trodAll_cons_mk (shut_string Tryd.underlying9 w0) trodAll_mk0), Below.trodVars laidOut bel (by kernel_rfl) hV, bel.frame _, fun h => by cases h⟩


theorem over : Rows.FnExactLyingSaid :=
  OpenClaim.holds_of_cond 3 Tryd.f3 rfl rfl rfl rfl rfl rfl rfl ⟨rfl, rfl, rfl, rfl, rfl⟩ rfl rfl rfl rfl rfl (by kernel_rfl) Tryd.func3 (by kernel_rfl)
    (of_decide_eq_true (by kernel_rfl)) (by unfold Func.isWrapper; first | (rw [if_pos (by decide +kernel)]; kernel_rfl) | (rw [if_neg (by decide +kernel)]; exact ⟨rfl, rfl⟩))
    (fun os started H enc _ F => by rw [OpenClaim.pre_eq_preRow]; exact lifted os started H enc F)
theorem plain (f : FuncId) (fn : Func) (hf : Tryd.pinned.checked.prog.funcNamed "loop.example/g00223/laws.FnExactLying" = some f) (hfn : Tryd.pinned.checked.prog.funcs[f]? = some fn) :
    true = Tryd.pinned.checked.prog.looks [] ∧ ∀ (j : Nat) t, fn.params[j]? = some t → Tryd.pinned.checked.prog.wantsStandIn t = false := by
  obtain rfl : f = 3 := Option.some.inj ((show Tryd.prog.funcNamed "loop.example/g00223/laws.FnExactLying" = some 3 by kernel_rfl).symm.trans hf) |>.symm
  obtain rfl : fn = Tryd.f3 := (Option.some.inj (Tryd.func3.symm.trans hfn)).symm
  refine ⟨by kernel_rfl, fun j t ht => ?_⟩
  have hall : (Tryd.f3.params.toList.all fun u => !Tryd.prog.wantsStandIn u) = true := by kernel_rfl
  have hm : t ∈ Tryd.f3.params.toList := by simpa using Array.mem_of_getElem? ht
  exact (show Tryd.prog.wantsStandIn t = false by simpa using List.all_eq_true.1 hall t hm)

/-- ████ THE CARD ████ -/
theorem proved : Rows.FnExactLyingCardSaid :=
  Claim7.holds_tied_plain_at .later [] _ _ _ _ over (fun _ h => by cases h) (by kernel_rfl) (fun _ h => by cases h) fnExactLying_row_tie rfl ⟨rfl, rfl⟩ (by kernel_rfl) rfl plain (by kernel_rfl)
#print axioms proved
end Go.Proofs.YtbgjagmnpfcfaalDoor.fnExactLying
