/- For every code the law FnMounted returns true and leaves its argument as it was; the package-level variables that its row lists read as they are laid. -/
import Derived.Test.YtgjoepdfhadmcaaGreatDoorRows
import Derived.Test.YtgjoepdfhadmcaaGreatDoorMDrawBase
import Derived.Test.YtgjoepdfhadmcaaGreatDoorMFtlImplI
import Derived.Test.YtgjoepdfhadmcaaGreatDoorMDraw8j
import Derived.Test.YtgjoepdfhadmcaaGreatDoorMLyLaid
import Derived.Deep.RegionWith
import Derived.WalkKit
import Derived.ProofKit
import Derived.OpenShut
import Derived.ShutString
import Derived.ChangeOld
import Derived.Below
namespace Go.Proofs.YtgjoepdfhadmcaaGreatDoor.fnMounted
open Go.ChangeShapes Go.WideShapes Go.ChangeAt Go.RowKit
open Go.ChangeMaps (open_string shut_string)
set_option linter.unusedVariables false

theorem own : ownKnob Tryz.prog.godebug = none := by kernel_rfl
theorem laidOut : laidOutB Tryz.prog = true := by kernel_rfl

set_option maxHeartbeats 800000 in

theorem walk (a0 : Option Addr) (len0 cap0 : Nat) (z0 : List UInt8) (w : World) (w0 : Bytes 0 w.heap.size w a0 len0 z0 ∧ len0 ≤ maxLen) (hT : Tab w) {aB aL aS aC aF : Addr} (E : Errs w aB aL aS aC aF) {aN : Addr} (hN : w.cell? ⟨1, 0, none⟩ = some (.iface 312 (.pointer (some aN)))) :
    Calls Tryz.prog 4 #[.slice a0 len0 cap0] w fun e w' => e = .returned (.bool true) ∧ Below w.heap.size w w' := by
  obtain ⟨hA, hlen0⟩ := w0
  have hlen : len0 ≤ 9223372036854775807 := by unfold maxLen at hlen0; omega
  exact fnMounted_any jobDraws a0 len0 cap0 z0 w hA hlen hT E hN

/-! ### THE ROW's STEP: WRITTEN OUT: LEAVE IT -/
theorem reads (os : Os) {H : Type} (enc : TypeId × Value → H) : (DataW.whole enc Tryz.prog ((World.doorLaid Tryz.prog 160 os).forCall (fun _ _ => 0) ⟨#[], #[.slice none 0 0], []⟩).memory Tryz.f4.params.toList Rows.fnMountedSpec.vars false (#[.slice none 0 0] : Array Value).toList 8).isSome = true := by kernel_rfl

set_option maxRecDepth 100000 in
theorem lifted (os : Os) (started : os.Started) (H : Type) (enc : TypeId × Value → H) (F : Stop.Interp) :
    ReturnsInHanded {} Tryz.checked os 4 .any ((OpenSpec.ofChange Rows.fnMountedSpec).preRow enc Tryz.prog Tryz.f4 Rows.fnMountedRow.domain false Rows.fnMountedRow.laid) (((OpenSpec.ofChange Rows.fnMountedSpec).at F).post enc Tryz.prog Tryz.f4 false true false false) := by
  obtain ⟨x, hx⟩ := Option.isSome_iff_exists.1 (reads os enc)
  refine returnsInHanded_of_row (C := Tryz.checked) (s := OpenSpec.ofChange Rows.fnMountedSpec) own started (by kernel_rfl) Tryz.func4
    (witness_row_atRef (enc := enc) (C := Tryz.checked) false (World.doorLaid Tryz.prog 160 os) #[.slice none 0 0] rfl (by kernel_rfl) (by kernel_rfl) (by kernel_rfl)
      (OpenSpec.preRow_of_cond 8 hx rfl (fun k hk => by cases hk) (by kernel_rfl) (door_metN os _))) ?_
  intro W base args ds gs before hval0 hW _ _ _ hL _ _
  have hval : ∀ (j : Nat) t v, Tryz.f4.params[j]? = some t → args[j]? = some v → Value.okWide Tryz.prog W .any base t v := hval0
  have hW' := hW
  obtain ⟨p, q, hA0, hV0, rfl, hfz, hnd⟩ := hW
  have hV : DataW.TrodVars enc Tryz.prog W (fun _ => true) ["loop.example/g00223/impl.errBlank", "loop.example/g00223/impl.errSize", "loop.example/g00223/impl.errLost", "loop.example/g00223/impl.dataPlaces", "loop.example/g00223/impl.errCheck", "loop.example/g00223/impl.errFields", "loop.example/g00223/impl.errNoRoom"] gs q := hV0
  have hA : DataW.TrodAll enc Tryz.prog W 0 (fun _ => true) true Tryz.f4.params.toList args.toList ds p := hA0
  rw [Tryz.params4] at hA hval
  obtain ⟨v0, vs0, d0, ds0, p0, q0, hargs, rfl, rfl, h0, r0⟩ := trodAll_cons hA
  obtain ⟨rfl, rfl, rfl⟩ := trodAll_nil r0
  obtain rfl : args = #[v0] := by cases args; simp_all
  obtain ⟨g1, rs1, qs1, rfl, hV1⟩ := trodVars_cons hV
  obtain ⟨g2, rs2, qs2, rfl, hV2⟩ := trodVars_cons hV1
  obtain ⟨g3, rs3, qs3, rfl, hV3⟩ := trodVars_cons hV2
  obtain ⟨g4, rs4, qs4, rfl, hV4⟩ := trodVars_cons hV3
  obtain ⟨g5, rs5, qs5, rfl, hV5⟩ := trodVars_cons hV4
  obtain ⟨g6, rs6, qs6, rfl, hV6⟩ := trodVars_cons hV5
  obtain ⟨g7, rs7, qs7, rfl, hV7⟩ := trodVars_cons hV6
  obtain ⟨rfl, rfl⟩ := trodVars_none hV7
  obtain ⟨hT, aB, aL, aS, aC, aF, aN, E, hN⟩ := errs_of_laidN hL
  obtain ⟨a0, len0, cap0, rfl⟩ := okWide_slice Tryz.underlying22 (hval 0 22 v0 rfl rfl)
  have k0 := h0
  have lt0 : ∀ x ∈ p0, x.block < W.heap.size := by obtain ⟨m, hm⟩ := k0; exact DataW.trod_lt m _ _ _ hm
  obtain ⟨z0, w0⟩ := bytes_read Tryz.underlying22 Tryz.underlying5 (by kernel_rfl) h0
  clear hA0 hval0 hV0
  refine (walk a0 len0 cap0 z0 W w0 hT E hN).mono fun e W' ⟨he, bel⟩ => ?_
  subst he
  exact ⟨_, rfl, _, _, _, [], _, _, hW', trodAll_mk1 (shut_bool Tryz.underlying4 _), (trodAll_cons_mk (Below.trod laidOut (by kernel_rfl) (of_decide_eq_true (by kernel_rfl)) k0 bel lt0) trodAll_mk0), Below.trodVars laidOut bel (by kernel_rfl) hV, bel.frame _, fun h => by cases h⟩


theorem and_of {a b : Bool} (h : a = true) (k : b = true) : (a && b) = true := by rw [h, k]; rfl
set_option maxHeartbeats 16000000 in
theorem facts : joinedFacts Tryz.pinned.checked.prog 4 Tryz.f4 (OpenSpec.ofChange Rows.fnMountedSpec).bare Rows.fnMountedRow = true := by
  unfold joinedFacts
  repeat (refine and_of ?_ (by as_aux_lemma => kernel_rfl))
  as_aux_lemma => kernel_rfl
theorem over : Rows.FnMountedSaid :=
  OpenClaim.holds_of_cond 4 Tryz.f4 rfl rfl rfl rfl rfl rfl rfl ⟨rfl, rfl, rfl, rfl, rfl⟩ rfl rfl rfl rfl rfl (by kernel_rfl) Tryz.func4 facts
    (of_decide_eq_true (by kernel_rfl)) (by unfold Func.isWrapper; first | (rw [if_pos (by decide +kernel)]; kernel_rfl) | (rw [if_neg (by decide +kernel)]; exact ⟨rfl, rfl⟩))
    (fun os started H enc _ F => by rw [OpenClaim.pre_eq_preRow]; exact lifted os started H enc F)
theorem plain (f : FuncId) (fn : Func) (hf : Tryz.pinned.checked.prog.funcNamed "loop.example/g00223/laws.FnMounted" = some f) (hfn : Tryz.pinned.checked.prog.funcs[f]? = some fn) :
    true = Tryz.pinned.checked.prog.looks [] ∧ ∀ (j : Nat) t, fn.params[j]? = some t → Tryz.pinned.checked.prog.wantsStandIn t = false := by
  obtain rfl : f = 4 := Option.some.inj ((show Tryz.prog.funcNamed "loop.example/g00223/laws.FnMounted" = some 4 by kernel_rfl).symm.trans hf) |>.symm
  obtain rfl : fn = Tryz.f4 := (Option.some.inj (Tryz.func4.symm.trans hfn)).symm
  refine ⟨by kernel_rfl, fun j t ht => ?_⟩
  have hall : (Tryz.f4.params.toList.all fun u => !Tryz.prog.wantsStandIn u) = true := by kernel_rfl
  have hm : t ∈ Tryz.f4.params.toList := by simpa using Array.mem_of_getElem? ht
  exact (show Tryz.prog.wantsStandIn t = false by simpa using List.all_eq_true.1 hall t hm)

/-- ████ THE CARD ████ -/
theorem proved : Rows.FnMountedCardSaid :=
  Claim7.holds_tied_plain_at .later [] _ _ _ _ over (fun _ h => by cases h) (by as_aux_lemma => kernel_rfl) (fun _ h => by cases h) fnMounted_row_tie rfl ⟨rfl, rfl⟩ (by as_aux_lemma => kernel_rfl) rfl plain (by as_aux_lemma => kernel_rfl)
#print axioms proved
end Go.Proofs.YtgjoepdfhadmcaaGreatDoor.fnMounted
