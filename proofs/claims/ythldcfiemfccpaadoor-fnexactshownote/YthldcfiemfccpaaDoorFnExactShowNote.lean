/- For every Note the law FnExactShowNote returns true and leaves its argument as it was; the library's tables that its row lists read as they are laid. -/
import Derived.Test.YthldcfiemfccpaaDoorRows
import Derived.Test.YthldcfiemfccpaaDoorDNoteSpecB
import Derived.Test.YthldcfiemfccpaaDoorDNoteImplC
import Derived.Test.YthldcfiemfccpaaDoorDSpareSpec3
import Derived.Test.YthldcfiemfccpaaDoorDTextBase
import Derived.Test.YthldcfiemfccpaaDoorDPowLaid
import Derived.Deep.RegionHeld3
import Derived.Deep.Cut
import Derived.Lib.QuietBelow
import Derived.BigQuiet
import Derived.WalkKit
import Derived.ProofKit
import Derived.OpenShut
import Derived.ShutString
import Derived.ChangeOld
import Derived.Below
namespace Go.Proofs.YthldcfiemfccpaaDoor.fnExactShowNote
open Go.ChangeShapes Go.WideShapes Go.ChangeAt Go.RowKit
open Go.ChangeMaps (open_string shut_string)
set_option linter.unusedVariables false

theorem own : ownKnob Tryd.prog.godebug = none := by kernel_rfl
theorem laidOut : laidOutB Tryd.prog = true := by kernel_rfl

structure BoxN (w : World) (k tt e s a : Int) (tx : ByteArray) (av : Option Addr) (n cap : Nat) (w' : World) : Prop where
  note : w'.heap[w.heap.size]? = some (.cells #[.int .i64 k, .int .i64 tt, .int .i64 e, .int .i64 s, .int .i64 a, .string tx, .slice av n cap] 24)
  below : Below w.heap.size w w'
theorem BoxN.on {w : World} {k tt e s a : Int} {tx : ByteArray} {av : Option Addr} {n cap : Nat} {w1 w2 : World} (h : BoxN w k tt e s a tx av n cap w1) (hb : Below w1.heap.size w1 w2) : BoxN w k tt e s a tx av n cap w2 := ⟨block_on h.note hb, below_here h.below hb⟩
theorem BoxN.size {w : World} {k tt e s a : Int} {tx : ByteArray} {av : Option Addr} {n cap : Nat} {w1 : World} (h : BoxN w k tt e s a tx av n cap w1) : w.heap.size + 1 ≤ w1.heap.size := by
  have := (Array.getElem?_eq_some_iff.1 h.note).1; omega
set_option maxHeartbeats 4000000 in
set_option maxRecDepth 20000 in

theorem walk (k0 t0 e0 s0 p0 : Int) (x0 : ByteArray) (a0 : Option Addr) (len0 cap0 : Nat) (q0 : List ByteArray) (w : World) (w0 : (Lit.int .i64 k0).wf = true ∧ (Lit.int .i64 t0).wf = true ∧ (Lit.int .i64 e0).wf = true ∧ (Lit.int .i64 s0).wf = true ∧ (Lit.int .i64 p0).wf = true ∧ x0.size ≤ maxLen ∧ Texts 0 w.heap.size w a0 len0 q0 ∧ (∀ x ∈ q0, x.size ≤ maxLen) ∧ len0 ≤ maxLen) (hP : Pow w) :
    Calls Tryd.prog 3 #[.agg #[.int .i64 k0, .int .i64 t0, .int .i64 e0, .int .i64 s0, .int .i64 p0, .string x0, .slice a0 len0 cap0]] w fun e w' => e = .returned (.bool true) ∧ Below w.heap.size w w' := by
  have HP := hide hP
  clear hP
  obtain ⟨_, _, _, _, _, hx, hsq, hfi, hm⟩ := w0
  obtain ⟨wA, hwA⟩ : ∃ wA, wA = w.alloc (.cells #[.int .i64 k0, .int .i64 t0, .int .i64 e0, .int .i64 s0, .int .i64 p0, .string x0, .slice a0 len0 cap0] 24) := ⟨_, rfl⟩
  have HXA : Hid (BoxN w k0 t0 e0 s0 p0 x0 a0 len0 cap0 wA) := by rw [hwA]; exact ⟨heap_new _ _, (Below.refl _ _).alloc (Nat.le_refl _) _⟩
  have HSQ := hide hsq
  have HF := hide hfi
  have HM := hide hm
  clear hsq hfi hm
  obtain ⟨c0, c1, c2, c3, c4, c5, c6⟩ := note_cells HXA.out.note
  go_enter Tryd.func3, Tryd.ntmps3
  go_upto_region 1 with fail
  rw [← hwA]
  clear hwA
  go_wp2_with fail
  refine (szNote_any k0 t0 e0 s0 p0 x0 q0 a0 len0 cap0 1048576 wA (HSQ.out.later HXA.out.below (Nat.le_refl _)) HM.out HF.out hx (by omega) (by omega)).mono ?_
  rintro e v1 ⟨⟨r, rfl, r1, r2, hr⟩, b1⟩
  have HX1 := hide (HXA.out.on b1)
  clear b1 HXA c0 c1 c2 c3 c4 c5 c6
  by_cases h0 : 0 ≤ r
  · have hlen : len0 ≤ 1048576 := by have := hr h0; omega
    have HTS : Hid (∀ y ∈ q0, y.size ≤ 1048576) := fun y hy => by have := hr h0; have := total_le hy; omega
    clear hr
    have HTO : ∀ W, Hid (BoxN w k0 t0 e0 s0 p0 x0 a0 len0 cap0 W → Calls Tryd.prog 7 #[.agg #[.int .i64 k0, .int .i64 t0, .int .i64 e0, .int .i64 s0, .int .i64 p0, .string x0, .slice a0 len0 cap0]] W fun e w' => ∃ a', e = .returned (.agg #[.int .i64 k0, .int .i64 t0, .int .i64 e0, .int .i64 s0, .int .i64 p0, .string x0, .slice a' len0 len0]) ∧ OwnTexts W.heap.size w'.heap.size w' a' len0 q0 ∧ Below W.heap.size W w') := fun W hb => toNote_any k0 t0 e0 s0 p0 x0 q0 a0 len0 cap0 W (HSQ.out.later hb.below (Nat.le_refl _)) hlen
    obtain ⟨c0, c1, c2, c3, c4, c5, c6⟩ := note_cells HX1.out.note
    go_wp2_with fail
    refine ((HTO _).out HX1.out).mono ?_
    rintro e v2 ⟨p2, rfl, o2, b2⟩
    have HX2 := hide (HX1.out.on b2)
    have HO2 := hide o2
    clear b2 o2 c0 c1 c2 c3 c4 c5 c6
    go_wp2_with fail
    refine (specShowNote_any k0 t0 e0 s0 p0 x0 q0 p2 len0 len0 v2 HO2.out.texts hlen HTS.out hx).mono ?_
    rintro e v3 ⟨rfl, b3⟩
    have HX3 := hide (HX2.out.on b3)
    clear b3 HO2
    obtain ⟨c0, c1, c2, c3, c4, c5, c6⟩ := note_cells HX3.out.note
    go_wp2_with fail
    refine ((HTO _).out HX3.out).mono ?_
    rintro e v4 ⟨p4, rfl, o4, b4⟩
    obtain ⟨vX, hvX⟩ : ∃ vX, vX = v4.alloc (.cells #[.int .i64 k0, .int .i64 t0, .int .i64 e0, .int .i64 s0, .int .i64 p0, .string x0, .slice p4 len0 len0] 27) := ⟨_, rfl⟩
    have hbX : Below v4.heap.size v4 vX := by rw [hvX]; exact (Below.refl _ _).alloc (Nat.le_refl _) _
    have hzX : vX.heap.size = v4.heap.size + 1 := by rw [hvX]; simp
    have HK4 : Hid (vX.heap[v4.heap.size]? = some (.cells #[.int .i64 k0, .int .i64 t0, .int .i64 e0, .int .i64 s0, .int .i64 p0, .string x0, .slice p4 len0 len0] 27)) := by rw [hvX]; exact heap_new _ _
    have HX4 := hide ((HX3.out.on b4).on hbX)
    have HO4 := hide (o4.texts.later hbX (Nat.le_refl _))
    clear b4 o4 c0 c1 c2 c3 c4 c5 c6 hbX
    obtain ⟨d0, d1, d2, d3, d4, d5, d6⟩ := note_cells HK4.out
    go_upto_region 7 with fail
    rw [← hvX]
    clear hvX
    go_wp2_with fail
    refine (implShowNote_any k0 t0 e0 s0 p0 x0 q0 p4 len0 len0 vX HO4.out hlen HTS.out hx (HP.out.here HX4.out.below)).mono ?_
    rintro e v5 ⟨rfl, b5⟩
    have HX5 := hide (HX4.out.on b5)
    have HK5 := hide (block_on HK4.out b5)
    have HO5 := hide (HO4.out.later b5 HO4.out.2.1)
    have hs5 := b5.size
    clear b5 d0 d1 d2 d3 d4 d5 d6 HK4 HO4
    have HSC : ∀ W, Hid (Below v5.heap.size v5 W → (W.cell? ⟨v4.heap.size, 0, none⟩ = some (.int .i64 k0) ∧ W.cell? ⟨v4.heap.size, 1, none⟩ = some (.int .i64 t0) ∧ W.cell? ⟨v4.heap.size, 2, none⟩ = some (.int .i64 e0) ∧ W.cell? ⟨v4.heap.size, 3, none⟩ = some (.int .i64 s0) ∧ W.cell? ⟨v4.heap.size, 4, none⟩ = some (.int .i64 p0) ∧ W.cell? ⟨v4.heap.size, 5, none⟩ = some (.string x0) ∧ W.cell? ⟨v4.heap.size, 6, none⟩ = some (.slice p4 len0 len0) ∧ W.cell? ⟨w.heap.size, 0, none⟩ = some (.int .i64 k0) ∧ W.cell? ⟨w.heap.size, 1, none⟩ = some (.int .i64 t0) ∧ W.cell? ⟨w.heap.size, 2, none⟩ = some (.int .i64 e0) ∧ W.cell? ⟨w.heap.size, 3, none⟩ = some (.int .i64 s0) ∧ W.cell? ⟨w.heap.size, 4, none⟩ = some (.int .i64 p0) ∧ W.cell? ⟨w.heap.size, 5, none⟩ = some (.string x0) ∧ W.cell? ⟨w.heap.size, 6, none⟩ = some (.slice a0 len0 cap0))) := fun W hb => by
      obtain ⟨x0, x1, x2, x3, x4, x5, x6⟩ := note_cells (block_on HK5.out hb)
      obtain ⟨y0, y1, y2, y3, y4, y5, y6⟩ := note_cells (HX5.out.on hb).note
      exact ⟨x0, x1, x2, x3, x4, x5, x6, y0, y1, y2, y3, y4, y5, y6⟩
    have HR0 : Hid (Below v5.heap.size v5 v5.drew) := (Below.refl v5.heap.size v5).drew
    go_upto_region 10 with fail
    go_region_held3 (fun W => W.cell? ⟨v4.heap.size, 0, none⟩ = some (.int .i64 k0) ∧ W.cell? ⟨v4.heap.size, 1, none⟩ = some (.int .i64 t0) ∧ W.cell? ⟨v4.heap.size, 2, none⟩ = some (.int .i64 e0) ∧ W.cell? ⟨v4.heap.size, 3, none⟩ = some (.int .i64 s0) ∧ W.cell? ⟨v4.heap.size, 4, none⟩ = some (.int .i64 p0) ∧ W.cell? ⟨v4.heap.size, 5, none⟩ = some (.string x0) ∧ W.cell? ⟨v4.heap.size, 6, none⟩ = some (.slice p4 len0 len0) ∧ W.cell? ⟨w.heap.size, 0, none⟩ = some (.int .i64 k0) ∧ W.cell? ⟨w.heap.size, 1, none⟩ = some (.int .i64 t0) ∧ W.cell? ⟨w.heap.size, 2, none⟩ = some (.int .i64 e0) ∧ W.cell? ⟨w.heap.size, 3, none⟩ = some (.int .i64 s0) ∧ W.cell? ⟨w.heap.size, 4, none⟩ = some (.int .i64 p0) ∧ W.cell? ⟨w.heap.size, 5, none⟩ = some (.string x0) ∧ W.cell? ⟨w.heap.size, 6, none⟩ = some (.slice a0 len0 cap0))
      (first | with_reducible exact (HSC _).out HR0.out | with_reducible exact (HSC _).out HR1.out | with_reducible exact (HSC _).out HR2.out | fail)
      (first
        | (go_at_call 7; refine ((HTO _).out (HX5.out.on HR0.out)).mono ?_; rintro e y1 ⟨p6, rfl, oo, bb⟩; have HR1 := hide (below_here HR0.out bb); have HO6 := hide oo; clear oo bb)
        | (go_at_call 9; refine (eqNote_same k0 t0 e0 s0 p0 x0 q0 p4 p6 len0 len0 len0 y1 (HO5.out.later HR1.out HO5.out.2.1) HO6.out.texts hlen).mono ?_; rintro e y2 ⟨rfl, bb⟩; have HR2 := hide (below_here HR1.out bb); clear bb)
        | fail)
    have HBE := hide (below_here HX5.out.below HR2.out)
    clear HSC HR0 HR1 HR2
    go_wp2_with fail
    go_ret
    exact ⟨rfl, HBE.out⟩
  · clear hr
    go_wp2_with fail
    go_ret
    exact ⟨rfl, HX1.out.below⟩

/-! ### THE ROW's STEP: WRITTEN OUT: LEAVE IT -/
theorem laid_met (os : Os) : laidMet Tryd.prog Rows.fnExactShowNoteRow.laid ((powWorld os).forCall (fun _ _ => 0) ⟨#[], #[.agg #[.int .i64 0, .int .i64 0, .int .i64 0, .int .i64 0, .int .i64 0, .string ByteArray.empty, .slice none 0 0]], []⟩).memory :=
  laidMet_of_run' 8 (by kernel_rfl) (by kernel_rfl)
theorem reads (os : Os) {H : Type} (enc : TypeId × Value → H) : (DataW.whole enc Tryd.prog ((powWorld os).forCall (fun _ _ => 0) ⟨#[], #[.agg #[.int .i64 0, .int .i64 0, .int .i64 0, .int .i64 0, .int .i64 0, .string ByteArray.empty, .slice none 0 0]], []⟩).memory Tryd.f3.params.toList Rows.fnExactShowNoteSpec.vars false (#[.agg #[.int .i64 0, .int .i64 0, .int .i64 0, .int .i64 0, .int .i64 0, .string ByteArray.empty, .slice none 0 0]] : Array Value).toList 8).isSome = true := by kernel_rfl

set_option maxRecDepth 100000 in
theorem lifted (os : Os) (started : os.Started) (H : Type) (enc : TypeId × Value → H) (F : Stop.Interp) :
    ReturnsInHanded {} Tryd.checked os 3 .any ((OpenSpec.ofChange Rows.fnExactShowNoteSpec).preRow enc Tryd.prog Tryd.f3 Rows.fnExactShowNoteRow.domain false Rows.fnExactShowNoteRow.laid) (((OpenSpec.ofChange Rows.fnExactShowNoteSpec).at F).post enc Tryd.prog Tryd.f3 false true false false) := by
  obtain ⟨x, hx⟩ := Option.isSome_iff_exists.1 (reads os enc)
  refine returnsInHanded_of_row (C := Tryd.checked) (s := OpenSpec.ofChange Rows.fnExactShowNoteSpec) own started (by kernel_rfl) Tryd.func3
    (witness_row_at (enc := enc) (C := Tryd.checked) false (powWorld os) #[.agg #[.int .i64 0, .int .i64 0, .int .i64 0, .int .i64 0, .int .i64 0, .string ByteArray.empty, .slice none 0 0]] rfl (by kernel_rfl) (by kernel_rfl) (by kernel_rfl)
      (OpenSpec.preRow_of_cond 8 hx rfl (fun k hk => by cases hk) (by kernel_rfl) (laid_met os))) ?_
  intro W base args ds gs before hval0 hW _ _ _ hL _ _
  have hval : ∀ (j : Nat) t v, Tryd.f3.params[j]? = some t → args[j]? = some v → Value.okWide Tryd.prog W .any base t v := hval0
  have hW' := hW
  obtain ⟨p, q, hA0, hV, rfl, hfz, hnd⟩ := hW
  have hA : DataW.TrodAll enc Tryd.prog W 0 (fun _ => true) true Tryd.f3.params.toList args.toList ds p := hA0
  rw [Tryd.params3] at hA hval
  obtain ⟨v0, vs0, d0, ds0, p0, q0, hargs, rfl, rfl, h0, r0⟩ := trodAll_cons hA
  obtain ⟨rfl, rfl, rfl⟩ := trodAll_nil r0
  obtain rfl : args = #[v0] := by cases args; simp_all
  obtain ⟨rfl, rfl⟩ := trodVars_none hV
  have kk0 := h0
  have lt0 : ∀ x ∈ p0, x.block < W.heap.size := by obtain ⟨m, hm⟩ := kk0; exact DataW.trod_lt m _ _ _ hm
  obtain ⟨kz0, tz0, ez0, sz0, pz0, xz0, a0, len0, cap0, q0, rfl, w0⟩ := note_read Tryd.underlying24 (by kernel_rfl) (by kernel_rfl) Tryd.underlying2 Tryd.underlying2 Tryd.underlying2 Tryd.underlying2 Tryd.underlying2 Tryd.underlying9 Tryd.underlying22 Tryd.underlying9 (by kernel_rfl) (hval 0 24 v0 rfl rfl) h0
  clear hA0 hval0
  refine (walk kz0 tz0 ez0 sz0 pz0 xz0 a0 len0 cap0 q0 W w0 (pow_of_laid hL)).mono fun e W' ⟨he, bel⟩ => ?_
  subst he
  exact ⟨_, rfl, _, _, _, [], _, [], hW', trodAll_mk1 (shut_bool Tryd.underlying4 _), (trodAll_cons_mk (Below.trod laidOut (by kernel_rfl) (of_decide_eq_true (by kernel_rfl)) kk0 bel lt0) trodAll_mk0), rfl, bel.frame _, fun h => by cases h⟩

theorem and_of {a b : Bool} (h : a = true) (k : b = true) : (a && b) = true := by rw [h, k]; rfl
set_option maxHeartbeats 16000000 in
theorem facts : joinedFacts Tryd.pinned.checked.prog 3 Tryd.f3 (OpenSpec.ofChange Rows.fnExactShowNoteSpec).bare Rows.fnExactShowNoteRow = true := by
  unfold joinedFacts
  repeat (refine and_of ?_ (by as_aux_lemma => kernel_rfl))
  as_aux_lemma => kernel_rfl
theorem over : Rows.FnExactShowNoteSaid :=
  OpenClaim.holds_of_cond 3 Tryd.f3 rfl rfl rfl rfl rfl rfl rfl ⟨rfl, rfl, rfl, rfl, rfl⟩ rfl rfl rfl rfl rfl (by kernel_rfl) Tryd.func3 facts
    (of_decide_eq_true (by kernel_rfl)) (by unfold Func.isWrapper; first | (rw [if_pos (by decide +kernel)]; kernel_rfl) | (rw [if_neg (by decide +kernel)]; exact ⟨rfl, rfl⟩))
    (fun os started H enc _ F => by rw [OpenClaim.pre_eq_preRow]; exact lifted os started H enc F)
theorem plain (f : FuncId) (fn : Func) (hf : Tryd.pinned.checked.prog.funcNamed "loop.example/g00223/laws.FnExactShowNote" = some f) (hfn : Tryd.pinned.checked.prog.funcs[f]? = some fn) :
    true = Tryd.pinned.checked.prog.looks [] ∧ ∀ (j : Nat) t, fn.params[j]? = some t → Tryd.pinned.checked.prog.wantsStandIn t = false := by
  obtain rfl : f = 3 := Option.some.inj ((show Tryd.prog.funcNamed "loop.example/g00223/laws.FnExactShowNote" = some 3 by kernel_rfl).symm.trans hf) |>.symm
  obtain rfl : fn = Tryd.f3 := (Option.some.inj (Tryd.func3.symm.trans hfn)).symm
  refine ⟨by kernel_rfl, fun j t ht => ?_⟩
  have hall : (Tryd.f3.params.toList.all fun u => !Tryd.prog.wantsStandIn u) = true := by kernel_rfl
  have hm : t ∈ Tryd.f3.params.toList := by simpa using Array.mem_of_getElem? ht
  exact (show Tryd.prog.wantsStandIn t = false by simpa using List.all_eq_true.1 hall t hm)

/-- ████ THE CARD ████ -/
theorem proved : Rows.FnExactShowNoteCardSaid :=
  Claim7.holds_tied_plain_at .later [] _ _ _ _ over (fun _ h => by cases h) (by as_aux_lemma => kernel_rfl) (fun _ h => by cases h) fnExactShowNote_row_tie rfl ⟨rfl, rfl⟩ (by as_aux_lemma => kernel_rfl) rfl plain (by as_aux_lemma => kernel_rfl)
#print axioms proved
end Go.Proofs.YthldcfiemfccpaaDoor.fnExactShowNote
