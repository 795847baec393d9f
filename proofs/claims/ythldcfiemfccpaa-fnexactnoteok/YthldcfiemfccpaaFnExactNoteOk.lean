/- For every Note the law FnExactNoteOk returns true and leaves its argument as it was; no condition. -/
import Derived.Test.YthldcfiemfccpaaRows
import Derived.Test.YthldcfiemfccpaaNLogSpecE
import Derived.Test.YthldcfiemfccpaaNNoteImplA
import Derived.Test.YthldcfiemfccpaaNPutOwn
import Derived.Test.YthldcfiemfccpaaNTextBase
import Derived.Deep.RegionHeld3
import Derived.Deep.Cut
import Derived.Lib.QuietBelow
import Derived.BigQuiet
import Derived.WalkKit
import Derived.ProofKit
import Derived.OpenShut
import Derived.ShutString
import Derived.ChangeOld
import Derived.Below
namespace Go.Proofs.Ythldcfiemfccpaa.fnExactNoteOk
open Go.ChangeShapes Go.WideShapes Go.ChangeAt Go.RowKit
open Go.ChangeMaps (open_string shut_string)
set_option linter.unusedVariables false

theorem own : ownKnob Try.prog.godebug = none := by kernel_rfl
theorem laidOut : laidOutB Try.prog = true := by kernel_rfl

structure BoxN (w : World) (k tt e s a : Int) (tx : ByteArray) (av : Option Addr) (n cap : Nat) (w' : World) : Prop where
  note : w'.heap[w.heap.size]? = some (.cells #[.int .i64 k, .int .i64 tt, .int .i64 e, .int .i64 s, .int .i64 a, .string tx, .slice av n cap] 24)
  below : Below w.heap.size w w'
theorem BoxN.on {w : World} {k tt e s a : Int} {tx : ByteArray} {av : Option Addr} {n cap : Nat} {w1 w2 : World} (h : BoxN w k tt e s a tx av n cap w1) (hb : Below w1.heap.size w1 w2) : BoxN w k tt e s a tx av n cap w2 := ⟨block_on h.note hb, below_here h.below hb⟩
theorem BoxN.size {w : World} {k tt e s a : Int} {tx : ByteArray} {av : Option Addr} {n cap : Nat} {w1 : World} (h : BoxN w k tt e s a tx av n cap w1) : w.heap.size + 1 ≤ w1.heap.size := by
  have := (Array.getElem?_eq_some_iff.1 h.note).1; omega
set_option maxHeartbeats 4000000 in
set_option maxRecDepth 20000 in

theorem walk (k0 t0 e0 s0 p0 : Int) (x0 : ByteArray) (a0 : Option Addr) (len0 cap0 : Nat) (q0 : List ByteArray) (w : World) (w0 : (Lit.int .i64 k0).wf = true ∧ (Lit.int .i64 t0).wf = true ∧ (Lit.int .i64 e0).wf = true ∧ (Lit.int .i64 s0).wf = true ∧ (Lit.int .i64 p0).wf = true ∧ x0.size ≤ maxLen ∧ Texts 0 w.heap.size w a0 len0 q0 ∧ (∀ x ∈ q0, x.size ≤ maxLen) ∧ len0 ≤ maxLen) :
    Calls Try.prog 3 #[.agg #[.int .i64 k0, .int .i64 t0, .int .i64 e0, .int .i64 s0, .int .i64 p0, .string x0, .slice a0 len0 cap0]] w fun e w' => e = .returned (.bool true) ∧ Below w.heap.size w w' := by
  obtain ⟨_, _, _, _, _, hx, hsq, hfi, hm⟩ := w0
  obtain ⟨wA, hwA⟩ : ∃ wA, wA = w.alloc (.cells #[.int .i64 k0, .int .i64 t0, .int .i64 e0, .int .i64 s0, .int .i64 p0, .string x0, .slice a0 len0 cap0] 24) := ⟨_, rfl⟩
  have HXA : Hid (BoxN w k0 t0 e0 s0 p0 x0 a0 len0 cap0 wA) := by rw [hwA]; exact ⟨heap_new _ _, (Below.refl _ _).alloc (Nat.le_refl _) _⟩
  have HSQ := hide hsq
  have HF := hide hfi
  have HM := hide hm
  clear hsq hfi hm
  obtain ⟨c0, c1, c2, c3, c4, c5, c6⟩ := note_cells HXA.out.note
  go_enter Try.func3, Try.ntmps3
  go_upto_region 1 with fail
  rw [← hwA]
  clear hwA
  go_wp2_with fail
  refine (szNote_any k0 t0 e0 s0 p0 x0 q0 a0 len0 cap0 1048576 wA (HSQ.out.later HXA.out.below (Nat.le_refl _)) HM.out HF.out hx (by omega) (by omega)).mono ?_
  rintro e v1 ⟨⟨r, rfl, r1, r2, hr⟩, b1⟩
  have HX1 := hide (HXA.out.on b1)
  clear b1 HXA c0 c1 c2 c3 c4 c5 c6
  by_cases h0 : 0 ≤ r
  · have hlen : len0 ≤ 1048576 := by have := hr h0; omega
    have HTS : Hid (∀ y ∈ q0, y.size ≤ 1048576) := fun y hy => by have := hr h0; have := total_le hy; omega
    clear hr
    have HTO : ∀ W, Hid (BoxN w k0 t0 e0 s0 p0 x0 a0 len0 cap0 W → Calls Try.prog 6 #[.agg #[.int .i64 k0, .int .i64 t0, .int .i64 e0, .int .i64 s0, .int .i64 p0, .string x0, .slice a0 len0 cap0]] W fun e w' => ∃ a', e = .returned (.agg #[.int .i64 k0, .int .i64 t0, .int .i64 e0, .int .i64 s0, .int .i64 p0, .string x0, .slice a' len0 len0]) ∧ OwnTexts W.heap.size w'.heap.size w' a' len0 q0 ∧ Below W.heap.size W w') := fun W hb => toNote_any k0 t0 e0 s0 p0 x0 q0 a0 len0 cap0 W (HSQ.out.later hb.below (Nat.le_refl _)) hlen
    obtain ⟨c0, c1, c2, c3, c4, c5, c6⟩ := note_cells HX1.out.note
    go_wp2_with fail
    refine ((HTO _).out HX1.out).mono ?_
    rintro e v2 ⟨p2, rfl, o2, b2⟩
    have HX2 := hide (HX1.out.on b2)
    have HO2 := hide o2
    clear b2 o2 c0 c1 c2 c3 c4 c5 c6
    go_wp2_with fail
    refine (specNoteOk_any k0 t0 e0 s0 p0 x0 q0 p2 len0 len0 v2 HO2.out.texts hlen HTS.out hx).mono ?_
    rintro e v3 ⟨rfl, b3⟩
    have HX3 := hide (HX2.out.on b3)
    clear b3 HO2
    obtain ⟨c0, c1, c2, c3, c4, c5, c6⟩ := note_cells HX3.out.note
    go_wp2_with fail
    refine ((HTO _).out HX3.out).mono ?_
    rintro e v4 ⟨p4, rfl, o4, b4⟩
    obtain ⟨vX, hvX⟩ : ∃ vX, vX = v4.alloc (.cells #[.int .i64 k0, .int .i64 t0, .int .i64 e0, .int .i64 s0, .int .i64 p0, .string x0, .slice p4 len0 len0] 27) := ⟨_, rfl⟩
    have hbX : Below v4.heap.size v4 vX := by rw [hvX]; exact (Below.refl _ _).alloc (Nat.le_refl _) _
    have hzX : vX.heap.size = v4.heap.size + 1 := by rw [hvX]; simp
    have HK4 : Hid (vX.heap[v4.heap.size]? = some (.cells #[.int .i64 k0, .int .i64 t0, .int .i64 e0, .int .i64 s0, .int .i64 p0, .string x0, .slice p4 len0 len0] 27)) := by rw [hvX]; exact heap_new _ _
    have HX4 := hide ((HX3.out.on b4).on hbX)
    have HO4 := hide (o4.texts.later hbX (Nat.le_refl _))
    clear b4 o4 c0 c1 c2 c3 c4 c5 c6 hbX
    obtain ⟨d0, d1, d2, d3, d4, d5, d6⟩ := note_cells HK4.out
    go_upto_region 7 with fail
    rw [← hvX]
    clear hvX
    go_wp2_with fail
    refine (implNoteOk_any k0 t0 e0 s0 p0 x0 q0 p4 len0 len0 vX HO4.out hlen HTS.out hx).mono ?_
    rintro e v5 ⟨rfl, b5⟩
    have HX5 := hide (HX4.out.on b5)
    have HK5 := hide (block_on HK4.out b5)
    have HO5 := hide (HO4.out.later b5 HO4.out.2.1)
    have hs5 := b5.size
    clear b5 d0 d1 d2 d3 d4 d5 d6 HK4 HO4
    have HSC : ∀ W, Hid (Below v5.heap.size v5 W → (W.cell? ⟨v4.heap.size, 0, none⟩ = some (.int .i64 k0) ∧ W.cell? ⟨v4.heap.size, 1, none⟩ = some (.int .i64 t0) ∧ W.cell? ⟨v4.heap.size, 2, none⟩ = some (.int .i64 e0) ∧ W.cell? ⟨v4.heap.size, 3, none⟩ = some (.int .i64 s0) ∧ W.cell? ⟨v4.heap.size, 4, none⟩ = some (.int .i64 p0) ∧ W.cell? ⟨v4.heap.size, 5, none⟩ = some (.string x0) ∧ W.cell? ⟨v4.heap.size, 6, none⟩ = some (.slice p4 len0 len0) ∧ W.cell? ⟨w.heap.size, 0, none⟩ = some (.int .i64 k0) ∧ W.cell? ⟨w.heap.size, 1, none⟩ = some (.int .i64 t0) ∧ W.cell? ⟨w.heap.size, 2, none⟩ = some (.int .i64 e0) ∧ W.cell? ⟨w.heap.size, 3, none⟩ = some (.int .i64 s0) ∧ W.cell? ⟨w.heap.size, 4, none⟩ = some (.int .i64 p0) ∧ W.cell? ⟨w.heap.size, 5, none⟩ = some (.string x0) ∧ W.cell? ⟨w.heap.size, 6, none⟩ = some (.slice a0 len0 cap0))) := fun W hb => by
      obtain ⟨x0, x1, x2, x3, x4, x5, x6⟩ := note_cells (block_on HK5.out hb)
      obtain ⟨y0, y1, y2, y3, y4, y5, y6⟩ := note_cells (HX5.out.on hb).note
      exact ⟨x0, x1, x2, x3, x4, x5, x6, y0, y1, y2, y3, y4, y5, y6⟩
    have HR0 : Hid (Below v5.heap.size v5 v5.drew) := (Below.refl v5.heap.size v5).drew
    go_upto_region 10 with fail
    go_region_held3 (fun W => W.cell? ⟨v4.heap.size, 0, none⟩ = some (.int .i64 k0) ∧ W.cell? ⟨v4.heap.size, 1, none⟩ = some (.int .i64 t0) ∧ W.cell? ⟨v4.heap.size, 2, none⟩ = some (.int .i64 e0) ∧ W.cell? ⟨v4.heap.size, 3, none⟩ = some (.int .i64 s0) ∧ W.cell? ⟨v4.heap.size, 4, none⟩ = some (.int .i64 p0) ∧ W.cell? ⟨v4.heap.size, 5, none⟩ = some (.string x0) ∧ W.cell? ⟨v4.heap.size, 6, none⟩ = some (.slice p4 len0 len0) ∧ W.cell? ⟨w.heap.size, 0, none⟩ = some (.int .i64 k0) ∧ W.cell? ⟨w.heap.size, 1, none⟩ = some (.int .i64 t0) ∧ W.cell? ⟨w.heap.size, 2, none⟩ = some (.int .i64 e0) ∧ W.cell? ⟨w.heap.size, 3, none⟩ = some (.int .i64 s0) ∧ W.cell? ⟨w.heap.size, 4, none⟩ = some (.int .i64 p0) ∧ W.cell? ⟨w.heap.size, 5, none⟩ = some (.string x0) ∧ W.cell? ⟨w.heap.size, 6, none⟩ = some (.slice a0 len0 cap0))
      (first | with_reducible exact (HSC _).out HR0.out | with_reducible exact (HSC _).out HR1.out | with_reducible exact (HSC _).out HR2.out | fail)
      (first
        | (go_at_call 6; refine ((HTO _).out (HX5.out.on HR0.out)).mono ?_; rintro e y1 ⟨p6, rfl, oo, bb⟩; have HR1 := hide (below_here HR0.out bb); have HO6 := hide oo; clear oo bb)
        | (go_at_call 8; refine (eqNote_same k0 t0 e0 s0 p0 x0 q0 p4 p6 len0 len0 len0 y1 (HO5.out.later HR1.out HO5.out.2.1) HO6.out.texts hlen).mono ?_; rintro e y2 ⟨rfl, bb⟩; have HR2 := hide (below_here HR1.out bb); clear bb)
        | fail)
    have HBE := hide (below_here HX5.out.below HR2.out)
    clear HSC HR0 HR1 HR2
    go_wp2_with fail
    go_ret
    exact ⟨rfl, HBE.out⟩
  · clear hr
    go_wp2_with fail
    go_ret
    exact ⟨rfl, HX1.out.below⟩

/-! ### THE ROW's STEP: WRITTEN OUT: LEAVE IT -/
set_option maxRecDepth 100000 in
theorem lifted (os : Os) (started : os.Started) (H : Type) (enc : TypeId × Value → H) :
    ReturnsInHanded {} Try.checked os 3 .any (Rows.fnExactNoteOkSpec.pre6 enc Try.prog Try.f3 Rows.fnExactNoteOkRow.domain false) (Rows.fnExactNoteOkSpec.post enc Try.prog Try.f3 false true false false) := by
  refine returnsInHanded_of_change (C := Try.checked) own started (by kernel_rfl) Try.func3
    (ChangeSpec.witness6 (enc := enc) (C := Try.checked) false ⟨#[], #[.agg #[.int .i64 0, .int .i64 0, .int .i64 0, .int .i64 0, .int .i64 0, .string ByteArray.empty, .slice none 0 0]], []⟩ 8 (by kernel_rfl) (by kernel_rfl) (by kernel_rfl) (by kernel_rfl)) ?_
  intro W base args ds gs before hval0 hW hcnd _
  have hval : ∀ (j : Nat) t v, Try.f3.params[j]? = some t → args[j]? = some v → Value.okWide Try.prog W .any base t v := hval0
  have hW' := hW
  obtain ⟨p, q, hA0, hV, rfl, hfz, hnd⟩ := hW
  have hA : DataW.TrodAll enc Try.prog W 0 (fun _ => true) true Try.f3.params.toList args.toList ds p := hA0
  rw [Try.params3] at hA hval
  obtain ⟨v0, vs0, d0, ds0, p0, q0, hargs, rfl, rfl, h0, r0⟩ := trodAll_cons hA
  obtain ⟨rfl, rfl, rfl⟩ := trodAll_nil r0
  obtain rfl : args = #[v0] := by cases args; simp_all
  obtain ⟨rfl, rfl⟩ := trodVars_none hV
  have kk0 := h0
  have lt0 : ∀ x ∈ p0, x.block < W.heap.size := by obtain ⟨m, hm⟩ := kk0; exact DataW.trod_lt m _ _ _ hm
  obtain ⟨kz0, tz0, ez0, sz0, pz0, xz0, a0, len0, cap0, q0, rfl, w0⟩ := note_read Try.underlying24 (by kernel_rfl) (by kernel_rfl) Try.underlying2 Try.underlying2 Try.underlying2 Try.underlying2 Try.underlying2 Try.underlying9 Try.underlying22 Try.underlying9 (by kernel_rfl) (hval 0 24 v0 rfl rfl) h0
  clear hA0 hval0
  refine (walk kz0 tz0 ez0 sz0 pz0 xz0 a0 len0 cap0 q0 W w0).mono fun e W' ⟨he, bel⟩ => ?_
  subst he
  exact ⟨_, rfl, _, _, _, [], _, [], hW', trodAll_mk1 (shut_bool Try.underlying4 _), (trodAll_cons_mk (Below.trod laidOut (by kernel_rfl) (of_decide_eq_true (by kernel_rfl)) kk0 bel lt0) trodAll_mk0), rfl, bel.frame _, fun h => by cases h⟩

theorem over : Rows.fnExactNoteOkRow.holds Try.pinned (OpenSpec.ofChange Rows.fnExactNoteOkSpec) :=
  OpenClaim.holds_of_wide 3 Try.f3 rfl rfl rfl rfl rfl rfl rfl ⟨rfl, rfl, rfl, rfl, rfl⟩ rfl rfl rfl rfl rfl (by kernel_rfl) Try.func3 (by kernel_rfl)
    (of_decide_eq_true (by kernel_rfl)) (by unfold Func.isWrapper; first | (rw [if_pos (by decide +kernel)]; kernel_rfl) | (rw [if_neg (by decide +kernel)]; exact ⟨rfl, rfl⟩))
    (fun os started H enc _ => lifted os started H enc)

/-- ████ THE STATEMENT ████ -/
theorem proved : Rows.FnExactNoteOkSaid := over
#print axioms proved
end Go.Proofs.Ythldcfiemfccpaa.fnExactNoteOk
