/- For every slice of texts, every slice of booleans and every int64 the law FnExactRebuilt returns true and leaves its arguments as they were; no condition. -/
import Derived.Test.YtbgjagmnpfcfaakRows
import Derived.Test.YtbgjagmnpfcfaakReadBase
import Derived.Test.YtbgjagmnpfcfaakMendSpec
import Derived.Test.YtbgjagmnpfcfaakMendImpl
import Derived.Test.YtbgjagmnpfcfaakBoolWalk
import Derived.WalkKit
import Derived.ProofKit
import Derived.OpenShut
import Derived.ShutString
import Derived.ChangeOld
import Derived.Below
namespace Go.Proofs.Ytbgjagmnpfcfaak.fnExactRebuilt
open Go.ChangeShapes Go.WideShapes Go.ChangeAt Go.RowKit
open Go.ChangeMaps (open_string shut_string)
set_option linter.unusedVariables false

theorem own : ownKnob Try.prog.godebug = none := by kernel_rfl
theorem laidOut : laidOutB Try.prog = true := by kernel_rfl

set_option maxHeartbeats 3200000 in

theorem walk (a0 : Option Addr) (len0 cap0 : Nat) (z0 : List ByteArray) (a1 : Option Addr) (len1 cap1 : Nat) (z1 : List Bool) (a2 : Int) (w : World) (w0 : Texts 0 w.heap.size w a0 len0 z0 ∧ (∀ s ∈ z0, s.size ≤ maxLen) ∧ len0 ≤ maxLen) (w1 : Bools 0 w.heap.size w a1 len1 z1 ∧ len1 ≤ maxLen) (w2 : (Lit.int .i64 a2).wf = true) :
    Calls Try.prog 5 #[.slice a0 len0 cap0, .slice a1 len1 cap1, .int .i64 a2] w fun e w' => e = .returned (.bool true) ∧ Below w.heap.size w w' := by
  obtain ⟨hA, hxm, hm⟩ := w0
  obtain ⟨hY, hmy⟩ := w1
  obtain ⟨xs, hxs⟩ : ∃ xs, xs = z0 := ⟨_, rfl⟩
  rw [← hxs] at hA hxm
  clear hxs
  obtain ⟨ys, hys⟩ : ∃ ys, ys = z1 := ⟨_, rfl⟩
  rw [← hys] at hY
  clear hys
  have HS := hide (szT_any a0 len0 cap0 xs w hA hm hxm)
  clear hxm hm hmy
  by_cases hbig1 : len1 ≤ 1048576
  · go_enter Try.func5, Try.ntmps5
    go_wp2_with fail
    refine HS.out.mono ?_
    rintro e x0 ⟨⟨r, rfl, r1, r2, hr⟩, rfl⟩
    clear HS
    by_cases h0 : 0 ≤ r
    · have htot := hr h0
      have hbig : len0 ≤ 1048576 := by omega
      have HT := hide htot
      have HZ : Hid (∀ s ∈ xs, s.size ≤ 1048576) := fun s hs => by have := total_le hs; omega
      clear hr htot
      go_wp2_with fail
      refine (toT_any a0 len0 cap0 xs w hA hbig).mono ?_
      rintro e x1 ⟨p1, rfl, o1, b1⟩
      go_wp2_with fail
      refine (toB_any a1 len1 cap1 ys x1 (hY.later b1 (Nat.le_refl _)) hbig1).mono ?_
      rintro e x2 ⟨q1, rfl, u1, b2⟩
      have B2 := below_here b1 b2
      go_wp2_with fail
      refine (specRebuilt_any p1 len0 len0 xs q1 len1 len1 ys a2 x2 (o1.later b2 (Nat.le_refl _)).texts u1.bools hbig hbig1 HZ.out w2).mono ?_
      rintro e x3 ⟨p3, m3, c3, out3, t3, rfl, hm3, o3, A3, b3⟩
      have B3 := below_here B2 b3
      have hn3 : m3 ≤ 1048576 := by omega
      go_wp2_with fail
      refine (toT_any a0 len0 cap0 xs x3 (hA.later B3 (Nat.le_refl _)) hbig).mono ?_
      rintro e x4 ⟨p4, rfl, o4, b4⟩
      have B4 := below_here B3 b4
      go_wp2_with fail
      refine (toB_any a1 len1 cap1 ys x4 (hY.later B4 (Nat.le_refl _)) hbig1).mono ?_
      rintro e x5 ⟨p5, rfl, o5, b5⟩
      have B5 := below_here B4 b5
      go_wp2_with fail
      refine (implRebuilt_any p4 len0 len0 xs p5 len1 len1 ys a2 x5 (o4.later b5 (Nat.le_refl _)).texts o5.bools hbig hbig1 HZ.out w2 (Nat.le_refl _) (Nat.le_refl _)).mono ?_
      rintro e x6 ⟨p6, m6, c6, out6, t6, rfl, hm6, o6, A6, b6⟩
      obtain ⟨rfl, rfl⟩ := A6.one A3
      have B6 := below_here B5 b6
      have hn6 : m6 ≤ 1048576 := by omega
      have s34 := b4.size
      have s45 := b5.size
      have s56 := b6.size
      have o36 := ((o3.later b4 (Nat.le_refl _)).later b5 (by omega)).later b6 (by omega)
      have o46 := (o4.later b5 (Nat.le_refl _)).later b6 (by omega)
      have o56 := o5.later b6 (Nat.le_refl _)
      go_wp2_with fail
      refine (eqT_any p6 m6 c6 _ p3 m3 c3 _ x6 o6.texts o36.texts hn6 hn3).mono ?_
      rintro e x7 ⟨rfl, b7⟩
      have B7 := below_here B6 b7
      have s67 := b7.size
      go_wp2_with fail
      refine (toT_any a0 len0 cap0 xs x7 (hA.later B7 (Nat.le_refl _)) hbig).mono ?_
      rintro e x8 ⟨p8, rfl, o8, b8⟩
      have B8 := below_here B7 b8
      have s78 := b8.size
      have o48 := (o46.later b7 (by omega)).later b8 (by omega)
      go_wp2_with fail
      refine (eqT_any p4 len0 len0 xs p8 len0 len0 xs x8 o48.texts o8.texts hbig hbig).mono ?_
      rintro e x9 ⟨rfl, b9⟩
      have B9 := below_here B8 b9
      have s89 := b9.size
      go_wp2_with fail
      refine (toB_any a1 len1 cap1 ys x9 (hY.later B9 (Nat.le_refl _)) hbig1).mono ?_
      rintro e y1 ⟨q2, rfl, u2, c1⟩
      have C1 := below_here B9 c1
      have t1 := c1.size
      have o5a := (((o56.later b7 (by omega)).later b8 (by omega)).later b9 (by omega)).later c1 (by omega)
      go_wp2_with fail
      refine (eqB_any p5 len1 len1 ys q2 len1 len1 ys y1 o5a.bools u2.bools hbig1 hbig1).mono ?_
      rintro e y2 ⟨rfl, c2⟩
      have C2 := below_here C1 c2
      have t2 := c2.size
      have o4b := ((o48.later b9 (by omega)).later c1 (by omega)).later c2 (by omega)
      have o5b := o5a.later c2 (by omega)
      have o3b := (((((o36.later b7 (by omega)).later b8 (by omega)).later b9 (by omega)).later c1 (by omega)).later c2 (by omega))
      have o6b := (((((o6.later b7 (by omega)).later b8 (by omega)).later b9 (by omega)).later c1 (by omega)).later c2 (by omega))
      go_wp2_with fail
      refine (markTS_any p4 len0 len0 xs 1 y2 o4b hbig (by omega) (by omega)).mono ?_
      rintro e y3 ⟨rfl, _, d3⟩
      have C3 : Below w.heap.size w y3 := C2.trans (d3.below B3.size C2.size)
      have t3 := d3.size
      have o5c := o5b.aside d3 (.inr (Nat.le_refl _))
      have o3c := o3b.aside d3 (.inl (Nat.le_refl _))
      have o6c := o6b.aside d3 (.inr (by omega))
      obtain ⟨T, hT⟩ : ∃ T, T = 1 + len0 := ⟨_, rfl⟩
      have hT1 : T ≤ 1048577 := by omega
      rw [← hT]
      clear hT
      go_wp2_with fail
      refine (markB_any p5 len1 len1 _ (T : Int) y3 o5c.2 hbig1 (by omega) (by omega)).mono ?_
      rintro e y4 ⟨rfl, d4⟩
      have C4 : Below w.heap.size w y4 := C3.trans (d4.below B4.size C3.size)
      have t4 := d4.size
      have o3d := o3c.aside d4 (.inl (by omega))
      have o6d := o6c.aside d4 (.inr (Nat.le_refl _))
      go_wp2_with fail
      refine (eqT_any p6 m6 c6 _ p3 m3 c3 _ y4 o6d.texts o3d.texts hn6 hn3).mono ?_
      rintro e y5 ⟨rfl, c5⟩
      have C5 := below_here C4 c5
      have t5 := c5.size
      have o6e := o6d.later c5 (by omega)
      have o3e := o3d.later c5 (by omega)
      go_wp2_with fail
      refine (markTS_any p6 m6 c6 _ 1 y5 o6e hn6 (by omega) (by omega)).mono ?_
      rintro e y6 ⟨rfl, o6f, d6⟩
      have C6 : Below w.heap.size w y6 := C5.trans (d6.below B5.size C5.size)
      have t6 := d6.size
      have o3f := o3e.aside d6 (.inl (by omega))
      go_wp2_with fail
      refine (heldTS_any p6 m6 c6 1 y6 o6f.texts hn6 (by omega) (by omega)).mono ?_
      rintro e y6' ⟨rfl, c6'⟩
      have C6' := below_here C6 c6'
      have t6' := c6'.size
      have o3f := o3f.later c6' (by omega)
      have o6f := o6f.later c6' (by omega)
      go_wp2_with fail
      refine (toT_any a0 len0 cap0 xs y6' (hA.later C6' (Nat.le_refl _)) hbig).mono ?_
      rintro e y7 ⟨q7, rfl, u7, c7⟩
      have C7 := below_here C6' c7
      have t7 := c7.size
      go_wp2_with fail
      refine (toB_any a1 len1 cap1 ys y7 (hY.later C7 (Nat.le_refl _)) hbig1).mono ?_
      rintro e y8 ⟨q8, rfl, u8, c8⟩
      have C8 := below_here C7 c8
      have t8 := c8.size
      go_wp2_with fail
      refine (implRebuilt_any q7 len0 len0 xs q8 len1 len1 ys a2 y8 (u7.later c8 (Nat.le_refl _)).texts u8.bools hbig hbig1 HZ.out w2 (Nat.le_refl _) (Nat.le_refl _)).mono ?_
      rintro e y9 ⟨p9, m9, c9', out9, t9', rfl, hm9, o9, A9, c9⟩
      obtain ⟨rfl, rfl⟩ := A9.one A3
      have hn9 : m9 ≤ 1048576 := by omega
      have C9 := below_here C8 c9
      have t9 := c9.size
      have o3g := ((o3f.later c7 (by omega)).later c8 (by omega)).later c9 (by omega)
      have o6g := ((o6f.later c7 (by omega)).later c8 (by omega)).later c9 (by omega)
      go_wp2_with fail
      refine (eqT_any p9 m9 c9' _ p3 m3 c3 _ y9 o9.texts o3g.texts hn9 hn3).mono ?_
      rintro e z1 ⟨rfl, d1⟩
      have D1 := below_here C9 d1
      have o6h := o6g.later d1 (by omega)
      go_wp2_with fail
      refine (heldTS_any p6 m6 c6 1 z1 o6h.texts hn6 (by omega) (by omega)).mono ?_
      rintro e z2 ⟨rfl, d2⟩
      have D2 := below_here D1 d2
      go_wp2_with fail
      go_ret
      exact ⟨rfl, D2⟩
    · clear hr
      go_wp2_with fail
      go_ret
      exact ⟨rfl, Below.refl _ _⟩
  · go_enter Try.func5, Try.ntmps5
    go_wp2_with fail
    go_ret
    exact ⟨rfl, Below.refl _ _⟩

/-! ### THE ROW's STEP: WRITTEN OUT: LEAVE IT -/
set_option maxRecDepth 100000 in
theorem lifted (os : Os) (started : os.Started) (H : Type) (enc : TypeId × Value → H) :
    ReturnsInHanded {} Try.checked os 5 .any (Rows.fnExactRebuiltSpec.pre6 enc Try.prog Try.f5 Rows.fnExactRebuiltRow.domain false) (Rows.fnExactRebuiltSpec.post enc Try.prog Try.f5 false true false false) := by
  refine returnsInHanded_of_change (C := Try.checked) own started (by kernel_rfl) Try.func5
    (ChangeSpec.witness6 (enc := enc) (C := Try.checked) false ⟨#[], #[.slice none 0 0, .slice none 0 0, .int .i64 0], []⟩ 8 (by kernel_rfl) (by kernel_rfl) (by kernel_rfl) (by kernel_rfl)) ?_
  intro W base args ds gs before hval0 hW hcnd _
  have hval : ∀ (j : Nat) t v, Try.f5.params[j]? = some t → args[j]? = some v → Value.okWide Try.prog W .any base t v := hval0
  have hW' := hW
  obtain ⟨p, q, hA0, hV, rfl, hfz, hnd⟩ := hW
  have hA : DataW.TrodAll enc Try.prog W 0 (fun _ => true) true Try.f5.params.toList args.toList ds p := hA0
  rw [Try.params5] at hA hval
  obtain ⟨v0, vs0, d0, ds0, p0, q0, hargs, rfl, rfl, h0, r0⟩ := trodAll_cons hA
  obtain ⟨v1, vs1, d1, ds1, p1, q1, rfl, rfl, rfl, h1, r1⟩ := trodAll_cons r0
  obtain ⟨v2, vs2, d2, ds2, p2, q2, rfl, rfl, rfl, h2, r2⟩ := trodAll_cons r1
  obtain ⟨rfl, rfl, rfl⟩ := trodAll_nil r2
  obtain rfl : args = #[v0, v1, v2] := by cases args; simp_all
  obtain ⟨rfl, rfl⟩ := trodVars_none hV
  obtain ⟨a0, len0, cap0, rfl⟩ := okWide_slice Try.underlying22 (hval 0 22 v0 rfl rfl)
  have k0 := h0
  have lt0 : ∀ x ∈ p0, x.block < W.heap.size := by obtain ⟨m, hm⟩ := k0; exact DataW.trod_lt m _ _ _ hm
  obtain ⟨z0, w0⟩ := texts_read Try.underlying22 Try.underlying9 (by kernel_rfl) h0
  obtain ⟨a1, len1, cap1, rfl⟩ := okWide_slice Try.underlying39 (hval 1 39 v1 rfl rfl)
  have k1 := h1
  have lt1 : ∀ x ∈ p1, x.block < W.heap.size := by obtain ⟨m, hm⟩ := k1; exact DataW.trod_lt m _ _ _ hm
  obtain ⟨z1, w1⟩ := bools_read Try.underlying39 Try.underlying4 (by kernel_rfl) h1
  obtain ⟨a2, rfl, rfl, rfl, w2⟩ := open_int Try.underlying2 (hval 2 2 v2 rfl rfl) h2
  clear hA0 hval0
  refine (walk a0 len0 cap0 z0 a1 len1 cap1 z1 a2 W w0 w1 w2).mono fun e W' ⟨he, bel⟩ => ?_
  subst he
  exact ⟨_, rfl, _, _, _, [], _, [], hW', trodAll_mk1 (shut_bool Try.underlying4 _), (trodAll_cons_mk (Below.trod laidOut (by kernel_rfl) (of_decide_eq_true (by kernel_rfl)) k0 bel lt0) (trodAll_cons_mk (Below.trod laidOut (by kernel_rfl) (of_decide_eq_true (by kernel_rfl)) k1 bel lt1) (trodAll_cons_mk (shut_int Try.underlying2 w2) trodAll_mk0))), rfl, bel.frame _, fun h => by cases h⟩

theorem over : Rows.fnExactRebuiltRow.holds Try.pinned (OpenSpec.ofChange Rows.fnExactRebuiltSpec) :=
  OpenClaim.holds_of_wide 5 Try.f5 rfl rfl rfl rfl rfl rfl rfl ⟨rfl, rfl, rfl, rfl, rfl⟩ rfl rfl rfl rfl rfl (by kernel_rfl) Try.func5 (by kernel_rfl)
    (of_decide_eq_true (by kernel_rfl)) (by unfold Func.isWrapper; first | (rw [if_pos (by decide +kernel)]; kernel_rfl) | (rw [if_neg (by decide +kernel)]; exact ⟨rfl, rfl⟩))
    (fun os started H enc _ => lifted os started H enc)

/-- ████ THE STATEMENT ████ -/
theorem proved : Rows.FnExactRebuiltSaid := over
#print axioms proved
end Go.Proofs.Ytbgjagmnpfcfaak.fnExactRebuilt
