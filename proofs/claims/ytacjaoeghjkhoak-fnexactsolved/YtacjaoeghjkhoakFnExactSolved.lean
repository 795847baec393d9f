/- For every slice of slices of int64 and every slice of int64 the law FnExactSolved returns true and leaves its arguments as they were; no condition. -/
import Derived.Test.YtacjaoeghjkhoakRows
import Derived.Test.YtacjaoeghjkhoakReadBase
import Derived.Test.YtacjaoeghjkhoakSolveSpec3
import Derived.Test.YtacjaoeghjkhoakSolveImpl
import Derived.WalkKit
import Derived.ProofKit
import Derived.OpenShut
import Derived.ShutString
import Derived.ChangeOld
import Derived.Below
namespace Go.Proofs.Ytacjaoeghjkhoak.fnExactSolved
open Go.ChangeShapes Go.WideShapes Go.ChangeAt Go.RowKit
open Go.ChangeMaps (open_string shut_string)
set_option linter.unusedVariables false

theorem own : ownKnob Try.prog.godebug = none := by kernel_rfl
theorem laidOut : laidOutB Try.prog = true := by kernel_rfl

set_option maxHeartbeats 3200000 in

theorem walk (a0 : Option Addr) (len0 cap0 : Nat) (z0 : List (List Int)) (a1 : Option Addr) (len1 cap1 : Nat) (z1 : List Int) (w : World) (w0 : Rows2 0 w.heap.size w a0 len0 z0 ∧ (∀ xs ∈ z0, xs.length ≤ maxLen) ∧ len0 ≤ maxLen ∧ ∀ xs ∈ z0, ∀ x ∈ xs, (Lit.int .i64 x).wf = true) (w1 : Ints 0 w.heap.size w a1 len1 z1 ∧ len1 ≤ maxLen) :
    Calls Try.prog 4 #[.slice a0 len0 cap0, .slice a1 len1 cap1] w fun e w' => e = .returned (.bool true) ∧ Below w.heap.size w w' := by
  obtain ⟨hA, hxm, hm, _⟩ := w0
  obtain ⟨hY, hmy⟩ := w1
  obtain ⟨xs, hxs⟩ : ∃ xs, xs = z0 := ⟨_, rfl⟩
  rw [← hxs] at hA hxm
  clear hxs
  obtain ⟨ys, hys⟩ : ∃ ys, ys = z1 := ⟨_, rfl⟩
  rw [← hys] at hY
  clear hys
  have HS := hide (szR_any a0 len0 cap0 xs w hA hm hxm)
  clear hxm hm hmy
  by_cases hbig1 : len1 ≤ 1048576
  · go_enter Try.func4, Try.ntmps4
    go_wp2_with fail
    refine HS.out.mono ?_
    rintro e x0 ⟨⟨r, rfl, r1, r2, hr⟩, rfl⟩
    clear HS
    by_cases h0 : 0 ≤ r
    · have htot := hr h0
      have hbig : len0 ≤ 1048576 := by omega
      have HT := hide htot
      have HZ : Hid (∀ s ∈ xs, s.length ≤ 1048576) := fun s hs => by have := totalI_le hs; omega
      clear hr htot
      go_wp2_with fail
      refine (toR_any a0 len0 cap0 xs w hA hbig HZ.out).mono ?_
      rintro e x1 ⟨p1, rfl, o1, b1⟩
      go_wp2_with fail
      refine (to_any a1 len1 cap1 ys x1 (hY.later b1 (Nat.le_refl _)) hbig1).mono ?_
      rintro e x2 ⟨q1, rfl, u1, b2⟩
      have B2 := below_here b1 b2
      go_wp2_with fail
      refine (specSolved_any p1 len0 len0 xs q1 len1 len1 ys x2 (o1.later b2 (Nat.le_refl _)).rows u1.ints hbig hbig1 HZ.out).mono ?_
      rintro e x3 ⟨p3, m3, c3, out3, t3, rfl, hm3, o3, A3, b3⟩
      have B3 := below_here B2 b3
      have hn3 : m3 ≤ 1048576 := by omega
      go_wp2_with fail
      refine (toR_any a0 len0 cap0 xs x3 (hA.later B3 (Nat.le_refl _)) hbig HZ.out).mono ?_
      rintro e x4 ⟨p4, rfl, o4, b4⟩
      have B4 := below_here B3 b4
      go_wp2_with fail
      refine (to_any a1 len1 cap1 ys x4 (hY.later B4 (Nat.le_refl _)) hbig1).mono ?_
      rintro e x5 ⟨p5, rfl, o5, b5⟩
      have B5 := below_here B4 b5
      go_wp2_with fail
      refine (implSolved_any p4 len0 len0 xs p5 len1 len1 ys x5 (o4.later b5 (Nat.le_refl _)).rows o5.ints hbig hbig1 HZ.out).mono ?_
      rintro e x6 ⟨p6, m6, c6, out6, t6, rfl, hm6, o6, A6, b6⟩
      obtain ⟨rfl, rfl⟩ := A6.one A3
      have B6 := below_here B5 b6
      have hn6 : m6 ≤ 1048576 := by omega
      have s34 := b4.size
      have s45 := b5.size
      have s56 := b6.size
      have o36 := ((o3.later b4 (Nat.le_refl _)).later b5 (by omega)).later b6 (by omega)
      have o46 := (o4.later b5 (Nat.le_refl _)).later b6 (by omega)
      have o56 := o5.later b6 (Nat.le_refl _)
      go_wp2_with fail
      refine (eq_any p6 m6 c6 _ p3 m3 c3 _ x6 o6.ints o36.ints hn6 hn3).mono ?_
      rintro e x7 ⟨rfl, b7⟩
      have B7 := below_here B6 b7
      have s67 := b7.size
      go_wp2_with fail
      refine (toR_any a0 len0 cap0 xs x7 (hA.later B7 (Nat.le_refl _)) hbig HZ.out).mono ?_
      rintro e x8 ⟨p8, rfl, o8, b8⟩
      have B8 := below_here B7 b8
      have s78 := b8.size
      have o48 := (o46.later b7 (by omega)).later b8 (by omega)
      go_wp2_with fail
      refine (eqR_any p4 len0 len0 xs p8 len0 len0 xs x8 o48.rows o8.rows hbig hbig HZ.out HZ.out).mono ?_
      rintro e x9 ⟨rfl, b9⟩
      have B9 := below_here B8 b9
      have s89 := b9.size
      go_wp2_with fail
      refine (to_any a1 len1 cap1 ys x9 (hY.later B9 (Nat.le_refl _)) hbig1).mono ?_
      rintro e y1 ⟨q2, rfl, u2, c1⟩
      have C1 := below_here B9 c1
      have t1 := c1.size
      have o5a := (((o56.later b7 (by omega)).later b8 (by omega)).later b9 (by omega)).later c1 (by omega)
      go_wp2_with fail
      refine (eq_any p5 len1 len1 ys q2 len1 len1 ys y1 o5a.ints u2.ints hbig1 hbig1).mono ?_
      rintro e y2 ⟨rfl, c2⟩
      have C2 := below_here C1 c2
      have t2 := c2.size
      have o4b := ((o48.later b9 (by omega)).later c1 (by omega)).later c2 (by omega)
      have o5b := o5a.later c2 (by omega)
      have o3b := (((((o36.later b7 (by omega)).later b8 (by omega)).later b9 (by omega)).later c1 (by omega)).later c2 (by omega))
      have o6b := (((((o6.later b7 (by omega)).later b8 (by omega)).later b9 (by omega)).later c1 (by omega)).later c2 (by omega))
      go_wp2_with fail
      refine (markR_any p4 len0 len0 xs y2 o4b HT.out).mono ?_
      rintro e y3 ⟨rfl, d3⟩
      have C3 : Below w.heap.size w y3 := C2.trans (d3.below B3.size C2.size)
      have t3 := d3.size
      have o5c := o5b.aside d3 (.inr (Nat.le_refl _))
      have o3c := o3b.aside d3 (.inl (Nat.le_refl _))
      have o6c := o6b.aside d3 (.inr (by omega))
      have hT1 : 1 + totalI xs ≤ 1048576 := by
        have h1 := HT.out
        have h2 := hA.1
        cases xs with
        | nil => simp [totalI]
        | cons x xs => simp only [List.length_cons] at h2; omega
      obtain ⟨T, hT⟩ : ∃ T, T = 1 + totalI xs := ⟨_, rfl⟩
      rw [← hT] at hT1 ⊢
      clear hT
      go_wp2_with fail
      refine (mark_any p5 len1 len1 ys (T : Int) y3 o5c hbig1 (by omega) (by omega)).mono ?_
      rintro e y4 ⟨rfl, o5d, d4⟩
      have C4 : Below w.heap.size w y4 := C3.trans (d4.below B4.size C3.size)
      have t4 := d4.size
      have o3d := o3c.aside d4 (.inl (by omega))
      have o6d := o6c.aside d4 (.inr (Nat.le_refl _))
      go_wp2_with fail
      refine (eq_any p6 m6 c6 _ p3 m3 c3 _ y4 o6d.ints o3d.ints hn6 hn3).mono ?_
      rintro e y5 ⟨rfl, c5⟩
      have C5 := below_here C4 c5
      have t5 := c5.size
      have o6e := o6d.later c5 (by omega)
      have o3e := o3d.later c5 (by omega)
      go_wp2_with fail
      refine (mark_any p6 m6 c6 _ 1 y5 o6e hn6 (by omega) (by omega)).mono ?_
      rintro e y6 ⟨rfl, o6f, d6⟩
      have C6 : Below w.heap.size w y6 := C5.trans (d6.below B5.size C5.size)
      have t6 := d6.size
      have o3f := o3e.aside d6 (.inl (by omega))
      go_wp2_with fail
      refine (held_any p6 m6 c6 1 y6 o6f.ints hn6 (by omega) (by omega)).mono ?_
      rintro e y7 ⟨rfl, rfl⟩
      go_wp2_with fail
      refine (toR_any a0 len0 cap0 xs y6 (hA.later C6 (Nat.le_refl _)) hbig HZ.out).mono ?_
      rintro e y7 ⟨q7, rfl, u7, c7⟩
      have C7 := below_here C6 c7
      have t7 := c7.size
      go_wp2_with fail
      refine (to_any a1 len1 cap1 ys y7 (hY.later C7 (Nat.le_refl _)) hbig1).mono ?_
      rintro e y8 ⟨q8, rfl, u8, c8⟩
      have C8 := below_here C7 c8
      have t8 := c8.size
      go_wp2_with fail
      refine (implSolved_any q7 len0 len0 xs q8 len1 len1 ys y8 (u7.later c8 (Nat.le_refl _)).rows u8.ints hbig hbig1 HZ.out).mono ?_
      rintro e y9 ⟨p9, m9, c9', out9, t9', rfl, hm9, o9, A9, c9⟩
      obtain ⟨rfl, rfl⟩ := A9.one A3
      have hn9 : m9 ≤ 1048576 := by omega
      have C9 := below_here C8 c9
      have t9 := c9.size
      have o3g := ((o3f.later c7 (by omega)).later c8 (by omega)).later c9 (by omega)
      have o6g := ((o6f.later c7 (by omega)).later c8 (by omega)).later c9 (by omega)
      go_wp2_with fail
      refine (eq_any p9 m9 c9' _ p3 m3 c3 _ y9 o9.ints o3g.ints hn9 hn3).mono ?_
      rintro e z1 ⟨rfl, d1⟩
      have D1 := below_here C9 d1
      have o6h := o6g.later d1 (by omega)
      go_wp2_with fail
      refine (held_any p6 m6 c6 1 z1 o6h.ints hn6 (by omega) (by omega)).mono ?_
      rintro e z2 ⟨rfl, rfl⟩
      go_wp2_with fail
      go_ret
      exact ⟨rfl, D1⟩
    · clear hr
      go_wp2_with fail
      go_ret
      exact ⟨rfl, Below.refl _ _⟩
  · go_enter Try.func4, Try.ntmps4
    go_wp2_with fail
    go_ret
    exact ⟨rfl, Below.refl _ _⟩

/-! ### THE ROW's STEP: WRITTEN OUT: LEAVE IT -/
set_option maxRecDepth 100000 in
theorem lifted (os : Os) (started : os.Started) (H : Type) (enc : TypeId × Value → H) :
    ReturnsInHanded {} Try.checked os 4 .any (Rows.fnExactSolvedSpec.pre6 enc Try.prog Try.f4 Rows.fnExactSolvedRow.domain false) (Rows.fnExactSolvedSpec.post enc Try.prog Try.f4 false true false false) := by
  refine returnsInHanded_of_change (C := Try.checked) own started (by kernel_rfl) Try.func4
    (ChangeSpec.witness6 (enc := enc) (C := Try.checked) false ⟨#[], #[.slice none 0 0, .slice none 0 0], []⟩ 8 (by kernel_rfl) (by kernel_rfl) (by kernel_rfl) (by kernel_rfl)) ?_
  intro W base args ds gs before hval0 hW hcnd _
  have hval : ∀ (j : Nat) t v, Try.f4.params[j]? = some t → args[j]? = some v → Value.okWide Try.prog W .any base t v := hval0
  have hW' := hW
  obtain ⟨p, q, hA0, hV, rfl, hfz, hnd⟩ := hW
  have hA : DataW.TrodAll enc Try.prog W 0 (fun _ => true) true Try.f4.params.toList args.toList ds p := hA0
  rw [Try.params4] at hA hval
  obtain ⟨v0, vs0, d0, ds0, p0, q0, hargs, rfl, rfl, h0, r0⟩ := trodAll_cons hA
  obtain ⟨v1, vs1, d1, ds1, p1, q1, rfl, rfl, rfl, h1, r1⟩ := trodAll_cons r0
  obtain ⟨rfl, rfl, rfl⟩ := trodAll_nil r1
  obtain rfl : args = #[v0, v1] := by cases args; simp_all
  obtain ⟨rfl, rfl⟩ := trodVars_none hV
  obtain ⟨a0, len0, cap0, rfl⟩ := okWide_slice Try.underlying28 (hval 0 28 v0 rfl rfl)
  have k0 := h0
  have lt0 : ∀ x ∈ p0, x.block < W.heap.size := by obtain ⟨m, hm⟩ := k0; exact DataW.trod_lt m _ _ _ hm
  obtain ⟨z0, w0⟩ := rows2_read Try.underlying28 Try.underlying29 Try.underlying2 (by kernel_rfl) (by kernel_rfl) h0
  obtain ⟨a1, len1, cap1, rfl⟩ := okWide_slice Try.underlying29 (hval 1 29 v1 rfl rfl)
  have k1 := h1
  have lt1 : ∀ x ∈ p1, x.block < W.heap.size := by obtain ⟨m, hm⟩ := k1; exact DataW.trod_lt m _ _ _ hm
  obtain ⟨z1, w1⟩ := ints_read Try.underlying29 Try.underlying2 (by kernel_rfl) h1
  clear hA0 hval0
  refine (walk a0 len0 cap0 z0 a1 len1 cap1 z1 W w0 w1).mono fun e W' ⟨he, bel⟩ => ?_
  subst he
  exact ⟨_, rfl, _, _, _, [], _, [], hW', trodAll_mk1 (shut_bool Try.underlying4 _), (trodAll_cons_mk (Below.trod laidOut (by kernel_rfl) (of_decide_eq_true (by kernel_rfl)) k0 bel lt0) (trodAll_cons_mk (Below.trod laidOut (by kernel_rfl) (of_decide_eq_true (by kernel_rfl)) k1 bel lt1) trodAll_mk0)), rfl, bel.frame _, fun h => by cases h⟩

theorem over : Rows.fnExactSolvedRow.holds Try.pinned (OpenSpec.ofChange Rows.fnExactSolvedSpec) :=
  OpenClaim.holds_of_wide 4 Try.f4 rfl rfl rfl rfl rfl rfl rfl ⟨rfl, rfl, rfl, rfl, rfl⟩ rfl rfl rfl rfl rfl (by kernel_rfl) Try.func4 (by kernel_rfl)
    (of_decide_eq_true (by kernel_rfl)) (by unfold Func.isWrapper; first | (rw [if_pos (by decide +kernel)]; kernel_rfl) | (rw [if_neg (by decide +kernel)]; exact ⟨rfl, rfl⟩))
    (fun os started H enc _ => lifted os started H enc)

/-- ████ THE STATEMENT ████ -/
theorem proved : Rows.FnExactSolvedSaid := over
#print axioms proved
end Go.Proofs.Ytacjaoeghjkhoak.fnExactSolved
