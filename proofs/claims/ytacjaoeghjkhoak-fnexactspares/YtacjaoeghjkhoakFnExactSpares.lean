/- For every slice of texts and every int64 the law FnExactSpares returns true and leaves its arguments as they were; no condition. -/
import Derived.Test.YtacjaoeghjkhoakRows
import Derived.Test.YtacjaoeghjkhoakReadBase
import Derived.Test.YtacjaoeghjkhoakSpareSpec3
import Derived.Test.YtacjaoeghjkhoakSpareImplB
import Derived.WalkKit
import Derived.ProofKit
import Derived.OpenShut
import Derived.ShutString
import Derived.ChangeOld
import Derived.Below
namespace Go.Proofs.Ytacjaoeghjkhoak.fnExactSpares
open Go.ChangeShapes Go.WideShapes Go.ChangeAt Go.RowKit
open Go.ChangeMaps (open_string shut_string)
set_option linter.unusedVariables false

theorem own : ownKnob Try.prog.godebug = none := by kernel_rfl
theorem laidOut : laidOutB Try.prog = true := by kernel_rfl

set_option maxHeartbeats 1600000 in

theorem walk (a0 : Option Addr) (len0 cap0 : Nat) (z0 : List ByteArray) (a1 : Int) (w : World) (w0 : Texts 0 w.heap.size w a0 len0 z0 ∧ (∀ s ∈ z0, s.size ≤ maxLen) ∧ len0 ≤ maxLen) (w1 : (Lit.int .i64 a1).wf = true) :
    Calls Try.prog 3 #[.slice a0 len0 cap0, .int .i64 a1] w fun e w' => e = .returned (.bool true) ∧ Below w.heap.size w w' := by
  obtain ⟨hA, hsz, hm⟩ := w0
  obtain ⟨xs, hxs⟩ : ∃ xs, xs = z0 := ⟨_, rfl⟩
  rw [← hxs] at hA hsz
  clear hxs
  have HS := hide (szT_any a0 len0 cap0 xs w hA hm hsz)
  clear hsz hm
  go_enter Try.func3, Try.ntmps3
  go_wp2_with fail
  refine HS.out.mono ?_
  rintro e x0 ⟨⟨r, rfl, r1, r2, hr⟩, rfl⟩
  clear HS
  by_cases h0 : 0 ≤ r
  · have htot := hr h0
    have hbig : len0 ≤ 1048576 := by omega
    have HZ : Hid (∀ s ∈ xs, s.size ≤ 1048576) := fun s hs => by have := total_le hs; omega
    clear hr htot
    go_wp2_with fail
    refine (toT_any a0 len0 cap0 xs w hA hbig).mono ?_
    rintro e x1 ⟨p1, rfl, o1, b1⟩
    go_wp2_with fail
    refine (specSpares_any p1 len0 len0 xs a1 x1 o1.texts hbig HZ.out).mono ?_
    rintro e x2 ⟨p2, n2, c2, rfl, hn24, o2, b2⟩
    have hn2 : n2 ≤ 1048576 := by omega
    have B2 := below_here b1 b2
    go_wp2_with fail
    refine (toT_any a0 len0 cap0 xs x2 (hA.later B2 (Nat.le_refl _)) hbig).mono ?_
    rintro e x3 ⟨p3, rfl, o3, b3⟩
    have B3 := below_here B2 b3
    go_wp2_with fail
    refine (implSpares_any p3 len0 len0 xs a1 x3 o3.texts hbig HZ.out).mono ?_
    rintro e x4 ⟨p4, n4, c4, rfl, hn44, o4, b4⟩
    have hn4 : n4 ≤ 1048576 := by omega
    have B4 := below_here B3 b4
    have o2' := o2.later (below_here b3 b4) (Nat.le_refl _)
    have o3' := o3.later b4 (Nat.le_refl _)
    have s23 := b3.size
    have s34 := b4.size
    go_wp2_with fail
    refine (eqT_any p4 n4 c4 _ p2 n2 c2 _ x4 o4.texts o2'.texts hn4 hn2).mono ?_
    rintro e x5 ⟨rfl, b5⟩
    have B5 := below_here B4 b5
    have s45 := b5.size
    go_wp2_with fail
    refine (toT_any a0 len0 cap0 xs x5 (hA.later B5 (Nat.le_refl _)) hbig).mono ?_
    rintro e x6 ⟨p6, rfl, o6, b6⟩
    have B6 := below_here B5 b6
    have s56 := b6.size
    have o3'' := (o3'.later b5 (by omega)).later b6 (by omega)
    go_wp2_with fail
    refine (eqT_any p3 len0 len0 xs p6 len0 len0 xs x6 o3''.texts o6.texts hbig hbig).mono ?_
    rintro e x7 ⟨rfl, b7⟩
    have B7 := below_here B6 b7
    have s67 := b7.size
    have o37 := o3''.later b7 (by omega)
    have o27 := ((o2'.later b5 (by omega)).later b6 (by omega)).later b7 (by omega)
    have o47 := ((o4.later b5 (by omega)).later b6 (by omega)).later b7 (by omega)
    go_wp2_with fail
    refine (markTS_any p3 len0 len0 xs 1 x7 o37 hbig (by omega) (by omega)).mono ?_
    rintro e x8 ⟨rfl, o38, d8⟩
    have B8 : Below w.heap.size w x8 := B7.trans (d8.below B2.size B7.size)
    have o28 := o27.aside d8 (.inl (Nat.le_refl _))
    have o48 := o47.aside d8 (.inr (Nat.le_refl _))
    have s78 := d8.size
    go_wp2_with fail
    refine (eqT_any p4 n4 c4 _ p2 n2 c2 _ x8 o48.texts o28.texts hn4 hn2).mono ?_
    rintro e x9 ⟨rfl, b9⟩
    have B9 := below_here B8 b9
    have s89 := b9.size
    have o49 := o48.later b9 (by omega)
    have o29 := o28.later b9 (by omega)
    go_wp2_with fail
    refine (markTS_any p4 n4 c4 _ 1 x9 o49 hn4 (by omega) (by omega)).mono ?_
    rintro e y1 ⟨rfl, o4a, d1⟩
    have Ba : Below w.heap.size w y1 := B9.trans (d1.below B3.size B9.size)
    have o2a := o29.aside d1 (.inl (by omega))
    have s9a := d1.size
    go_wp2_with fail
    refine (heldTS_any p4 n4 c4 1 y1 o4a.texts hn4 (by omega) (by omega)).mono ?_
    rintro e y2 ⟨rfl, bh⟩
    have Bh := below_here Ba bh
    have sah := bh.size
    have o2h := o2a.later bh (by omega)
    have o4h := o4a.later bh (by omega)
    go_wp2_with fail
    refine (toT_any a0 len0 cap0 xs y2 (hA.later Bh (Nat.le_refl _)) hbig).mono ?_
    rintro e y3 ⟨p9, rfl, o9, b3'⟩
    have Bb := below_here Bh b3'
    have sab := b3'.size
    go_wp2_with fail
    refine (implSpares_any p9 len0 len0 xs a1 y3 o9.texts hbig HZ.out).mono ?_
    rintro e y4 ⟨p8, n8, c8, rfl, hn84, o8, b4'⟩
    have hn8 : n8 ≤ 1048576 := by omega
    have Bc := below_here Bb b4'
    have sbc := b4'.size
    have o2c := (o2h.later b3' (by omega)).later b4' (by omega)
    have o4c := (o4h.later b3' (by omega)).later b4' (by omega)
    go_wp2_with fail
    refine (eqT_any p8 n8 c8 _ p2 n2 c2 _ y4 o8.texts o2c.texts hn8 hn2).mono ?_
    rintro e y5 ⟨rfl, b5'⟩
    have Bd := below_here Bc b5'
    have o4d := o4c.later b5' (by omega)
    go_wp2_with fail
    refine (heldTS_any p4 n4 c4 1 y5 o4d.texts hn4 (by omega) (by omega)).mono ?_
    rintro e y6 ⟨rfl, b6'⟩
    have Be := below_here Bd b6'
    go_wp2_with fail
    go_ret
    exact ⟨rfl, Be⟩
  · clear hr
    go_wp2_with fail
    go_ret
    exact ⟨rfl, Below.refl _ _⟩

/-! ### THE ROW's STEP: WRITTEN OUT: LEAVE IT -/
set_option maxRecDepth 100000 in
theorem lifted (os : Os) (started : os.Started) (H : Type) (enc : TypeId × Value → H) :
    ReturnsInHanded {} Try.checked os 3 .any (Rows.fnExactSparesSpec.pre6 enc Try.prog Try.f3 Rows.fnExactSparesRow.domain false) (Rows.fnExactSparesSpec.post enc Try.prog Try.f3 false true false false) := by
  refine returnsInHanded_of_change (C := Try.checked) own started (by kernel_rfl) Try.func3
    (ChangeSpec.witness6 (enc := enc) (C := Try.checked) false ⟨#[], #[.slice none 0 0, .int .i64 0], []⟩ 8 (by kernel_rfl) (by kernel_rfl) (by kernel_rfl) (by kernel_rfl)) ?_
  intro W base args ds gs before hval0 hW hcnd _
  have hval : ∀ (j : Nat) t v, Try.f3.params[j]? = some t → args[j]? = some v → Value.okWide Try.prog W .any base t v := hval0
  have hW' := hW
  obtain ⟨p, q, hA0, hV, rfl, hfz, hnd⟩ := hW
  have hA : DataW.TrodAll enc Try.prog W 0 (fun _ => true) true Try.f3.params.toList args.toList ds p := hA0
  rw [Try.params3] at hA hval
  obtain ⟨v0, vs0, d0, ds0, p0, q0, hargs, rfl, rfl, h0, r0⟩ := trodAll_cons hA
  obtain ⟨v1, vs1, d1, ds1, p1, q1, rfl, rfl, rfl, h1, r1⟩ := trodAll_cons r0
  obtain ⟨rfl, rfl, rfl⟩ := trodAll_nil r1
  obtain rfl : args = #[v0, v1] := by cases args; simp_all
  obtain ⟨rfl, rfl⟩ := trodVars_none hV
  obtain ⟨a0, len0, cap0, rfl⟩ := okWide_slice Try.underlying22 (hval 0 22 v0 rfl rfl)
  have k0 := h0
  have lt0 : ∀ x ∈ p0, x.block < W.heap.size := by obtain ⟨m, hm⟩ := k0; exact DataW.trod_lt m _ _ _ hm
  obtain ⟨z0, w0⟩ := texts_read Try.underlying22 Try.underlying9 (by kernel_rfl) h0
  obtain ⟨a1, rfl, rfl, rfl, w1⟩ := open_int Try.underlying2 (hval 1 2 v1 rfl rfl) h1
  clear hA0 hval0
  refine (walk a0 len0 cap0 z0 a1 W w0 w1).mono fun e W' ⟨he, bel⟩ => ?_
  subst he
  exact ⟨_, rfl, _, _, _, [], _, [], hW', trodAll_mk1 (shut_bool Try.underlying4 _), (trodAll_cons_mk (Below.trod laidOut (by kernel_rfl) (of_decide_eq_true (by kernel_rfl)) k0 bel lt0) (trodAll_cons_mk (shut_int Try.underlying2 w1) trodAll_mk0)), rfl, bel.frame _, fun h => by cases h⟩

theorem over : Rows.fnExactSparesRow.holds Try.pinned (OpenSpec.ofChange Rows.fnExactSparesSpec) :=
  OpenClaim.holds_of_wide 3 Try.f3 rfl rfl rfl rfl rfl rfl rfl ⟨rfl, rfl, rfl, rfl, rfl⟩ rfl rfl rfl rfl rfl (by kernel_rfl) Try.func3 (by kernel_rfl)
    (of_decide_eq_true (by kernel_rfl)) (by unfold Func.isWrapper; first | (rw [if_pos (by decide +kernel)]; kernel_rfl) | (rw [if_neg (by decide +kernel)]; exact ⟨rfl, rfl⟩))
    (fun os started H enc _ => lifted os started H enc)

/-- ████ THE STATEMENT ████ -/
theorem proved : Rows.FnExactSparesSaid := over
#print axioms proved
end Go.Proofs.Ytacjaoeghjkhoak.fnExactSpares
