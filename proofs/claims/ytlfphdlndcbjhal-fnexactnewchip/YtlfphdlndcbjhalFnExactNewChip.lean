/- For every two int64 the law FnExactNewChip returns true; no condition. -/
import Derived.Test.YtlfphdlndcbjhalRows
import Derived.Test.YtlfphdlndcbjhalChipAns
import Derived.WalkKit
import Derived.ProofKit
import Derived.OpenShut
import Derived.ShutString
namespace Go.Proofs.Ytlfphdlndcbjhal.fnExactNewChip
open Go.ChangeShapes Go.WideShapes Go.ChangeAt Go.RowKit
open Go.ChangeMaps (open_string shut_string)
set_option linter.unusedVariables false      -- a walk need not use every 'w<i>' (that an integer argument fits its kind)

theorem own : ownKnob Try.prog.godebug = none := by kernel_rfl

set_option maxHeartbeats 4000000 in

theorem walk (a0 : Int) (a1 : Int) (w0 : (Lit.int .i64 a0).wf = true) (w1 : (Lit.int .i64 a1).wf = true) (w : World) :
    Calls Try.prog 5 #[.int .i64 a0, .int .i64 a1] w fun e w' => e = .returned (.bool true) ∧ Below w.heap.size w w' := by
  have HC1 := hide (specNewChip_ans a0 a1)
  have HC2 := hide (implNewChip_ans a0 a1)
  have hfit := newQ_fit a0 a1
  generalize newZ a0 a1 = z at *
  generalize newQ a0 a1 = qs at *
  generalize newOk a0 a1 = b at *
  go_enter Try.func5, Try.ntmps5
  go_wp2_with fail
  refine (HC1.out w).mono ?_
  rintro e w1 ⟨v, rfl, p, c, rfl, ho, hb⟩
  obtain ⟨wX, hwX⟩ : ∃ wX, wX = w1.alloc (.cells #[.int .i64 z, .slice p qs.length c] 36) := ⟨_, rfl⟩
  have hzX : wX.heap.size = w1.heap.size + 1 := by rw [hwX]; simp
  have HBX : Hid (Below w1.heap.size w1 wX) := by rw [hwX]; exact (Below.refl _ _).alloc (Nat.le_refl _) _
  have HX : Hid (wX.heap[w1.heap.size]? = some (.cells #[.int .i64 z, .slice p qs.length c] 36)) := by rw [hwX]; exact heap_new _ _
  have HP := hide (ho.later HBX.out (Nat.le_refl _))
  have HB := hide (below_here hb HBX.out)
  have hs1 := hb.size
  clear ho hb HBX
  go_wp2_with fail
  rw [← hwX]
  clear hwX
  refine (HC2.out wX).mono ?_
  rintro e w2 ⟨v, rfl, p2, c2, rfl, ho, hb⟩
  obtain ⟨wY, hwY⟩ : ∃ wY, wY = w2.alloc (.cells #[.int .i64 z, .slice p2 qs.length c2] 36) := ⟨_, rfl⟩
  have hzY : wY.heap.size = w2.heap.size + 1 := by rw [hwY]; simp
  have HBY : Hid (Below w2.heap.size w2 wY) := by rw [hwY]; exact (Below.refl _ _).alloc (Nat.le_refl _) _
  have HY : Hid (wY.heap[w2.heap.size]? = some (.cells #[.int .i64 z, .slice p2 qs.length c2] 36)) := by rw [hwY]; exact heap_new _ _
  have HX2 := hide (block_on (block_on HX.out hb) HBY.out)
  have HP2 := hide ((HP.out.later hb (by omega)).later HBY.out (by have := hb.size; omega))
  have HG := hide (ho.later HBY.out (Nat.le_refl _))
  have HB2 := hide (below_here (below_here HB.out hb) HBY.out)
  have hs2 := hb.size
  clear ho hb HBY HX HP HB
  obtain ⟨x0, x1⟩ := two_cells HX2.out
  obtain ⟨y0, y1⟩ := two_cells HY.out
  rw [hwY] at x0 x1 y0 y1
  go_wp2_with fail
  rw [← hwY]
  clear hwY x0 x1 y0 y1
  refine (eqChip_same z p2 p qs.length c2 c qs wY HG.out.squares HP2.out.squares (by omega) (by omega) hfit).mono ?_
  rintro e w3 ⟨rfl, b3⟩
  have HX3 := hide (block_on HX2.out b3)
  have HY3 := hide (block_on HY.out b3)
  have HP3 := hide (HP2.out.later b3 (by omega))
  have HG3 := hide (HG.out.later b3 (by omega))
  have HB3 := hide (below_here HB2.out b3)
  have hs3 := b3.size
  clear b3 HX2 HY HP2 HG HB2
  obtain ⟨y0, y1⟩ := two_cells HY3.out
  go_wp2_with fail
  refine (markChip_ans z p2 qs.length c2 qs w3 HG3.out hfit).mono ?_
  rintro e w4 ⟨rfl, h4, s4⟩
  have HX4 : Hid (w4.heap[w1.heap.size]? = some (.cells #[.int .i64 z, .slice p qs.length c] 36)) := (s4.block w1.heap.size (by omega) (.inl (by omega))).trans HX3.out
  have HY4 : Hid (w4.heap[w2.heap.size]? = some (.cells #[.int .i64 z, .slice p2 qs.length c2] 36)) := (s4.block w2.heap.size (by omega) (.inr (by omega))).trans HY3.out
  have HP4 := hide (HP3.out.aside s4 (.inr (by omega)))
  have HG4 := hide h4
  have HB4 := hide (HB3.out.trans (s4.below (B := w.heap.size) (by omega) (by omega)))
  have hs4 := s4.size
  clear s4 h4 HX3 HY3 HP3 HG3 HB3 y0 y1
  obtain ⟨y0, y1⟩ := two_cells HY4.out
  obtain ⟨t, ht⟩ : ∃ t, t = 1 + lens qs + 2 * qs.length := ⟨_, rfl⟩
  have hl := lens_weight qs
  have HT := hide ht
  rw [← ht]
  have ht0 : decide ((t : Int) < 0) = false := by simp
  clear ht
  go_wp2_with fail
  refine (heldChip_any z p2 qs.length c2 qs w4 HG4.out.squares (by omega) hfit).mono ?_
  rintro e w5 ⟨rfl, b5⟩
  rw [← HT.out]
  have HX5 := hide (block_on HX4.out b5)
  have HY5 := hide (block_on HY4.out b5)
  have HP5 := hide (HP4.out.later b5 (by omega))
  have HG5 := hide (HG4.out.later b5 (by omega))
  have HB5 := hide (below_here HB4.out b5)
  have hs5 := b5.size
  clear b5 HX4 HY4 HP4 HG4 HB4 y0 y1
  go_wp2_with fail
  refine (HC2.out w5).mono ?_
  rintro e w6 ⟨v, rfl, p6, c6, rfl, ho, hb⟩
  obtain ⟨wZ, hwZ⟩ : ∃ wZ, wZ = w6.alloc (.cells #[.int .i64 z, .slice p6 qs.length c6] 36) := ⟨_, rfl⟩
  have hzZ : wZ.heap.size = w6.heap.size + 1 := by rw [hwZ]; simp
  have HBZ : Hid (Below w6.heap.size w6 wZ) := by rw [hwZ]; exact (Below.refl _ _).alloc (Nat.le_refl _) _
  have HZ : Hid (wZ.heap[w6.heap.size]? = some (.cells #[.int .i64 z, .slice p6 qs.length c6] 36)) := by rw [hwZ]; exact heap_new _ _
  have hs6 := hb.size
  have HX6 := hide (block_on (block_on HX5.out hb) HBZ.out)
  have HY6 := hide (block_on (block_on HY5.out hb) HBZ.out)
  have HP6 := hide ((HP5.out.later hb (by omega)).later HBZ.out (by omega))
  have HG6 := hide ((HG5.out.later hb (by omega)).later HBZ.out (by omega))
  have HH6 := hide (ho.later HBZ.out (Nat.le_refl _))
  have HB6 := hide (below_here (below_here HB5.out hb) HBZ.out)
  clear ho hb HBZ HX5 HY5 HP5 HG5 HB5
  obtain ⟨x0, x1⟩ := two_cells HX6.out
  obtain ⟨y0, y1⟩ := two_cells HZ.out
  rw [hwZ] at x0 x1 y0 y1
  go_wp2_with fail
  rw [← hwZ]
  clear hwZ x0 x1 y0 y1
  refine (eqChip_same z p6 p qs.length c6 c qs wZ HH6.out.squares HP6.out.squares (by omega) (by omega) hfit).mono ?_
  rintro e w7 ⟨rfl, b7⟩
  have HY7 := hide (block_on HY6.out b7)
  have HG7 := hide (HG6.out.later b7 (by omega))
  have HB7 := hide (below_here HB6.out b7)
  have hs7 := b7.size
  clear b7 HX6 HY6 HP6 HG6 HH6 HB6 HZ
  obtain ⟨y0, y1⟩ := two_cells HY7.out
  go_wp2_with fail
  refine (heldChip_any z p2 qs.length c2 qs w7 HG7.out.squares (by omega) hfit).mono ?_
  rintro e w8 ⟨rfl, b8⟩
  rw [← HT.out]
  have HB8 := hide (below_here HB7.out b8)
  clear b8
  go_wp2_with fail
  go_ret
  exact ⟨rfl, HB8.out⟩

/-! ### THE ROW's STEP: WRITTEN OUT: LEAVE IT -/
set_option maxRecDepth 100000 in
theorem lifted (os : Os) (started : os.Started) (H : Type) (enc : TypeId × Value → H) :
    ReturnsInHanded {} Try.checked os 5 .any (Rows.fnExactNewChipSpec.pre6 enc Try.prog Try.f5 Rows.fnExactNewChipRow.domain false) (Rows.fnExactNewChipSpec.post enc Try.prog Try.f5 false true false false) := by
  refine returnsInHanded_of_change (C := Try.checked) own started (by kernel_rfl) Try.func5
    (ChangeSpec.witness6 (enc := enc) (C := Try.checked) false ⟨#[], #[.int .i64 0, .int .i64 0], []⟩ 8 (by kernel_rfl) (by kernel_rfl) (by kernel_rfl) (by kernel_rfl)) ?_
  intro W base args ds gs before hval0 hW hcnd _
  have hval : ∀ (j : Nat) t v, Try.f5.params[j]? = some t → args[j]? = some v → Value.okWide Try.prog W .any base t v := hval0
  have hW' := hW
  obtain ⟨p, q, hA0, hV, rfl, hfz, hnd⟩ := hW
  have hA : DataW.TrodAll enc Try.prog W 0 (fun _ => true) true Try.f5.params.toList args.toList ds p := hA0
  rw [Try.params5] at hA hval
  obtain ⟨v0, vs0, d0, ds0, p0, q0, hargs, rfl, rfl, h0, r0⟩ := trodAll_cons hA
  obtain ⟨v1, vs1, d1, ds1, p1, q1, rfl, rfl, rfl, h1, r1⟩ := trodAll_cons r0
  obtain ⟨rfl, rfl, rfl⟩ := trodAll_nil r1
  obtain rfl : args = #[v0, v1] := by cases args; simp_all
  obtain ⟨rfl, rfl⟩ := trodVars_none hV
  obtain ⟨a0, rfl, rfl, rfl, w0⟩ := open_int Try.underlying2 (hval 0 2 v0 rfl rfl) h0
  obtain ⟨a1, rfl, rfl, rfl, w1⟩ := open_int Try.underlying2 (hval 1 2 v1 rfl rfl) h1
  clear hA0 hval0
  simp only [List.append_nil] at hW'
  refine (walk a0 a1 w0 w1 W).mono fun e W' ⟨he, hg⟩ => ?_
  subst he
  exact ⟨_, rfl, _, _, _, [], [], [], hW', (trodAll_cons_mk (shut_bool Try.underlying4 _) trodAll_mk0), (trodAll_cons_mk (shut_int Try.underlying2 w0) (trodAll_cons_mk (shut_int Try.underlying2 w1) trodAll_mk0)), rfl, hg.frame _, fun h => by cases h⟩

theorem over : Rows.fnExactNewChipRow.holds Try.pinned (OpenSpec.ofChange Rows.fnExactNewChipSpec) :=
  OpenClaim.holds_of_wide 5 Try.f5 rfl rfl rfl rfl rfl rfl rfl ⟨rfl, rfl, rfl, rfl, rfl⟩ rfl rfl rfl rfl rfl (by kernel_rfl) Try.func5 (by kernel_rfl)
    (of_decide_eq_true (by kernel_rfl)) (by unfold Func.isWrapper; first | (rw [if_pos (by decide +kernel)]; kernel_rfl) | (rw [if_neg (by decide +kernel)]; exact ⟨rfl, rfl⟩))
    (fun os started H enc _ => lifted os started H enc)

/-- ████ THE STATEMENT ████ -/
theorem proved : Rows.FnExactNewChipSaid :=
  over
#print axioms proved
end Go.Proofs.Ytlfphdlndcbjhal.fnExactNewChip
