/- For every three int64 the law FnExactNewFtl returns true; no condition. -/
import Derived.Test.YtocinobbocjikaaRows
import Derived.Test.YtocinobbocjikaaNFtlNew
import Derived.Test.YtocinobbocjikaaNFtlOwnP
import Derived.Test.YtocinobbocjikaaNChipAns
import Derived.WalkKit
import Derived.ProofKit
import Derived.OpenShut
import Derived.ShutString
namespace Go.Proofs.Ytocinobbocjikaa.fnExactNewFtl
open Go.ChangeShapes Go.WideShapes Go.ChangeAt Go.RowKit
open Go.ChangeMaps (open_string shut_string)
set_option linter.unusedVariables false      -- a walk need not use every 'w<i>' (that an integer argument fits its kind)

theorem own : ownKnob Try.prog.godebug = none := by kernel_rfl

set_option maxHeartbeats 8000000 in
set_option maxRecDepth 100000 in

theorem walk (a0 : Int) (a1 : Int) (a2 : Int) (w0 : (Lit.int .i64 a0).wf = true) (w1 : (Lit.int .i64 a1).wf = true) (w2 : (Lit.int .i64 a2).wf = true) (w : World) :
    Calls Try.prog 4 #[.int .i64 a0, .int .i64 a1, .int .i64 a2] w fun e w' => e = .returned (.bool true) ∧ Below w.heap.size w w' := by
  have HC1 : ∀ w9, Hid (Calls Try.prog 20 #[.int .i64 a0, .int .i64 a1, .int .i64 a2] w9 fun e w' => ∃ a c am cm, e = .returned (.tuple #[.agg #[.int .i64 (newF a0 a1 a2).z, .slice a (newF a0 a1 a2).qs.length c, .slice am (newF a0 a1 a2).ps.length cm, .int .i64 (newF a0 a1 a2).op, .int .i64 (newF a0 a1 a2).st], .bool (nfOk a0 a1 a2)]) ∧ FtlOwn w9.heap.size w'.heap.size w' a am (newF a0 a1 a2).qs (newF a0 a1 a2).ps ∧ Below w9.heap.size w9 w') := fun w9 => by
    refine (specNewFtl_any a0 a1 a2 w9).mono ?_
    rintro e w' ⟨v, rfl, a, c, am, cm, rfl, h1, h2, _⟩
    exact ⟨a, c, am, cm, rfl, h1, h2⟩
  have HC2 : ∀ w9, Hid (Calls Try.prog 21 #[.int .i64 a0, .int .i64 a1, .int .i64 a2] w9 fun e w' => ∃ a c am cm, e = .returned (.tuple #[.agg #[.int .i64 (newF a0 a1 a2).z, .slice a (newF a0 a1 a2).qs.length c, .slice am (newF a0 a1 a2).ps.length cm, .int .i64 (newF a0 a1 a2).op, .int .i64 (newF a0 a1 a2).st], .bool (nfOk a0 a1 a2)]) ∧ FtlOwn w9.heap.size w'.heap.size w' a am (newF a0 a1 a2).qs (newF a0 a1 a2).ps ∧ Below w9.heap.size w9 w') := fun w9 => by
    refine (implNewFtl_any a0 a1 a2 w9).mono ?_
    rintro e w' ⟨v, rfl, a, c, am, cm, rfl, h1, h2, _⟩
    exact ⟨a, c, am, cm, rfl, h1, h2⟩
  have hfit := (newF_fit a0 a1 a2).1
  have hfm := (newF_fit a0 a1 a2).2
  generalize newF a0 a1 a2 = fv at *
  generalize nfOk a0 a1 a2 = b at *
  obtain ⟨Z, Q, PS, OP, ST⟩ := fv
  dsimp only at hfit hfm HC1 HC2
  go_enter Try.func4, Try.ntmps4
  go_wp2_with fail
  refine (HC1 w).out.mono ?_
  rintro e w1 ⟨a_w, c_w, am_w, cm_w, rfl, ho, hb⟩
  obtain ⟨wW, hwW⟩ : ∃ wW, wW = w1.alloc (.cells #[.int .i64 Z, .slice a_w Q.length c_w, .slice am_w PS.length cm_w, .int .i64 OP, .int .i64 ST] 42) := ⟨_, rfl⟩
  have HZW : Hid (wW.heap.size = w1.heap.size + 1) := by show _ = _; rw [hwW]; simp
  have HBW : Hid (Below w1.heap.size w1 wW) := by rw [hwW]; exact (Below.refl _ _).alloc (Nat.le_refl _) _
  have HV_w : Hid (VarF w.heap.size w1.heap.size w.heap.size w1.heap.size Z Q PS OP ST a_w c_w am_w cm_w wW) := by rw [hwW]; exact varF_new ho (Nat.le_refl _) hb.size
  have HB := hide (below_here hb HBW.out)
  have hs1 := hb.size
  clear ho hb HBW
  go_upto_region 2 with fail
  rw [← hwW]
  clear hwW
  go_wp2_with fail
  refine (HC2 wW).out.mono ?_
  rintro e w2 ⟨a_g, c_g, am_g, cm_g, rfl, ho, hb⟩
  obtain ⟨wG, hwG⟩ : ∃ wG, wG = w2.alloc (.cells #[.int .i64 Z, .slice a_g Q.length c_g, .slice am_g PS.length cm_g, .int .i64 OP, .int .i64 ST] 42) := ⟨_, rfl⟩
  have HZG : Hid (wG.heap.size = w2.heap.size + 1) := by show _ = _; rw [hwG]; simp
  have HBG : Hid (Below w2.heap.size w2 wG) := by rw [hwG]; exact (Below.refl _ _).alloc (Nat.le_refl _) _
  have HV_g : Hid (VarF wW.heap.size w2.heap.size wW.heap.size w2.heap.size Z Q PS OP ST a_g c_g am_g cm_g wG) := by rw [hwG]; exact varF_new ho (Nat.le_refl _) hb.size
  have HN := hide ((HV_w.out.on hb).on HBG.out)
  clear HV_w
  have HV_w := HN
  clear HN
  have HN := hide (below_here (below_here HB.out hb) HBG.out)
  clear HB
  have HB := HN
  clear HN
  have hs2 := hb.size
  clear ho hb HBG
  obtain ⟨y0, y1, y2, y3, y4⟩ := HV_g.out.cells
  obtain ⟨u0, u1, u2, u3, u4⟩ := HV_w.out.cells
  rw [hwG] at y0 y1 y2 y3 y4 u0 u1 u2 u3 u4
  go_upto_region 3 with fail
  rw [← hwG]
  rw [← hwG] at y0 y1 y2 y3 y4 u0 u1 u2 u3 u4
  clear hwG
  go_wp2_with fail
  refine (eqFtl_same Z a_g a_w Q.length c_g c_w Q am_g am_w PS.length cm_g cm_w PS OP ST wG HV_g.out.squares HV_w.out.squares HV_g.out.hi_le HV_w.out.hi_le hfit HV_g.out.places HV_w.out.places HV_g.out.hi_le HV_w.out.hi_le (by omega)).mono ?_
  rintro e w3 ⟨rfl, b3⟩
  clear y0 y1 y2 y3 y4 u0 u1 u2 u3 u4
  have HN := hide (HV_w.out.on b3)
  clear HV_w
  have HV_w := HN
  clear HN
  have HN := hide (HV_g.out.on b3)
  clear HV_g
  have HV_g := HN
  clear HN
  have HN := hide (below_here HB.out b3)
  clear HB
  have HB := HN
  clear HN
  have hs3 := b3.size
  clear b3
  obtain ⟨y0, y1, y2, y3, y4⟩ := HV_g.out.cells
  have hga := HV_g.out.apart
  have hgl := HV_g.out.lt
  have hzW := HZW.out
  have hzG := HZG.out
  clear hzW hzG
  go_wp2_with fail
  refine (markFtl_own Z a_g Q.length c_g Q am_g PS.length cm_g PS OP ST w3 HV_g.out.own rfl rfl hfit (by omega)).mono ?_
  rintro e w4 ⟨rfl, hmk, sm⟩
  clear y0 y1 y2 y3 y4
  have hs4 := sm.size
  have hzW := HZW.out
  have hzG := HZG.out
  have HGV : Hid (w4.heap[w2.heap.size]? = some (.cells #[.int .i64 Z, .slice a_g Q.length c_g, .slice am_g PS.length cm_g, .int .i64 OP, .int .i64 ST] 42)) := (sm.block w2.heap.size hgl hga).trans HV_g.out.var
  have HMK := hide hmk
  have HN := hide (HV_w.out.aside sm (.inl (by omega)) (.inr (by omega)))
  clear HV_w
  have HV_w := HN
  clear HN
  have HN := hide (HB.out.trans (sm.below (B := w.heap.size) (by omega) (by omega)))
  clear HB
  have HB := HN
  clear HN HV_g hmk sm hzW hzG
  obtain ⟨t2, ht⟩ : ∃ t2, t2 = 1 + lens Q + 2 * Q.length + 2 * PS.length := ⟨_, rfl⟩
  have HT2 := hide ht
  rw [← ht]
  have ht2 : decide ((t2 : Int) < 0) = false := by simp
  clear ht
  obtain ⟨y0, y1, y2, y3, y4⟩ := five_cells HGV.out
  have HMS : Hid (Squares wW.heap.size w2.heap.size w4 a_g Q.length (sqMark Q 1)) := by have := HMK.out.squares; rw [sqMark_length] at this; exact this
  have HMP : Hid (Places wW.heap.size w2.heap.size w4 am_g PS.length (plMark (1 + lens Q + 2 * Q.length) PS.length)) := by have := HMK.out.places; rw [plMark_length] at this; exact this
  go_wp2_with fail
  refine (heldFtl_own Z a_g Q.length c_g Q am_g PS.length cm_g OP ST w4 HMS.out HMK.out.1 HMP.out HMK.out.1 hfit (by omega)).mono ?_
  rintro e w5 ⟨rfl, b5⟩
  clear y0 y1 y2 y3 y4 HMS HMP
  rw [← HT2.out]
  have HN := hide (HV_w.out.on b5)
  clear HV_w
  have HV_w := HN
  clear HN
  have HN := hide (block_on HGV.out b5)
  clear HGV
  have HGV := HN
  clear HN
  have HN := hide (HMK.out.later b5 HMK.out.1)
  clear HMK
  have HMK := HN
  clear HN
  have HN := hide (below_here HB.out b5)
  clear HB
  have HB := HN
  clear HN
  have hs5 := b5.size
  clear b5
  go_wp2_with fail
  refine (HC2 w5).out.mono ?_
  rintro e w6 ⟨a_h, c_h, am_h, cm_h, rfl, ho, hb⟩
  obtain ⟨wH, hwH⟩ : ∃ wH, wH = w6.alloc (.cells #[.int .i64 Z, .slice a_h Q.length c_h, .slice am_h PS.length cm_h, .int .i64 OP, .int .i64 ST] 42) := ⟨_, rfl⟩
  have HBH : Hid (Below w6.heap.size w6 wH) := by rw [hwH]; exact (Below.refl _ _).alloc (Nat.le_refl _) _
  have HV_h : Hid (VarF w5.heap.size w6.heap.size w5.heap.size w6.heap.size Z Q PS OP ST a_h c_h am_h cm_h wH) := by rw [hwH]; exact varF_new ho (Nat.le_refl _) hb.size
  have HN := hide ((HV_w.out.on hb).on HBH.out)
  clear HV_w
  have HV_w := HN
  clear HN
  have HN := hide (block_on (block_on HGV.out hb) HBH.out)
  clear HGV
  have HGV := HN
  clear HN
  have HN := hide ((HMK.out.later hb HMK.out.1).later HBH.out (Nat.le_trans HMK.out.1 hb.size))
  clear HMK
  have HMK := HN
  clear HN
  have HN := hide (below_here (below_here HB.out hb) HBH.out)
  clear HB
  have HB := HN
  clear HN
  clear ho hb HBH
  obtain ⟨y0, y1, y2, y3, y4⟩ := HV_h.out.cells
  obtain ⟨u0, u1, u2, u3, u4⟩ := HV_w.out.cells
  rw [hwH] at y0 y1 y2 y3 y4 u0 u1 u2 u3 u4
  go_wp2_with fail
  rw [← hwH]
  clear hwH y0 y1 y2 y3 y4 u0 u1 u2 u3 u4
  refine (eqFtl_same Z a_h a_w Q.length c_h c_w Q am_h am_w PS.length cm_h cm_w PS OP ST wH HV_h.out.squares HV_w.out.squares HV_h.out.hi_le HV_w.out.hi_le hfit HV_h.out.places HV_w.out.places HV_h.out.hi_le HV_w.out.hi_le (by omega)).mono ?_
  rintro e w7 ⟨rfl, b7⟩
  have HN := hide (block_on HGV.out b7)
  clear HGV
  have HGV := HN
  clear HN
  have HN := hide (HMK.out.later b7 HMK.out.1)
  clear HMK
  have HMK := HN
  clear HN
  have HN := hide (below_here HB.out b7)
  clear HB
  have HB := HN
  clear HN b7
  obtain ⟨y0, y1, y2, y3, y4⟩ := five_cells HGV.out
  have HMS : Hid (Squares wW.heap.size w2.heap.size w7 a_g Q.length (sqMark Q 1)) := by have := HMK.out.squares; rw [sqMark_length] at this; exact this
  have HMP : Hid (Places wW.heap.size w2.heap.size w7 am_g PS.length (plMark (1 + lens Q + 2 * Q.length) PS.length)) := by have := HMK.out.places; rw [plMark_length] at this; exact this
  go_wp2_with fail
  refine (heldFtl_own Z a_g Q.length c_g Q am_g PS.length cm_g OP ST w7 HMS.out HMK.out.1 HMP.out HMK.out.1 hfit (by omega)).mono ?_
  rintro e w8 ⟨rfl, b8⟩
  rw [← HT2.out]
  have HBF := hide (below_here HB.out b8)
  clear b8 y0 y1 y2 y3 y4
  go_wp2_with fail
  go_ret
  exact ⟨rfl, HBF.out⟩

/-! ### THE ROW's STEP: WRITTEN OUT: LEAVE IT -/
set_option maxRecDepth 100000 in
theorem lifted (os : Os) (started : os.Started) (H : Type) (enc : TypeId × Value → H) :
    ReturnsInHanded {} Try.checked os 4 .any (Rows.fnExactNewFtlSpec.pre6 enc Try.prog Try.f4 Rows.fnExactNewFtlRow.domain false) (Rows.fnExactNewFtlSpec.post enc Try.prog Try.f4 false true false false) := by
  refine returnsInHanded_of_change (C := Try.checked) own started (by kernel_rfl) Try.func4
    (ChangeSpec.witness6 (enc := enc) (C := Try.checked) false ⟨#[], #[.int .i64 0, .int .i64 0, .int .i64 0], []⟩ 8 (by kernel_rfl) (by kernel_rfl) (by kernel_rfl) (by kernel_rfl)) ?_
  intro W base args ds gs before hval0 hW hcnd _
  have hval : ∀ (j : Nat) t v, Try.f4.params[j]? = some t → args[j]? = some v → Value.okWide Try.prog W .any base t v := hval0
  have hW' := hW
  obtain ⟨p, q, hA0, hV, rfl, hfz, hnd⟩ := hW
  have hA : DataW.TrodAll enc Try.prog W 0 (fun _ => true) true Try.f4.params.toList args.toList ds p := hA0
  rw [Try.params4] at hA hval
  obtain ⟨v0, vs0, d0, ds0, p0, q0, hargs, rfl, rfl, h0, r0⟩ := trodAll_cons hA
  obtain ⟨v1, vs1, d1, ds1, p1, q1, rfl, rfl, rfl, h1, r1⟩ := trodAll_cons r0
  obtain ⟨v2, vs2, d2, ds2, p2, q2, rfl, rfl, rfl, h2, r2⟩ := trodAll_cons r1
  obtain ⟨rfl, rfl, rfl⟩ := trodAll_nil r2
  obtain rfl : args = #[v0, v1, v2] := by cases args; simp_all
  obtain ⟨rfl, rfl⟩ := trodVars_none hV
  obtain ⟨a0, rfl, rfl, rfl, w0⟩ := open_int Try.underlying2 (hval 0 2 v0 rfl rfl) h0
  obtain ⟨a1, rfl, rfl, rfl, w1⟩ := open_int Try.underlying2 (hval 1 2 v1 rfl rfl) h1
  obtain ⟨a2, rfl, rfl, rfl, w2⟩ := open_int Try.underlying2 (hval 2 2 v2 rfl rfl) h2
  clear hA0 hval0
  simp only [List.append_nil] at hW'
  refine (walk a0 a1 a2 w0 w1 w2 W).mono fun e W' ⟨he, hg⟩ => ?_
  subst he
  exact ⟨_, rfl, _, _, _, [], [], [], hW', (trodAll_cons_mk (shut_bool Try.underlying4 _) trodAll_mk0), (trodAll_cons_mk (shut_int Try.underlying2 w0) (trodAll_cons_mk (shut_int Try.underlying2 w1) (trodAll_cons_mk (shut_int Try.underlying2 w2) trodAll_mk0))), rfl, hg.frame _, fun h => by cases h⟩

theorem over : Rows.fnExactNewFtlRow.holds Try.pinned (OpenSpec.ofChange Rows.fnExactNewFtlSpec) :=
  OpenClaim.holds_of_wide 4 Try.f4 rfl rfl rfl rfl rfl rfl rfl ⟨rfl, rfl, rfl, rfl, rfl⟩ rfl rfl rfl rfl rfl (by kernel_rfl) Try.func4 (by kernel_rfl)
    (of_decide_eq_true (by kernel_rfl)) (by unfold Func.isWrapper; first | (rw [if_pos (by decide +kernel)]; kernel_rfl) | (rw [if_neg (by decide +kernel)]; exact ⟨rfl, rfl⟩))
    (fun os started H enc _ => lifted os started H enc)

/-- ████ THE STATEMENT ████ -/
theorem proved : Rows.FnExactNewFtlSaid :=
  over
#print axioms proved
end Go.Proofs.Ytocinobbocjikaa.fnExactNewFtl
