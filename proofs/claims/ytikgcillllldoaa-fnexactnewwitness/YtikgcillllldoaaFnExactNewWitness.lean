/- The law FnExactNewWitness returns true; no condition. -/
import Derived.Test.YtikgcillllldoaaRows
import Derived.Test.YtikgcillllldoaaWitNew
import Derived.WalkKit
import Derived.ProofKit
import Derived.OpenShut
import Derived.ShutString
namespace Go.Proofs.Ytikgcillllldoaa.fnExactNewWitness
open Go.ChangeShapes Go.WideShapes Go.ChangeAt Go.RowKit
open Go.ChangeMaps (open_string shut_string)
set_option linter.unusedVariables false      -- a walk need not use every 'w<i>' (that an integer argument fits its kind)

theorem own : ownKnob Try.prog.godebug = none := by kernel_rfl

set_option maxHeartbeats 800000 in

theorem walk  (w : World) :
    Calls Try.prog 3 #[] w fun e w' => e = .returned (.bool true) ∧ Below w.heap.size w w' := by
  have hnn : (2 : Nat) ≤ 1048576 := by omega
  go_enter Try.func3, Try.ntmps3
  go_wp2_with fail
  refine (specNewWitness_any w).mono ?_
  rintro e w1 ⟨v, rfl, ⟨gw, cw, rfl, ho⟩, hb⟩
  obtain ⟨wW, hwW⟩ : ∃ wW, wW = w1.alloc (.cells #[.int .i64 0, .int .i64 (-1), .slice (some ⟨gw, 0, none⟩) 2 cw] 24) := ⟨_, rfl⟩
  have HZW : Hid (wW.heap.size = w1.heap.size + 1) := by show _ = _; rw [hwW]; simp
  have hbW : Below w1.heap.size w1 wW := by rw [hwW]; exact (Below.refl _ _).alloc (Nat.le_refl _) _
  have HV_w : Hid (wW.heap[w1.heap.size]? = some (.cells #[.int .i64 0, .int .i64 (-1), .slice (some ⟨gw, 0, none⟩) 2 cw] 24)) := by rw [hwW]; exact heap_new _ _
  have HO_w := hide (ho.later hbW (Nat.le_refl _))
  have HB := hide (below_here hb hbW)
  have HS1 := hide hb.size
  clear ho hb hbW
  go_upto_region 2 with fail
  unfold wnV newW
  dsimp only
  rw [← hwW]
  clear hwW
  go_wp2_with fail
  refine (implNewWitness_any wW).mono ?_
  rintro e w2 ⟨v, rfl, ⟨gg, cg, rfl, ho⟩, hb⟩
  obtain ⟨wG, hwG⟩ : ∃ wG, wG = w2.alloc (.cells #[.int .i64 0, .int .i64 (-1), .slice (some ⟨gg, 0, none⟩) 2 cg] 24) := ⟨_, rfl⟩
  have HZG : Hid (wG.heap.size = w2.heap.size + 1) := by show _ = _; rw [hwG]; simp
  have hbG : Below w2.heap.size w2 wG := by rw [hwG]; exact (Below.refl _ _).alloc (Nat.le_refl _) _
  have hbWG := below_here hb hbG
  have HV_g : Hid (wG.heap[w2.heap.size]? = some (.cells #[.int .i64 0, .int .i64 (-1), .slice (some ⟨gg, 0, none⟩) 2 cg] 24)) := by rw [hwG]; exact heap_new _ _
  have HO_g := hide (ho.later hbG (Nat.le_refl _))
  have HN := hide (block_on HV_w.out hbWG)
  clear HV_w
  have HV_w := HN
  clear HN
  have hzW := HZW.out
  have HN := hide (HO_w.out.later hbWG (by omega))
  clear HO_w
  have HO_w := HN
  clear HN
  have HN := hide (below_here HB.out hbWG)
  clear HB
  have HB := HN
  clear HN
  have HS2 := hide hb.size
  clear ho hb hbG hbWG hzW
  obtain ⟨y0, y1, y2⟩ := mk_cells HV_g.out
  obtain ⟨u0, u1, u2⟩ := mk_cells HV_w.out
  go_upto_region 3 with fail
  unfold wnV newW
  dsimp only
  rw [← hwG]
  clear hwG
  go_wp2_with fail
  have hzW := HZW.out
  have hzG := HZG.out
  have hs1 := HS1.out
  have hs2 := HS2.out
  refine (eqWitness_any newW newW (some ⟨gg, 0, none⟩) 2 cg (some ⟨gw, 0, none⟩) 2 cw wG HO_g.out.bools HO_w.out.bools (by omega) (by omega) (by omega) (by omega)).mono ?_
  rintro e w3 ⟨rfl, hb⟩
  clear y0 y1 y2 u0 u1 u2
  have hs3 := hb.size
  have HV_w3 := hide (block_on HV_w.out hb)
  have HV_g3 := hide (block_on HV_g.out hb)
  have HO_w3 := hide (HO_w.out.later hb (by omega))
  have HO_g3 := hide (HO_g.out.later hb (by omega))
  have HN := hide (below_here HB.out hb)
  clear HB
  have HB := HN
  clear HN HV_w HV_g HO_w HO_g hb
  have HS3 := hide hs3
  clear hzW hzG hs1 hs2 hs3
  simp only [decide_true, Bool.and_self]
  obtain ⟨y0, y1, y2⟩ := mk_cells HV_g3.out
  go_wp2_with fail
  have hzW := HZW.out
  have hzG := HZG.out
  have hs1 := HS1.out
  have hs2 := HS2.out
  have hs3 := HS3.out
  refine (markWitness_any newW (some ⟨gg, 0, none⟩) 2 cg _ 1 w3 HO_g3.out.2 (by omega) (by omega) (by omega) (by omega)).mono ?_
  rintro e w4 ⟨rfl, hm, ha⟩
  clear y0 y1 y2
  have hs4 := ha.size
  have HV_w4 := hide ((ha.block w1.heap.size (by omega) (.inl (by omega))).trans HV_w3.out)
  have HV_g4 := hide ((ha.block w2.heap.size (by omega) (.inr (by omega))).trans HV_g3.out)
  have HO_w4 := hide (HO_w3.out.aside ha (.inl (by omega)))
  have HM4 := hide hm
  have HN := hide (HB.out.trans (ha.below (B := w.heap.size) (by have := HB.out.size; omega) (by have := HB.out.size; omega)))
  clear HB
  have HB := HN
  clear HN HV_w3 HV_g3 HO_w3 HO_g3 ha hm
  have HS4 := hide hs4
  clear hzW hzG hs1 hs2 hs3 hs4
  simp only [show (1 : Int) + ((2 : Nat) : Int) = 3 from rfl]
  obtain ⟨y0, y1, y2⟩ := mk_cells HV_g4.out
  go_wp2_with fail
  have hzW := HZW.out
  have hzG := HZG.out
  have hs1 := HS1.out
  have hs2 := HS2.out
  have hs3 := HS3.out
  have hs4 := HS4.out
  refine (heldWitness_any newW (some ⟨gg, 0, none⟩) 2 cg 1 w4 HM4.out.reads (by omega) (by omega) (by omega) (by omega)).mono ?_
  rintro e w5 ⟨rfl, hb⟩
  clear y0 y1 y2
  have hs5 := hb.size
  have HV_w5 := hide (block_on HV_w4.out hb)
  have HV_g5 := hide (block_on HV_g4.out hb)
  have HO_w5 := hide (HO_w4.out.later hb (by omega))
  have HM5 := hide (HM4.out.later hb (by omega))
  have HN := hide (below_here HB.out hb)
  clear HB
  have HB := HN
  clear HN HV_w4 HV_g4 HO_w4 HM4 hb
  have HS5 := hide hs5
  clear hzW hzG hs1 hs2 hs3 hs4 hs5
  simp only [show (1 : Int) + ((2 : Nat) : Int) = 3 from rfl]
  go_wp2_with fail
  refine (implNewWitness_any w5).mono ?_
  rintro e w6 ⟨v, rfl, ⟨gh, ch, rfl, ho⟩, hb⟩
  obtain ⟨wH, hwH⟩ : ∃ wH, wH = w6.alloc (.cells #[.int .i64 0, .int .i64 (-1), .slice (some ⟨gh, 0, none⟩) 2 ch] 24) := ⟨_, rfl⟩
  have HZH : Hid (wH.heap.size = w6.heap.size + 1) := by show _ = _; rw [hwH]; simp
  have hbH : Below w6.heap.size w6 wH := by rw [hwH]; exact (Below.refl _ _).alloc (Nat.le_refl _) _
  have hb5 := below_here hb hbH
  have HV_h : Hid (wH.heap[w6.heap.size]? = some (.cells #[.int .i64 0, .int .i64 (-1), .slice (some ⟨gh, 0, none⟩) 2 ch] 24)) := by rw [hwH]; exact heap_new _ _
  have HO_h := hide (ho.later hbH (Nat.le_refl _))
  have hzW := HZW.out
  have hzG := HZG.out
  have hs1 := HS1.out
  have hs2 := HS2.out
  have hs3 := HS3.out
  have hs4 := HS4.out
  have hs5 := HS5.out
  have HV_w6 := hide (block_on HV_w5.out hb5)
  have HV_g6 := hide (block_on HV_g5.out hb5)
  have HO_w6 := hide (HO_w5.out.later hb5 (by omega))
  have HM6 := hide (HM5.out.later hb5 (by omega))
  have HN := hide (below_here HB.out hb5)
  clear HB
  have HB := HN
  have HS6 := hide hb.size
  clear HN HV_w5 HV_g5 HO_w5 HM5 hb hb5 hbH ho hzW hzG hs1 hs2 hs3 hs4 hs5
  obtain ⟨y0, y1, y2⟩ := mk_cells HV_h.out
  obtain ⟨u0, u1, u2⟩ := mk_cells HV_w6.out
  go_upto_region 14 with fail
  unfold wnV newW
  dsimp only
  rw [← hwH]
  clear hwH
  go_wp2_with fail
  have hzW := HZW.out
  have hzG := HZG.out
  have hzH := HZH.out
  have hs1 := HS1.out
  have hs2 := HS2.out
  have hs3 := HS3.out
  have hs4 := HS4.out
  have hs5 := HS5.out
  have hs6 := HS6.out
  refine (eqWitness_any newW newW (some ⟨gh, 0, none⟩) 2 ch (some ⟨gw, 0, none⟩) 2 cw wH HO_h.out.bools HO_w6.out.bools (by omega) (by omega) (by omega) (by omega)).mono ?_
  rintro e w7 ⟨rfl, hb⟩
  clear y0 y1 y2 u0 u1 u2
  have HV_g7 := hide (block_on HV_g6.out hb)
  have HM7 := hide (HM6.out.later hb (by omega))
  have HS7 := hide hb.size
  have HN := hide (below_here HB.out hb)
  clear HB
  have HB := HN
  clear HN hb hzW hzG hzH hs1 hs2 hs3 hs4 hs5 hs6
  simp only [decide_true, Bool.and_self]
  obtain ⟨y0, y1, y2⟩ := mk_cells HV_g7.out
  go_wp2_with fail
  have hzW := HZW.out
  have hzG := HZG.out
  have hzH := HZH.out
  have hs1 := HS1.out
  have hs2 := HS2.out
  have hs3 := HS3.out
  have hs4 := HS4.out
  have hs5 := HS5.out
  have hs6 := HS6.out
  have hs7 := HS7.out
  refine (heldWitness_any newW (some ⟨gg, 0, none⟩) 2 cg 1 w7 HM7.out.reads (by omega) (by omega) (by omega) (by omega)).mono ?_
  rintro e w8 ⟨rfl, hb⟩
  have HN := hide (below_here HB.out hb)
  clear hb hzW hzG hzH hs1 hs2 hs3 hs4 hs5 hs6 hs7
  simp only [show (1 : Int) + ((2 : Nat) : Int) = 3 from rfl]
  go_wp2_with fail
  go_ret
  exact ⟨rfl, HN.out⟩

/-! ### THE ROW's STEP: WRITTEN OUT: LEAVE IT -/
set_option maxRecDepth 100000 in
theorem lifted (os : Os) (started : os.Started) (H : Type) (enc : TypeId × Value → H) :
    ReturnsInHanded {} Try.checked os 3 .any (Rows.fnExactNewWitnessSpec.pre6 enc Try.prog Try.f3 Rows.fnExactNewWitnessRow.domain false) (Rows.fnExactNewWitnessSpec.post enc Try.prog Try.f3 false true false false) := by
  refine returnsInHanded_of_change (C := Try.checked) own started (by kernel_rfl) Try.func3
    (ChangeSpec.witness6 (enc := enc) (C := Try.checked) false ⟨#[], #[], []⟩ 8 (by kernel_rfl) (by kernel_rfl) (by kernel_rfl) (by kernel_rfl)) ?_
  intro W base args ds gs before hval0 hW hcnd _
  have hval : ∀ (j : Nat) t v, Try.f3.params[j]? = some t → args[j]? = some v → Value.okWide Try.prog W .any base t v := hval0
  have hW' := hW
  obtain ⟨p, q, hA0, hV, rfl, hfz, hnd⟩ := hW
  have hA : DataW.TrodAll enc Try.prog W 0 (fun _ => true) true Try.f3.params.toList args.toList ds p := hA0
  rw [Try.params3] at hA hval
  obtain ⟨rfl, rfl, rfl⟩ := trodAll_none hA
  obtain ⟨rfl, rfl⟩ := trodVars_none hV
  clear hA0 hval0
  simp only [List.append_nil] at hW'
  refine (walk  W).mono fun e W' ⟨he, hg⟩ => ?_
  subst he
  exact ⟨_, rfl, _, _, _, [], [], [], hW', (trodAll_cons_mk (shut_bool Try.underlying4 _) trodAll_mk0), rfl, rfl, hg.frame _, fun h => by cases h⟩

theorem over : Rows.fnExactNewWitnessRow.holds Try.pinned (OpenSpec.ofChange Rows.fnExactNewWitnessSpec) :=
  OpenClaim.holds_of_wide 3 Try.f3 rfl rfl rfl rfl rfl rfl rfl ⟨rfl, rfl, rfl, rfl, rfl⟩ rfl rfl rfl rfl rfl (by kernel_rfl) Try.func3 (by kernel_rfl)
    (of_decide_eq_true (by kernel_rfl)) (by unfold Func.isWrapper; first | (rw [if_pos (by decide +kernel)]; kernel_rfl) | (rw [if_neg (by decide +kernel)]; exact ⟨rfl, rfl⟩))
    (fun os started H enc _ => lifted os started H enc)

/-- ████ THE STATEMENT ████ -/
theorem proved : Rows.FnExactNewWitnessSaid :=
  over
#print axioms proved
end Go.Proofs.Ytikgcillllldoaa.fnExactNewWitness
