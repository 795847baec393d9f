/- The law FnExactNewPair returns true; no condition. -/
import Derived.Test.YtdaemaefkikheaaRows
import Derived.Test.YtdaemaefkikheaaPairWalk
import Derived.Test.YtdaemaefkikheaaPairNewI
import Derived.WalkKit
import Derived.ProofKit
import Derived.OpenShut
import Derived.ShutString
namespace Go.Proofs.Ytdaemaefkikheaa.fnExactNewPair
open Go.ChangeShapes Go.WideShapes Go.ChangeAt Go.RowKit
open Go.ChangeMaps (open_string shut_string)
set_option linter.unusedVariables false      -- a walk need not use every 'w<i>' (that an integer argument fits its kind)

theorem own : ownKnob Try.prog.godebug = none := by kernel_rfl

set_option maxHeartbeats 1600000 in

theorem walk  (w : World) :
    Calls Try.prog 4 #[] w fun e w' => e = .returned (.bool true) ∧ Below w.heap.size w w' := by
  go_enter Try.func4, Try.ntmps4
  go_wp2_with fail
  refine (specNewPair_any w).mono ?_
  rintro e w1 ⟨v, rfl, ⟨gN, cN, gs, cs, gw, cw, rfl, ho⟩, hb⟩
  obtain ⟨wW, hwW⟩ : ∃ wW, wW = w1.alloc (.cells #[.slice (some ⟨gN, 0, none⟩) 2 cN, .int .i64 0, .int .i64 (-1), .slice (some ⟨gw, 0, none⟩) 2 cw, .slice none 0 0, .slice none 0 0] 37) := ⟨_, rfl⟩
  have hbW : Below w1.heap.size w1 wW := by rw [hwW]; exact (Below.refl _ _).alloc (Nat.le_refl _) _
  have HZW : Hid (wW.heap.size = w1.heap.size + 1) := by show _ = _; rw [hwW]; simp
  have HV_w : Hid (wW.heap[w1.heap.size]? = some (.cells #[.slice (some ⟨gN, 0, none⟩) 2 cN, .int .i64 0, .int .i64 (-1), .slice (some ⟨gw, 0, none⟩) 2 cw, .slice none 0 0, .slice none 0 0] 37)) := by rw [hwW]; exact heap_new _ _
  have HO_w := hide (ho.later hbW (Nat.le_refl _))
  have HB := hide (below_here hb hbW)
  have HW9 : Hid (w.heap.size ≤ wW.heap.size) := HB.out.size
  clear ho hb hbW
  go_upto_region 2 with fail
  rw [← hwW]
  clear hwW
  go_wp2_with fail
  refine (implNewPair_any wW).mono ?_
  rintro e w2 ⟨v, rfl, ⟨gM, cM, gt, ct, gv, cv9, rfl, ho⟩, hb⟩
  obtain ⟨wG, hwG⟩ : ∃ wG, wG = w2.alloc (.cells #[.slice (some ⟨gM, 0, none⟩) 2 cM, .int .i64 0, .int .i64 (-1), .slice (some ⟨gv, 0, none⟩) 2 cv9, .slice none 0 0, .slice none 0 0] 37) := ⟨_, rfl⟩
  have hbG : Below w2.heap.size w2 wG := by rw [hwG]; exact (Below.refl _ _).alloc (Nat.le_refl _) _
  have hbWG := below_here hb hbG
  have hzW := HZW.out
  have HV_g : Hid (wG.heap[w2.heap.size]? = some (.cells #[.slice (some ⟨gM, 0, none⟩) 2 cM, .int .i64 0, .int .i64 (-1), .slice (some ⟨gv, 0, none⟩) 2 cv9, .slice none 0 0, .slice none 0 0] 37)) := by rw [hwG]; exact heap_new _ _
  have HO_g := hide (ho.later hbG (Nat.le_refl _))
  have HV_w2 := hide (block_on HV_w.out hbWG)
  have HO_w2 := hide (HO_w.out.later hbWG (by omega))
  have HB2 := hide (below_here HB.out hbWG)
  have HLT : Hid (w1.heap.size < wW.heap.size ∧ wW.heap.size ≤ w2.heap.size) := ⟨by omega, hb.size⟩
  clear ho hb hbG hbWG hzW HV_w HO_w HB
  obtain ⟨y0, y1, y2, y3, y4, y5⟩ := pr_cells HV_g.out
  obtain ⟨u0, u1, u2, u3, u4, u5⟩ := pr_cells HV_w2.out
  go_upto_region 3 with fail
  rw [← hwG]
  clear hwG
  go_wp2_with fail
  refine (eqPair_new gM cM gv cv9 gN cN gw cw _ _ _ _ wG HO_g.out HO_w2.out).mono ?_
  rintro e w3 ⟨rfl, hb⟩
  clear y0 y1 y2 y3 y4 y5 u0 u1 u2 u3 u4 u5
  have HV_w3 := hide (block_on HV_w2.out hb)
  have HV_g3 := hide (block_on HV_g.out hb)
  have HO_w3 := hide (HO_w2.out.later hb HO_w2.out.nodes.hi_le)
  have HO_g3 := hide (HO_g.out.later hb HO_g.out.nodes.hi_le)
  have HB3 := hide (below_here HB2.out hb)
  clear hb HV_w2 HV_g HO_w2 HO_g HB2
  obtain ⟨y0, y1, y2, y3, y4, y5⟩ := pr_cells HV_g3.out
  go_wp2_with fail
  refine (markPair_new gM cM gv cv9 _ _ w3 HO_g3.out).mono ?_
  rintro e w4 ⟨rfl, hm, ha⟩
  have hlt := HLT.out
  have HV_w4 := hide ((ha.block w1.heap.size (Array.getElem?_eq_some_iff.1 HV_w3.out).1 (.inl (by omega))).trans HV_w3.out)
  have HV_g4 := hide ((ha.block w2.heap.size (Array.getElem?_eq_some_iff.1 HV_g3.out).1 (.inr (Nat.le_refl _))).trans HV_g3.out)
  have HO_w4 : Hid (NpAt w.heap.size w1.heap.size w4 gN gs cs gw) := np_aside HO_w3.out ha (.inl (by omega))
  have HM4 := hide hm
  have HB4 := hide (HB3.out.trans (ha.below (B := w.heap.size) (by have := HB3.out.size; have := HW9.out; omega) (by have := HB3.out.size; omega)))
  clear y0 y1 y2 y3 y4 y5 hm ha hlt HV_w3 HV_g3 HO_w3 HO_g3 HB3
  obtain ⟨y0, y1, y2, y3, y4, y5⟩ := pr_cells HV_g4.out
  go_wp2_with fail
  refine (heldPair_new gM cM gv cv9 _ _ w4 HM4.out).mono ?_
  rintro e w5 ⟨rfl, hb⟩
  clear y0 y1 y2 y3 y4 y5
  have HV_w5 := hide (block_on HV_w4.out hb)
  have HV_g5 := hide (block_on HV_g4.out hb)
  have HO_w5 := hide (HO_w4.out.later hb HO_w4.out.nodes.hi_le)
  have HM5 := hide (HM4.out.later hb HM4.out.nodes.hi_le)
  have HB5 := hide (below_here HB4.out hb)
  clear hb HV_w4 HV_g4 HO_w4 HM4 HB4
  go_wp2_with fail
  refine (implNewPair_any w5).mono ?_
  rintro e w6 ⟨v, rfl, ⟨gK, cK, gr, cr, gx, cx, rfl, ho⟩, hb⟩
  obtain ⟨wH, hwH⟩ : ∃ wH, wH = w6.alloc (.cells #[.slice (some ⟨gK, 0, none⟩) 2 cK, .int .i64 0, .int .i64 (-1), .slice (some ⟨gx, 0, none⟩) 2 cx, .slice none 0 0, .slice none 0 0] 37) := ⟨_, rfl⟩
  have hbH : Below w6.heap.size w6 wH := by rw [hwH]; exact (Below.refl _ _).alloc (Nat.le_refl _) _
  have hb5 := below_here hb hbH
  have HV_h : Hid (wH.heap[w6.heap.size]? = some (.cells #[.slice (some ⟨gK, 0, none⟩) 2 cK, .int .i64 0, .int .i64 (-1), .slice (some ⟨gx, 0, none⟩) 2 cx, .slice none 0 0, .slice none 0 0] 37)) := by rw [hwH]; exact heap_new _ _
  have HO_h := hide (ho.later hbH (Nat.le_refl _))
  have HV_w6 := hide (block_on HV_w5.out hb5)
  have HV_g6 := hide (block_on HV_g5.out hb5)
  have HO_w6 := hide (HO_w5.out.later hb5 HO_w5.out.nodes.hi_le)
  have HM6 := hide (HM5.out.later hb5 HM5.out.nodes.hi_le)
  have HB6 := hide (below_here HB5.out hb5)
  clear hb hb5 hbH ho HV_w5 HV_g5 HO_w5 HM5 HB5
  obtain ⟨y0, y1, y2, y3, y4, y5⟩ := pr_cells HV_h.out
  obtain ⟨u0, u1, u2, u3, u4, u5⟩ := pr_cells HV_w6.out
  go_upto_region 14 with fail
  rw [← hwH]
  clear hwH
  go_wp2_with fail
  refine (eqPair_new gK cK gx cx gN cN gw cw _ _ _ _ wH HO_h.out HO_w6.out).mono ?_
  rintro e w7 ⟨rfl, hb⟩
  clear y0 y1 y2 y3 y4 y5 u0 u1 u2 u3 u4 u5
  have HV_g7 := hide (block_on HV_g6.out hb)
  have HM7 := hide (HM6.out.later hb HM6.out.nodes.hi_le)
  have HB7 := hide (below_here HB6.out hb)
  clear hb HV_g6 HM6 HB6
  obtain ⟨y0, y1, y2, y3, y4, y5⟩ := pr_cells HV_g7.out
  go_wp2_with fail
  refine (heldPair_new gM cM gv cv9 _ _ w7 HM7.out).mono ?_
  rintro e w8 ⟨rfl, hb⟩
  have HB8 := hide (below_here HB7.out hb)
  clear hb y0 y1 y2 y3 y4 y5
  go_wp2_with fail
  go_ret
  exact ⟨rfl, HB8.out⟩

/-! ### THE ROW's STEP: WRITTEN OUT: LEAVE IT -/
set_option maxRecDepth 100000 in
theorem lifted (os : Os) (started : os.Started) (H : Type) (enc : TypeId × Value → H) :
    ReturnsInHanded {} Try.checked os 4 .any (Rows.fnExactNewPairSpec.pre6 enc Try.prog Try.f4 Rows.fnExactNewPairRow.domain false) (Rows.fnExactNewPairSpec.post enc Try.prog Try.f4 false true false false) := by
  refine returnsInHanded_of_change (C := Try.checked) own started (by kernel_rfl) Try.func4
    (ChangeSpec.witness6 (enc := enc) (C := Try.checked) false ⟨#[], #[], []⟩ 8 (by kernel_rfl) (by kernel_rfl) (by kernel_rfl) (by kernel_rfl)) ?_
  intro W base args ds gs before hval0 hW hcnd _
  have hval : ∀ (j : Nat) t v, Try.f4.params[j]? = some t → args[j]? = some v → Value.okWide Try.prog W .any base t v := hval0
  have hW' := hW
  obtain ⟨p, q, hA0, hV, rfl, hfz, hnd⟩ := hW
  have hA : DataW.TrodAll enc Try.prog W 0 (fun _ => true) true Try.f4.params.toList args.toList ds p := hA0
  rw [Try.params4] at hA hval
  obtain ⟨rfl, rfl, rfl⟩ := trodAll_none hA
  obtain ⟨rfl, rfl⟩ := trodVars_none hV
  clear hA0 hval0
  simp only [List.append_nil] at hW'
  refine (walk  W).mono fun e W' ⟨he, hg⟩ => ?_
  subst he
  exact ⟨_, rfl, _, _, _, [], [], [], hW', (trodAll_cons_mk (shut_bool Try.underlying4 _) trodAll_mk0), rfl, rfl, hg.frame _, fun h => by cases h⟩

theorem over : Rows.fnExactNewPairRow.holds Try.pinned (OpenSpec.ofChange Rows.fnExactNewPairSpec) :=
  OpenClaim.holds_of_wide 4 Try.f4 rfl rfl rfl rfl rfl rfl rfl ⟨rfl, rfl, rfl, rfl, rfl⟩ rfl rfl rfl rfl rfl (by kernel_rfl) Try.func4 (by kernel_rfl)
    (of_decide_eq_true (by kernel_rfl)) (by unfold Func.isWrapper; first | (rw [if_pos (by decide +kernel)]; kernel_rfl) | (rw [if_neg (by decide +kernel)]; exact ⟨rfl, rfl⟩))
    (fun os started H enc _ => lifted os started H enc)

/-- ████ THE STATEMENT ████ -/
theorem proved : Rows.FnExactNewPairSaid :=
  over
#print axioms proved
end Go.Proofs.Ytdaemaefkikheaa.fnExactNewPair
