/- For every Cache the law FnExactFlush returns true and leaves its argument as it was; the package-level variables that its row lists read as they are laid. -/
import Derived.Test.YtkbhcdkfjniafaaGreatDoorRows
import Derived.Test.YtkbhcdkfjniafaaGreatDoorFFtlOwnP
import Derived.Test.YtkbhcdkfjniafaaGreatDoorFCacheLoadS
import Derived.Test.YtkbhcdkfjniafaaGreatDoorFCacheFlushI
import Derived.Test.YtkbhcdkfjniafaaGreatDoorFLyLaid
import Derived.Test.YtkbhcdkfjniafaaGreatDoorFChipOwn2
import Derived.Deep.RegionWith
import Derived.Deep.DeepCutAuto
import Derived.WalkKit
import Derived.ProofKit
import Derived.OpenShut
import Derived.ShutString
import Derived.ChangeOld
import Derived.Below
namespace Go.Proofs.YtkbhcdkfjniafaaGreatDoor.fnExactFlush
open Go.ChangeShapes Go.WideShapes Go.ChangeAt Go.RowKit
open Go.ChangeMaps (open_string shut_string)
set_option linter.unusedVariables false

theorem own : ownKnob Tryz.prog.godebug = none := by kernel_rfl
theorem laidOut : laidOutB Tryz.prog = true := by kernel_rfl

theorem cell_lt {w : World} {b o : Nat} {v : Value} (h : w.cell? ⟨b, o, none⟩ = some v) : b < w.heap.size := by
  rcases Nat.lt_or_ge b w.heap.size with hc | hc
  · exact hc
  · unfold World.cell? at h
    have : w.heap[b]? = none := Array.getElem?_eq_none_iff.2 (by omega)
    simp [this] at h
set_option maxHeartbeats 8000000 in
set_option maxRecDepth 100000 in

theorem walk (r0 : Int) (ai0 : Option Addr) (ni0 ci0 : Nat) (y0 : List Hd) (n0 : Int) (a0 : Option Addr) (len0 cap0 : Nat) (q0 : List Sq) (am0 : Option Addr) (lm0 cm0 : Nat) (z0 : List Pl) (o0 s0 : Int) (w : World) (w0 : (Lit.int .i64 r0).wf = true ∧ Helds 0 w.heap.size w ai0 ni0 y0 ∧ (∀ x ∈ y0, hdFits x) ∧ ni0 ≤ maxLen ∧ (Lit.int .i64 n0).wf = true ∧ Squares 0 w.heap.size w a0 len0 q0 ∧ (∀ x ∈ q0, sqFits x) ∧ len0 ≤ maxLen ∧ Places 0 w.heap.size w am0 lm0 z0 ∧ (∀ x ∈ z0, plFits x) ∧ lm0 ≤ maxLen ∧ (Lit.int .i64 o0).wf = true ∧ (Lit.int .i64 s0).wf = true) (hT : Tab w) {aB aL aS aC aF : Addr} (E : Errs w aB aL aS aC aF) {aN : Addr} (hN : w.cell? ⟨1, 0, none⟩ = some (.iface 357 (.pointer (some aN)))) :
    Calls Tryz.prog 8 #[.agg #[.int .i64 r0, .slice ai0 ni0 ci0, .int .i64 n0, .slice a0 len0 cap0, .slice am0 lm0 cm0, .int .i64 o0, .int .i64 s0]] w fun e w' => e = .returned (.bool true) ∧ Below w.heap.size w w' := by
  obtain ⟨_, hhy, hfy, hny, _, hsq, hfi, hm, hpl, _, hml, _, _⟩ := w0
  have hlen0 : y0.length = ni0 := hhy.1
  subst hlen0
  have hlen : q0.length = len0 := hsq.1
  subst hlen
  have hlen2 : z0.length = lm0 := hpl.1
  subst hlen2
  obtain ⟨wA, hwA⟩ : ∃ wA, wA = w.alloc (.cells #[.int .i64 r0, .slice ai0 y0.length ci0, .int .i64 n0, .slice a0 q0.length cap0, .slice am0 z0.length cm0, .int .i64 o0, .int .i64 s0] 93) := ⟨_, rfl⟩
  have hzA : wA.heap.size = w.heap.size + 1 := by rw [hwA]; simp
  have HBX : Hid (BoxK w r0 ai0 y0.length ci0 n0 a0 q0.length cap0 am0 z0.length cm0 o0 s0 wA) := by rw [hwA]; exact ⟨heap_new _ _, (Below.refl _ _).alloc (Nat.le_refl _) _⟩
  have HSQ := hide hsq
  have HF := hide hfi
  have HM := hide hm
  have HPL := hide hpl
  have HML := hide hml
  have HT := hide hT
  have HE := hide E
  have HHY := hide hhy
  have HFY := hide hfy
  have HNY := hide hny
  have hgN : 1 < w.heap.size := cell_lt hN
  have HN0 : ∀ w9, Hid (Below w.heap.size w w9 → w9.cell? ⟨1, 0, none⟩ = some (noRoomV aN)) := fun w9 h9 => (h9.cell (p := ⟨1, 0, none⟩) hgN).trans hN
  clear hsq hfi hm hT E hpl hml hhy hfy hny hN hgN
  obtain ⟨c0, c1, c2, c3, c4, c5, c6⟩ := HBX.out.cells
  go_enter Tryz.func8, Tryz.ntmps8
  go_upto_region 1 with fail
  rw [← hwA]
  clear hwA
  go_wp2_with fail
  refine (szCache_any r0 ai0 y0.length ci0 y0 n0 a0 q0.length cap0 q0 am0 z0.length cm0 o0 s0 1048576 wA (HHY.out.later HBX.out.below (Nat.le_refl _)) (by omega) HNY.out HFY.out (HSQ.out.later HBX.out.below (Nat.le_refl _)) (by omega) HM.out HF.out HML.out (by omega) (by omega)).mono ?_
  rintro e w1 ⟨⟨r, rfl, r1, r2, hr⟩, b1⟩
  have HB1 := hide (HBX.out.on b1)
  clear b1 HBX c0 c1 c2 c3 c4 c5 c6
  have HBX := HB1
  clear HB1
  by_cases h0 : 0 ≤ r
  case neg =>
    clear hr
    go_wp2_with fail
    go_ret
    exact ⟨rfl, HBX.out.below⟩
  have hfit : q0.length + weight q0 ≤ 1048576 := by have := hr h0; omega
  have hfm : z0.length ≤ 1048576 := by have := hr h0; omega
  have hfk : y0.length + (q0.length + weight q0) ≤ 1048576 := by have := hr h0; omega
  have hfl : y0.length ≤ 1048576 := by omega
  clear hr
  have hb1 := HBX.out.size
  obtain ⟨C, hC⟩ : ∃ C, C = flushF ⟨r0, y0, ⟨n0, q0, z0, o0, s0⟩⟩ := ⟨_, rfl⟩
  have hfit0 := (flushF_fit ⟨r0, y0, ⟨n0, q0, z0, o0, s0⟩⟩).1
  have hfit2 := (flushF_fit ⟨r0, y0, ⟨n0, q0, z0, o0, s0⟩⟩).2.1
  have hfm2 := (flushF_fit ⟨r0, y0, ⟨n0, q0, z0, o0, s0⟩⟩).2.2
  rw [← hC] at hfit0 hfit2 hfm2
  obtain ⟨RM, YS, ⟨Z, Q, PS, OP, ST⟩⟩ := C
  dsimp only at hfit0 hfit2 hfm2
  have HCV := hide hC
  clear hC
  obtain ⟨Bv, hBv⟩ : ∃ Bv, Bv = flushB ⟨r0, y0, ⟨n0, q0, z0, o0, s0⟩⟩ := ⟨_, rfl⟩
  have HBv := hide hBv
  clear hBv
  have HSD : ∀ w9 ai9 a9 am9 l1 r1 lo hi lo' hi', Hid (Below w.heap.size w w9 → Helds l1 r1 w9 ai9 y0.length y0 → r1 ≤ w9.heap.size → Squares lo hi w9 a9 q0.length q0 → hi ≤ w9.heap.size → Places lo' hi' w9 am9 z0.length z0 → hi' ≤ w9.heap.size → Calls Tryz.prog 50 #[.agg #[.int .i64 r0, .slice ai9 y0.length y0.length, .int .i64 n0, .slice a9 q0.length q0.length, .slice am9 z0.length z0.length, .int .i64 o0, .int .i64 s0]] w9 fun e w' => ∃ ai ci a c am cm, e = .returned (.tuple #[.agg #[.int .i64 RM, .slice ai YS.length ci, .int .i64 Z, .slice a Q.length c, .slice am PS.length cm, .int .i64 OP, .int .i64 ST], .bool Bv]) ∧ CRd w9.heap.size w'.heap.size w' ai a am YS Q PS ∧ Below w9.heap.size w9 w') := fun w9 ai9 a9 am9 l1 r1 lo hi lo' hi' hb h7 hh7 h9 hh h8 hh8 => by
    refine (specFlush_any r0 ai9 y0.length y0.length y0 n0 a9 q0.length q0.length q0 am9 z0.length z0.length z0 o0 s0 w9 h7 hh7 hfl HFY.out h9 hh (by omega) HF.out h8 hh8 hfm).mono ?_
    rintro e w' ⟨v, h1, hr⟩
    obtain ⟨ai, ci, a, c, am, cm, h2, h3, h4⟩ := hr
    have e1 := HCV.out
    rw [← e1] at h2 h3
    rw [← HBv.out] at h1
    exact ⟨ai, ci, a, c, am, cm, by rw [h1, h2]; rfl, h3, h4⟩
  have HID : ∀ w9 ai9 a9 am9 l1 r1 lo hi lo' hi', Hid (Below w.heap.size w w9 → Helds l1 r1 w9 ai9 y0.length y0 → r1 ≤ w9.heap.size → Squares lo hi w9 a9 q0.length q0 → hi ≤ w9.heap.size → Places lo' hi' w9 am9 z0.length z0 → hi' ≤ w9.heap.size → Calls Tryz.prog 42 #[.agg #[.int .i64 r0, .slice ai9 y0.length y0.length, .int .i64 n0, .slice a9 q0.length q0.length, .slice am9 z0.length z0.length, .int .i64 o0, .int .i64 s0]] w9 fun e w' => ∃ ai ci a c am cm, e = .returned (.tuple #[.agg #[.int .i64 RM, .slice ai YS.length ci, .int .i64 Z, .slice a Q.length c, .slice am PS.length cm, .int .i64 OP, .int .i64 ST], .bool Bv]) ∧ CacheOwn w9.heap.size w'.heap.size w' ai a am YS Q PS ∧ Below w9.heap.size w9 w') := fun w9 ai9 a9 am9 l1 r1 lo hi lo' hi' hb h7 hh7 h9 hh h8 hh8 => by
    refine (implFlush_any r0 ai9 y0.length y0.length y0 n0 a9 q0.length q0.length q0 am9 z0.length z0.length z0 o0 s0 w9 h7 hh7 hfl HFY.out h9 hh (by omega) HF.out h8 hh8 hfm (Nat.le_refl _) (HT.out.here hb) (HE.out.here hb) ((HN0 _).out hb)).mono ?_
    rintro e w' ⟨v, h1, ai, ci, a, c, am, cm, h2, h3, h4, _⟩
    have e1 := HCV.out
    rw [← e1] at h2 h3
    rw [← HBv.out] at h1
    exact ⟨ai, ci, a, c, am, cm, by rw [h1, h2]; rfl, h3, h4⟩
  obtain ⟨c0, c1, c2, c3, c4, c5, c6⟩ := HBX.out.cells
  go_wp2_with fail
  refine (toCache_any r0 ai0 y0.length ci0 y0 n0 a0 q0.length cap0 q0 am0 z0.length cm0 z0 o0 s0 w1 (HHY.out.later HBX.out.below (Nat.le_refl _)) HBX.out.below.size hfl (HSQ.out.later HBX.out.below (Nat.le_refl _)) HBX.out.below.size hfit (HPL.out.later HBX.out.below (Nat.le_refl _)) HBX.out.below.size hfm).mono ?_
  rintro e w2 ⟨ai_t, a_t, am_t, md_t, me_t, rfl, m0, m1, m2, i_t, o_t, p_t, b_t⟩
  clear c0 c1 c2 c3 c4 c5 c6
  have hs2 := b_t.size
  go_wp2_with fail
  refine ((HSD w2 ai_t a_t am_t _ _ _ _ _ _).out (below_here HBX.out.below b_t) i_t.helds (by omega) o_t.squares (by omega) p_t.places (by omega)).mono ?_
  rintro e w3 ⟨ai_w, ci_w, a_w, c_w, am_w, cm_w, rfl, q_w, b_w⟩
  obtain ⟨wV, hwwV⟩ : ∃ wV, wV = w3.alloc (.cells #[.int .i64 RM, .slice ai_w YS.length ci_w, .int .i64 Z, .slice a_w Q.length c_w, .slice am_w PS.length cm_w, .int .i64 OP, .int .i64 ST] 65) := ⟨_, rfl⟩
  have h1_w : w3.heap.size < wV.heap.size := by rw [hwwV]; simp
  have B_w : Below w1.heap.size w1 wV := by rw [hwwV]; exact (below_here b_t b_w).alloc (below_here b_t b_w).size _
  have hs_w : w1.heap.size ≤ w3.heap.size := (below_here b_t b_w).size
  have HV_w : Hid (VarK w1.heap.size w3.heap.size w2.heap.size w3.heap.size RM YS Z Q PS OP ST ai_w ci_w a_w c_w am_w cm_w wV) := by rw [hwwV]; exact varK_new q_w (by omega) b_w.size
  have HBX' := hide (HBX.out.on B_w)
  clear HBX
  have HBX := HBX'
  clear HBX'
  clear B_w q_w b_w
  go_upto_region 6 with fail
  rw [← hwwV]
  clear hwwV
  clear b_t i_t o_t p_t m0 m1 m2
  obtain ⟨c0, c1, c2, c3, c4, c5, c6⟩ := HBX.out.cells
  go_wp2_with fail
  refine (toCache_any r0 ai0 y0.length ci0 y0 n0 a0 q0.length cap0 q0 am0 z0.length cm0 z0 o0 s0 wV (HHY.out.later HBX.out.below (Nat.le_refl _)) HBX.out.below.size hfl (HSQ.out.later HBX.out.below (Nat.le_refl _)) HBX.out.below.size hfit (HPL.out.later HBX.out.below (Nat.le_refl _)) HBX.out.below.size hfm).mono ?_
  rintro e w4 ⟨ai_t, a_t, am_t, md_t, me_t, rfl, m0, m1, m2, i_t, o_t, p_t, b_t⟩
  clear c0 c1 c2 c3 c4 c5 c6
  obtain ⟨wX, hwX⟩ : ∃ wX, wX = w4.alloc (.cells #[.int .i64 r0, .slice ai_t y0.length y0.length, .int .i64 n0, .slice a_t q0.length q0.length, .slice am_t z0.length z0.length, .int .i64 o0, .int .i64 s0] 65) := ⟨_, rfl⟩
  have hzX : w4.heap.size < wX.heap.size := by rw [hwX]; simp
  have HX4 : Hid (Below w4.heap.size w4 wX) := by rw [hwX]; exact (Below.refl _ _).alloc (Nat.le_refl _) _
  have HX : Hid (wX.heap[w4.heap.size]? = some (.cells #[.int .i64 r0, .slice ai_t y0.length y0.length, .int .i64 n0, .slice a_t q0.length q0.length, .slice am_t z0.length z0.length, .int .i64 o0, .int .i64 s0] 65)) := by rw [hwX]; exact heap_new _ _
  have hs4 := b_t.size
  have HXF : Hid (CacheOwn wV.heap.size wX.heap.size wX ai_t a_t am_t y0 q0 z0) := cache_of_to (i_t.later HX4.out (by omega)) (o_t.later HX4.out (by omega)) (p_t.later HX4.out (Nat.le_refl _)) m0 m1 m2 hzX
  have B_x := below_here b_t HX4.out
  have HBX' := hide (HBX.out.on B_x)
  clear HBX
  have HBX := HBX'
  clear HBX'
  have HV_w' := hide (HV_w.out.on B_x)
  clear HV_w
  have HV_w := HV_w'
  clear HV_w'
  clear B_x b_t HX4 i_t o_t p_t m0 m1 m2
  go_upto_region 7 with fail
  rw [← hwX]
  clear hwX
  obtain ⟨d0, d1, d2, d3, d4, d5, d6⟩ := seven_cells HX.out
  go_wp2_with fail
  refine ((HID wX ai_t a_t am_t _ _ _ _ _ _).out HBX.out.below HXF.out.helds HXF.out.1 HXF.out.squares HXF.out.1 HXF.out.places HXF.out.1).mono ?_
  rintro e w5 ⟨ai_g, ci_g, a_g, c_g, am_g, cm_g, rfl, q_g, b_g⟩
  clear d0 d1 d2 d3 d4 d5 d6
  obtain ⟨wG, hwwG⟩ : ∃ wG, wG = w5.alloc (.cells #[.int .i64 RM, .slice ai_g YS.length ci_g, .int .i64 Z, .slice a_g Q.length c_g, .slice am_g PS.length cm_g, .int .i64 OP, .int .i64 ST] 65) := ⟨_, rfl⟩
  have h1_g : w5.heap.size < wG.heap.size := by rw [hwwG]; simp
  have B_g : Below wX.heap.size wX wG := by rw [hwwG]; exact (b_g).alloc (b_g).size _
  have hs_g : wX.heap.size ≤ w5.heap.size := (b_g).size
  have HV_g : Hid (VarK wX.heap.size w5.heap.size wX.heap.size w5.heap.size RM YS Z Q PS OP ST ai_g ci_g a_g c_g am_g cm_g wG) := by rw [hwwG]; exact varK_new q_g.rd (by omega) b_g.size
  have HGO : Hid (CacheOwn wX.heap.size w5.heap.size wG ai_g a_g am_g YS Q PS) := by rw [hwwG]; exact q_g.later ((Below.refl w5.heap.size w5).alloc (Nat.le_refl _) _) (Nat.le_refl _)
  have HBX' := hide (HBX.out.on B_g)
  clear HBX
  have HBX := HBX'
  clear HBX'
  have HV_w' := hide (HV_w.out.on B_g)
  clear HV_w
  have HV_w := HV_w'
  clear HV_w'
  have HX' := hide (block_on HX.out B_g)
  clear HX
  have HX := HX'
  clear HX'
  have HXF' := hide (HXF.out.later B_g HXF.out.1)
  clear HXF
  have HXF := HXF'
  clear HXF'
  clear B_g q_g b_g
  go_upto_region 8 with fail
  rw [← hwwG]
  clear hwwG
  obtain ⟨y0', y1, y2, y3, y4, y5, y6⟩ := HV_g.out.cells
  obtain ⟨u0, u1, u2, u3, u4, u5, u6⟩ := HV_w.out.cells
  go_wp2_with fail
  refine (eqCache_same RM ai_g ai_w YS.length ci_g ci_w YS Z a_g a_w Q.length c_g c_w Q am_g am_w PS.length cm_g cm_w PS OP ST wG HV_g.out.rd.helds HV_w.out.rd.helds HV_g.out.hi_le HV_w.out.hi_le (by omega) HV_g.out.rd.squares HV_w.out.rd.squares HV_g.out.hi_le HV_w.out.hi_le (by omega) HV_g.out.rd.places HV_w.out.rd.places HV_g.out.hi_le HV_w.out.hi_le (by omega)).mono ?_
  rintro e w6 ⟨rfl, bn⟩
  have hs_w6 := bn.size
  clear y0' y1 y2 y3 y4 y5 y6 u0 u1 u2 u3 u4 u5 u6
  have HBX' := hide (HBX.out.on bn)
  clear HBX
  have HBX := HBX'
  clear HBX'
  have HV_w' := hide (HV_w.out.on bn)
  clear HV_w
  have HV_w := HV_w'
  clear HV_w'
  have HX' := hide (block_on HX.out bn)
  clear HX
  have HX := HX'
  clear HX'
  have HXF' := hide (HXF.out.later bn HXF.out.1)
  clear HXF
  have HXF := HXF'
  clear HXF'
  have HV_g' := hide (HV_g.out.on bn)
  clear HV_g
  have HV_g := HV_g'
  clear HV_g'
  have HGO' := hide (HGO.out.later bn HGO.out.1)
  clear HGO
  have HGO := HGO'
  clear HGO'
  clear bn
  obtain ⟨c0, c1, c2, c3, c4, c5, c6⟩ := HBX.out.cells
  obtain ⟨d0, d1, d2, d3, d4, d5, d6⟩ := seven_cells HX.out
  have HXd := hide (HXF.out.later (Below.refl w6.heap.size w6).drew HXF.out.1)
  have HSd := hide (HSQ.out.later HBX.out.below (Nat.le_refl _))
  have HPd := hide (HPL.out.later HBX.out.below (Nat.le_refl _))
  have hw6 := HBX.out.below.size
  have hx6 := HXF.out.1
  have HYd := hide (HHY.out.later HBX.out.below (Nat.le_refl _))
  go_upto_region 10 with fail
  go_cut [45] (fun c wx => c = .bool false ∧ Below w6.heap.size w6 wx)
  case first =>
    go_region_with (first
      | (go_at_call 55; refine (toCache_any r0 ai0 y0.length ci0 y0 n0 a0 q0.length cap0 q0 am0 z0.length cm0 z0 o0 s0 _ (by exact HYd.out) (by show w.heap.size ≤ w6.heap.size; omega) hfl (by exact HSd.out) (by show w.heap.size ≤ w6.heap.size; omega) hfit (by exact HPd.out) (by show w.heap.size ≤ w6.heap.size; omega) hfm).mono ?_; rintro e v6 ⟨ai6, a6, am6, md6, me6, rfl, k2, k3, k4, i6, o6, p6, b6⟩; have HX6 := hide (block_on (w := w6.drew) HX.out b6); have HB6 : Hid (Below w6.heap.size w6 v6) := below_here (Below.refl w6.heap.size w6).drew b6; have hs6 : w6.heap.size ≤ v6.heap.size := b6.size; have HXS := hide (HXd.out.later b6 HXd.out.1); have HY6 := hide i6; have HV6 := hide o6; have HU6 := hide p6; clear i6 o6 p6 b6; obtain ⟨e0, e1, e2, e3, e4, e5, e6⟩ := seven_cells HX6.out)
      | (go_at_call 56; refine (eqCache_same r0 ai_t ai6 y0.length y0.length y0.length y0 n0 a_t a6 q0.length q0.length q0.length q0 am_t am6 z0.length z0.length z0.length z0 o0 s0 _ (by exact HXS.out.helds) (by exact HY6.out.helds) (by omega) (by omega) hfl (by exact HXS.out.squares) (by exact HV6.out.squares) (by omega) (by omega) hfit (by exact HXS.out.places) (by exact HU6.out.places) (by omega) (by omega) hfm).mono ?_; rintro e v7 ⟨rfl, b7⟩; have HB7 := hide (below_here HB6.out b7); clear b7))
    all_goals
      go_wp2_with fail
      go_meet
      exact ⟨rfl, HB7.out⟩
  clear c0 c1 c2 c3 c4 c5 c6 d0 d1 d2 d3 d4 d5 d6 HXd HSd HPd HYd
  obtain ⟨rfl, hB⟩ := hcut
  obtain ⟨w7, hn⟩ : ∃ w7, w7 = wc := ⟨_, rfl⟩
  subst hn
  have hs_w7 := hB.size
  have HBX' := hide (HBX.out.on hB)
  clear HBX
  have HBX := HBX'
  clear HBX'
  have HV_w' := hide (HV_w.out.on hB)
  clear HV_w
  have HV_w := HV_w'
  clear HV_w'
  have HX' := hide (block_on HX.out hB)
  clear HX
  have HX := HX'
  clear HX'
  have HXF' := hide (HXF.out.later hB HXF.out.1)
  clear HXF
  have HXF := HXF'
  clear HXF'
  have HV_g' := hide (HV_g.out.on hB)
  clear HV_g
  have HV_g := HV_g'
  clear HV_g'
  have HGO' := hide (HGO.out.later hB HGO.out.1)
  clear HGO
  have HGO := HGO'
  clear HGO'
  clear hB
  obtain ⟨d0, d1, d2, d3, d4, d5, d6⟩ := seven_cells HX.out
  go_wp2_with fail
  refine (markCache_own r0 ai_t y0.length y0.length y0 n0 a_t q0.length q0.length q0 am_t z0.length z0.length z0 o0 s0 w7 HXF.out rfl rfl rfl hfk hfm).mono ?_
  rintro e w8 ⟨rfl, _, sm⟩
  clear d0 d1 d2 d3 d4 d5 d6
  have hs_w8 := sm.size
  have hb9 := HBX.out.size
  clear HX HXF
  have HBX' := hide (HBX.out.aside sm (by omega))
  clear HBX
  have HBX := HBX'
  clear HBX'
  have hgB := HV_g.out.atB
  have hgL := HV_g.out.atL
  have hwH := HV_w.out.hi_le
  have HV_w' := hide (HV_w.out.aside sm (.inl (by omega)) (.inr (by omega)))
  clear HV_w
  have HV_w := HV_w'
  clear HV_w'
  have HV_g' := hide (HV_g.out.aside sm (.inr (by omega)) (.inl (by omega)))
  clear HV_g
  have HV_g := HV_g'
  clear HV_g'
  have HGO' := hide (HGO.out.aside sm (.inl (by omega)))
  clear HGO
  have HGO := HGO'
  clear HGO'
  clear sm
  obtain ⟨t1, ht⟩ : ∃ t1, t1 = 1 + 3 * y0.length + lens q0 + 2 * q0.length + 2 * z0.length := ⟨_, rfl⟩
  rw [← ht]
  have ht0 : decide ((t1 : Int) < 0) = false := by simp
  clear ht
  obtain ⟨y0', y1, y2, y3, y4, y5, y6⟩ := HV_g.out.cells
  obtain ⟨u0, u1, u2, u3, u4, u5, u6⟩ := HV_w.out.cells
  go_wp2_with fail
  refine (eqCache_same RM ai_g ai_w YS.length ci_g ci_w YS Z a_g a_w Q.length c_g c_w Q am_g am_w PS.length cm_g cm_w PS OP ST w8 HV_g.out.rd.helds HV_w.out.rd.helds HV_g.out.hi_le HV_w.out.hi_le (by omega) HV_g.out.rd.squares HV_w.out.rd.squares HV_g.out.hi_le HV_w.out.hi_le (by omega) HV_g.out.rd.places HV_w.out.rd.places HV_g.out.hi_le HV_w.out.hi_le (by omega)).mono ?_
  rintro e w9 ⟨rfl, bn⟩
  have hs_w9 := bn.size
  clear y0' y1 y2 y3 y4 y5 y6 u0 u1 u2 u3 u4 u5 u6
  have HBX' := hide (HBX.out.on bn)
  clear HBX
  have HBX := HBX'
  clear HBX'
  have HV_w' := hide (HV_w.out.on bn)
  clear HV_w
  have HV_w := HV_w'
  clear HV_w'
  have HV_g' := hide (HV_g.out.on bn)
  clear HV_g
  have HV_g := HV_g'
  clear HV_g'
  have HGO' := hide (HGO.out.later bn HGO.out.1)
  clear HGO
  have HGO := HGO'
  clear HGO'
  clear bn
  obtain ⟨y0', y1, y2, y3, y4, y5, y6⟩ := HV_g.out.cells
  have hga := HV_g.out.apart
  go_wp2_with fail
  refine (markCache_own RM ai_g YS.length ci_g YS Z a_g Q.length c_g Q am_g PS.length cm_g PS OP ST w9 HGO.out rfl rfl rfl hfit2 (by omega)).mono ?_
  rintro e w10 ⟨rfl, hmk, sm⟩
  clear y0' y1 y2 y3 y4 y5 y6
  have hs_w10 := sm.size
  have hb10 := HBX.out.size
  have HGV : Hid (w10.heap[w5.heap.size]? = some (.cells #[.int .i64 RM, .slice ai_g YS.length ci_g, .int .i64 Z, .slice a_g Q.length c_g, .slice am_g PS.length cm_g, .int .i64 OP, .int .i64 ST] 65)) := (sm.block _ HV_g.out.lt hga).trans HV_g.out.var
  have HMK := hide hmk
  clear HV_g HGO hmk
  have HBX' := hide (HBX.out.aside sm (by omega))
  clear HBX
  have HBX := HBX'
  clear HBX'
  have HV_w' := hide (HV_w.out.aside sm (.inl (by omega)) (.inr (by omega)))
  clear HV_w
  have HV_w := HV_w'
  clear HV_w'
  clear sm
  obtain ⟨t2, ht⟩ : ∃ t2, t2 = 1 + 3 * YS.length + lens Q + 2 * Q.length + 2 * PS.length := ⟨_, rfl⟩
  have HT2 := hide ht
  rw [← ht]
  have ht2 : decide ((t2 : Int) < 0) = false := by simp
  clear ht
  obtain ⟨y0', y1, y2, y3, y4, y5, y6⟩ := seven_cells HGV.out
  have HMY : Hid (Helds wX.heap.size w5.heap.size w10 ai_g YS.length (hdMark 1 YS.length)) := by have := HMK.out.helds; rw [hdMark_length] at this; exact this
  have HMS : Hid (Squares wX.heap.size w5.heap.size w10 a_g Q.length (sqMark Q (1 + 3 * YS.length))) := by have := HMK.out.squares; rw [sqMark_length] at this; exact this
  have HMP : Hid (Places wX.heap.size w5.heap.size w10 am_g PS.length (plMark (1 + 3 * YS.length + lens Q + 2 * Q.length) PS.length)) := by have := HMK.out.places; rw [plMark_length] at this; exact this
  go_wp2_with fail
  refine (heldCache_own RM ai_g YS.length ci_g Z a_g Q.length c_g Q am_g PS.length cm_g OP ST w10 HMY.out HMK.out.1 HMS.out HMK.out.1 HMP.out HMK.out.1 hfit2 (by omega)).mono ?_
  rintro e w11 ⟨rfl, bn⟩
  clear y0' y1 y2 y3 y4 y5 y6 HMY HMS HMP
  rw [← HT2.out]
  have hs_w11 := bn.size
  have HBX' := hide (HBX.out.on bn)
  clear HBX
  have HBX := HBX'
  clear HBX'
  have HV_w' := hide (HV_w.out.on bn)
  clear HV_w
  have HV_w := HV_w'
  clear HV_w'
  have HGV' := hide (block_on HGV.out bn)
  clear HGV
  have HGV := HGV'
  clear HGV'
  have HMK' := hide (HMK.out.later bn HMK.out.1)
  clear HMK
  have HMK := HMK'
  clear HMK'
  clear bn
  obtain ⟨c0, c1, c2, c3, c4, c5, c6⟩ := HBX.out.cells
  go_wp2_with fail
  refine (toCache_any r0 ai0 y0.length ci0 y0 n0 a0 q0.length cap0 q0 am0 z0.length cm0 z0 o0 s0 w11 (HHY.out.later HBX.out.below (Nat.le_refl _)) HBX.out.below.size hfl (HSQ.out.later HBX.out.below (Nat.le_refl _)) HBX.out.below.size hfit (HPL.out.later HBX.out.below (Nat.le_refl _)) HBX.out.below.size hfm).mono ?_
  rintro e w12 ⟨ai_u, a_u, am_u, md_t, me_t, rfl, m0, m1, m2, i_t, o_t, p_t, b_t⟩
  clear c0 c1 c2 c3 c4 c5 c6
  have hs12 := b_t.size
  go_wp2_with fail
  refine ((HID w12 ai_u a_u am_u _ _ _ _ _ _).out (below_here HBX.out.below b_t) i_t.helds (by omega) o_t.squares (by omega) p_t.places (by omega)).mono ?_
  rintro e w13 ⟨ai_h, ci_h, a_h, c_h, am_h, cm_h, rfl, q_h, b_h⟩
  obtain ⟨wH, hwwH⟩ : ∃ wH, wH = w13.alloc (.cells #[.int .i64 RM, .slice ai_h YS.length ci_h, .int .i64 Z, .slice a_h Q.length c_h, .slice am_h PS.length cm_h, .int .i64 OP, .int .i64 ST] 65) := ⟨_, rfl⟩
  have h1_h : w13.heap.size < wH.heap.size := by rw [hwwH]; simp
  have B_h : Below w11.heap.size w11 wH := by rw [hwwH]; exact (below_here b_t b_h).alloc (below_here b_t b_h).size _
  have hs_h : w11.heap.size ≤ w13.heap.size := (below_here b_t b_h).size
  have HV_h : Hid (VarK w11.heap.size w13.heap.size w12.heap.size w13.heap.size RM YS Z Q PS OP ST ai_h ci_h a_h c_h am_h cm_h wH) := by rw [hwwH]; exact varK_new q_h.rd (by omega) b_h.size
  have HBX' := hide (HBX.out.on B_h)
  clear HBX
  have HBX := HBX'
  clear HBX'
  have HV_w' := hide (HV_w.out.on B_h)
  clear HV_w
  have HV_w := HV_w'
  clear HV_w'
  have HGV' := hide (block_on HGV.out B_h)
  clear HGV
  have HGV := HGV'
  clear HGV'
  have HMK' := hide (HMK.out.later B_h HMK.out.1)
  clear HMK
  have HMK := HMK'
  clear HMK'
  clear B_h q_h b_h
  go_upto_region 25 with fail
  rw [← hwwH]
  clear hwwH
  clear b_t i_t o_t p_t m0 m1 m2
  obtain ⟨y0', y1, y2, y3, y4, y5, y6⟩ := HV_h.out.cells
  obtain ⟨u0, u1, u2, u3, u4, u5, u6⟩ := HV_w.out.cells
  go_wp2_with fail
  refine (eqCache_same RM ai_h ai_w YS.length ci_h ci_w YS Z a_h a_w Q.length c_h c_w Q am_h am_w PS.length cm_h cm_w PS OP ST wH HV_h.out.rd.helds HV_w.out.rd.helds HV_h.out.hi_le HV_w.out.hi_le (by omega) HV_h.out.rd.squares HV_w.out.rd.squares HV_h.out.hi_le HV_w.out.hi_le (by omega) HV_h.out.rd.places HV_w.out.rd.places HV_h.out.hi_le HV_w.out.hi_le (by omega)).mono ?_
  rintro e w14 ⟨rfl, bn⟩
  have hs_w14 := bn.size
  clear y0' y1 y2 y3 y4 y5 y6 u0 u1 u2 u3 u4 u5 u6
  have HBX' := hide (HBX.out.on bn)
  clear HBX
  have HBX := HBX'
  clear HBX'
  have HV_w' := hide (HV_w.out.on bn)
  clear HV_w
  have HV_w := HV_w'
  clear HV_w'
  have HGV' := hide (block_on HGV.out bn)
  clear HGV
  have HGV := HGV'
  clear HGV'
  have HMK' := hide (HMK.out.later bn HMK.out.1)
  clear HMK
  have HMK := HMK'
  clear HMK'
  have HV_h' := hide (HV_h.out.on bn)
  clear HV_h
  have HV_h := HV_h'
  clear HV_h'
  clear bn
  obtain ⟨y0', y1, y2, y3, y4, y5, y6⟩ := seven_cells HGV.out
  have HMY : Hid (Helds wX.heap.size w5.heap.size w14 ai_g YS.length (hdMark 1 YS.length)) := by have := HMK.out.helds; rw [hdMark_length] at this; exact this
  have HMS : Hid (Squares wX.heap.size w5.heap.size w14 a_g Q.length (sqMark Q (1 + 3 * YS.length))) := by have := HMK.out.squares; rw [sqMark_length] at this; exact this
  have HMP : Hid (Places wX.heap.size w5.heap.size w14 am_g PS.length (plMark (1 + 3 * YS.length + lens Q + 2 * Q.length) PS.length)) := by have := HMK.out.places; rw [plMark_length] at this; exact this
  go_wp2_with fail
  refine (heldCache_own RM ai_g YS.length ci_g Z a_g Q.length c_g Q am_g PS.length cm_g OP ST w14 HMY.out HMK.out.1 HMS.out HMK.out.1 HMP.out HMK.out.1 hfit2 (by omega)).mono ?_
  rintro e w15 ⟨rfl, bn⟩
  clear y0' y1 y2 y3 y4 y5 y6 HMY HMS HMP
  rw [← HT2.out]
  have hs_w15 := bn.size
  have HBX' := hide (HBX.out.on bn)
  clear HBX
  have HBX := HBX'
  clear HBX'
  have HGV' := hide (block_on HGV.out bn)
  clear HGV
  have HGV := HGV'
  clear HGV'
  have HMK' := hide (HMK.out.later bn HMK.out.1)
  clear HMK
  have HMK := HMK'
  clear HMK'
  clear bn
  go_wp2_with fail
  go_ret
  exact ⟨rfl, HBX.out.below⟩
end Go.Proofs.YtkbhcdkfjniafaaGreatDoor.fnExactFlush
