/- For every Cache the law FnExactCacheOk returns true and leaves its argument as it was; the package-level variables that its row lists read as they are laid. -/
import Derived.Test.YtfabojbkhicpmaaGreatDoorRows
import Derived.Test.YtfabojbkhicpmaaGreatDoorXChipOwn2
import Derived.Test.YtfabojbkhicpmaaGreatDoorXFtlOwnP
import Derived.Test.YtfabojbkhicpmaaGreatDoorXFtlImplA
import Derived.Test.YtfabojbkhicpmaaGreatDoorXLyLaid
import Derived.Deep.RegionWith
import Derived.Deep.DeepCutAuto
import Derived.WalkKit
import Derived.ProofKit
import Derived.OpenShut
import Derived.ShutString
import Derived.ChangeOld
import Derived.Below
namespace Go.Proofs.YtfabojbkhicpmaaGreatDoor.fnExactCacheOk
open Go.ChangeShapes Go.WideShapes Go.ChangeAt Go.RowKit
open Go.ChangeMaps (open_string shut_string)
set_option linter.unusedVariables false

theorem own : ownKnob Tryz.prog.godebug = none := by kernel_rfl
theorem laidOut : laidOutB Tryz.prog = true := by kernel_rfl

set_option maxHeartbeats 8000000 in
set_option maxRecDepth 100000 in

theorem walk (r0 : Int) (ai0 : Option Addr) (ni0 ci0 : Nat) (y0 : List Hd) (n0 : Int) (a0 : Option Addr) (len0 cap0 : Nat) (q0 : List Sq) (am0 : Option Addr) (lm0 cm0 : Nat) (z0 : List Pl) (o0 s0 : Int) (w : World) (w0 : (Lit.int .i64 r0).wf = true ∧ Helds 0 w.heap.size w ai0 ni0 y0 ∧ (∀ x ∈ y0, hdFits x) ∧ ni0 ≤ maxLen ∧ (Lit.int .i64 n0).wf = true ∧ Squares 0 w.heap.size w a0 len0 q0 ∧ (∀ x ∈ q0, sqFits x) ∧ len0 ≤ maxLen ∧ Places 0 w.heap.size w am0 lm0 z0 ∧ (∀ x ∈ z0, plFits x) ∧ lm0 ≤ maxLen ∧ (Lit.int .i64 o0).wf = true ∧ (Lit.int .i64 s0).wf = true) (hT : Tab w) {aB aL aS aC aF : Addr} (E : Errs w aB aL aS aC aF) :
    Calls Tryz.prog 9 #[.agg #[.int .i64 r0, .slice ai0 ni0 ci0, .int .i64 n0, .slice a0 len0 cap0, .slice am0 lm0 cm0, .int .i64 o0, .int .i64 s0]] w fun e w' => e = .returned (.bool true) ∧ Below w.heap.size w w' := by
  obtain ⟨_, hhy, hfy, hny, _, hsq, hfi, hm, hpl, _, hml, _, _⟩ := w0
  have hlen0 : y0.length = ni0 := hhy.1
  subst hlen0
  have hlen : q0.length = len0 := hsq.1
  subst hlen
  have hlen2 : z0.length = lm0 := hpl.1
  subst hlen2
  obtain ⟨wA, hwA⟩ : ∃ wA, wA = w.alloc (.cells #[.int .i64 r0, .slice ai0 y0.length ci0, .int .i64 n0, .slice a0 q0.length cap0, .slice am0 z0.length cm0, .int .i64 o0, .int .i64 s0] 95) := ⟨_, rfl⟩
  have hzA : wA.heap.size = w.heap.size + 1 := by rw [hwA]; simp
  have HBX : Hid (BoxK w r0 ai0 y0.length ci0 n0 a0 q0.length cap0 am0 z0.length cm0 o0 s0 wA) := by rw [hwA]; exact ⟨heap_new _ _, (Below.refl _ _).alloc (Nat.le_refl _) _⟩
  have HSQ := hide hsq
  have HF := hide hfi
  have HM := hide hm
  have HPL := hide hpl
  have HML := hide hml
  have HT := hide hT
  have HE := hide E
  have HHY := hide hhy
  have HFY := hide hfy
  have HNY := hide hny
  clear hsq hfi hm hT E hpl hml hhy hfy hny
  obtain ⟨c0, c1, c2, c3, c4, c5, c6⟩ := HBX.out.cells
  go_enter Tryz.func9, Tryz.ntmps9
  go_upto_region 1 with fail
  rw [← hwA]
  clear hwA
  go_wp2_with fail
  refine (szCache_any r0 ai0 y0.length ci0 y0 n0 a0 q0.length cap0 q0 am0 z0.length cm0 o0 s0 1048576 wA (HHY.out.later HBX.out.below (Nat.le_refl _)) (by omega) HNY.out HFY.out (HSQ.out.later HBX.out.below (Nat.le_refl _)) (by omega) HM.out HF.out HML.out (by omega) (by omega)).mono ?_
  rintro e w1 ⟨⟨r, rfl, r1, r2, hr⟩, b1⟩
  have HB1 := hide (HBX.out.on b1)
  clear b1 HBX c0 c1 c2 c3 c4 c5 c6
  have HBX := HB1
  clear HB1
  by_cases h0 : 0 ≤ r
  case neg =>
    clear hr
    go_wp2_with fail
    go_ret
    exact ⟨rfl, HBX.out.below⟩
  have hfit : q0.length + weight q0 ≤ 1048576 := by have := hr h0; omega
  have hfm : z0.length ≤ 1048576 := by have := hr h0; omega
  have hfk : y0.length + (q0.length + weight q0) ≤ 1048576 := by have := hr h0; omega
  have hfl : y0.length ≤ 1048576 := by omega
  clear hr
  have hb1 := HBX.out.size
  obtain ⟨Bv, hBv⟩ : ∃ Bv, Bv = cacheOk ⟨r0, y0, ⟨n0, q0, z0, o0, s0⟩⟩ := ⟨_, rfl⟩
  have HBv := hide hBv
  clear hBv
  have HSD : ∀ w9 ai9 a9 am9 l1 r1 lo hi lo' hi', Hid (Below w.heap.size w w9 → Helds l1 r1 w9 ai9 y0.length y0 → r1 ≤ w9.heap.size → Squares lo hi w9 a9 q0.length q0 → hi ≤ w9.heap.size → Places lo' hi' w9 am9 z0.length z0 → hi' ≤ w9.heap.size → Calls Tryz.prog 57 #[.agg #[.int .i64 r0, .slice ai9 y0.length y0.length, .int .i64 n0, .slice a9 q0.length q0.length, .slice am9 z0.length z0.length, .int .i64 o0, .int .i64 s0]] w9 fun e w' => e = .returned (.bool Bv) ∧ Below w9.heap.size w9 w') := fun w9 ai9 a9 am9 l1 r1 lo hi lo' hi' hb h7 hh7 h9 hh h8 hh8 => by
    refine (specCacheOk_any r0 ai9 y0.length y0.length y0 n0 a9 q0.length q0.length q0 am9 z0.length z0.length z0 o0 s0 w9 h7 hh7 hfl HFY.out h9 hh (by omega) HF.out h8 hh8 hfm).mono ?_
    rintro e w' ⟨h1, h2⟩
    exact ⟨by rw [h1, HBv.out], h2⟩
  have HID : ∀ w9 ai9 a9 am9 l1 r1 lo hi lo' hi', Hid (Below w.heap.size w w9 → Helds l1 r1 w9 ai9 y0.length y0 → r1 ≤ w9.heap.size → Squares lo hi w9 a9 q0.length q0 → hi ≤ w9.heap.size → Places lo' hi' w9 am9 z0.length z0 → hi' ≤ w9.heap.size → Calls Tryz.prog 56 #[.agg #[.int .i64 r0, .slice ai9 y0.length y0.length, .int .i64 n0, .slice a9 q0.length q0.length, .slice am9 z0.length z0.length, .int .i64 o0, .int .i64 s0]] w9 fun e w' => e = .returned (.bool Bv) ∧ Below w9.heap.size w9 w') := fun w9 ai9 a9 am9 l1 r1 lo hi lo' hi' hb h7 hh7 h9 hh h8 hh8 => by
    refine (implCacheOk_any r0 ai9 y0.length y0.length y0 n0 a9 q0.length q0.length q0 am9 z0.length z0.length z0 o0 s0 w9 h7 hh7 hfl HFY.out h9 hh (by omega) HF.out h8 hh8 hfm (Nat.le_refl _) (HT.out.here hb) (HE.out.here hb)).mono ?_
    rintro e w' ⟨h1, h2⟩
    exact ⟨by rw [h1, HBv.out], h2⟩
  obtain ⟨c0, c1, c2, c3, c4, c5, c6⟩ := HBX.out.cells
  go_wp2_with fail
  refine (toCache_any r0 ai0 y0.length ci0 y0 n0 a0 q0.length cap0 q0 am0 z0.length cm0 z0 o0 s0 w1 (HHY.out.later HBX.out.below (Nat.le_refl _)) HBX.out.below.size hfl (HSQ.out.later HBX.out.below (Nat.le_refl _)) HBX.out.below.size hfit (HPL.out.later HBX.out.below (Nat.le_refl _)) HBX.out.below.size hfm).mono ?_
  rintro e w2 ⟨ai_t, a_t, am_t, md_t, me_t, rfl, m0, m1, m2, i_t, o_t, p_t, b_t⟩
  clear c0 c1 c2 c3 c4 c5 c6
  have hs2 := b_t.size
  go_wp2_with fail
  refine ((HSD w2 ai_t a_t am_t _ _ _ _ _ _).out (below_here HBX.out.below b_t) i_t.helds (by omega) o_t.squares (by omega) p_t.places (by omega)).mono ?_
  rintro e w3 ⟨rfl, b_w⟩
  have B_w : Below w1.heap.size w1 w3 := below_here b_t b_w
  have HBX' := hide (HBX.out.on B_w)
  clear HBX
  have HBX := HBX'
  clear HBX'
  clear B_w b_w
  clear b_t i_t o_t p_t m0 m1 m2
  obtain ⟨c0, c1, c2, c3, c4, c5, c6⟩ := HBX.out.cells
  go_wp2_with fail
  refine (toCache_any r0 ai0 y0.length ci0 y0 n0 a0 q0.length cap0 q0 am0 z0.length cm0 z0 o0 s0 w3 (HHY.out.later HBX.out.below (Nat.le_refl _)) HBX.out.below.size hfl (HSQ.out.later HBX.out.below (Nat.le_refl _)) HBX.out.below.size hfit (HPL.out.later HBX.out.below (Nat.le_refl _)) HBX.out.below.size hfm).mono ?_
  rintro e w4 ⟨ai_t, a_t, am_t, md_t, me_t, rfl, m0, m1, m2, i_t, o_t, p_t, b_t⟩
  clear c0 c1 c2 c3 c4 c5 c6
  obtain ⟨wX, hwX⟩ : ∃ wX, wX = w4.alloc (.cells #[.int .i64 r0, .slice ai_t y0.length y0.length, .int .i64 n0, .slice a_t q0.length q0.length, .slice am_t z0.length z0.length, .int .i64 o0, .int .i64 s0] 69) := ⟨_, rfl⟩
  have hzX : w4.heap.size < wX.heap.size := by rw [hwX]; simp
  have HX4 : Hid (Below w4.heap.size w4 wX) := by rw [hwX]; exact (Below.refl _ _).alloc (Nat.le_refl _) _
  have HX : Hid (wX.heap[w4.heap.size]? = some (.cells #[.int .i64 r0, .slice ai_t y0.length y0.length, .int .i64 n0, .slice a_t q0.length q0.length, .slice am_t z0.length z0.length, .int .i64 o0, .int .i64 s0] 69)) := by rw [hwX]; exact heap_new _ _
  have hs4 := b_t.size
  have HXF : Hid (CacheOwn w3.heap.size wX.heap.size wX ai_t a_t am_t y0 q0 z0) := cache_of_to (i_t.later HX4.out (by omega)) (o_t.later HX4.out (by omega)) (p_t.later HX4.out (Nat.le_refl _)) m0 m1 m2 hzX
  have B_x := below_here b_t HX4.out
  have HBX' := hide (HBX.out.on B_x)
  clear HBX
  have HBX := HBX'
  clear HBX'
  clear B_x b_t HX4 i_t o_t p_t m0 m1 m2
  go_upto_region 7 with fail
  rw [← hwX]
  clear hwX
  obtain ⟨d0, d1, d2, d3, d4, d5, d6⟩ := seven_cells HX.out
  go_wp2_with fail
  refine ((HID wX ai_t a_t am_t _ _ _ _ _ _).out HBX.out.below HXF.out.helds HXF.out.1 HXF.out.squares HXF.out.1 HXF.out.places HXF.out.1).mono ?_
  rintro e w5 ⟨rfl, b_g⟩
  clear d0 d1 d2 d3 d4 d5 d6
  have B_g : Below wX.heap.size wX w5 := b_g
  have HBX' := hide (HBX.out.on B_g)
  clear HBX
  have HBX := HBX'
  clear HBX'
  have HX' := hide (block_on HX.out B_g)
  clear HX
  have HX := HX'
  clear HX'
  have HXF' := hide (HXF.out.later B_g HXF.out.1)
  clear HXF
  have HXF := HXF'
  clear HXF'
  clear B_g b_g
  obtain ⟨w6, hn6⟩ : ∃ w6, w6 = w5 := ⟨_, rfl⟩
  subst hn6
  obtain ⟨c0, c1, c2, c3, c4, c5, c6⟩ := HBX.out.cells
  obtain ⟨d0, d1, d2, d3, d4, d5, d6⟩ := seven_cells HX.out
  have HXd := hide (HXF.out.later (Below.refl w6.heap.size w6).drew HXF.out.1)
  have HSd := hide (HSQ.out.later HBX.out.below (Nat.le_refl _))
  have HPd := hide (HPL.out.later HBX.out.below (Nat.le_refl _))
  have hw6 := HBX.out.below.size
  have hx6 := HXF.out.1
  have HYd := hide (HHY.out.later HBX.out.below (Nat.le_refl _))
  go_upto_region 10 with fail
  go_cut [26] (fun c wx => c = .bool false ∧ Below w6.heap.size w6 wx)
  case first =>
    go_region_with (first
      | (go_at_call 64; refine (toCache_any r0 ai0 y0.length ci0 y0 n0 a0 q0.length cap0 q0 am0 z0.length cm0 z0 o0 s0 _ (by exact HYd.out) (by show w.heap.size ≤ w6.heap.size; omega) hfl (by exact HSd.out) (by show w.heap.size ≤ w6.heap.size; omega) hfit (by exact HPd.out) (by show w.heap.size ≤ w6.heap.size; omega) hfm).mono ?_; rintro e v6 ⟨ai6, a6, am6, md6, me6, rfl, k2, k3, k4, i6, o6, p6, b6⟩; have HX6 := hide (block_on (w := w6.drew) HX.out b6); have HB6 : Hid (Below w6.heap.size w6 v6) := below_here (Below.refl w6.heap.size w6).drew b6; have hs6 : w6.heap.size ≤ v6.heap.size := b6.size; have HXS := hide (HXd.out.later b6 HXd.out.1); have HY6 := hide i6; have HV6 := hide o6; have HU6 := hide p6; clear i6 o6 p6 b6; obtain ⟨e0, e1, e2, e3, e4, e5, e6⟩ := seven_cells HX6.out)
      | (go_at_call 65; refine (eqCache_same r0 ai_t ai6 y0.length y0.length y0.length y0 n0 a_t a6 q0.length q0.length q0.length q0 am_t am6 z0.length z0.length z0.length z0 o0 s0 _ (by exact HXS.out.helds) (by exact HY6.out.helds) (by omega) (by omega) hfl (by exact HXS.out.squares) (by exact HV6.out.squares) (by omega) (by omega) hfit (by exact HXS.out.places) (by exact HU6.out.places) (by omega) (by omega) hfm).mono ?_; rintro e v7 ⟨rfl, b7⟩; have HB7 := hide (below_here HB6.out b7); clear b7))
    all_goals
      go_wp2_with fail
      go_meet
      exact ⟨rfl, HB7.out⟩
  clear c0 c1 c2 c3 c4 c5 c6 d0 d1 d2 d3 d4 d5 d6 HXd HSd HPd HYd
  obtain ⟨rfl, hB⟩ := hcut
  obtain ⟨w7, hn⟩ : ∃ w7, w7 = wc := ⟨_, rfl⟩
  subst hn
  have hs_w7 := hB.size
  have HBX' := hide (HBX.out.on hB)
  clear HBX
  have HBX := HBX'
  clear HBX'
  have HX' := hide (block_on HX.out hB)
  clear HX
  have HX := HX'
  clear HX'
  have HXF' := hide (HXF.out.later hB HXF.out.1)
  clear HXF
  have HXF := HXF'
  clear HXF'
  clear hB
  go_wp2_with fail
  go_ret
  exact ⟨rfl, HBX.out.below⟩
end Go.Proofs.YtfabojbkhicpmaaGreatDoor.fnExactCacheOk
