/- For every Ftl the law FnExactRotten returns true and leaves its argument as it was; the package-level variables that its row lists read as they are laid. -/
import Derived.Test.YtoocbagnfkgbfaaGreatDoorRows
import Derived.Test.YtoocbagnfkgbfaaGreatDoorSChipOwn2
import Derived.Test.YtoocbagnfkgbfaaGreatDoorSFtlOwnP
import Derived.Test.YtoocbagnfkgbfaaGreatDoorSInfo
import Derived.Test.YtoocbagnfkgbfaaGreatDoorSSameI
import Derived.Test.YtoocbagnfkgbfaaGreatDoorSLyLaid
import Derived.Deep.RegionWith
import Derived.Deep.DeepCutAuto
import Derived.WalkKit
import Derived.ProofKit
import Derived.OpenShut
import Derived.ShutString
import Derived.ChangeOld
import Derived.Below
namespace Go.Proofs.YtoocbagnfkgbfaaGreatDoor.fnExactRotten
open Go.ChangeShapes Go.WideShapes Go.ChangeAt Go.RowKit
open Go.ChangeMaps (open_string shut_string)
set_option linter.unusedVariables false

theorem own : ownKnob Tryz.prog.godebug = none := by kernel_rfl
theorem laidOut : laidOutB Tryz.prog = true := by kernel_rfl

set_option maxHeartbeats 8000000 in
set_option maxRecDepth 100000 in

theorem walk (n0 : Int) (a0 : Option Addr) (len0 cap0 : Nat) (q0 : List Sq) (am0 : Option Addr) (lm0 cm0 : Nat) (z0 : List Pl) (o0 s0 : Int) (w : World) (w0 : (Lit.int .i64 n0).wf = true ∧ Squares 0 w.heap.size w a0 len0 q0 ∧ (∀ x ∈ q0, sqFits x) ∧ len0 ≤ maxLen ∧ Places 0 w.heap.size w am0 lm0 z0 ∧ (∀ x ∈ z0, plFits x) ∧ lm0 ≤ maxLen ∧ (Lit.int .i64 o0).wf = true ∧ (Lit.int .i64 s0).wf = true) (hT : Tab w) {aB aL aS aC aF : Addr} (E : Errs w aB aL aS aC aF) :
    Calls Tryz.prog 11 #[.agg #[.int .i64 n0, .slice a0 len0 cap0, .slice am0 lm0 cm0, .int .i64 o0, .int .i64 s0]] w fun e w' => e = .returned (.bool true) ∧ Below w.heap.size w w' := by
  obtain ⟨_, hsq, hfi, hm, hpl, _, hml, _, _⟩ := w0
  have hlen : q0.length = len0 := hsq.1
  subst hlen
  have hlen2 : z0.length = lm0 := hpl.1
  subst hlen2
  obtain ⟨wA, hwA⟩ : ∃ wA, wA = w.alloc (.cells #[.int .i64 n0, .slice a0 q0.length cap0, .slice am0 z0.length cm0, .int .i64 o0, .int .i64 s0] 72) := ⟨_, rfl⟩
  have hzA : wA.heap.size = w.heap.size + 1 := by rw [hwA]; simp
  have HBX : Hid (BoxF w n0 a0 q0.length cap0 am0 z0.length cm0 o0 s0 wA) := by rw [hwA]; exact ⟨heap_new _ _, (Below.refl _ _).alloc (Nat.le_refl _) _⟩
  have HSQ := hide hsq
  have HF := hide hfi
  have HM := hide hm
  have HT := hide hT
  have HE := hide E
  have HPL := hide hpl
  have HML := hide hml
  clear hsq hfi hm hT E hpl hml
  obtain ⟨c0, c1, c2, c3, c4⟩ := HBX.out.cells
  go_enter Tryz.func11, Tryz.ntmps11
  go_upto_region 1 with fail
  rw [← hwA]
  clear hwA
  go_wp2_with fail
  refine (szFtl_any n0 a0 q0.length cap0 q0 am0 z0.length cm0 o0 s0 1048576 wA (HSQ.out.later HBX.out.below (Nat.le_refl _)) (by omega) HM.out HF.out HML.out (by omega) (by omega)).mono ?_
  rintro e w1 ⟨⟨r, rfl, r1, r2, hr⟩, b1⟩
  have HB1 := hide (HBX.out.on b1)
  clear b1 HBX c0 c1 c2 c3 c4
  have HBX := HB1
  clear HB1
  by_cases h0 : 0 ≤ r
  · have hfit : q0.length + weight q0 ≤ 1048576 := by have := hr h0; omega
    have hfm : z0.length ≤ 1048576 := by have := hr h0; omega
    clear hr
    have hb1 := HBX.out.size
    obtain ⟨L, hL⟩ : ∃ L : List Int, L = (rotF n0 q0 z0 o0 s0).map (fun (i : Nat) => (i : Int)) := ⟨_, rfl⟩
    have hl64 : L.length ≤ 64 := by rw [hL, List.length_map]; exact rotF_len n0 q0 z0 o0 s0
    have HFV := hide hL
    clear hL
    have HSD : ∀ w9 a9 am9 lo hi lo' hi', Hid (Below w.heap.size w w9 → Squares lo hi w9 a9 q0.length q0 → hi ≤ w9.heap.size → Places lo' hi' w9 am9 z0.length z0 → hi' ≤ w9.heap.size → Calls Tryz.prog 42 #[.agg #[.int .i64 n0, .slice a9 q0.length q0.length, .slice am9 z0.length z0.length, .int .i64 o0, .int .i64 s0]] w9 fun e w' => ∃ a c, e = .returned (.slice a L.length c) ∧ L.length ≤ c ∧ OwnInts w9.heap.size w'.heap.size w' a L.length L ∧ Below w9.heap.size w9 w') := fun w9 a9 am9 lo hi lo' hi' hb h9 hh h8 hh8 => by
      refine (specRotten_any n0 a9 q0.length q0.length q0 am9 z0.length z0.length z0 o0 s0 w9 h9 hh (by omega) HF.out h8 hh8 hfm).mono ?_
      rintro e w' ⟨a, c, h1, h2, h3, h4⟩
      obtain ⟨a', c', e9, hc', ho⟩ := own_valN h3
      simp only [Value.slice.injEq] at e9
      have hl9 : L.length = (rotF n0 q0 z0 o0 s0).length := by rw [HFV.out, List.length_map]
      refine ⟨a, c, by rw [h1, hl9], by rw [hl9]; exact h2, ?_, h4⟩
      rw [hl9, e9.1, HFV.out]
      exact ho
    have HID : ∀ w9 a9 am9 lo hi lo' hi', Hid (Below w.heap.size w w9 → Squares lo hi w9 a9 q0.length q0 → hi ≤ w9.heap.size → Places lo' hi' w9 am9 z0.length z0 → hi' ≤ w9.heap.size → Calls Tryz.prog 38 #[.agg #[.int .i64 n0, .slice a9 q0.length q0.length, .slice am9 z0.length z0.length, .int .i64 o0, .int .i64 s0]] w9 fun e w' => ∃ a c, e = .returned (.slice a L.length c) ∧ L.length ≤ c ∧ OwnInts w9.heap.size w'.heap.size w' a L.length L ∧ Below w9.heap.size w9 w') := fun w9 a9 am9 lo hi lo' hi' hb h9 hh h8 hh8 => by
      refine (implRotten_any n0 a9 q0.length q0.length q0 am9 z0.length z0.length z0 o0 s0 w9 h9 hh (by omega) HF.out h8 hh8 hfm (Nat.le_refl _) (HT.out.here hb) (HE.out.here hb)).mono ?_
      rintro e w' ⟨a, c, h1, h2, h3, h4⟩
      obtain ⟨a', c', e9, hc', ho⟩ := own_valN h3
      simp only [Value.slice.injEq] at e9
      have hl9 : L.length = (rotF n0 q0 z0 o0 s0).length := by rw [HFV.out, List.length_map]
      refine ⟨a, c, by rw [h1, hl9], by rw [hl9]; exact h2, ?_, h4⟩
      rw [hl9, e9.1, HFV.out]
      exact ho
    clear HFV
    obtain ⟨c0, c1, c2, c3, c4⟩ := HBX.out.cells
    go_wp2_with fail
    refine (toFtl_any n0 a0 q0.length cap0 q0 am0 z0.length cm0 z0 o0 s0 w1 (HSQ.out.later HBX.out.below (Nat.le_refl _)) HBX.out.below.size hfit (HPL.out.later HBX.out.below (Nat.le_refl _)) HBX.out.below.size hfm).mono ?_
    rintro e w2 ⟨a_t, am_t, mid_t, rfl, m1, m2, o_t, p_t, b_t⟩
    clear c0 c1 c2 c3 c4
    have hs2 := b_t.size
    go_wp2_with fail
    refine ((HSD w2 a_t am_t _ _ _ _).out (below_here HBX.out.below b_t) o_t.squares (by omega) p_t.places (by omega)).mono ?_
    rintro e w3 ⟨a_w, c_w, rfl, hc_w, q_w, b_w⟩
    have B_w : Below w1.heap.size w1 w3 := below_here b_t b_w
    have HI_w := hide q_w
    have hs_w := B_w.size
    have hl_w : w1.heap.size ≤ w2.heap.size := by omega
    have HN := hide (HBX.out.on B_w)
    clear HBX
    have HBX := HN
    clear HN
    clear B_w q_w b_w
    clear b_t o_t p_t m1 m2
    obtain ⟨c0, c1, c2, c3, c4⟩ := HBX.out.cells
    go_wp2_with fail
    refine (toFtl_any n0 a0 q0.length cap0 q0 am0 z0.length cm0 z0 o0 s0 w3 (HSQ.out.later HBX.out.below (Nat.le_refl _)) HBX.out.below.size hfit (HPL.out.later HBX.out.below (Nat.le_refl _)) HBX.out.below.size hfm).mono ?_
    rintro e w4 ⟨a_t, am_t, mid_t, rfl, m1, m2, o_t, p_t, b_t⟩
    clear c0 c1 c2 c3 c4
    obtain ⟨wX, hwX⟩ : ∃ wX, wX = w4.alloc (.cells #[.int .i64 n0, .slice a_t q0.length q0.length, .slice am_t z0.length z0.length, .int .i64 o0, .int .i64 s0] 29) := ⟨_, rfl⟩
    have hzX : w4.heap.size < wX.heap.size := by rw [hwX]; simp
    have HX4 : Hid (Below w4.heap.size w4 wX) := by rw [hwX]; exact (Below.refl _ _).alloc (Nat.le_refl _) _
    have HX : Hid (wX.heap[w4.heap.size]? = some (.cells #[.int .i64 n0, .slice a_t q0.length q0.length, .slice am_t z0.length z0.length, .int .i64 o0, .int .i64 s0] 29)) := by rw [hwX]; exact heap_new _ _
    have hs4 := b_t.size
    have HXF := hide (own_of_to (o_t.later HX4.out m2) (p_t.later HX4.out (Nat.le_refl _)) m1 m2 hzX)
    have B_x := below_here b_t HX4.out
    have HN := hide (HBX.out.on B_x)
    clear HBX
    have HBX := HN
    clear HN
    have HN := hide (HI_w.out.later B_x HI_w.out.2.1)
    clear HI_w
    have HI_w := HN
    clear HN
    clear B_x b_t o_t HX4 p_t m1 m2
    go_upto_region 7 with fail
    rw [← hwX]
    clear hwX
    obtain ⟨d0, d1, d2, d3, d4⟩ := five_cells HX.out
    go_wp2_with fail
    refine ((HID wX a_t am_t _ _ _ _).out HBX.out.below HXF.out.squares HXF.out.1 HXF.out.places HXF.out.1).mono ?_
    rintro e w5 ⟨a_g, c_g, rfl, hc_g, q_g, b_g⟩
    clear d0 d1 d2 d3 d4
    have B_g : Below wX.heap.size wX w5 := b_g
    have HI_g := hide q_g
    have hs_g := B_g.size
    have hl_g : wX.heap.size ≤ wX.heap.size := by omega
    have HN := hide (HBX.out.on B_g)
    clear HBX
    have HBX := HN
    clear HN
    have HN := hide (HI_w.out.later B_g HI_w.out.2.1)
    clear HI_w
    have HI_w := HN
    clear HN
    have HN := hide (block_on HX.out B_g)
    clear HX
    have HX := HN
    clear HN
    have HN := hide (HXF.out.later B_g HXF.out.1)
    clear HXF
    have HXF := HN
    clear HN
    clear B_g q_g b_g
    go_wp2_with fail
    refine (eq_any a_g L.length c_g L a_w L.length c_w L w5 HI_g.out.ints HI_w.out.ints (by omega) (by omega)).mono ?_
    rintro e w6 ⟨rfl, bn⟩
    have hs_w6 := bn.size
    have HN := hide (HBX.out.on bn)
    clear HBX
    have HBX := HN
    clear HN
    have HN := hide (HI_w.out.later bn HI_w.out.2.1)
    clear HI_w
    have HI_w := HN
    clear HN
    have HN := hide (block_on HX.out bn)
    clear HX
    have HX := HN
    clear HN
    have HN := hide (HXF.out.later bn HXF.out.1)
    clear HXF
    have HXF := HN
    clear HN
    have HN := hide (HI_g.out.later bn HI_g.out.2.1)
    clear HI_g
    have HI_g := HN
    clear HN
    clear bn
    obtain ⟨c0, c1, c2, c3, c4⟩ := HBX.out.cells
    obtain ⟨d0, d1, d2, d3, d4⟩ := five_cells HX.out
    have HXd := hide (HXF.out.later (Below.refl w6.heap.size w6).drew HXF.out.1)
    have HSd := hide (HSQ.out.later HBX.out.below (Nat.le_refl _))
    have hw6 := HBX.out.below.size
    have hx6 := HXF.out.1
    have HPd := hide (HPL.out.later HBX.out.below (Nat.le_refl _))
    go_upto_region 10 with fail
    go_cut [31] (fun c wx => c = .bool false ∧ Below w6.heap.size w6 wx)
    case first =>
      go_region_with (first
        | (go_at_call 45; refine (toFtl_any n0 a0 q0.length cap0 q0 am0 z0.length cm0 z0 o0 s0 _ (by exact HSd.out) (by show w.heap.size ≤ w6.heap.size; omega) hfit (by exact HPd.out) (by show w.heap.size ≤ w6.heap.size; omega) hfm).mono ?_; rintro e v6 ⟨a6, am6, mid6, rfl, k3, k4, o6, p6, b6⟩; have HX6 := hide (block_on (w := w6.drew) HX.out b6); have HB6 : Hid (Below w6.heap.size w6 v6) := below_here (Below.refl w6.heap.size w6).drew b6; have hs6 : w6.heap.size ≤ v6.heap.size := b6.size; have HXS := hide (HXd.out.later b6 HXd.out.1); have HV6 := hide o6; have HU6 := hide p6; clear o6 p6 b6; obtain ⟨e0, e1, e2, e3, e4⟩ := five_cells HX6.out)
        | (go_at_call 46; refine (eqFtl_same n0 a_t a6 q0.length q0.length q0.length q0 am_t am6 z0.length z0.length z0.length z0 o0 s0 _ (by exact HXS.out.squares) (by exact HV6.out.squares) (by omega) (by omega) hfit (by exact HXS.out.places) (by exact HU6.out.places) (by omega) (by omega) hfm).mono ?_; rintro e v7 ⟨rfl, b7⟩; have HB7 := hide (below_here HB6.out b7); clear b7))
      all_goals
        go_wp2_with fail
        go_meet
        exact ⟨rfl, HB7.out⟩
    clear c0 c1 c2 c3 c4 d0 d1 d2 d3 d4 HXd HSd HPd
    obtain ⟨rfl, hB⟩ := hcut
    obtain ⟨w7, hn⟩ : ∃ w7, w7 = wc := ⟨_, rfl⟩
    subst hn
    have hs_w7 := hB.size
    have HN := hide (HBX.out.on hB)
    clear HBX
    have HBX := HN
    clear HN
    have HN := hide (HI_w.out.later hB HI_w.out.2.1)
    clear HI_w
    have HI_w := HN
    clear HN
    have HN := hide (block_on HX.out hB)
    clear HX
    have HX := HN
    clear HN
    have HN := hide (HXF.out.later hB HXF.out.1)
    clear HXF
    have HXF := HN
    clear HN
    have HN := hide (HI_g.out.later hB HI_g.out.2.1)
    clear HI_g
    have HI_g := HN
    clear HN
    clear hB
    obtain ⟨d0, d1, d2, d3, d4⟩ := five_cells HX.out
    go_wp2_with fail
    refine (markFtl_own n0 a_t q0.length q0.length q0 am_t z0.length z0.length z0 o0 s0 w7 HXF.out rfl rfl hfit hfm).mono ?_
    rintro e w8 ⟨rfl, _, sm⟩
    clear d0 d1 d2 d3 d4
    have hs_w8 := sm.size
    have hb9 := HBX.out.size
    clear HX HXF
    have HN := hide (HBX.out.aside sm (by omega))
    clear HBX
    have HBX := HN
    clear HN
    have HN := hide (HI_w.out.aside sm (.inl (by omega)))
    clear HI_w
    have HI_w := HN
    clear HN
    have HN := hide (HI_g.out.aside sm (.inr (by omega)))
    clear HI_g
    have HI_g := HN
    clear HN
    clear sm
    obtain ⟨t1, ht⟩ : ∃ t1, t1 = 1 + lens q0 + 2 * q0.length + 2 * z0.length := ⟨_, rfl⟩
    rw [← ht]
    have ht0 : decide ((t1 : Int) < 0) = false := by simp
    clear ht
    go_wp2_with fail
    refine (eq_any a_g L.length c_g L a_w L.length c_w L w8 HI_g.out.ints HI_w.out.ints (by omega) (by omega)).mono ?_
    rintro e w9 ⟨rfl, bn⟩
    have hs_w9 := bn.size
    have HN := hide (HBX.out.on bn)
    clear HBX
    have HBX := HN
    clear HN
    have HN := hide (HI_w.out.later bn HI_w.out.2.1)
    clear HI_w
    have HI_w := HN
    clear HN
    have HN := hide (HI_g.out.later bn HI_g.out.2.1)
    clear HI_g
    have HI_g := HN
    clear HN
    clear bn
    have hhw := HI_w.out.2.1
    go_wp2_with fail
    refine (mark_any a_g L.length c_g L 1 w9 HI_g.out (by omega) (by omega) (by omega)).mono ?_
    rintro e w10 ⟨rfl, hmk, sm⟩
    have HMI := hide hmk
    have hs_w10 := sm.size
    have hb10 := HBX.out.size
    clear hmk HI_g
    have HN := hide (HBX.out.aside sm (by omega))
    clear HBX
    have HBX := HN
    clear HN
    have HN := hide (HI_w.out.aside sm (.inl (by omega)))
    clear HI_w
    have HI_w := HN
    clear HN
    clear sm
    go_wp2_with fail
    refine (held_any a_g L.length c_g 1 w10 HMI.out.ints (by omega) (by omega) (by omega)).mono ?_
    rintro e w11 ⟨rfl, rfl⟩
    have hq0 : decide ((1 : Int) + (L.length : Int) < 0) = false := by simp; omega
    obtain ⟨c0, c1, c2, c3, c4⟩ := HBX.out.cells
    go_wp2_with fail
    refine (toFtl_any n0 a0 q0.length cap0 q0 am0 z0.length cm0 z0 o0 s0 w10 (HSQ.out.later HBX.out.below (Nat.le_refl _)) HBX.out.below.size hfit (HPL.out.later HBX.out.below (Nat.le_refl _)) HBX.out.below.size hfm).mono ?_
    rintro e w12 ⟨a_u, am_u, mid_t, rfl, m1, m2, o_t, p_t, b_t⟩
    clear c0 c1 c2 c3 c4
    have hs12 := b_t.size
    go_wp2_with fail
    refine ((HID w12 a_u am_u _ _ _ _).out (below_here HBX.out.below b_t) o_t.squares (by omega) p_t.places (by omega)).mono ?_
    rintro e w13 ⟨a_h, c_h, rfl, hc_h, q_h, b_h⟩
    have B_h : Below w10.heap.size w10 w13 := below_here b_t b_h
    have HI_h := hide q_h
    have hs_h := B_h.size
    have hl_h : w10.heap.size ≤ w12.heap.size := by omega
    have HN := hide (HBX.out.on B_h)
    clear HBX
    have HBX := HN
    clear HN
    have HN := hide (HI_w.out.later B_h HI_w.out.2.1)
    clear HI_w
    have HI_w := HN
    clear HN
    have HN := hide (HMI.out.later B_h HMI.out.2.1)
    clear HMI
    have HMI := HN
    clear HN
    clear B_h q_h b_h
    go_wp2_with fail
    refine (eq_any a_h L.length c_h L a_w L.length c_w L w13 HI_h.out.ints HI_w.out.ints (by omega) (by omega)).mono ?_
    rintro e w14 ⟨rfl, bn⟩
    have hs_w14 := bn.size
    have HN := hide (HBX.out.on bn)
    clear HBX
    have HBX := HN
    clear HN
    have HN := hide (HI_w.out.later bn HI_w.out.2.1)
    clear HI_w
    have HI_w := HN
    clear HN
    have HN := hide (HMI.out.later bn HMI.out.2.1)
    clear HMI
    have HMI := HN
    clear HN
    have HN := hide (HI_h.out.later bn HI_h.out.2.1)
    clear HI_h
    have HI_h := HN
    clear HN
    clear bn
    go_wp2_with fail
    refine (held_any a_g L.length c_g 1 w14 HMI.out.ints (by omega) (by omega) (by omega)).mono ?_
    rintro e w15 ⟨rfl, rfl⟩
    go_wp2_with fail
    go_ret
    exact ⟨rfl, HBX.out.below⟩
  · clear hr
    go_wp2_with fail
    go_ret
    exact ⟨rfl, HBX.out.below⟩
end Go.Proofs.YtoocbagnfkgbfaaGreatDoor.fnExactRotten
