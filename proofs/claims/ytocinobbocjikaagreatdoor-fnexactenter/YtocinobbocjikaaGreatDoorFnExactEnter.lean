/- For every Ftl and every Page the law FnExactEnter returns true and leaves its arguments as they were; the package-level variables that its row lists read as they are laid. -/
import Derived.Test.YtocinobbocjikaaGreatDoorRows
import Derived.Test.YtocinobbocjikaaGreatDoorRChipOwn2
import Derived.Test.YtocinobbocjikaaGreatDoorRFtlWalk
import Derived.Test.YtocinobbocjikaaGreatDoorRPageBase
import Derived.Test.YtocinobbocjikaaGreatDoorRFtlOwnP
import Derived.Test.YtocinobbocjikaaGreatDoorRFtlSpecH
import Derived.Test.YtocinobbocjikaaGreatDoorRFtlImplI
import Derived.Test.YtocinobbocjikaaGreatDoorRLyLaid
import Derived.Deep.RegionWith
import Derived.Deep.DeepCutAuto
import Derived.Deep.RegionHeld3
import Derived.WalkKit
import Derived.ProofKit
import Derived.OpenShut
import Derived.ShutString
import Derived.ChangeOld
import Derived.Below
namespace Go.Proofs.YtocinobbocjikaaGreatDoor.fnExactEnter
open Go.ChangeShapes Go.WideShapes Go.ChangeAt Go.RowKit
open Go.ChangeMaps (open_string shut_string)
set_option linter.unusedVariables false

theorem own : ownKnob Tryz.prog.godebug = none := by kernel_rfl
theorem laidOut : laidOutB Tryz.prog = true := by kernel_rfl

theorem cell_lt {w : World} {b o : Nat} {v : Value} (h : w.cell? ⟨b, o, none⟩ = some v) : b < w.heap.size := by
  rcases Nat.lt_or_ge b w.heap.size with hc | hc
  · exact hc
  · unfold World.cell? at h
    have : w.heap[b]? = none := Array.getElem?_eq_none_iff.2 (by omega)
    simp [this] at h
set_option maxHeartbeats 8000000 in
set_option maxRecDepth 100000 in

theorem walk (n0 : Int) (a0 : Option Addr) (len0 cap0 : Nat) (q0 : List Sq) (am0 : Option Addr) (lm0 cm0 : Nat) (z0 : List Pl) (o0 s0 : Int) (k1 a1 s1 : Int) (x1 : ByteArray) (w : World) (w0 : (Lit.int .i64 n0).wf = true ∧ Squares 0 w.heap.size w a0 len0 q0 ∧ (∀ x ∈ q0, sqFits x) ∧ len0 ≤ maxLen ∧ Places 0 w.heap.size w am0 lm0 z0 ∧ (∀ x ∈ z0, plFits x) ∧ lm0 ≤ maxLen ∧ (Lit.int .i64 o0).wf = true ∧ (Lit.int .i64 s0).wf = true) (w1 : (Lit.int .i64 k1).wf = true ∧ (Lit.int .i64 a1).wf = true ∧ (Lit.int .i64 s1).wf = true ∧ x1.size ≤ maxLen) (hT : Tab w) {aB aL aS aC aF : Addr} (E : Errs w aB aL aS aC aF) {aN : Addr} (hN : w.cell? ⟨0, 0, none⟩ = some (.iface 284 (.pointer (some aN)))) :
    Calls Tryz.prog 6 #[.agg #[.int .i64 n0, .slice a0 len0 cap0, .slice am0 lm0 cm0, .int .i64 o0, .int .i64 s0], .agg #[.int .i64 k1, .int .i64 a1, .int .i64 s1, .string x1]] w fun e w' => e = .returned (.bool true) ∧ Below w.heap.size w w' := by
  obtain ⟨_, hsq, hfi, hm, hpl, _, hml, _, _⟩ := w0
  obtain ⟨_, _, _, hx⟩ := w1
  obtain ⟨wA, hwA⟩ : ∃ wA, wA = (w.alloc (.cells #[.int .i64 n0, .slice a0 len0 cap0, .slice am0 lm0 cm0, .int .i64 o0, .int .i64 s0] 51)).alloc (.cells #[.int .i64 k1, .int .i64 a1, .int .i64 s1, .string x1] 52) := ⟨_, rfl⟩
  have hzA : wA.heap.size = w.heap.size + 1 + 1 := by rw [hwA]; simp
  have HBX_wA : Hid (BoxFP w n0 a0 len0 cap0 am0 lm0 cm0 o0 s0 k1 a1 s1 x1 wA) := by rw [hwA]; exact ⟨heap_old (heap_new _ _), heap_at (by simp), (((Below.refl _ _).alloc (Nat.le_refl _) _).alloc (by simp) _)⟩
  have HSQ := hide hsq
  have HPL := hide hpl
  have HF := hide hfi
  have HM := hide hm
  have HML := hide hml
  have HXM := hide hx
  have HT := hide hT
  have HE := hide E
  have hgN : 0 < w.heap.size := cell_lt hN
  have HN0 : ∀ w9, Hid (Below w.heap.size w w9 → w9.cell? ⟨0, 0, none⟩ = some (noRoomV aN)) := fun w9 h9 => (h9.cell (p := ⟨0, 0, none⟩) hgN).trans hN
  clear hsq hpl hfi hm hml hx hT E hN hgN
  obtain ⟨c0, c1, c2, c3, c4, p0, p1, p2, p3⟩ := HBX_wA.out.cells
  go_enter Tryz.func6, Tryz.ntmps6
  go_upto_region 1 with fail
  rw [← hwA]
  clear hwA
  go_wp2_with fail
  refine (szFtl_any n0 a0 len0 cap0 q0 am0 lm0 cm0 o0 s0 1048576 wA (HSQ.out.later HBX_wA.out.below (Nat.le_refl _)) (by omega) HM.out HF.out HML.out (by omega) (by omega)).mono ?_
  rintro e w1 ⟨⟨r, rfl, r1, r2, hr⟩, b1⟩
  have HBX_w1 := hide (HBX_wA.out.on b1)
  clear b1 HBX_wA c0 c1 c2 c3 c4 p0 p1 p2 p3
  by_cases h0 : 0 ≤ r
  · have hfit : len0 + weight q0 ≤ 1048576 := by have := hr h0; omega
    have hfm : lm0 ≤ 1048576 := by have := hr h0; omega
    clear hr
    obtain ⟨c0, c1, c2, c3, c4, p0, p1, p2, p3⟩ := HBX_w1.out.cells
    by_cases hxr : (x1.size : Int) ≤ r
    · have hd : decide (r - (x1.size : Int) < 0) = false := by simp; omega
      go_wp2_with fail
      refine (szPage_in k1 a1 s1 x1 r w1 hxr (by omega)).mono ?_
      rintro e w2 ⟨rfl, b2⟩
      have HBX_w2 := hide (HBX_w1.out.on b2)
      clear b2 HBX_w1 c0 c1 c2 c3 c4 p0 p1 p2 p3
      obtain ⟨F, hF⟩ : ∃ F, F = entF n0 q0 z0 o0 s0 k1 a1 x1 := ⟨_, rfl⟩
      have hfit2 := (entF_fit n0 q0 z0 o0 s0 k1 a1 x1).1
      have hfm2 := (entF_fit n0 q0 z0 o0 s0 k1 a1 x1).2
      rw [← hF] at hfit2 hfm2
      obtain ⟨Z, Q, PS, OP, ST⟩ := F
      dsimp only at hfit2 hfm2
      have HFV := hide hF
      clear hF
      obtain ⟨Bv, hBv⟩ : ∃ Bv, Bv = (planR n0 q0 z0 o0 s0 k1 a1 x1).isSome := ⟨_, rfl⟩
      have HBV := hide hBv
      clear hBv
      have HSD : ∀ w9 a9 am9 lo hi lo' hi', Hid (Below w.heap.size w w9 → Squares lo hi w9 a9 len0 q0 → hi ≤ w9.heap.size → Places lo' hi' w9 am9 lm0 z0 → hi' ≤ w9.heap.size → Calls Tryz.prog 13 #[.agg #[.int .i64 n0, .slice a9 len0 len0, .slice am9 lm0 lm0, .int .i64 o0, .int .i64 s0], .agg #[.int .i64 k1, .int .i64 a1, .int .i64 s1, .string x1]] w9 fun e w' => ∃ a c am cm, e = .returned (.tuple #[.agg #[.int .i64 Z, .slice a Q.length c, .slice am PS.length cm, .int .i64 OP, .int .i64 ST], .bool Bv]) ∧ FtlOwn w9.heap.size w'.heap.size w' a am Q PS ∧ Below w9.heap.size w9 w') := fun w9 a9 am9 lo hi lo' hi' hb h9 hh h8 hh8 => by
        refine (specEnter_any n0 a9 len0 len0 q0 am9 lm0 lm0 z0 o0 s0 k1 a1 s1 x1 w9 h9 hh (by omega) HF.out h8 hh8 hfm).mono ?_
        rintro e w' ⟨v, h1, a, c, am, cm, h2, h3, h4, _⟩
        have e1 := HFV.out
        rw [← e1] at h2 h3
        rw [← HBV.out] at h1
        exact ⟨a, c, am, cm, by rw [h1, h2]; rfl, h3, h4⟩
      have HID : ∀ w9 a9 am9 lo hi lo' hi', Hid (Below w.heap.size w w9 → Squares lo hi w9 a9 len0 q0 → hi ≤ w9.heap.size → Places lo' hi' w9 am9 lm0 z0 → hi' ≤ w9.heap.size → Calls Tryz.prog 10 #[.agg #[.int .i64 n0, .slice a9 len0 len0, .slice am9 lm0 lm0, .int .i64 o0, .int .i64 s0], .agg #[.int .i64 k1, .int .i64 a1, .int .i64 s1, .string x1]] w9 fun e w' => ∃ a c am cm, e = .returned (.tuple #[.agg #[.int .i64 Z, .slice a Q.length c, .slice am PS.length cm, .int .i64 OP, .int .i64 ST], .bool Bv]) ∧ FtlOwn w9.heap.size w'.heap.size w' a am Q PS ∧ Below w9.heap.size w9 w') := fun w9 a9 am9 lo hi lo' hi' hb h9 hh h8 hh8 => by
        refine (implEnter_any n0 a9 len0 len0 q0 am9 lm0 lm0 z0 o0 s0 k1 a1 s1 x1 w9 h9 hh (by omega) HF.out h8 hh8 hfm (Nat.le_refl _) (HT.out.here hb) (HE.out.here hb) ((HN0 _).out hb)).mono ?_
        rintro e w' ⟨v, h1, a, c, am, cm, h2, h3, h4, _⟩
        have e1 := HFV.out
        rw [← e1] at h2 h3
        rw [← HBV.out] at h1
        exact ⟨a, c, am, cm, by rw [h1, h2]; rfl, h3, h4⟩
      clear HFV HBV
      have hz2 := HBX_w2.out.size
      have HTC : ∀ w9, Hid (Below w2.heap.size w2 w9 → Calls Tryz.prog 24 #[.agg #[.int .i64 n0, .slice a0 len0 cap0, .slice am0 lm0 cm0, .int .i64 o0, .int .i64 s0]] w9 fun e w' => ∃ a' am' mid, e = .returned (.agg #[.int .i64 n0, .slice a' len0 len0, .slice am' lm0 lm0, .int .i64 o0, .int .i64 s0]) ∧ w9.heap.size ≤ mid ∧ mid ≤ w'.heap.size ∧ OwnSquares w9.heap.size mid w' a' len0 q0 ∧ OwnPlaces mid w'.heap.size w' am' lm0 z0 ∧ Below w9.heap.size w9 w') := fun w9 h9 => toFtl_any n0 a0 len0 cap0 q0 am0 lm0 cm0 z0 o0 s0 w9 (HSQ.out.later (below_here HBX_w2.out.below h9) (Nat.le_refl _)) (below_here HBX_w2.out.below h9).size hfit (HPL.out.later (below_here HBX_w2.out.below h9) (Nat.le_refl _)) (below_here HBX_w2.out.below h9).size hfm
      have P0 : Below w2.heap.size w2 w2 := Below.refl _ _
      have P1 : Below w2.heap.size w2 w2.drew := (Below.refl _ _).drew
      have P2 : Below w2.heap.size w2 (w2.alloc zF).drew := ((Below.refl _ _).alloc (Nat.le_refl _) zF).drew
      have P3 : Below w2.heap.size w2 (w2.alloc zF) := (Below.refl _ _).alloc (Nat.le_refl _) zF
      have V1 : (w2.alloc zF).drew.heap[w2.heap.size]? = some zF := heap_new w2 zF
      have HK : ∀ w9, Hid (Below w2.heap.size w2 w9 → w9.cell? ⟨w.heap.size, 0, none⟩ = some (.int .i64 n0) ∧ w9.cell? ⟨w.heap.size, 1, none⟩ = some (.slice a0 len0 cap0) ∧ w9.cell? ⟨w.heap.size, 2, none⟩ = some (.slice am0 lm0 cm0) ∧ w9.cell? ⟨w.heap.size, 3, none⟩ = some (.int .i64 o0) ∧ w9.cell? ⟨w.heap.size, 4, none⟩ = some (.int .i64 s0) ∧ w9.cell? ⟨w.heap.size + 1, 0, none⟩ = some (.int .i64 k1) ∧ w9.cell? ⟨w.heap.size + 1, 1, none⟩ = some (.int .i64 a1) ∧ w9.cell? ⟨w.heap.size + 1, 2, none⟩ = some (.int .i64 s1) ∧ w9.cell? ⟨w.heap.size + 1, 3, none⟩ = some (.string x1)) := fun w9 h9 => (HBX_w2.out.on h9).cells
      obtain ⟨c0, c1, c2, c3, c4, p0, p1, p2, p3⟩ := HBX_w2.out.cells
      go_upto_region 8 with fail
      go_cut [6, 7] (fun p d wx => ∃ b lo hi a c am cm, p = .pointer (some ⟨b, 0, none⟩) ∧ d = .bool Bv ∧ VarF w2.heap.size b lo hi Z Q PS OP ST a c am cm wx ∧ Below w2.heap.size w2 wx)
      case first =>
        go_region_held3 (fun w9 => w9.cell? ⟨w.heap.size, 0, none⟩ = some (.int .i64 n0) ∧ w9.cell? ⟨w.heap.size, 1, none⟩ = some (.slice a0 len0 cap0) ∧ w9.cell? ⟨w.heap.size, 2, none⟩ = some (.slice am0 lm0 cm0) ∧ w9.cell? ⟨w.heap.size, 3, none⟩ = some (.int .i64 o0) ∧ w9.cell? ⟨w.heap.size, 4, none⟩ = some (.int .i64 s0) ∧ w9.cell? ⟨w.heap.size + 1, 0, none⟩ = some (.int .i64 k1) ∧ w9.cell? ⟨w.heap.size + 1, 1, none⟩ = some (.int .i64 a1) ∧ w9.cell? ⟨w.heap.size + 1, 2, none⟩ = some (.int .i64 s1) ∧ w9.cell? ⟨w.heap.size + 1, 3, none⟩ = some (.string x1))
          (first | with_reducible exact (HK _).out P0 | with_reducible exact (HK _).out P1 | with_reducible exact (HK _).out P2 | with_reducible exact (HK _).out P3 | with_reducible exact (HK _).out B2.out | with_reducible exact (HK _).out (B2.out.alloc S2 zF) | with_reducible exact (HK _).out B3.out | with_reducible exact (HK _).out (B3.out.alloc (Nat.le_trans S2 S3) zF) | with_reducible exact (HK _).out B4.out | with_reducible exact (HK _).out (B4.out.alloc (Nat.le_trans S2 (Nat.le_trans S3 S4)) _) | with_reducible exact (HK _).out (set5_below B4.out (Nat.le_refl _) _ _ _ _ _) | with_reducible exact (HK _).out (set5_below B4.out S2 _ _ _ _ _) | with_reducible exact (HK _).out (set5_below B4.out (Nat.le_trans S2 S3) _ _ _ _ _) | fail)
          (first
          | (go_at_call 24; refine ((HTC _).out (by first | with_reducible exact P1 | with_reducible exact P2)).mono ?_; rintro e v2 ⟨a2, am2, mid2, rfl, m1, m2, o2, p2', b2⟩; have B2 : Hid (Below w2.heap.size w2 v2) := (by first | with_reducible exact hide (below_here P1 b2) | with_reducible exact hide (below_here P2 b2)); have O2 : Hid (Squares 0 v2.heap.size v2 a2 len0 q0) := squares_wide o2.squares (Nat.zero_le _) m2 (Nat.le_refl _); have Q2 : Hid (Places 0 v2.heap.size v2 am2 lm0 z0) := places_wide p2'.places (Nat.zero_le _) (Nat.le_refl _) (Nat.le_refl _); have S2 := B2.out.size; first | (have VA2 : Hid (v2.heap[w2.heap.size]? = some zF) := (by with_reducible exact hide (block_on V1 b2)); have VZ2 : w2.heap.size < v2.heap.size := by have := (Array.getElem?_eq_some_iff.1 VA2.out).1; omega) | skip; clear b2 o2 p2' m1 m2)
          | (go_at_call 25; refine (toPage_any k1 a1 s1 x1 _).mono ?_; rintro e v3 ⟨rfl, b3⟩; have B23 : Hid (Below v2.heap.size v2 v3) := (by first | with_reducible exact hide b3 | with_reducible exact hide (below_here ((Below.refl v2.heap.size v2).alloc (Nat.le_refl _) zF) b3)); have B3 : Hid (Below w2.heap.size w2 v3) := below_here B2.out B23.out; have O3 : Hid (Squares 0 v2.heap.size v3 a2 len0 q0) := O2.out.later B23.out (Nat.le_refl _); have Q3 : Hid (Places 0 v2.heap.size v3 am2 lm0 z0) := Q2.out.later B23.out (Nat.le_refl _); have S3 := B23.out.size; first | (have VA3 : Hid (v3.heap[w2.heap.size]? = some zF) := block_on VA2.out B23.out) | (have VB3 : Hid (v3.heap[v2.heap.size]? = some zF) := (by with_reducible exact hide (block_on (heap_new v2 zF) b3)); have VZ3 : v2.heap.size < v3.heap.size := by have := (Array.getElem?_eq_some_iff.1 VB3.out).1; omega) | skip; clear b3)
          | (go_at_call 13; refine ((HSD _ a2 am2 _ _ _ _).out (by first | with_reducible exact below_here HBX_w2.out.below B3.out | with_reducible exact below_here HBX_w2.out.below (B3.out.alloc (Nat.le_trans S2 S3) zF)) (by first | with_reducible exact O3.out | with_reducible exact O3.out.later ((Below.refl v3.heap.size v3).alloc (Nat.le_refl _) zF) S3) (by first | with_reducible exact S3 | exact Nat.le_trans S3 (by simp)) (by first | with_reducible exact Q3.out | with_reducible exact Q3.out.later ((Below.refl v3.heap.size v3).alloc (Nat.le_refl _) zF) S3) (by first | with_reducible exact S3 | exact Nat.le_trans S3 (by simp))).mono ?_; rintro e v4 ⟨a4, k4, am4, km4, rfl, q4, b4⟩; have B34 : Hid (Below v3.heap.size v3 v4) := (by first | with_reducible exact hide b4 | with_reducible exact hide (below_here ((Below.refl v3.heap.size v3).alloc (Nat.le_refl _) zF) b4)); have B4 : Hid (Below w2.heap.size w2 v4) := below_here B3.out B34.out; have S4 := B34.out.size; have Q4 := hide q4; first | (have VA4 : Hid (v4.heap[w2.heap.size]? = some zF) := block_on VA3.out B34.out; obtain ⟨y0, y1, y2, y3, y4⟩ := five_cells VA4.out; have f0 := four_frozen VA4.out 0; have f1 := four_frozen VA4.out 1; have f2 := four_frozen VA4.out 2; have f3 := four_frozen VA4.out 3; have f4 := four_frozen VA4.out 4) | (have VB4 : Hid (v4.heap[v2.heap.size]? = some zF) := block_on VB3.out B34.out; obtain ⟨y0, y1, y2, y3, y4⟩ := five_cells VB4.out; have f0 := four_frozen VB4.out 0; have f1 := four_frozen VB4.out 1; have f2 := four_frozen VB4.out 2; have f3 := four_frozen VB4.out 3; have f4 := four_frozen VB4.out 4) | (have VC4 : Hid (v4.heap[v3.heap.size]? = some zF) := (by with_reducible exact hide (block_on (heap_new v3 zF) b4)); obtain ⟨y0, y1, y2, y3, y4⟩ := five_cells VC4.out; have f0 := four_frozen VC4.out 0; have f1 := four_frozen VC4.out 1; have f2 := four_frozen VC4.out 2; have f3 := four_frozen VC4.out 3; have f4 := four_frozen VC4.out 4) | skip; clear b4 q4))
        all_goals
          go_wp2_with fail
          go_meet
          first
            | exact ⟨w2.heap.size, v3.heap.size, v4.heap.size, a4, k4, am4, km4, rfl, rfl, varF_store VA4.out Q4.out (Nat.le_refl _) (by omega) (by omega), set5_below B4.out (Nat.le_refl _) _ _ _ _ _⟩
            | exact ⟨v2.heap.size, v3.heap.size, v4.heap.size, a4, k4, am4, km4, rfl, rfl, varF_store VB4.out Q4.out (by omega) (by omega) (by omega), set5_below B4.out (by omega) _ _ _ _ _⟩
            | exact ⟨v3.heap.size, (v3.alloc zF).heap.size, v4.heap.size, a4, k4, am4, km4, rfl, rfl, varF_store (w1 := v3.alloc zF) VC4.out Q4.out (by omega) (by simp) (by simp; omega), set5_below B4.out (by omega) _ _ _ _ _⟩
            | exact ⟨v4.heap.size, v3.heap.size, v4.heap.size, a4, k4, am4, km4, rfl, rfl, varF_new Q4.out (by omega) S4, B4.out.alloc (by omega) _⟩
      clear c0 c1 c2 c3 c4 p0 p1 p2 p3 HTC HK P0 P1 P2 P3 V1
      obtain ⟨b_w, l_w, h_w, a_w, c_w, am_w, cm_w, rfl, rfl, hV, hB⟩ := hcut
      have HV_w := hide hV
      have HB := hide hB
      clear hV hB
      obtain ⟨w3, hn⟩ : ∃ w3, w3 = wc := ⟨_, rfl⟩
      subst hn
      have hs_w3 := HB.out.size
      have HBW1 := HV_w.out.lt
      have HHW1 := HV_w.out.hi_le
      have HBX_w3 := hide (HBX_w2.out.on HB.out)
      clear HBX_w2
      clear HB
      obtain ⟨c0, c1, c2, c3, c4, p0, p1, p2, p3⟩ := HBX_w3.out.cells
      go_wp2_with fail
      refine (toFtl_any n0 a0 len0 cap0 q0 am0 lm0 cm0 z0 o0 s0 w3 (HSQ.out.later HBX_w3.out.below (Nat.le_refl _)) HBX_w3.out.below.size hfit (HPL.out.later HBX_w3.out.below (Nat.le_refl _)) HBX_w3.out.below.size hfm).mono ?_
      rintro e w4 ⟨a_x, am_x, mid4, rfl, m1, m2, o4, p4, b4⟩
      clear c0 c1 c2 c3 c4 p0 p1 p2 p3
      obtain ⟨wX, hwX⟩ : ∃ wX, wX = w4.alloc (.cells #[.int .i64 n0, .slice a_x len0 len0, .slice am_x lm0 lm0, .int .i64 o0, .int .i64 s0] 29) := ⟨_, rfl⟩
      have hzX : wX.heap.size = w4.heap.size + 1 := by rw [hwX]; simp
      have HBXX : Hid (Below w3.heap.size w3 wX) := by rw [hwX]; exact b4.alloc b4.size _
      have HX : Hid (wX.heap[w4.heap.size]? = some (.cells #[.int .i64 n0, .slice a_x len0 len0, .slice am_x lm0 lm0, .int .i64 o0, .int .i64 s0] 29)) := by rw [hwX]; exact heap_new _ _
      have HX4 : Hid (Below w4.heap.size w4 wX) := by rw [hwX]; exact (Below.refl _ _).alloc (Nat.le_refl _) _
      have HXF := hide (own_of_to (o4.later HX4.out m2) (p4.later HX4.out (Nat.le_refl _)) m1 m2 (by omega))
      have hq9 : q0.length = len0 := (HSQ.out.1)
      have hp9 : z0.length = lm0 := (HPL.out.1)
      have hs4 := b4.size
      clear o4 p4 b4 HX4 m1 m2
      have HBX_wX := hide (HBX_w3.out.on HBXX.out)
      clear HBX_w3
      have HN := hide (HV_w.out.on HBXX.out)
      clear HV_w
      have HV_w := HN
      clear HN
      clear HBXX
      have HZX := hide hzX
      have hz9 : w4.heap.size ≤ wX.heap.size := by omega
      clear hzX
      go_upto_region 10 with fail
      rw [← hwX]
      clear hwX
      obtain ⟨c0, c1, c2, c3, c4, p0, p1, p2, p3⟩ := HBX_wX.out.cells
      obtain ⟨x0, x1', x2, x3, x4⟩ := five_cells HX.out
      have P0 : Below wX.heap.size wX wX := Below.refl _ _
      have P1 : Below wX.heap.size wX wX.drew := (Below.refl _ _).drew
      have P2 : Below wX.heap.size wX (wX.alloc zF).drew := ((Below.refl _ _).alloc (Nat.le_refl _) zF).drew
      have P3 : Below wX.heap.size wX (wX.alloc zF) := (Below.refl _ _).alloc (Nat.le_refl _) zF
      have V1 : (wX.alloc zF).drew.heap[wX.heap.size]? = some zF := heap_new wX zF
      have HK : ∀ w9, Hid (Below wX.heap.size wX w9 → w9.cell? ⟨w4.heap.size, 0, none⟩ = some (.int .i64 n0) ∧ w9.cell? ⟨w4.heap.size, 1, none⟩ = some (.slice a_x len0 len0) ∧ w9.cell? ⟨w4.heap.size, 2, none⟩ = some (.slice am_x lm0 lm0) ∧ w9.cell? ⟨w4.heap.size, 3, none⟩ = some (.int .i64 o0) ∧ w9.cell? ⟨w4.heap.size, 4, none⟩ = some (.int .i64 s0) ∧ w9.cell? ⟨w.heap.size + 1, 0, none⟩ = some (.int .i64 k1) ∧ w9.cell? ⟨w.heap.size + 1, 1, none⟩ = some (.int .i64 a1) ∧ w9.cell? ⟨w.heap.size + 1, 2, none⟩ = some (.int .i64 s1) ∧ w9.cell? ⟨w.heap.size + 1, 3, none⟩ = some (.string x1)) := fun w9 h9 => by
        obtain ⟨y0, y1, y2, y3, y4⟩ := five_cells (block_on HX.out h9)
        obtain ⟨_, _, _, _, _, y5⟩ := (HBX_wX.out.on h9).cells
        exact ⟨y0, y1, y2, y3, y4, y5⟩
      have HXS : Hid (Squares w3.heap.size wX.heap.size wX a_x len0 q0) := by have := HXF.out.squares; rw [hq9] at this; exact this
      have HXP : Hid (Places w3.heap.size wX.heap.size wX am_x lm0 z0) := by have := HXF.out.places; rw [hp9] at this; exact this
      go_cut [9, 10] (fun p d wx => ∃ b lo hi a c am cm, p = .pointer (some ⟨b, 0, none⟩) ∧ d = .bool Bv ∧ VarF wX.heap.size b lo hi Z Q PS OP ST a c am cm wx ∧ Below wX.heap.size wX wx)
      case first =>
        go_region_held3 (fun w9 => w9.cell? ⟨w4.heap.size, 0, none⟩ = some (.int .i64 n0) ∧ w9.cell? ⟨w4.heap.size, 1, none⟩ = some (.slice a_x len0 len0) ∧ w9.cell? ⟨w4.heap.size, 2, none⟩ = some (.slice am_x lm0 lm0) ∧ w9.cell? ⟨w4.heap.size, 3, none⟩ = some (.int .i64 o0) ∧ w9.cell? ⟨w4.heap.size, 4, none⟩ = some (.int .i64 s0) ∧ w9.cell? ⟨w.heap.size + 1, 0, none⟩ = some (.int .i64 k1) ∧ w9.cell? ⟨w.heap.size + 1, 1, none⟩ = some (.int .i64 a1) ∧ w9.cell? ⟨w.heap.size + 1, 2, none⟩ = some (.int .i64 s1) ∧ w9.cell? ⟨w.heap.size + 1, 3, none⟩ = some (.string x1))
          (first | with_reducible exact (HK _).out P0 | with_reducible exact (HK _).out P1 | with_reducible exact (HK _).out P2 | with_reducible exact (HK _).out P3 | with_reducible exact (HK _).out B3.out | with_reducible exact (HK _).out (B3.out.alloc S3 zF) | with_reducible exact (HK _).out B4.out | with_reducible exact (HK _).out (B4.out.alloc (Nat.le_trans S3 S4) _) | with_reducible exact (HK _).out (set5_below B4.out (Nat.le_refl _) _ _ _ _ _) | with_reducible exact (HK _).out (set5_below B4.out S3 _ _ _ _ _) | fail)
          (first
          | (go_at_call 25; refine (toPage_any k1 a1 s1 x1 _).mono ?_; rintro e v3 ⟨rfl, b3⟩; have B3 : Hid (Below wX.heap.size wX v3) := (by first | with_reducible exact hide (below_here P1 b3) | with_reducible exact hide (below_here P2 b3)); have S3 := B3.out.size; have O3 : Hid (Squares w3.heap.size wX.heap.size v3 a_x len0 q0) := HXS.out.later B3.out (Nat.le_refl _); have Q3 : Hid (Places w3.heap.size wX.heap.size v3 am_x lm0 z0) := HXP.out.later B3.out (Nat.le_refl _); first | (have VA3 : Hid (v3.heap[wX.heap.size]? = some zF) := (by with_reducible exact hide (block_on V1 b3)); have VZ3 : wX.heap.size < v3.heap.size := by have := (Array.getElem?_eq_some_iff.1 VA3.out).1; omega) | skip; clear b3)
          | (go_at_call 10; refine ((HID _ a_x am_x _ _ _ _).out (by first | with_reducible exact below_here HBX_wX.out.below B3.out | with_reducible exact below_here HBX_wX.out.below (B3.out.alloc S3 zF)) (by first | with_reducible exact O3.out | with_reducible exact O3.out.later ((Below.refl v3.heap.size v3).alloc (Nat.le_refl _) zF) S3) (by first | with_reducible exact S3 | exact Nat.le_trans S3 (by simp)) (by first | with_reducible exact Q3.out | with_reducible exact Q3.out.later ((Below.refl v3.heap.size v3).alloc (Nat.le_refl _) zF) S3) (by first | with_reducible exact S3 | exact Nat.le_trans S3 (by simp))).mono ?_; rintro e v4 ⟨a4, k4, am4, km4, rfl, q4, b4⟩; have B34 : Hid (Below v3.heap.size v3 v4) := (by first | with_reducible exact hide b4 | with_reducible exact hide (below_here ((Below.refl v3.heap.size v3).alloc (Nat.le_refl _) zF) b4)); have B4 : Hid (Below wX.heap.size wX v4) := below_here B3.out B34.out; have S4 := B34.out.size; have Q4 := hide q4; first | (have VA4 : Hid (v4.heap[wX.heap.size]? = some zF) := block_on VA3.out B34.out; obtain ⟨y0, y1, y2, y3, y4⟩ := five_cells VA4.out; have f0 := four_frozen VA4.out 0; have f1 := four_frozen VA4.out 1; have f2 := four_frozen VA4.out 2; have f3 := four_frozen VA4.out 3; have f4 := four_frozen VA4.out 4) | (have VC4 : Hid (v4.heap[v3.heap.size]? = some zF) := (by with_reducible exact hide (block_on (heap_new v3 zF) b4)); obtain ⟨y0, y1, y2, y3, y4⟩ := five_cells VC4.out; have f0 := four_frozen VC4.out 0; have f1 := four_frozen VC4.out 1; have f2 := four_frozen VC4.out 2; have f3 := four_frozen VC4.out 3; have f4 := four_frozen VC4.out 4) | skip; clear b4 q4))
        all_goals
          go_wp2_with fail
          go_meet
          first
            | exact ⟨wX.heap.size, v3.heap.size, v4.heap.size, a4, k4, am4, km4, rfl, rfl, varF_store VA4.out Q4.out (Nat.le_refl _) (by omega) (by omega), set5_below B4.out (Nat.le_refl _) _ _ _ _ _⟩
            | exact ⟨v3.heap.size, (v3.alloc zF).heap.size, v4.heap.size, a4, k4, am4, km4, rfl, rfl, varF_store (w1 := v3.alloc zF) VC4.out Q4.out (by omega) (by simp) (by simp; omega), set5_below B4.out (by omega) _ _ _ _ _⟩
            | exact ⟨v4.heap.size, v3.heap.size, v4.heap.size, a4, k4, am4, km4, rfl, rfl, varF_new Q4.out (by omega) S4, B4.out.alloc (by omega) _⟩
      clear c0 c1 c2 c3 c4 p0 p1 p2 p3 x0 x1' x2 x3 x4 HK P0 P1 P2 P3 V1 HXS HXP
      obtain ⟨b_g, l_g, h_g, a_g, c_g, am_g, cm_g, rfl, rfl, hV, hB⟩ := hcut
      have HV_g := hide hV
      have HB := hide hB
      clear hV hB
      obtain ⟨w5, hn⟩ : ∃ w5, w5 = wc := ⟨_, rfl⟩
      subst hn
      have hs_w5 := HB.out.size
      have hzX := HZX.out
      have HBX_w5 := hide (HBX_wX.out.on HB.out)
      clear HBX_wX
      have HN := hide (HV_w.out.on HB.out)
      clear HV_w
      have HV_w := HN
      clear HN
      have HN := hide (block_on HX.out HB.out)
      clear HX
      have HX := HN
      clear HN
      have HN := hide (HXF.out.later HB.out (by omega))
      clear HXF
      have HXF := HN
      clear HN
      clear HB
      obtain ⟨y0, y1, y2, y3, y4⟩ := HV_g.out.cells
      obtain ⟨u0, u1, u2, u3, u4⟩ := HV_w.out.cells
      go_wp2_with fail
      refine (eqFtl_same Z a_g a_w Q.length c_g c_w Q am_g am_w PS.length cm_g cm_w PS OP ST w5 HV_g.out.squares HV_w.out.squares HV_g.out.hi_le HV_w.out.hi_le hfit2 HV_g.out.places HV_w.out.places HV_g.out.hi_le HV_w.out.hi_le (by omega)).mono ?_
      rintro e w6 ⟨rfl, bn⟩
      have hs_w6 := bn.size
      clear y0 y1 y2 y3 y4 u0 u1 u2 u3 u4
      have HBX_w6 := hide (HBX_w5.out.on bn)
      clear HBX_w5
      have HN := hide (HV_w.out.on bn)
      clear HV_w
      have HV_w := HN
      clear HN
      have HN := hide (HV_g.out.on bn)
      clear HV_g
      have HV_g := HN
      clear HN
      have HN := hide (block_on HX.out bn)
      clear HX
      have HX := HN
      clear HN
      have HN := hide (HXF.out.later bn (by omega))
      clear HXF
      have HXF := HN
      clear HN
      clear bn
      obtain ⟨c0, c1, c2, c3, c4, p0, p1, p2, p3⟩ := HBX_w6.out.cells
      obtain ⟨d0, d1, d2, d3, d4⟩ := five_cells HX.out
      have HXd := hide (HXF.out.later (Below.refl w6.heap.size w6).drew (by omega))
      have HSd := hide (HSQ.out.later HBX_w6.out.below (Nat.le_refl _))
      have HPd := hide (HPL.out.later HBX_w6.out.below (Nat.le_refl _))
      have hw6 := HBX_w6.out.below.size
      go_upto_region 13 with fail
      go_cut [56] (fun c wx => c = .bool false ∧ Below w6.heap.size w6 wx)
      case first =>
        go_region_with (first
          | (go_at_call 24; refine (toFtl_any n0 a0 len0 cap0 q0 am0 lm0 cm0 z0 o0 s0 _ (by exact HSd.out) (by show w.heap.size ≤ w6.heap.size; omega) hfit (by exact HPd.out) (by show w.heap.size ≤ w6.heap.size; omega) hfm).mono ?_; rintro e v6 ⟨a6, am6, mid6, rfl, k3, k4, o6, p6, b6⟩; have HX6 := hide (block_on (w := w6.drew) HX.out b6); have HB6 : Hid (Below w6.heap.size w6 v6) := below_here (Below.refl w6.heap.size w6).drew b6; have hs6 : w6.heap.size ≤ v6.heap.size := b6.size; have HXS : Hid (Squares w3.heap.size wX.heap.size v6 a_x len0 q0) := (by have := (HXd.out.later b6 (show wX.heap.size ≤ w6.heap.size by omega)).squares; rw [hq9] at this; exact this); have HXP : Hid (Places w3.heap.size wX.heap.size v6 am_x lm0 z0) := (by have := (HXd.out.later b6 (show wX.heap.size ≤ w6.heap.size by omega)).places; rw [hp9] at this; exact this); have HV6 := hide o6; have HU6 := hide p6; clear o6 p6 b6; obtain ⟨e0, e1, e2, e3, e4⟩ := five_cells HX6.out)
          | (go_at_call 28; refine (eqFtl_same n0 a_x a6 len0 len0 len0 q0 am_x am6 lm0 lm0 lm0 z0 o0 s0 _ (by exact HXS.out) (by exact HV6.out.squares) (by omega) (by omega) hfit (by exact HXP.out) (by exact HU6.out.places) (by omega) (by omega) hfm).mono ?_; rintro e v7 ⟨rfl, b7⟩; have HB7 := hide (below_here HB6.out b7); clear b7))
        all_goals
          go_wp2_with fail
          go_meet
          exact ⟨rfl, HB7.out⟩
      clear c0 c1 c2 c3 c4 p0 p1 p2 p3 d0 d1 d2 d3 d4 HXd HSd HPd
      obtain ⟨rfl, hB⟩ := hcut
      have HB := hide hB
      clear hB
      obtain ⟨w7, hn⟩ : ∃ w7, w7 = wc := ⟨_, rfl⟩
      subst hn
      have hs_w7 := HB.out.size
      have HBX_w7 := hide (HBX_w6.out.on HB.out)
      clear HBX_w6
      have HN := hide (HV_w.out.on HB.out)
      clear HV_w
      have HV_w := HN
      clear HN
      have HN := hide (HV_g.out.on HB.out)
      clear HV_g
      have HV_g := HN
      clear HN
      have HN := hide (block_on HX.out HB.out)
      clear HX
      have HX := HN
      clear HN
      have HN := hide (HXF.out.later HB.out (by omega))
      clear HXF
      have HXF := HN
      clear HN
      clear HB
      obtain ⟨d0, d1, d2, d3, d4⟩ := five_cells HX.out
      go_wp2_with fail
      refine (markFtl_own n0 a_x len0 len0 q0 am_x lm0 lm0 z0 o0 s0 w7 HXF.out hq9 hp9 hfit hfm).mono ?_
      rintro e w8 ⟨rfl, _, sm⟩
      clear d0 d1 d2 d3 d4
      have hs_w8 := sm.size
      have hb9 := HBX_w7.out.size
      have hgB := HV_g.out.atB
      have hgL := HV_g.out.atL
      have HBX_w8 := hide (HBX_w7.out.aside sm (by omega))
      clear HBX_w7 HX HXF
      have HN := hide (HV_w.out.aside sm (.inl (by omega)) (.inr (by omega)))
      clear HV_w
      have HV_w := HN
      clear HN
      have HN := hide (HV_g.out.aside sm (.inr (by omega)) (.inl (by omega)))
      clear HV_g
      have HV_g := HN
      clear HN
      clear sm
      obtain ⟨t1, ht⟩ : ∃ t1, t1 = 1 + lens q0 + 2 * len0 + 2 * lm0 := ⟨_, rfl⟩
      rw [← ht]
      have ht0 : decide ((t1 : Int) < 0) = false := by simp
      clear ht
      obtain ⟨y0, y1, y2, y3, y4⟩ := HV_g.out.cells
      obtain ⟨u0, u1, u2, u3, u4⟩ := HV_w.out.cells
      go_wp2_with fail
      refine (eqFtl_same Z a_g a_w Q.length c_g c_w Q am_g am_w PS.length cm_g cm_w PS OP ST w8 HV_g.out.squares HV_w.out.squares HV_g.out.hi_le HV_w.out.hi_le hfit2 HV_g.out.places HV_w.out.places HV_g.out.hi_le HV_w.out.hi_le (by omega)).mono ?_
      rintro e w9 ⟨rfl, bn⟩
      have hs_w9 := bn.size
      clear y0 y1 y2 y3 y4 u0 u1 u2 u3 u4
      have HBX_w9 := hide (HBX_w8.out.on bn)
      clear HBX_w8
      have HN := hide (HV_w.out.on bn)
      clear HV_w
      have HV_w := HN
      clear HN
      have HN := hide (HV_g.out.on bn)
      clear HV_g
      have HV_g := HN
      clear HN
      clear bn
      obtain ⟨y0, y1, y2, y3, y4⟩ := HV_g.out.cells
      have hga := HV_g.out.apart
      go_wp2_with fail
      refine (markFtl_own Z a_g Q.length c_g Q am_g PS.length cm_g PS OP ST w9 HV_g.out.own rfl rfl hfit2 (by omega)).mono ?_
      rintro e w10 ⟨rfl, hmk, sm⟩
      clear y0 y1 y2 y3 y4
      have hs_w10 := sm.size
      have hb9' := HBX_w9.out.size
      have HGV : Hid (w10.heap[b_g]? = some (.cells #[.int .i64 Z, .slice a_g Q.length c_g, .slice am_g PS.length cm_g, .int .i64 OP, .int .i64 ST] 29)) := (sm.block b_g HV_g.out.lt hga).trans HV_g.out.var
      have HMK := hide hmk
      have HBX_w10 := hide (HBX_w9.out.aside sm (by omega))
      clear HBX_w9 HV_g hmk
      have HN := hide (HV_w.out.aside sm (.inl (by omega)) (.inr (by omega)))
      clear HV_w
      have HV_w := HN
      clear HN
      clear sm
      obtain ⟨t2, ht⟩ : ∃ t2, t2 = 1 + lens Q + 2 * Q.length + 2 * PS.length := ⟨_, rfl⟩
      have HT2 := hide ht
      rw [← ht]
      have ht2 : decide ((t2 : Int) < 0) = false := by simp
      clear ht
      obtain ⟨y0, y1, y2, y3, y4⟩ := five_cells HGV.out
      have HMS : Hid (Squares l_g h_g w10 a_g Q.length (sqMark Q 1)) := by have := HMK.out.squares; rw [sqMark_length] at this; exact this
      have HMP : Hid (Places l_g h_g w10 am_g PS.length (plMark (1 + lens Q + 2 * Q.length) PS.length)) := by have := HMK.out.places; rw [plMark_length] at this; exact this
      go_wp2_with fail
      refine (heldFtl_own Z a_g Q.length c_g Q am_g PS.length cm_g OP ST w10 HMS.out HMK.out.1 HMP.out HMK.out.1 hfit2 (by omega)).mono ?_
      rintro e w11 ⟨rfl, bn⟩
      clear y0 y1 y2 y3 y4 HMS HMP
      rw [← HT2.out]
      have hs_w11 := bn.size
      have HBX_w11 := hide (HBX_w10.out.on bn)
      clear HBX_w10
      have HN := hide (HV_w.out.on bn)
      clear HV_w
      have HV_w := HN
      clear HN
      have HN := hide (block_on HGV.out bn)
      clear HGV
      have HGV := HN
      clear HN
      have HN := hide (HMK.out.later bn HMK.out.1)
      clear HMK
      have HMK := HN
      clear HN
      clear bn
      have hz11 := HBX_w11.out.size
      have HTC : ∀ w9, Hid (Below w11.heap.size w11 w9 → Calls Tryz.prog 24 #[.agg #[.int .i64 n0, .slice a0 len0 cap0, .slice am0 lm0 cm0, .int .i64 o0, .int .i64 s0]] w9 fun e w' => ∃ a' am' mid, e = .returned (.agg #[.int .i64 n0, .slice a' len0 len0, .slice am' lm0 lm0, .int .i64 o0, .int .i64 s0]) ∧ w9.heap.size ≤ mid ∧ mid ≤ w'.heap.size ∧ OwnSquares w9.heap.size mid w' a' len0 q0 ∧ OwnPlaces mid w'.heap.size w' am' lm0 z0 ∧ Below w9.heap.size w9 w') := fun w9 h9 => toFtl_any n0 a0 len0 cap0 q0 am0 lm0 cm0 z0 o0 s0 w9 (HSQ.out.later (below_here HBX_w11.out.below h9) (Nat.le_refl _)) (below_here HBX_w11.out.below h9).size hfit (HPL.out.later (below_here HBX_w11.out.below h9) (Nat.le_refl _)) (below_here HBX_w11.out.below h9).size hfm
      have P0 : Below w11.heap.size w11 w11 := Below.refl _ _
      have P1 : Below w11.heap.size w11 w11.drew := (Below.refl _ _).drew
      have P2 : Below w11.heap.size w11 (w11.alloc zF).drew := ((Below.refl _ _).alloc (Nat.le_refl _) zF).drew
      have P3 : Below w11.heap.size w11 (w11.alloc zF) := (Below.refl _ _).alloc (Nat.le_refl _) zF
      have V1 : (w11.alloc zF).drew.heap[w11.heap.size]? = some zF := heap_new w11 zF
      have HK : ∀ w9, Hid (Below w11.heap.size w11 w9 → w9.cell? ⟨w.heap.size, 0, none⟩ = some (.int .i64 n0) ∧ w9.cell? ⟨w.heap.size, 1, none⟩ = some (.slice a0 len0 cap0) ∧ w9.cell? ⟨w.heap.size, 2, none⟩ = some (.slice am0 lm0 cm0) ∧ w9.cell? ⟨w.heap.size, 3, none⟩ = some (.int .i64 o0) ∧ w9.cell? ⟨w.heap.size, 4, none⟩ = some (.int .i64 s0) ∧ w9.cell? ⟨w.heap.size + 1, 0, none⟩ = some (.int .i64 k1) ∧ w9.cell? ⟨w.heap.size + 1, 1, none⟩ = some (.int .i64 a1) ∧ w9.cell? ⟨w.heap.size + 1, 2, none⟩ = some (.int .i64 s1) ∧ w9.cell? ⟨w.heap.size + 1, 3, none⟩ = some (.string x1)) := fun w9 h9 => (HBX_w11.out.on h9).cells
      obtain ⟨c0, c1, c2, c3, c4, p0, p1, p2, p3⟩ := HBX_w11.out.cells
      go_upto_region 27 with fail
      go_cut [14, 15] (fun p d wx => ∃ b lo hi a c am cm, p = .pointer (some ⟨b, 0, none⟩) ∧ d = .bool Bv ∧ VarF w11.heap.size b lo hi Z Q PS OP ST a c am cm wx ∧ Below w11.heap.size w11 wx)
      case first =>
        go_region_held3 (fun w9 => w9.cell? ⟨w.heap.size, 0, none⟩ = some (.int .i64 n0) ∧ w9.cell? ⟨w.heap.size, 1, none⟩ = some (.slice a0 len0 cap0) ∧ w9.cell? ⟨w.heap.size, 2, none⟩ = some (.slice am0 lm0 cm0) ∧ w9.cell? ⟨w.heap.size, 3, none⟩ = some (.int .i64 o0) ∧ w9.cell? ⟨w.heap.size, 4, none⟩ = some (.int .i64 s0) ∧ w9.cell? ⟨w.heap.size + 1, 0, none⟩ = some (.int .i64 k1) ∧ w9.cell? ⟨w.heap.size + 1, 1, none⟩ = some (.int .i64 a1) ∧ w9.cell? ⟨w.heap.size + 1, 2, none⟩ = some (.int .i64 s1) ∧ w9.cell? ⟨w.heap.size + 1, 3, none⟩ = some (.string x1))
          (first | with_reducible exact (HK _).out P0 | with_reducible exact (HK _).out P1 | with_reducible exact (HK _).out P2 | with_reducible exact (HK _).out P3 | with_reducible exact (HK _).out B2.out | with_reducible exact (HK _).out (B2.out.alloc S2 zF) | with_reducible exact (HK _).out B3.out | with_reducible exact (HK _).out (B3.out.alloc (Nat.le_trans S2 S3) zF) | with_reducible exact (HK _).out B4.out | with_reducible exact (HK _).out (B4.out.alloc (Nat.le_trans S2 (Nat.le_trans S3 S4)) _) | with_reducible exact (HK _).out (set5_below B4.out (Nat.le_refl _) _ _ _ _ _) | with_reducible exact (HK _).out (set5_below B4.out S2 _ _ _ _ _) | with_reducible exact (HK _).out (set5_below B4.out (Nat.le_trans S2 S3) _ _ _ _ _) | fail)
          (first
          | (go_at_call 24; refine ((HTC _).out (by first | with_reducible exact P1 | with_reducible exact P2)).mono ?_; rintro e v2 ⟨a2, am2, mid2, rfl, m1, m2, o2, p2', b2⟩; have B2 : Hid (Below w11.heap.size w11 v2) := (by first | with_reducible exact hide (below_here P1 b2) | with_reducible exact hide (below_here P2 b2)); have O2 : Hid (Squares 0 v2.heap.size v2 a2 len0 q0) := squares_wide o2.squares (Nat.zero_le _) m2 (Nat.le_refl _); have Q2 : Hid (Places 0 v2.heap.size v2 am2 lm0 z0) := places_wide p2'.places (Nat.zero_le _) (Nat.le_refl _) (Nat.le_refl _); have S2 := B2.out.size; first | (have VA2 : Hid (v2.heap[w11.heap.size]? = some zF) := (by with_reducible exact hide (block_on V1 b2)); have VZ2 : w11.heap.size < v2.heap.size := by have := (Array.getElem?_eq_some_iff.1 VA2.out).1; omega) | skip; clear b2 o2 p2' m1 m2)
          | (go_at_call 25; refine (toPage_any k1 a1 s1 x1 _).mono ?_; rintro e v3 ⟨rfl, b3⟩; have B23 : Hid (Below v2.heap.size v2 v3) := (by first | with_reducible exact hide b3 | with_reducible exact hide (below_here ((Below.refl v2.heap.size v2).alloc (Nat.le_refl _) zF) b3)); have B3 : Hid (Below w11.heap.size w11 v3) := below_here B2.out B23.out; have O3 : Hid (Squares 0 v2.heap.size v3 a2 len0 q0) := O2.out.later B23.out (Nat.le_refl _); have Q3 : Hid (Places 0 v2.heap.size v3 am2 lm0 z0) := Q2.out.later B23.out (Nat.le_refl _); have S3 := B23.out.size; first | (have VA3 : Hid (v3.heap[w11.heap.size]? = some zF) := block_on VA2.out B23.out) | (have VB3 : Hid (v3.heap[v2.heap.size]? = some zF) := (by with_reducible exact hide (block_on (heap_new v2 zF) b3)); have VZ3 : v2.heap.size < v3.heap.size := by have := (Array.getElem?_eq_some_iff.1 VB3.out).1; omega) | skip; clear b3)
          | (go_at_call 10; refine ((HID _ a2 am2 _ _ _ _).out (by first | with_reducible exact below_here HBX_w11.out.below B3.out | with_reducible exact below_here HBX_w11.out.below (B3.out.alloc (Nat.le_trans S2 S3) zF)) (by first | with_reducible exact O3.out | with_reducible exact O3.out.later ((Below.refl v3.heap.size v3).alloc (Nat.le_refl _) zF) S3) (by first | with_reducible exact S3 | exact Nat.le_trans S3 (by simp)) (by first | with_reducible exact Q3.out | with_reducible exact Q3.out.later ((Below.refl v3.heap.size v3).alloc (Nat.le_refl _) zF) S3) (by first | with_reducible exact S3 | exact Nat.le_trans S3 (by simp))).mono ?_; rintro e v4 ⟨a4, k4, am4, km4, rfl, q4, b4⟩; have B34 : Hid (Below v3.heap.size v3 v4) := (by first | with_reducible exact hide b4 | with_reducible exact hide (below_here ((Below.refl v3.heap.size v3).alloc (Nat.le_refl _) zF) b4)); have B4 : Hid (Below w11.heap.size w11 v4) := below_here B3.out B34.out; have S4 := B34.out.size; have Q4 := hide q4; first | (have VA4 : Hid (v4.heap[w11.heap.size]? = some zF) := block_on VA3.out B34.out; obtain ⟨y0, y1, y2, y3, y4⟩ := five_cells VA4.out; have f0 := four_frozen VA4.out 0; have f1 := four_frozen VA4.out 1; have f2 := four_frozen VA4.out 2; have f3 := four_frozen VA4.out 3; have f4 := four_frozen VA4.out 4) | (have VB4 : Hid (v4.heap[v2.heap.size]? = some zF) := block_on VB3.out B34.out; obtain ⟨y0, y1, y2, y3, y4⟩ := five_cells VB4.out; have f0 := four_frozen VB4.out 0; have f1 := four_frozen VB4.out 1; have f2 := four_frozen VB4.out 2; have f3 := four_frozen VB4.out 3; have f4 := four_frozen VB4.out 4) | (have VC4 : Hid (v4.heap[v3.heap.size]? = some zF) := (by with_reducible exact hide (block_on (heap_new v3 zF) b4)); obtain ⟨y0, y1, y2, y3, y4⟩ := five_cells VC4.out; have f0 := four_frozen VC4.out 0; have f1 := four_frozen VC4.out 1; have f2 := four_frozen VC4.out 2; have f3 := four_frozen VC4.out 3; have f4 := four_frozen VC4.out 4) | skip; clear b4 q4))
        all_goals
          go_wp2_with fail
          go_meet
          first
            | exact ⟨w11.heap.size, v3.heap.size, v4.heap.size, a4, k4, am4, km4, rfl, rfl, varF_store VA4.out Q4.out (Nat.le_refl _) (by omega) (by omega), set5_below B4.out (Nat.le_refl _) _ _ _ _ _⟩
            | exact ⟨v2.heap.size, v3.heap.size, v4.heap.size, a4, k4, am4, km4, rfl, rfl, varF_store VB4.out Q4.out (by omega) (by omega) (by omega), set5_below B4.out (by omega) _ _ _ _ _⟩
            | exact ⟨v3.heap.size, (v3.alloc zF).heap.size, v4.heap.size, a4, k4, am4, km4, rfl, rfl, varF_store (w1 := v3.alloc zF) VC4.out Q4.out (by omega) (by simp) (by simp; omega), set5_below B4.out (by omega) _ _ _ _ _⟩
            | exact ⟨v4.heap.size, v3.heap.size, v4.heap.size, a4, k4, am4, km4, rfl, rfl, varF_new Q4.out (by omega) S4, B4.out.alloc (by omega) _⟩
      clear c0 c1 c2 c3 c4 p0 p1 p2 p3 HTC HK P0 P1 P2 P3 V1
      obtain ⟨b_h, l_h, h_h, a_h, c_h, am_h, cm_h, rfl, rfl, hV, hB⟩ := hcut
      have HV_h := hide hV
      have HB := hide hB
      clear hV hB
      obtain ⟨w12, hn⟩ : ∃ w12, w12 = wc := ⟨_, rfl⟩
      subst hn
      have hs_w12 := HB.out.size
      have HBX_w12 := hide (HBX_w11.out.on HB.out)
      clear HBX_w11
      have HN := hide (HV_w.out.on HB.out)
      clear HV_w
      have HV_w := HN
      clear HN
      have HN := hide (block_on HGV.out HB.out)
      clear HGV
      have HGV := HN
      clear HN
      have HN := hide (HMK.out.later HB.out HMK.out.1)
      clear HMK
      have HMK := HN
      clear HN
      clear HB
      obtain ⟨y0, y1, y2, y3, y4⟩ := HV_h.out.cells
      obtain ⟨u0, u1, u2, u3, u4⟩ := HV_w.out.cells
      go_wp2_with fail
      refine (eqFtl_same Z a_h a_w Q.length c_h c_w Q am_h am_w PS.length cm_h cm_w PS OP ST w12 HV_h.out.squares HV_w.out.squares HV_h.out.hi_le HV_w.out.hi_le hfit2 HV_h.out.places HV_w.out.places HV_h.out.hi_le HV_w.out.hi_le (by omega)).mono ?_
      rintro e w13 ⟨rfl, bn⟩
      have hs_w13 := bn.size
      clear y0 y1 y2 y3 y4 u0 u1 u2 u3 u4
      have HBX_w13 := hide (HBX_w12.out.on bn)
      clear HBX_w12
      have HN := hide (block_on HGV.out bn)
      clear HGV
      have HGV := HN
      clear HN
      have HN := hide (HMK.out.later bn HMK.out.1)
      clear HMK
      have HMK := HN
      clear HN
      clear bn
      obtain ⟨y0, y1, y2, y3, y4⟩ := five_cells HGV.out
      have HMS : Hid (Squares l_g h_g w13 a_g Q.length (sqMark Q 1)) := by have := HMK.out.squares; rw [sqMark_length] at this; exact this
      have HMP : Hid (Places l_g h_g w13 am_g PS.length (plMark (1 + lens Q + 2 * Q.length) PS.length)) := by have := HMK.out.places; rw [plMark_length] at this; exact this
      go_wp2_with fail
      refine (heldFtl_own Z a_g Q.length c_g Q am_g PS.length cm_g OP ST w13 HMS.out HMK.out.1 HMP.out HMK.out.1 hfit2 (by omega)).mono ?_
      rintro e w14 ⟨rfl, bn⟩
      clear y0 y1 y2 y3 y4 HMS HMP
      rw [← HT2.out]
      have HBF := hide (HBX_w13.out.on bn)
      clear bn
      go_wp2_with fail
      go_ret
      exact ⟨rfl, HBF.out.below⟩
    · go_wp2_with fail
      refine (szPage_over k1 a1 s1 x1 r w1 (by omega) ⟨h0, by omega⟩ HXM.out).mono ?_
      rintro e w2 ⟨rfl, b2⟩
      have HBX_w2 := hide (HBX_w1.out.on b2)
      clear b2 HBX_w1 c0 c1 c2 c3 c4 p0 p1 p2 p3
      go_wp2_with fail
      go_ret
      exact ⟨rfl, HBX_w2.out.below⟩
  · clear hr
    go_wp2_with fail
    go_ret
    exact ⟨rfl, HBX_w1.out.below⟩

/-! ### THE ROW's STEP: WRITTEN OUT: LEAVE IT -/
theorem reads (os : Os) {H : Type} (enc : TypeId × Value → H) : (DataW.whole enc Tryz.prog ((World.doorLaid Tryz.prog 160 os).forCall (fun _ _ => 0) ⟨#[], #[.agg #[.int .i64 0, .slice none 0 0, .slice none 0 0, .int .i64 0, .int .i64 0], .agg #[.int .i64 0, .int .i64 0, .int .i64 0, .string ByteArray.empty]], []⟩).memory Tryz.f6.params.toList Rows.fnExactEnterSpec.vars false (#[.agg #[.int .i64 0, .slice none 0 0, .slice none 0 0, .int .i64 0, .int .i64 0], .agg #[.int .i64 0, .int .i64 0, .int .i64 0, .string ByteArray.empty]] : Array Value).toList 8).isSome = true := by kernel_rfl

set_option maxRecDepth 100000 in
theorem lifted (os : Os) (started : os.Started) (H : Type) (enc : TypeId × Value → H) (F : Stop.Interp) :
    ReturnsInHanded {} Tryz.checked os 6 .any ((OpenSpec.ofChange Rows.fnExactEnterSpec).preRow enc Tryz.prog Tryz.f6 Rows.fnExactEnterRow.domain false Rows.fnExactEnterRow.laid) (((OpenSpec.ofChange Rows.fnExactEnterSpec).at F).post enc Tryz.prog Tryz.f6 false true false false) := by
  obtain ⟨x, hx⟩ := Option.isSome_iff_exists.1 (reads os enc)
  refine returnsInHanded_of_row (C := Tryz.checked) (s := OpenSpec.ofChange Rows.fnExactEnterSpec) own started (by kernel_rfl) Tryz.func6
    (witness_row_atRef (enc := enc) (C := Tryz.checked) false (World.doorLaid Tryz.prog 160 os) #[.agg #[.int .i64 0, .slice none 0 0, .slice none 0 0, .int .i64 0, .int .i64 0], .agg #[.int .i64 0, .int .i64 0, .int .i64 0, .string ByteArray.empty]] rfl (by kernel_rfl) (by kernel_rfl) (by kernel_rfl)
      (OpenSpec.preRow_of_cond 8 hx rfl (fun k hk => by cases hk) (by kernel_rfl) (door_metN os _))) ?_
  intro W base args ds gs before hval0 hW _ _ _ hL _ _
  have hval : ∀ (j : Nat) t v, Tryz.f6.params[j]? = some t → args[j]? = some v → Value.okWide Tryz.prog W .any base t v := hval0
  have hW' := hW
  obtain ⟨p, q, hA0, hV0, rfl, hfz, hnd⟩ := hW
  have hV : DataW.TrodVars enc Tryz.prog W (fun _ => true) ["loop.example/g00223/impl.errBlank", "loop.example/g00223/impl.errSize", "loop.example/g00223/impl.errLost", "loop.example/g00223/impl.dataPlaces", "loop.example/g00223/impl.errCheck", "loop.example/g00223/impl.errFields", "loop.example/g00223/impl.errNoRoom"] gs q := hV0
  have hA : DataW.TrodAll enc Tryz.prog W 0 (fun _ => true) true Tryz.f6.params.toList args.toList ds p := hA0
  rw [Tryz.params6] at hA hval
  obtain ⟨v0, vs0, d0, ds0, p0, q0, hargs, rfl, rfl, h0, r0⟩ := trodAll_cons hA
  obtain ⟨v1, vs1, d1, ds1, p1, q1, rfl, rfl, rfl, h1, r1⟩ := trodAll_cons r0
  obtain ⟨rfl, rfl, rfl⟩ := trodAll_nil r1
  obtain rfl : args = #[v0, v1] := by cases args; simp_all
  obtain ⟨g1, rs1, qs1, rfl, hV1⟩ := trodVars_cons hV
  obtain ⟨g2, rs2, qs2, rfl, hV2⟩ := trodVars_cons hV1
  obtain ⟨g3, rs3, qs3, rfl, hV3⟩ := trodVars_cons hV2
  obtain ⟨g4, rs4, qs4, rfl, hV4⟩ := trodVars_cons hV3
  obtain ⟨g5, rs5, qs5, rfl, hV5⟩ := trodVars_cons hV4
  obtain ⟨g6, rs6, qs6, rfl, hV6⟩ := trodVars_cons hV5
  obtain ⟨g7, rs7, qs7, rfl, hV7⟩ := trodVars_cons hV6
  obtain ⟨rfl, rfl⟩ := trodVars_none hV7
  obtain ⟨hT, aB, aL, aS, aC, aF, aN, E, hN⟩ := errs_of_laidN hL
  have kk0 := h0
  have lt0 : ∀ x ∈ p0, x.block < W.heap.size := by obtain ⟨m, hm⟩ := kk0; exact DataW.trod_lt m _ _ _ hm
  obtain ⟨n0, a0, len0, cap0, q0, am0, lm0, cm0, z0, o0, s0, rfl, w0⟩ := ftl_read Tryz.underlying51 (by kernel_rfl) (by kernel_rfl) (by kernel_rfl) Tryz.underlying48 (by kernel_rfl) Tryz.underlying2 Tryz.underlying46 Tryz.underlying183 (by kernel_rfl) (by kernel_rfl) Tryz.underlying44 Tryz.underlying9 (by kernel_rfl) Tryz.underlying2 Tryz.underlying4 Tryz.underlying49 Tryz.underlying145 (by kernel_rfl) (by kernel_rfl) Tryz.underlying2 Tryz.underlying2 Tryz.underlying2 Tryz.underlying2 (hval 0 51 v0 rfl rfl) h0
  have kk1 := h1
  have lt1 : ∀ x ∈ p1, x.block < W.heap.size := by obtain ⟨m, hm⟩ := kk1; exact DataW.trod_lt m _ _ _ hm
  obtain ⟨k1, a1, s1, x1, rfl, w1⟩ := page_read Tryz.underlying52 (by kernel_rfl) (by kernel_rfl) Tryz.underlying2 Tryz.underlying2 Tryz.underlying2 Tryz.underlying9 (hval 1 52 v1 rfl rfl) h1
  clear hA0 hval0 hV0
  refine (walk n0 a0 len0 cap0 q0 am0 lm0 cm0 z0 o0 s0 k1 a1 s1 x1 W w0 w1 hT E hN).mono fun e W' ⟨he, bel⟩ => ?_
  subst he
  exact ⟨_, rfl, _, _, _, [], _, _, hW', trodAll_mk1 (shut_bool Tryz.underlying4 _), (trodAll_cons_mk (Below.trod laidOut (by kernel_rfl) (of_decide_eq_true (by kernel_rfl)) kk0 bel lt0) (trodAll_cons_mk (Below.trod laidOut (by kernel_rfl) (of_decide_eq_true (by kernel_rfl)) kk1 bel lt1) trodAll_mk0)), Below.trodVars laidOut bel (by kernel_rfl) hV, bel.frame _, fun h => by cases h⟩


theorem over : Rows.FnExactEnterSaid :=
  OpenClaim.holds_of_cond 6 Tryz.f6 rfl rfl rfl rfl rfl rfl rfl ⟨rfl, rfl, rfl, rfl, rfl⟩ rfl rfl rfl rfl rfl (by kernel_rfl) Tryz.func6 (by kernel_rfl)
    (of_decide_eq_true (by kernel_rfl)) (by unfold Func.isWrapper; first | (rw [if_pos (by decide +kernel)]; kernel_rfl) | (rw [if_neg (by decide +kernel)]; exact ⟨rfl, rfl⟩))
    (fun os started H enc _ F => by rw [OpenClaim.pre_eq_preRow]; exact lifted os started H enc F)
theorem plain (f : FuncId) (fn : Func) (hf : Tryz.pinned.checked.prog.funcNamed "loop.example/g00223/laws.FnExactEnter" = some f) (hfn : Tryz.pinned.checked.prog.funcs[f]? = some fn) :
    true = Tryz.pinned.checked.prog.looks [] ∧ ∀ (j : Nat) t, fn.params[j]? = some t → Tryz.pinned.checked.prog.wantsStandIn t = false := by
  obtain rfl : f = 6 := Option.some.inj ((show Tryz.prog.funcNamed "loop.example/g00223/laws.FnExactEnter" = some 6 by kernel_rfl).symm.trans hf) |>.symm
  obtain rfl : fn = Tryz.f6 := (Option.some.inj (Tryz.func6.symm.trans hfn)).symm
  refine ⟨by kernel_rfl, fun j t ht => ?_⟩
  have hall : (Tryz.f6.params.toList.all fun u => !Tryz.prog.wantsStandIn u) = true := by kernel_rfl
  have hm : t ∈ Tryz.f6.params.toList := by simpa using Array.mem_of_getElem? ht
  exact (show Tryz.prog.wantsStandIn t = false by simpa using List.all_eq_true.1 hall t hm)

/-- ████ THE CARD ████ -/
theorem proved : Rows.FnExactEnterCardSaid :=
  Claim7.holds_tied_plain_at .later [] _ _ _ _ over (fun _ h => by cases h) (by kernel_rfl) (fun _ h => by cases h) fnExactEnter_row_tie rfl ⟨rfl, rfl⟩ (by kernel_rfl) rfl plain (by kernel_rfl)
#print axioms proved
end Go.Proofs.YtocinobbocjikaaGreatDoor.fnExactEnter
