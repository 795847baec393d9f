/- For every Ftl, every Page and every two numbers the law FnExactBroken returns true and leaves its arguments as they were; the package-level variables that its row lists read as they are laid. -/
import Derived.Test.YtoocbagnfkgbfaaGreatDoorRows
import Derived.Test.YtoocbagnfkgbfaaGreatDoorBChipOwn2
import Derived.Test.YtoocbagnfkgbfaaGreatDoorBPageBase
import Derived.Test.YtoocbagnfkgbfaaGreatDoorBFtlOwnP
import Derived.Test.YtoocbagnfkgbfaaGreatDoorBBrokeSpec
import Derived.Test.YtoocbagnfkgbfaaGreatDoorBBrokeImpl
import Derived.Test.YtoocbagnfkgbfaaGreatDoorBFtlImplF
import Derived.Test.YtoocbagnfkgbfaaGreatDoorBLyLaid
import Derived.Deep.RegionWith
import Derived.Deep.DeepCutAuto
import Derived.Deep.RegionHeld3
import Derived.WalkKit
import Derived.ProofKit
import Derived.OpenShut
import Derived.ShutString
import Derived.ChangeOld
import Derived.Below
namespace Go.Proofs.YtoocbagnfkgbfaaGreatDoor.fnExactBroken
open Go.ChangeShapes Go.WideShapes Go.ChangeAt Go.RowKit
open Go.ChangeMaps (open_string shut_string)
set_option linter.unusedVariables false

theorem own : ownKnob Tryz.prog.godebug = none := by kernel_rfl
theorem laidOut : laidOutB Tryz.prog = true := by kernel_rfl

theorem cell_lt {w : World} {b o : Nat} {v : Value} (h : w.cell? ⟨b, o, none⟩ = some v) : b < w.heap.size := by
  rcases Nat.lt_or_ge b w.heap.size with hc | hc
  · exact hc
  · unfold World.cell? at h
    have : w.heap[b]? = none := Array.getElem?_eq_none_iff.2 (by omega)
    simp [this] at h
set_option maxHeartbeats 8000000 in
set_option maxRecDepth 100000 in

theorem walk (n0 : Int) (a0 : Option Addr) (len0 cap0 : Nat) (q0 : List Sq) (am0 : Option Addr) (lm0 cm0 : Nat) (z0 : List Pl) (o0 s0 : Int) (k1 a1 s1 : Int) (x1 : ByteArray) (a2 : Int) (a3 : Int) (w : World) (w0 : (Lit.int .i64 n0).wf = true ∧ Squares 0 w.heap.size w a0 len0 q0 ∧ (∀ x ∈ q0, sqFits x) ∧ len0 ≤ maxLen ∧ Places 0 w.heap.size w am0 lm0 z0 ∧ (∀ x ∈ z0, plFits x) ∧ lm0 ≤ maxLen ∧ (Lit.int .i64 o0).wf = true ∧ (Lit.int .i64 s0).wf = true) (w1 : (Lit.int .i64 k1).wf = true ∧ (Lit.int .i64 a1).wf = true ∧ (Lit.int .i64 s1).wf = true ∧ x1.size ≤ maxLen) (w2 : (Lit.int .i64 a2).wf = true) (w3 : (Lit.int .i64 a3).wf = true) (hT : Tab w) {aB aL aS aC aF : Addr} (E : Errs w aB aL aS aC aF) {aN : Addr} (hN : w.cell? ⟨1, 0, none⟩ = some (.iface 307 (.pointer (some aN)))) :
    Calls Tryz.prog 9 #[.agg #[.int .i64 n0, .slice a0 len0 cap0, .slice am0 lm0 cm0, .int .i64 o0, .int .i64 s0], .agg #[.int .i64 k1, .int .i64 a1, .int .i64 s1, .string x1], .int .i64 a2, .int .i64 a3] w fun e w' => e = .returned (.bool true) ∧ Below w.heap.size w w' := by
  obtain ⟨_, hsq, hfi, hm, hpl, _, hml, _, _⟩ := w0
  obtain ⟨_, _, _, hx⟩ := w1
  have hlen : q0.length = len0 := hsq.1
  subst hlen
  have hlen2 : z0.length = lm0 := hpl.1
  subst hlen2
  clear w2 w3
  obtain ⟨wA, hwA⟩ : ∃ wA, wA = (w.alloc (.cells #[.int .i64 n0, .slice a0 q0.length cap0, .slice am0 z0.length cm0, .int .i64 o0, .int .i64 s0] 72)).alloc (.cells #[.int .i64 k1, .int .i64 a1, .int .i64 s1, .string x1] 81) := ⟨_, rfl⟩
  have hzA : wA.heap.size = w.heap.size + 1 + 1 := by rw [hwA]; simp
  have HBX : Hid (BoxFP w n0 a0 q0.length cap0 am0 z0.length cm0 o0 s0 k1 a1 s1 x1 wA) := by rw [hwA]; exact ⟨heap_old (heap_new _ _), heap_at (by simp), (((Below.refl _ _).alloc (Nat.le_refl _) _).alloc (by simp) _)⟩
  have HSQ := hide hsq
  have HPL := hide hpl
  have HF := hide hfi
  have HM := hide hm
  have HML := hide hml
  have HXM := hide hx
  have HT := hide hT
  have HE := hide E
  have hgN : 1 < w.heap.size := cell_lt hN
  have HN0 : ∀ w9, Hid (Below w.heap.size w w9 → w9.cell? ⟨1, 0, none⟩ = some (noRoomV aN)) := fun w9 h9 => (h9.cell (p := ⟨1, 0, none⟩) hgN).trans hN
  clear hsq hpl hfi hm hml hx hT E hN hgN
  obtain ⟨c0, c1, c2, c3, c4, p0, p1, p2, p3⟩ := HBX.out.cells
  go_enter Tryz.func9, Tryz.ntmps9
  go_upto_region 1 with fail
  rw [← hwA]
  clear hwA
  go_wp2_with fail
  refine (szFtl_any n0 a0 q0.length cap0 q0 am0 z0.length cm0 o0 s0 1048576 wA (HSQ.out.later HBX.out.below (Nat.le_refl _)) (by omega) HM.out HF.out HML.out (by omega) (by omega)).mono ?_
  rintro e w1 ⟨⟨r, rfl, r1, r2, hr⟩, b1⟩
  have HN := hide (HBX.out.on b1)
  clear HBX
  have HBX := HN
  clear HN
  clear b1 c0 c1 c2 c3 c4 p0 p1 p2 p3
  by_cases h0 : 0 ≤ r
  · have hfit : q0.length + weight q0 ≤ 1048576 := by have := hr h0; omega
    have hfm : z0.length ≤ 1048576 := by have := hr h0; omega
    clear hr
    obtain ⟨c0, c1, c2, c3, c4, p0, p1, p2, p3⟩ := HBX.out.cells
    by_cases hxr : (x1.size : Int) ≤ r
    · have hd : decide (r - (x1.size : Int) < 0) = false := by simp; omega
      go_wp2_with fail
      refine (szPage_in k1 a1 s1 x1 r w1 hxr (by omega)).mono ?_
      rintro e w2 ⟨rfl, b2⟩
      have HN := hide (HBX.out.on b2)
      clear HBX
      have HBX := HN
      clear HN
      clear b2 c0 c1 c2 c3 c4 p0 p1 p2 p3
      obtain ⟨Z, hZ⟩ : ∃ Z, Z = brokenZ n0 q0 z0 o0 s0 := ⟨_, rfl⟩
      obtain ⟨Q, hQ⟩ : ∃ Q, Q = brokenQ n0 q0 z0 o0 s0 k1 a1 x1 a2 a3 := ⟨_, rfl⟩
      have hfit2 : Q.length + weight Q ≤ 1048576 := by rw [hQ]; exact brokenQ_fit n0 q0 z0 o0 s0 k1 a1 x1 a2 a3
      have HZ := hide hZ
      have HQ := hide hQ
      clear hZ hQ
      obtain ⟨jN, hjN⟩ : ∃ x, x = a2 := ⟨_, rfl⟩
      obtain ⟨bN, hbN⟩ : ∃ x, x = a3 := ⟨_, rfl⟩
      rw [← hjN, ← hbN] at HQ
      rw [← hjN, ← hbN]
      clear hjN hbN
      have HSD : ∀ w9 a9 am9 lo hi lo' hi', Hid (Below w.heap.size w w9 → Squares lo hi w9 a9 q0.length q0 → hi ≤ w9.heap.size → Places lo' hi' w9 am9 z0.length z0 → hi' ≤ w9.heap.size → Calls Tryz.prog 26 #[.agg #[.int .i64 n0, .slice a9 q0.length q0.length, .slice am9 z0.length z0.length, .int .i64 o0, .int .i64 s0], .agg #[.int .i64 k1, .int .i64 a1, .int .i64 s1, .string x1], .int .i64 jN, .int .i64 bN] w9 fun e w' => ∃ a c, e = .returned (.agg #[.int .i64 Z, .slice a Q.length c]) ∧ AnsQ w9.heap.size w'.heap.size w' a Q.length Q ∧ Below w9.heap.size w9 w') := fun w9 a9 am9 lo hi lo' hi' hb h9 hh h8 hh8 => by
        refine (specBroken_any n0 a9 q0.length q0.length q0 am9 z0.length z0.length z0 o0 s0 k1 a1 s1 x1 jN bN w9 h9 hh (by omega) HF.out h8 hh8 hfm).mono ?_
        rintro e w' ⟨v, h1, a, c, h2, h3, h4⟩
        rw [← HZ.out, ← HQ.out] at h2
        rw [← HQ.out] at h3
        exact ⟨a, c, by rw [h1, h2], h3, h4⟩
      have HID : ∀ w9 a9 am9 lo hi lo' hi', Hid (Below w.heap.size w w9 → Squares lo hi w9 a9 q0.length q0 → hi ≤ w9.heap.size → Places lo' hi' w9 am9 z0.length z0 → hi' ≤ w9.heap.size → Calls Tryz.prog 24 #[.agg #[.int .i64 n0, .slice a9 q0.length q0.length, .slice am9 z0.length z0.length, .int .i64 o0, .int .i64 s0], .agg #[.int .i64 k1, .int .i64 a1, .int .i64 s1, .string x1], .int .i64 jN, .int .i64 bN] w9 fun e w' => ∃ a c, e = .returned (.agg #[.int .i64 Z, .slice a Q.length c]) ∧ AnsQ w9.heap.size w'.heap.size w' a Q.length Q ∧ Below w9.heap.size w9 w') := fun w9 a9 am9 lo hi lo' hi' hb h9 hh h8 hh8 => by
        refine (implBroken_any n0 a9 q0.length q0.length q0 am9 z0.length z0.length z0 o0 s0 k1 a1 s1 x1 jN bN w9 h9 hh (by omega) HF.out h8 hh8 hfm (Nat.le_refl _) (HT.out.here hb) (HE.out.here hb) ((HN0 _).out hb)).mono ?_
        rintro e w' ⟨v, h1, a, c, h2, h3, h4⟩
        rw [← HZ.out, ← HQ.out] at h2
        rw [← HQ.out] at h3
        exact ⟨a, c, by rw [h1, h2], h3, h4⟩
      clear HZ HQ
      have hz2 := HBX.out.size
      have HTC : ∀ w9, Hid (Below w2.heap.size w2 w9 → Calls Tryz.prog 45 #[.agg #[.int .i64 n0, .slice a0 q0.length cap0, .slice am0 z0.length cm0, .int .i64 o0, .int .i64 s0]] w9 fun e w' => ∃ a' am' mid, e = .returned (.agg #[.int .i64 n0, .slice a' q0.length q0.length, .slice am' z0.length z0.length, .int .i64 o0, .int .i64 s0]) ∧ w9.heap.size ≤ mid ∧ mid ≤ w'.heap.size ∧ OwnSquares w9.heap.size mid w' a' q0.length q0 ∧ OwnPlaces mid w'.heap.size w' am' z0.length z0 ∧ Below w9.heap.size w9 w') := fun w9 h9 => toFtl_any n0 a0 q0.length cap0 q0 am0 z0.length cm0 z0 o0 s0 w9 (HSQ.out.later (below_here HBX.out.below h9) (Nat.le_refl _)) (below_here HBX.out.below h9).size hfit (HPL.out.later (below_here HBX.out.below h9) (Nat.le_refl _)) (below_here HBX.out.below h9).size hfm
      have P0 : Below w2.heap.size w2 w2 := Below.refl _ _
      have P1 : Below w2.heap.size w2 w2.drew := (Below.refl _ _).drew
      have P2 : Below w2.heap.size w2 (w2.alloc zC).drew := ((Below.refl _ _).alloc (Nat.le_refl _) zC).drew
      have P3 : Below w2.heap.size w2 (w2.alloc zC) := (Below.refl _ _).alloc (Nat.le_refl _) zC
      have V1 : (w2.alloc zC).drew.heap[w2.heap.size]? = some zC := heap_new w2 zC
      have HK : ∀ w9, Hid (Below w2.heap.size w2 w9 → w9.cell? ⟨w.heap.size, 0, none⟩ = some (.int .i64 n0) ∧ w9.cell? ⟨w.heap.size, 1, none⟩ = some (.slice a0 q0.length cap0) ∧ w9.cell? ⟨w.heap.size, 2, none⟩ = some (.slice am0 z0.length cm0) ∧ w9.cell? ⟨w.heap.size, 3, none⟩ = some (.int .i64 o0) ∧ w9.cell? ⟨w.heap.size, 4, none⟩ = some (.int .i64 s0) ∧ w9.cell? ⟨w.heap.size + 1, 0, none⟩ = some (.int .i64 k1) ∧ w9.cell? ⟨w.heap.size + 1, 1, none⟩ = some (.int .i64 a1) ∧ w9.cell? ⟨w.heap.size + 1, 2, none⟩ = some (.int .i64 s1) ∧ w9.cell? ⟨w.heap.size + 1, 3, none⟩ = some (.string x1)) := fun w9 h9 => (HBX.out.on h9).cells
      obtain ⟨c0, c1, c2, c3, c4, p0, p1, p2, p3⟩ := HBX.out.cells
      go_upto_region 8 with fail
      go_cut [10] (fun p wx => ∃ b lo hi a c, p = .pointer (some ⟨b, 0, none⟩) ∧ VarC w2.heap.size b lo hi Z Q a c wx ∧ Below w2.heap.size w2 wx)
      case first =>
        go_region_held3 (fun w9 => w9.cell? ⟨w.heap.size, 0, none⟩ = some (.int .i64 n0) ∧ w9.cell? ⟨w.heap.size, 1, none⟩ = some (.slice a0 q0.length cap0) ∧ w9.cell? ⟨w.heap.size, 2, none⟩ = some (.slice am0 z0.length cm0) ∧ w9.cell? ⟨w.heap.size, 3, none⟩ = some (.int .i64 o0) ∧ w9.cell? ⟨w.heap.size, 4, none⟩ = some (.int .i64 s0) ∧ w9.cell? ⟨w.heap.size + 1, 0, none⟩ = some (.int .i64 k1) ∧ w9.cell? ⟨w.heap.size + 1, 1, none⟩ = some (.int .i64 a1) ∧ w9.cell? ⟨w.heap.size + 1, 2, none⟩ = some (.int .i64 s1) ∧ w9.cell? ⟨w.heap.size + 1, 3, none⟩ = some (.string x1))
          (first | with_reducible exact (HK _).out P0 | with_reducible exact (HK _).out P1 | with_reducible exact (HK _).out P2 | with_reducible exact (HK _).out P3 | with_reducible exact (HK _).out B2.out | with_reducible exact (HK _).out (B2.out.alloc S2 zC) | with_reducible exact (HK _).out B3.out | with_reducible exact (HK _).out (B3.out.alloc (Nat.le_trans S2 S3) zC) | with_reducible exact (HK _).out B4.out | with_reducible exact (HK _).out (B4.out.alloc (Nat.le_trans S2 (Nat.le_trans S3 S4)) _) | with_reducible exact (HK _).out (store_below B4.out (Nat.le_refl _) _ _) | with_reducible exact (HK _).out (set1_below B4.out (Nat.le_refl _) _) | with_reducible exact (HK _).out (store_below B4.out S2 _ _) | with_reducible exact (HK _).out (set1_below B4.out S2 _) | with_reducible exact (HK _).out (store_below B4.out (Nat.le_trans S2 S3) _ _) | with_reducible exact (HK _).out (set1_below B4.out (Nat.le_trans S2 S3) _) | fail)
          (first
          | (go_at_call 45; refine ((HTC _).out (by first | with_reducible exact P1 | with_reducible exact P2)).mono ?_; rintro e v2 ⟨a2, am2, mid2, rfl, m1, m2, o2, p2', b2⟩; have B2 : Hid (Below w2.heap.size w2 v2) := (by first | with_reducible exact hide (below_here P1 b2) | with_reducible exact hide (below_here P2 b2)); have O2 : Hid (Squares 0 v2.heap.size v2 a2 q0.length q0) := squares_wide o2.squares (Nat.zero_le _) m2 (Nat.le_refl _); have Q2 : Hid (Places 0 v2.heap.size v2 am2 z0.length z0) := places_wide p2'.places (Nat.zero_le _) (Nat.le_refl _) (Nat.le_refl _); have S2 := B2.out.size; first | (have VA2 : Hid (v2.heap[w2.heap.size]? = some zC) := (by with_reducible exact hide (block_on V1 b2)); have VZ2 : w2.heap.size < v2.heap.size := by have := (Array.getElem?_eq_some_iff.1 VA2.out).1; omega) | skip; clear b2 o2 p2' m1 m2)
          | (go_at_call 54; refine (toPage_any k1 a1 s1 x1 _).mono ?_; rintro e v3 ⟨rfl, b3⟩; have B23 : Hid (Below v2.heap.size v2 v3) := (by first | with_reducible exact hide b3 | with_reducible exact hide (below_here ((Below.refl v2.heap.size v2).alloc (Nat.le_refl _) zC) b3)); have B3 : Hid (Below w2.heap.size w2 v3) := below_here B2.out B23.out; have O3 : Hid (Squares 0 v2.heap.size v3 a2 q0.length q0) := O2.out.later B23.out (Nat.le_refl _); have Q3 : Hid (Places 0 v2.heap.size v3 am2 z0.length z0) := Q2.out.later B23.out (Nat.le_refl _); have S3 := B23.out.size; first | (have VA3 : Hid (v3.heap[w2.heap.size]? = some zC) := block_on VA2.out B23.out) | (have VB3 : Hid (v3.heap[v2.heap.size]? = some zC) := (by with_reducible exact hide (block_on (heap_new v2 zC) b3)); have VZ3 : v2.heap.size < v3.heap.size := by have := (Array.getElem?_eq_some_iff.1 VB3.out).1; omega) | skip; clear b3)
          | (go_at_call 26; refine ((HSD _ a2 am2 _ _ _ _).out (by first | with_reducible exact below_here HBX.out.below B3.out | with_reducible exact below_here HBX.out.below (B3.out.alloc (Nat.le_trans S2 S3) zC)) (by first | with_reducible exact O3.out | with_reducible exact O3.out.later ((Below.refl v3.heap.size v3).alloc (Nat.le_refl _) zC) S3) (by first | with_reducible exact S3 | exact Nat.le_trans S3 (by simp)) (by first | with_reducible exact Q3.out | with_reducible exact Q3.out.later ((Below.refl v3.heap.size v3).alloc (Nat.le_refl _) zC) S3) (by first | with_reducible exact S3 | exact Nat.le_trans S3 (by simp))).mono ?_; rintro e v4 ⟨a4, k4, rfl, q4, b4⟩; have B34 : Hid (Below v3.heap.size v3 v4) := (by first | with_reducible exact hide b4 | with_reducible exact hide (below_here ((Below.refl v3.heap.size v3).alloc (Nat.le_refl _) zC) b4)); have B4 : Hid (Below w2.heap.size w2 v4) := below_here B3.out B34.out; have S4 := B34.out.size; have Q4 := hide q4; first | (have VA4 : Hid (v4.heap[w2.heap.size]? = some zC) := block_on VA3.out B34.out; obtain ⟨y0, y1⟩ := two_cells VA4.out; have f0 := four_frozen VA4.out 0; have f1 := four_frozen VA4.out 1) | (have VB4 : Hid (v4.heap[v2.heap.size]? = some zC) := block_on VB3.out B34.out; obtain ⟨y0, y1⟩ := two_cells VB4.out; have f0 := four_frozen VB4.out 0; have f1 := four_frozen VB4.out 1) | (have VC4 : Hid (v4.heap[v3.heap.size]? = some zC) := (by with_reducible exact hide (block_on (heap_new v3 zC) b4)); obtain ⟨y0, y1⟩ := two_cells VC4.out; have f0 := four_frozen VC4.out 0; have f1 := four_frozen VC4.out 1) | skip; clear b4 q4))
        all_goals
          go_wp2_with fail
          go_meet
          first
            | exact ⟨w2.heap.size, v3.heap.size, v4.heap.size, a4, k4, rfl, varC_store VA4.out Q4.out (Nat.le_refl _) (by omega) (by omega), store_below B4.out (Nat.le_refl _) _ _⟩
            | exact ⟨v2.heap.size, v3.heap.size, v4.heap.size, a4, k4, rfl, varC_store VB4.out Q4.out (by omega) (by omega) (by omega), store_below B4.out (by omega) _ _⟩
            | exact ⟨v3.heap.size, (v3.alloc zC).heap.size, v4.heap.size, a4, k4, rfl, varC_store (w1 := v3.alloc zC) VC4.out Q4.out (by omega) (by simp) (by simp; omega), store_below B4.out (by omega) _ _⟩
            | exact ⟨v4.heap.size, v3.heap.size, v4.heap.size, a4, k4, rfl, varC_new Q4.out (by omega) S4, B4.out.alloc (by omega) _⟩
      clear c0 c1 c2 c3 c4 p0 p1 p2 p3 HTC HK P0 P1 P2 P3 V1
      obtain ⟨b_w, l_w, h_w, a_w, c_w, rfl, hV, hB⟩ := hcut
      have HV_w := hide hV
      clear hV
      obtain ⟨w3, hn⟩ : ∃ w3, w3 = wc := ⟨_, rfl⟩
      subst hn
      have hs_w3 := hB.size
      have HN := hide (HBX.out.on hB)
      clear HBX
      have HBX := HN
      clear HN
      clear hB
      have HBW1 := HV_w.out.lt
      have HHW1 := HV_w.out.hi_le
      obtain ⟨c0, c1, c2, c3, c4, p0, p1, p2, p3⟩ := HBX.out.cells
      go_wp2_with fail
      refine (toFtl_any n0 a0 q0.length cap0 q0 am0 z0.length cm0 z0 o0 s0 w3 (HSQ.out.later HBX.out.below (Nat.le_refl _)) HBX.out.below.size hfit (HPL.out.later HBX.out.below (Nat.le_refl _)) HBX.out.below.size hfm).mono ?_
      rintro e w4 ⟨a_x, am_x, mid4, rfl, m1, m2, o4, p4, b4⟩
      clear c0 c1 c2 c3 c4 p0 p1 p2 p3
      obtain ⟨wX, hwX⟩ : ∃ wX, wX = w4.alloc (.cells #[.int .i64 n0, .slice a_x q0.length q0.length, .slice am_x z0.length z0.length, .int .i64 o0, .int .i64 s0] 29) := ⟨_, rfl⟩
      have hzX : w4.heap.size < wX.heap.size := by rw [hwX]; simp
      have HX : Hid (wX.heap[w4.heap.size]? = some (.cells #[.int .i64 n0, .slice a_x q0.length q0.length, .slice am_x z0.length z0.length, .int .i64 o0, .int .i64 s0] 29)) := by rw [hwX]; exact heap_new _ _
      have HX4 : Hid (Below w4.heap.size w4 wX) := by rw [hwX]; exact (Below.refl _ _).alloc (Nat.le_refl _) _
      have HXF := hide (own_of_to (o4.later HX4.out m2) (p4.later HX4.out (Nat.le_refl _)) m1 m2 hzX)
      have hs4 := b4.size
      have B_ := below_here b4 HX4.out
      have HN := hide (HBX.out.on B_)
      clear HBX
      have HBX := HN
      clear HN
      have HN := hide (HV_w.out.on B_)
      clear HV_w
      have HV_w := HN
      clear HN
      clear B_ o4 p4 b4 HX4 m1 m2
      go_upto_region 10 with fail
      rw [← hwX]
      clear hwX
      obtain ⟨c0, c1, c2, c3, c4, p0, p1, p2, p3⟩ := HBX.out.cells
      obtain ⟨x0, x1', x2, x3, x4⟩ := five_cells HX.out
      have P0 : Below wX.heap.size wX wX := Below.refl _ _
      have P1 : Below wX.heap.size wX wX.drew := (Below.refl _ _).drew
      have P2 : Below wX.heap.size wX (wX.alloc zC).drew := ((Below.refl _ _).alloc (Nat.le_refl _) zC).drew
      have P3 : Below wX.heap.size wX (wX.alloc zC) := (Below.refl _ _).alloc (Nat.le_refl _) zC
      have V1 : (wX.alloc zC).drew.heap[wX.heap.size]? = some zC := heap_new wX zC
      have HK : ∀ w9, Hid (Below wX.heap.size wX w9 → w9.cell? ⟨w4.heap.size, 0, none⟩ = some (.int .i64 n0) ∧ w9.cell? ⟨w4.heap.size, 1, none⟩ = some (.slice a_x q0.length q0.length) ∧ w9.cell? ⟨w4.heap.size, 2, none⟩ = some (.slice am_x z0.length z0.length) ∧ w9.cell? ⟨w4.heap.size, 3, none⟩ = some (.int .i64 o0) ∧ w9.cell? ⟨w4.heap.size, 4, none⟩ = some (.int .i64 s0) ∧ w9.cell? ⟨w.heap.size + 1, 0, none⟩ = some (.int .i64 k1) ∧ w9.cell? ⟨w.heap.size + 1, 1, none⟩ = some (.int .i64 a1) ∧ w9.cell? ⟨w.heap.size + 1, 2, none⟩ = some (.int .i64 s1) ∧ w9.cell? ⟨w.heap.size + 1, 3, none⟩ = some (.string x1)) := fun w9 h9 => by
        obtain ⟨y0, y1, y2, y3, y4⟩ := five_cells (block_on HX.out h9)
        obtain ⟨_, _, _, _, _, y5⟩ := (HBX.out.on h9).cells
        exact ⟨y0, y1, y2, y3, y4, y5⟩
      have HXS := hide HXF.out.squares
      have HXP := hide HXF.out.places
      go_cut [12] (fun p wx => ∃ b lo hi a c, p = .pointer (some ⟨b, 0, none⟩) ∧ VarC wX.heap.size b lo hi Z Q a c wx ∧ Below wX.heap.size wX wx)
      case first =>
        go_region_held3 (fun w9 => w9.cell? ⟨w4.heap.size, 0, none⟩ = some (.int .i64 n0) ∧ w9.cell? ⟨w4.heap.size, 1, none⟩ = some (.slice a_x q0.length q0.length) ∧ w9.cell? ⟨w4.heap.size, 2, none⟩ = some (.slice am_x z0.length z0.length) ∧ w9.cell? ⟨w4.heap.size, 3, none⟩ = some (.int .i64 o0) ∧ w9.cell? ⟨w4.heap.size, 4, none⟩ = some (.int .i64 s0) ∧ w9.cell? ⟨w.heap.size + 1, 0, none⟩ = some (.int .i64 k1) ∧ w9.cell? ⟨w.heap.size + 1, 1, none⟩ = some (.int .i64 a1) ∧ w9.cell? ⟨w.heap.size + 1, 2, none⟩ = some (.int .i64 s1) ∧ w9.cell? ⟨w.heap.size + 1, 3, none⟩ = some (.string x1))
          (first | with_reducible exact (HK _).out P0 | with_reducible exact (HK _).out P1 | with_reducible exact (HK _).out P2 | with_reducible exact (HK _).out P3 | with_reducible exact (HK _).out B3.out | with_reducible exact (HK _).out (B3.out.alloc S3 zC) | with_reducible exact (HK _).out B4.out | with_reducible exact (HK _).out (B4.out.alloc (Nat.le_trans S3 S4) _) | with_reducible exact (HK _).out (store_below B4.out (Nat.le_refl _) _ _) | with_reducible exact (HK _).out (set1_below B4.out (Nat.le_refl _) _) | with_reducible exact (HK _).out (store_below B4.out S3 _ _) | with_reducible exact (HK _).out (set1_below B4.out S3 _) | fail)
          (first
          | (go_at_call 54; refine (toPage_any k1 a1 s1 x1 _).mono ?_; rintro e v3 ⟨rfl, b3⟩; have B3 : Hid (Below wX.heap.size wX v3) := (by first | with_reducible exact hide (below_here P1 b3) | with_reducible exact hide (below_here P2 b3)); have S3 := B3.out.size; have O3 : Hid (Squares w3.heap.size wX.heap.size v3 a_x q0.length q0) := HXS.out.later B3.out (Nat.le_refl _); have Q3 : Hid (Places w3.heap.size wX.heap.size v3 am_x z0.length z0) := HXP.out.later B3.out (Nat.le_refl _); first | (have VA3 : Hid (v3.heap[wX.heap.size]? = some zC) := (by with_reducible exact hide (block_on V1 b3)); have VZ3 : wX.heap.size < v3.heap.size := by have := (Array.getElem?_eq_some_iff.1 VA3.out).1; omega) | skip; clear b3)
          | (go_at_call 24; refine ((HID _ a_x am_x _ _ _ _).out (by first | with_reducible exact below_here HBX.out.below B3.out | with_reducible exact below_here HBX.out.below (B3.out.alloc S3 zC)) (by first | with_reducible exact O3.out | with_reducible exact O3.out.later ((Below.refl v3.heap.size v3).alloc (Nat.le_refl _) zC) S3) (by first | with_reducible exact S3 | exact Nat.le_trans S3 (by simp)) (by first | with_reducible exact Q3.out | with_reducible exact Q3.out.later ((Below.refl v3.heap.size v3).alloc (Nat.le_refl _) zC) S3) (by first | with_reducible exact S3 | exact Nat.le_trans S3 (by simp))).mono ?_; rintro e v4 ⟨a4, k4, rfl, q4, b4⟩; have B34 : Hid (Below v3.heap.size v3 v4) := (by first | with_reducible exact hide b4 | with_reducible exact hide (below_here ((Below.refl v3.heap.size v3).alloc (Nat.le_refl _) zC) b4)); have B4 : Hid (Below wX.heap.size wX v4) := below_here B3.out B34.out; have S4 := B34.out.size; have Q4 := hide q4; first | (have VA4 : Hid (v4.heap[wX.heap.size]? = some zC) := block_on VA3.out B34.out; obtain ⟨y0, y1⟩ := two_cells VA4.out; have f0 := four_frozen VA4.out 0; have f1 := four_frozen VA4.out 1) | (have VC4 : Hid (v4.heap[v3.heap.size]? = some zC) := (by with_reducible exact hide (block_on (heap_new v3 zC) b4)); obtain ⟨y0, y1⟩ := two_cells VC4.out; have f0 := four_frozen VC4.out 0; have f1 := four_frozen VC4.out 1) | skip; clear b4 q4))
        all_goals
          go_wp2_with fail
          go_meet
          first
            | exact ⟨wX.heap.size, v3.heap.size, v4.heap.size, a4, k4, rfl, varC_store VA4.out Q4.out (Nat.le_refl _) (by omega) (by omega), store_below B4.out (Nat.le_refl _) _ _⟩
            | exact ⟨v3.heap.size, (v3.alloc zC).heap.size, v4.heap.size, a4, k4, rfl, varC_store (w1 := v3.alloc zC) VC4.out Q4.out (by omega) (by simp) (by simp; omega), store_below B4.out (by omega) _ _⟩
            | exact ⟨v4.heap.size, v3.heap.size, v4.heap.size, a4, k4, rfl, varC_new Q4.out (by omega) S4, B4.out.alloc (by omega) _⟩
      clear c0 c1 c2 c3 c4 p0 p1 p2 p3 x0 x1' x2 x3 x4 HK P0 P1 P2 P3 V1 HXS HXP
      obtain ⟨b_g, l_g, h_g, a_g, c_g, rfl, hV, hB⟩ := hcut
      have HV_g := hide hV
      clear hV
      obtain ⟨w5, hn⟩ : ∃ w5, w5 = wc := ⟨_, rfl⟩
      subst hn
      have hs_w5 := hB.size
      have HN := hide (HBX.out.on hB)
      clear HBX
      have HBX := HN
      clear HN
      have HN := hide (HV_w.out.on hB)
      clear HV_w
      have HV_w := HN
      clear HN
      have HN := hide (block_on HX.out hB)
      clear HX
      have HX := HN
      clear HN
      have HN := hide (HXF.out.later hB HXF.out.1)
      clear HXF
      have HXF := HN
      clear HN
      clear hB
      obtain ⟨y0, y1⟩ := HV_g.out.cells
      obtain ⟨u0, u1⟩ := HV_w.out.cells
      go_wp2_with fail
      refine (eqChip_same Z a_g a_w Q.length c_g c_w Q w5 HV_g.out.squares HV_w.out.squares HV_g.out.hi_le HV_w.out.hi_le hfit2).mono ?_
      rintro e w6 ⟨rfl, bn⟩
      have hs_w6 := bn.size
      clear y0 y1 u0 u1
      have HN := hide (HBX.out.on bn)
      clear HBX
      have HBX := HN
      clear HN
      have HN := hide (HV_w.out.on bn)
      clear HV_w
      have HV_w := HN
      clear HN
      have HN := hide (block_on HX.out bn)
      clear HX
      have HX := HN
      clear HN
      have HN := hide (HXF.out.later bn HXF.out.1)
      clear HXF
      have HXF := HN
      clear HN
      have HN := hide (HV_g.out.on bn)
      clear HV_g
      have HV_g := HN
      clear HN
      clear bn
      obtain ⟨c0, c1, c2, c3, c4, p0, p1, p2, p3⟩ := HBX.out.cells
      obtain ⟨d0, d1, d2, d3, d4⟩ := five_cells HX.out
      have HXd := hide (HXF.out.later (Below.refl w6.heap.size w6).drew HXF.out.1)
      have HSd := hide (HSQ.out.later HBX.out.below (Nat.le_refl _))
      have HPd := hide (HPL.out.later HBX.out.below (Nat.le_refl _))
      have hw6 := HBX.out.below.size
      have hx6 := HXF.out.1
      go_upto_region 13 with fail
      go_cut [50] (fun c wx => c = .bool false ∧ Below w6.heap.size w6 wx)
      case first =>
        go_region_with (first
          | (go_at_call 45; refine (toFtl_any n0 a0 q0.length cap0 q0 am0 z0.length cm0 z0 o0 s0 _ (by exact HSd.out) (by show w.heap.size ≤ w6.heap.size; omega) hfit (by exact HPd.out) (by show w.heap.size ≤ w6.heap.size; omega) hfm).mono ?_; rintro e v6 ⟨a6, am6, mid6, rfl, k3, k4, o6, p6, b6⟩; have HX6 := hide (block_on (w := w6.drew) HX.out b6); have HB6 : Hid (Below w6.heap.size w6 v6) := below_here (Below.refl w6.heap.size w6).drew b6; have hs6 : w6.heap.size ≤ v6.heap.size := b6.size; have HXS := hide (HXd.out.later b6 HXd.out.1); have HV6 := hide o6; have HU6 := hide p6; clear o6 p6 b6; obtain ⟨e0, e1, e2, e3, e4⟩ := five_cells HX6.out)
          | (go_at_call 46; refine (eqFtl_same n0 a_x a6 q0.length q0.length q0.length q0 am_x am6 z0.length z0.length z0.length z0 o0 s0 _ (by exact HXS.out.squares) (by exact HV6.out.squares) (by omega) (by omega) hfit (by exact HXS.out.places) (by exact HU6.out.places) (by omega) (by omega) hfm).mono ?_; rintro e v7 ⟨rfl, b7⟩; have HB7 := hide (below_here HB6.out b7); clear b7))
        all_goals
          go_wp2_with fail
          go_meet
          exact ⟨rfl, HB7.out⟩
      clear c0 c1 c2 c3 c4 p0 p1 p2 p3 d0 d1 d2 d3 d4 HXd HSd HPd
      obtain ⟨rfl, hB⟩ := hcut
      obtain ⟨w7, hn⟩ : ∃ w7, w7 = wc := ⟨_, rfl⟩
      subst hn
      have hs_w7 := hB.size
      have HN := hide (HBX.out.on hB)
      clear HBX
      have HBX := HN
      clear HN
      have HN := hide (HV_w.out.on hB)
      clear HV_w
      have HV_w := HN
      clear HN
      have HN := hide (block_on HX.out hB)
      clear HX
      have HX := HN
      clear HN
      have HN := hide (HXF.out.later hB HXF.out.1)
      clear HXF
      have HXF := HN
      clear HN
      have HN := hide (HV_g.out.on hB)
      clear HV_g
      have HV_g := HN
      clear HN
      clear hB
      obtain ⟨d0, d1, d2, d3, d4⟩ := five_cells HX.out
      go_wp2_with fail
      refine (markFtl_own n0 a_x q0.length q0.length q0 am_x z0.length z0.length z0 o0 s0 w7 HXF.out rfl rfl hfit hfm).mono ?_
      rintro e w8 ⟨rfl, _, sm⟩
      clear d0 d1 d2 d3 d4
      have hs_w8 := sm.size
      have hb9 := HBX.out.size
      have hgB := HV_g.out.atB
      have hgL := HV_g.out.atL
      clear HX HXF
      have HN := hide (HBX.out.aside sm (by omega))
      clear HBX
      have HBX := HN
      clear HN
      have HN := hide (HV_w.out.aside sm (.inl (by omega)) (.inr (by omega)))
      clear HV_w
      have HV_w := HN
      clear HN
      have HN := hide (HV_g.out.aside sm (.inr (by omega)) (.inl (by omega)))
      clear HV_g
      have HV_g := HN
      clear HN
      clear sm
      obtain ⟨t1, ht⟩ : ∃ t1, t1 = 1 + lens q0 + 2 * q0.length + 2 * z0.length := ⟨_, rfl⟩
      rw [← ht]
      have ht0 : decide ((t1 : Int) < 0) = false := by simp
      clear ht
      obtain ⟨y0, y1⟩ := HV_g.out.cells
      obtain ⟨u0, u1⟩ := HV_w.out.cells
      go_wp2_with fail
      refine (eqChip_same Z a_g a_w Q.length c_g c_w Q w8 HV_g.out.squares HV_w.out.squares HV_g.out.hi_le HV_w.out.hi_le hfit2).mono ?_
      rintro e w9 ⟨rfl, bn⟩
      have hs_w9 := bn.size
      clear y0 y1 u0 u1
      have HN := hide (HBX.out.on bn)
      clear HBX
      have HBX := HN
      clear HN
      have HN := hide (HV_w.out.on bn)
      clear HV_w
      have HV_w := HN
      clear HN
      have HN := hide (HV_g.out.on bn)
      clear HV_g
      have HV_g := HN
      clear HN
      clear bn
      obtain ⟨y0, y1⟩ := HV_g.out.cells
      have hga := HV_g.out.apart
      go_wp2_with fail
      refine (markChip_ans Z a_g Q.length c_g Q w9 HV_g.out.ans hfit2).mono ?_
      rintro e w10 ⟨rfl, hmk, sm⟩
      clear y0 y1
      have hs_w10 := sm.size
      have hb10 := HBX.out.size
      have HGV : Hid (w10.heap[b_g]? = some (.cells #[.int .i64 Z, .slice a_g Q.length c_g] 26)) := (sm.block _ HV_g.out.lt hga).trans HV_g.out.var
      have HMK := hide hmk
      clear HV_g hmk
      have HN := hide (HBX.out.aside sm (by omega))
      clear HBX
      have HBX := HN
      clear HN
      have HN := hide (HV_w.out.aside sm (.inl (by omega)) (.inr (by omega)))
      clear HV_w
      have HV_w := HN
      clear HN
      clear sm
      obtain ⟨t2, ht⟩ : ∃ t2, t2 = 1 + lens Q + 2 * Q.length := ⟨_, rfl⟩
      have HT2 := hide ht
      rw [← ht]
      have ht2 : decide ((t2 : Int) < 0) = false := by simp
      clear ht
      obtain ⟨y0, y1⟩ := two_cells HGV.out
      go_wp2_with fail
      refine (heldChip_any Z a_g Q.length c_g Q w10 HMK.out.squares HMK.out.1 hfit2).mono ?_
      rintro e w11 ⟨rfl, bn⟩
      clear y0 y1
      rw [← HT2.out]
      have hs_w11 := bn.size
      have HN := hide (HBX.out.on bn)
      clear HBX
      have HBX := HN
      clear HN
      have HN := hide (HV_w.out.on bn)
      clear HV_w
      have HV_w := HN
      clear HN
      have HN := hide (block_on HGV.out bn)
      clear HGV
      have HGV := HN
      clear HN
      have HN := hide (HMK.out.later bn HMK.out.1)
      clear HMK
      have HMK := HN
      clear HN
      clear bn
      have hz11 := HBX.out.size
      have HTC : ∀ w9, Hid (Below w11.heap.size w11 w9 → Calls Tryz.prog 45 #[.agg #[.int .i64 n0, .slice a0 q0.length cap0, .slice am0 z0.length cm0, .int .i64 o0, .int .i64 s0]] w9 fun e w' => ∃ a' am' mid, e = .returned (.agg #[.int .i64 n0, .slice a' q0.length q0.length, .slice am' z0.length z0.length, .int .i64 o0, .int .i64 s0]) ∧ w9.heap.size ≤ mid ∧ mid ≤ w'.heap.size ∧ OwnSquares w9.heap.size mid w' a' q0.length q0 ∧ OwnPlaces mid w'.heap.size w' am' z0.length z0 ∧ Below w9.heap.size w9 w') := fun w9 h9 => toFtl_any n0 a0 q0.length cap0 q0 am0 z0.length cm0 z0 o0 s0 w9 (HSQ.out.later (below_here HBX.out.below h9) (Nat.le_refl _)) (below_here HBX.out.below h9).size hfit (HPL.out.later (below_here HBX.out.below h9) (Nat.le_refl _)) (below_here HBX.out.below h9).size hfm
      have P0 : Below w11.heap.size w11 w11 := Below.refl _ _
      have P1 : Below w11.heap.size w11 w11.drew := (Below.refl _ _).drew
      have P2 : Below w11.heap.size w11 (w11.alloc zC).drew := ((Below.refl _ _).alloc (Nat.le_refl _) zC).drew
      have P3 : Below w11.heap.size w11 (w11.alloc zC) := (Below.refl _ _).alloc (Nat.le_refl _) zC
      have V1 : (w11.alloc zC).drew.heap[w11.heap.size]? = some zC := heap_new w11 zC
      have HK : ∀ w9, Hid (Below w11.heap.size w11 w9 → w9.cell? ⟨w.heap.size, 0, none⟩ = some (.int .i64 n0) ∧ w9.cell? ⟨w.heap.size, 1, none⟩ = some (.slice a0 q0.length cap0) ∧ w9.cell? ⟨w.heap.size, 2, none⟩ = some (.slice am0 z0.length cm0) ∧ w9.cell? ⟨w.heap.size, 3, none⟩ = some (.int .i64 o0) ∧ w9.cell? ⟨w.heap.size, 4, none⟩ = some (.int .i64 s0) ∧ w9.cell? ⟨w.heap.size + 1, 0, none⟩ = some (.int .i64 k1) ∧ w9.cell? ⟨w.heap.size + 1, 1, none⟩ = some (.int .i64 a1) ∧ w9.cell? ⟨w.heap.size + 1, 2, none⟩ = some (.int .i64 s1) ∧ w9.cell? ⟨w.heap.size + 1, 3, none⟩ = some (.string x1)) := fun w9 h9 => (HBX.out.on h9).cells
      obtain ⟨c0, c1, c2, c3, c4, p0, p1, p2, p3⟩ := HBX.out.cells
      go_upto_region 27 with fail
      go_cut [16] (fun p wx => ∃ b lo hi a c, p = .pointer (some ⟨b, 0, none⟩) ∧ VarC w11.heap.size b lo hi Z Q a c wx ∧ Below w11.heap.size w11 wx)
      case first =>
        go_region_held3 (fun w9 => w9.cell? ⟨w.heap.size, 0, none⟩ = some (.int .i64 n0) ∧ w9.cell? ⟨w.heap.size, 1, none⟩ = some (.slice a0 q0.length cap0) ∧ w9.cell? ⟨w.heap.size, 2, none⟩ = some (.slice am0 z0.length cm0) ∧ w9.cell? ⟨w.heap.size, 3, none⟩ = some (.int .i64 o0) ∧ w9.cell? ⟨w.heap.size, 4, none⟩ = some (.int .i64 s0) ∧ w9.cell? ⟨w.heap.size + 1, 0, none⟩ = some (.int .i64 k1) ∧ w9.cell? ⟨w.heap.size + 1, 1, none⟩ = some (.int .i64 a1) ∧ w9.cell? ⟨w.heap.size + 1, 2, none⟩ = some (.int .i64 s1) ∧ w9.cell? ⟨w.heap.size + 1, 3, none⟩ = some (.string x1))
          (first | with_reducible exact (HK _).out P0 | with_reducible exact (HK _).out P1 | with_reducible exact (HK _).out P2 | with_reducible exact (HK _).out P3 | with_reducible exact (HK _).out B2.out | with_reducible exact (HK _).out (B2.out.alloc S2 zC) | with_reducible exact (HK _).out B3.out | with_reducible exact (HK _).out (B3.out.alloc (Nat.le_trans S2 S3) zC) | with_reducible exact (HK _).out B4.out | with_reducible exact (HK _).out (B4.out.alloc (Nat.le_trans S2 (Nat.le_trans S3 S4)) _) | with_reducible exact (HK _).out (store_below B4.out (Nat.le_refl _) _ _) | with_reducible exact (HK _).out (set1_below B4.out (Nat.le_refl _) _) | with_reducible exact (HK _).out (store_below B4.out S2 _ _) | with_reducible exact (HK _).out (set1_below B4.out S2 _) | with_reducible exact (HK _).out (store_below B4.out (Nat.le_trans S2 S3) _ _) | with_reducible exact (HK _).out (set1_below B4.out (Nat.le_trans S2 S3) _) | fail)
          (first
          | (go_at_call 45; refine ((HTC _).out (by first | with_reducible exact P1 | with_reducible exact P2)).mono ?_; rintro e v2 ⟨a2, am2, mid2, rfl, m1, m2, o2, p2', b2⟩; have B2 : Hid (Below w11.heap.size w11 v2) := (by first | with_reducible exact hide (below_here P1 b2) | with_reducible exact hide (below_here P2 b2)); have O2 : Hid (Squares 0 v2.heap.size v2 a2 q0.length q0) := squares_wide o2.squares (Nat.zero_le _) m2 (Nat.le_refl _); have Q2 : Hid (Places 0 v2.heap.size v2 am2 z0.length z0) := places_wide p2'.places (Nat.zero_le _) (Nat.le_refl _) (Nat.le_refl _); have S2 := B2.out.size; first | (have VA2 : Hid (v2.heap[w11.heap.size]? = some zC) := (by with_reducible exact hide (block_on V1 b2)); have VZ2 : w11.heap.size < v2.heap.size := by have := (Array.getElem?_eq_some_iff.1 VA2.out).1; omega) | skip; clear b2 o2 p2' m1 m2)
          | (go_at_call 54; refine (toPage_any k1 a1 s1 x1 _).mono ?_; rintro e v3 ⟨rfl, b3⟩; have B23 : Hid (Below v2.heap.size v2 v3) := (by first | with_reducible exact hide b3 | with_reducible exact hide (below_here ((Below.refl v2.heap.size v2).alloc (Nat.le_refl _) zC) b3)); have B3 : Hid (Below w11.heap.size w11 v3) := below_here B2.out B23.out; have O3 : Hid (Squares 0 v2.heap.size v3 a2 q0.length q0) := O2.out.later B23.out (Nat.le_refl _); have Q3 : Hid (Places 0 v2.heap.size v3 am2 z0.length z0) := Q2.out.later B23.out (Nat.le_refl _); have S3 := B23.out.size; first | (have VA3 : Hid (v3.heap[w11.heap.size]? = some zC) := block_on VA2.out B23.out) | (have VB3 : Hid (v3.heap[v2.heap.size]? = some zC) := (by with_reducible exact hide (block_on (heap_new v2 zC) b3)); have VZ3 : v2.heap.size < v3.heap.size := by have := (Array.getElem?_eq_some_iff.1 VB3.out).1; omega) | skip; clear b3)
          | (go_at_call 24; refine ((HID _ a2 am2 _ _ _ _).out (by first | with_reducible exact below_here HBX.out.below B3.out | with_reducible exact below_here HBX.out.below (B3.out.alloc (Nat.le_trans S2 S3) zC)) (by first | with_reducible exact O3.out | with_reducible exact O3.out.later ((Below.refl v3.heap.size v3).alloc (Nat.le_refl _) zC) S3) (by first | with_reducible exact S3 | exact Nat.le_trans S3 (by simp)) (by first | with_reducible exact Q3.out | with_reducible exact Q3.out.later ((Below.refl v3.heap.size v3).alloc (Nat.le_refl _) zC) S3) (by first | with_reducible exact S3 | exact Nat.le_trans S3 (by simp))).mono ?_; rintro e v4 ⟨a4, k4, rfl, q4, b4⟩; have B34 : Hid (Below v3.heap.size v3 v4) := (by first | with_reducible exact hide b4 | with_reducible exact hide (below_here ((Below.refl v3.heap.size v3).alloc (Nat.le_refl _) zC) b4)); have B4 : Hid (Below w11.heap.size w11 v4) := below_here B3.out B34.out; have S4 := B34.out.size; have Q4 := hide q4; first | (have VA4 : Hid (v4.heap[w11.heap.size]? = some zC) := block_on VA3.out B34.out; obtain ⟨y0, y1⟩ := two_cells VA4.out; have f0 := four_frozen VA4.out 0; have f1 := four_frozen VA4.out 1) | (have VB4 : Hid (v4.heap[v2.heap.size]? = some zC) := block_on VB3.out B34.out; obtain ⟨y0, y1⟩ := two_cells VB4.out; have f0 := four_frozen VB4.out 0; have f1 := four_frozen VB4.out 1) | (have VC4 : Hid (v4.heap[v3.heap.size]? = some zC) := (by with_reducible exact hide (block_on (heap_new v3 zC) b4)); obtain ⟨y0, y1⟩ := two_cells VC4.out; have f0 := four_frozen VC4.out 0; have f1 := four_frozen VC4.out 1) | skip; clear b4 q4))
        all_goals
          go_wp2_with fail
          go_meet
          first
            | exact ⟨w11.heap.size, v3.heap.size, v4.heap.size, a4, k4, rfl, varC_store VA4.out Q4.out (Nat.le_refl _) (by omega) (by omega), store_below B4.out (Nat.le_refl _) _ _⟩
            | exact ⟨v2.heap.size, v3.heap.size, v4.heap.size, a4, k4, rfl, varC_store VB4.out Q4.out (by omega) (by omega) (by omega), store_below B4.out (by omega) _ _⟩
            | exact ⟨v3.heap.size, (v3.alloc zC).heap.size, v4.heap.size, a4, k4, rfl, varC_store (w1 := v3.alloc zC) VC4.out Q4.out (by omega) (by simp) (by simp; omega), store_below B4.out (by omega) _ _⟩
            | exact ⟨v4.heap.size, v3.heap.size, v4.heap.size, a4, k4, rfl, varC_new Q4.out (by omega) S4, B4.out.alloc (by omega) _⟩
      clear c0 c1 c2 c3 c4 p0 p1 p2 p3 HTC HK P0 P1 P2 P3 V1
      obtain ⟨b_h, l_h, h_h, a_h, c_h, rfl, hV, hB⟩ := hcut
      have HV_h := hide hV
      clear hV
      obtain ⟨w12, hn⟩ : ∃ w12, w12 = wc := ⟨_, rfl⟩
      subst hn
      have hs_w12 := hB.size
      have HN := hide (HBX.out.on hB)
      clear HBX
      have HBX := HN
      clear HN
      have HN := hide (HV_w.out.on hB)
      clear HV_w
      have HV_w := HN
      clear HN
      have HN := hide (block_on HGV.out hB)
      clear HGV
      have HGV := HN
      clear HN
      have HN := hide (HMK.out.later hB HMK.out.1)
      clear HMK
      have HMK := HN
      clear HN
      clear hB
      obtain ⟨y0, y1⟩ := HV_h.out.cells
      obtain ⟨u0, u1⟩ := HV_w.out.cells
      go_wp2_with fail
      refine (eqChip_same Z a_h a_w Q.length c_h c_w Q w12 HV_h.out.squares HV_w.out.squares HV_h.out.hi_le HV_w.out.hi_le hfit2).mono ?_
      rintro e w13 ⟨rfl, bn⟩
      have hs_w13 := bn.size
      clear y0 y1 u0 u1
      have HN := hide (HBX.out.on bn)
      clear HBX
      have HBX := HN
      clear HN
      have HN := hide (HV_w.out.on bn)
      clear HV_w
      have HV_w := HN
      clear HN
      have HN := hide (block_on HGV.out bn)
      clear HGV
      have HGV := HN
      clear HN
      have HN := hide (HMK.out.later bn HMK.out.1)
      clear HMK
      have HMK := HN
      clear HN
      have HN := hide (HV_h.out.on bn)
      clear HV_h
      have HV_h := HN
      clear HN
      clear bn
      clear HV_w HV_h
      obtain ⟨y0, y1⟩ := two_cells HGV.out
      go_wp2_with fail
      refine (heldChip_any Z a_g Q.length c_g Q w13 HMK.out.squares HMK.out.1 hfit2).mono ?_
      rintro e w14 ⟨rfl, bn⟩
      clear y0 y1
      rw [← HT2.out]
      have hs_w14 := bn.size
      have HN := hide (HBX.out.on bn)
      clear HBX
      have HBX := HN
      clear HN
      have HN := hide (block_on HGV.out bn)
      clear HGV
      have HGV := HN
      clear HN
      have HN := hide (HMK.out.later bn HMK.out.1)
      clear HMK
      have HMK := HN
      clear HN
      clear bn
      go_wp2_with fail
      go_ret
      exact ⟨rfl, HBX.out.below⟩
    · go_wp2_with fail
      refine (szPage_over k1 a1 s1 x1 r w1 (by omega) ⟨h0, by omega⟩ HXM.out).mono ?_
      rintro e w2 ⟨rfl, b2⟩
      have HN := hide (HBX.out.on b2)
      clear HBX
      have HBX := HN
      clear HN
      go_wp2_with fail
      go_ret
      exact ⟨rfl, HBX.out.below⟩
  · clear hr
    go_wp2_with fail
    go_ret
    exact ⟨rfl, HBX.out.below⟩
end Go.Proofs.YtoocbagnfkgbfaaGreatDoor.fnExactBroken
