/- For every two Ftls the law FnExactSame returns true and leaves its arguments as they were; the package-level variables that its row lists read as they are laid. -/
import Derived.Test.YtoocbagnfkgbfaaGreatDoorRows
import Derived.Test.YtoocbagnfkgbfaaGreatDoorSChipOwn2
import Derived.Test.YtoocbagnfkgbfaaGreatDoorSFtlOwnP
import Derived.Test.YtoocbagnfkgbfaaGreatDoorSSameI
import Derived.Test.YtoocbagnfkgbfaaGreatDoorSLyLaid
import Derived.Deep.RegionWith
import Derived.Deep.DeepCutAuto
import Derived.Deep.RegionHeld3
import Derived.WalkKit
import Derived.ProofKit
import Derived.OpenShut
import Derived.ShutString
import Derived.ChangeOld
import Derived.Below
namespace Go.Proofs.YtoocbagnfkgbfaaGreatDoor.fnExactSame
open Go.ChangeShapes Go.WideShapes Go.ChangeAt Go.RowKit
open Go.ChangeMaps (open_string shut_string)
set_option linter.unusedVariables false

theorem own : ownKnob Tryz.prog.godebug = none := by kernel_rfl
theorem laidOut : laidOutB Tryz.prog = true := by kernel_rfl

set_option maxHeartbeats 8000000 in
set_option maxRecDepth 100000 in

theorem walk (n0 : Int) (a0 : Option Addr) (len0 cap0 : Nat) (q0 : List Sq) (am0 : Option Addr) (lm0 cm0 : Nat) (z0 : List Pl) (o0 s0 : Int) (n1 : Int) (a1 : Option Addr) (len1 cap1 : Nat) (q1 : List Sq) (am1 : Option Addr) (lm1 cm1 : Nat) (z1 : List Pl) (o1 s1 : Int) (w : World) (w0 : (Lit.int .i64 n0).wf = true ∧ Squares 0 w.heap.size w a0 len0 q0 ∧ (∀ x ∈ q0, sqFits x) ∧ len0 ≤ maxLen ∧ Places 0 w.heap.size w am0 lm0 z0 ∧ (∀ x ∈ z0, plFits x) ∧ lm0 ≤ maxLen ∧ (Lit.int .i64 o0).wf = true ∧ (Lit.int .i64 s0).wf = true) (w1 : (Lit.int .i64 n1).wf = true ∧ Squares 0 w.heap.size w a1 len1 q1 ∧ (∀ x ∈ q1, sqFits x) ∧ len1 ≤ maxLen ∧ Places 0 w.heap.size w am1 lm1 z1 ∧ (∀ x ∈ z1, plFits x) ∧ lm1 ≤ maxLen ∧ (Lit.int .i64 o1).wf = true ∧ (Lit.int .i64 s1).wf = true) (hT : Tab w) {aB aL aS aC aF : Addr} (E : Errs w aB aL aS aC aF) :
    Calls Tryz.prog 10 #[.agg #[.int .i64 n0, .slice a0 len0 cap0, .slice am0 lm0 cm0, .int .i64 o0, .int .i64 s0], .agg #[.int .i64 n1, .slice a1 len1 cap1, .slice am1 lm1 cm1, .int .i64 o1, .int .i64 s1]] w fun e w' => e = .returned (.bool true) ∧ Below w.heap.size w w' := by
  obtain ⟨_, hsq0, hfi0, hm0, hpl0, _, hml0, _, _⟩ := w0
  obtain ⟨_, hsq1, hfi1, hm1, hpl1, _, hml1, _, _⟩ := w1
  have hla0 : q0.length = len0 := hsq0.1
  subst hla0
  have hlb0 : z0.length = lm0 := hpl0.1
  subst hlb0
  have hla1 : q1.length = len1 := hsq1.1
  subst hla1
  have hlb1 : z1.length = lm1 := hpl1.1
  subst hlb1
  obtain ⟨wA, hwA⟩ : ∃ wA, wA = (w.alloc (.cells #[.int .i64 n0, .slice a0 q0.length cap0, .slice am0 z0.length cm0, .int .i64 o0, .int .i64 s0] 72)).alloc (.cells #[.int .i64 n1, .slice a1 q1.length cap1, .slice am1 z1.length cm1, .int .i64 o1, .int .i64 s1] 72) := ⟨_, rfl⟩
  have hzA : wA.heap.size = w.heap.size + 1 + 1 := by rw [hwA]; simp
  have HBX : Hid (BoxFF w n0 a0 q0.length cap0 am0 z0.length cm0 o0 s0 n1 a1 q1.length cap1 am1 z1.length cm1 o1 s1 wA) := by rw [hwA]; exact ⟨heap_old (heap_new _ _), heap_at (by simp), ((Below.refl _ _).alloc (Nat.le_refl _) _).alloc (by simp) _⟩
  have HT := hide hT
  have HE := hide E
  have HSQ0 := hide hsq0
  have HF0 := hide hfi0
  have HM0 := hide hm0
  have HPL0 := hide hpl0
  have HML0 := hide hml0
  have HSQ1 := hide hsq1
  have HF1 := hide hfi1
  have HM1 := hide hm1
  have HPL1 := hide hpl1
  have HML1 := hide hml1
  clear hT E hsq0 hfi0 hm0 hpl0 hml0 hsq1 hfi1 hm1 hpl1 hml1
  obtain ⟨⟨c0, c1, c2, c3, c4⟩, ⟨d0, d1, d2, d3, d4⟩⟩ := HBX.out.cells
  go_enter Tryz.func10, Tryz.ntmps10
  go_upto_region 1 with fail
  rw [← hwA]
  clear hwA
  go_wp2_with fail
  refine (szFtl_any n0 a0 q0.length cap0 q0 am0 z0.length cm0 o0 s0 1048576 wA (HSQ0.out.later HBX.out.below (Nat.le_refl _)) HBX.out.below.size HM0.out HF0.out HML0.out (by omega) (by omega)).mono ?_
  rintro e w1 ⟨⟨r, rfl, r1, r2, hr⟩, b1⟩
  have HN := hide (HBX.out.on b1)
  clear HBX
  have HBX := HN
  clear HN
  clear b1 c0 c1 c2 c3 c4 d0 d1 d2 d3 d4
  by_cases h0 : 0 ≤ r
  · have hfit0 : q0.length + weight q0 ≤ 1048576 := by have := hr h0; omega
    have hfm0 : z0.length ≤ 1048576 := by have := hr h0; omega
    clear hr
    obtain ⟨⟨c0, c1, c2, c3, c4⟩, ⟨d0, d1, d2, d3, d4⟩⟩ := HBX.out.cells
    go_wp2_with fail
    refine (szFtl_any n1 a1 q1.length cap1 q1 am1 z1.length cm1 o1 s1 r w1 (HSQ1.out.later HBX.out.below (Nat.le_refl _)) HBX.out.below.size HM1.out HF1.out HML1.out (by omega) (by omega)).mono ?_
    rintro e w2 ⟨⟨r', rfl, r1', r2', hr'⟩, b2⟩
    have HN := hide (HBX.out.on b2)
    clear HBX
    have HBX := HN
    clear HN
    clear b2 c0 c1 c2 c3 c4 d0 d1 d2 d3 d4
    by_cases h1 : 0 ≤ r'
    · have hfit1 : q1.length + weight q1 ≤ 1048576 := by have := hr' h1; omega
      have hfm1 : z1.length ≤ 1048576 := by have := hr' h1; omega
      clear hr'
      obtain ⟨SB, hSB⟩ : ∃ SB, SB = sameF ⟨n0, q0, z0, o0, s0⟩ ⟨n1, q1, z1, o1, s1⟩ := ⟨_, rfl⟩
      have HSB := hide hSB
      clear hSB
      have hb2 := HBX.out.size
      have HTC0 : ∀ w9, Hid (Below w2.heap.size w2 w9 → Calls Tryz.prog 45 #[.agg #[.int .i64 n0, .slice a0 q0.length cap0, .slice am0 z0.length cm0, .int .i64 o0, .int .i64 s0]] w9 fun e w' => ∃ a' am' mid, e = .returned (.agg #[.int .i64 n0, .slice a' q0.length q0.length, .slice am' z0.length z0.length, .int .i64 o0, .int .i64 s0]) ∧ w9.heap.size ≤ mid ∧ mid ≤ w'.heap.size ∧ OwnSquares w9.heap.size mid w' a' q0.length q0 ∧ OwnPlaces mid w'.heap.size w' am' z0.length z0 ∧ Below w9.heap.size w9 w') := fun w9 h9 => toFtl_any n0 a0 q0.length cap0 q0 am0 z0.length cm0 z0 o0 s0 w9 (HSQ0.out.later (below_here HBX.out.below h9) (Nat.le_refl _)) (below_here HBX.out.below h9).size hfit0 (HPL0.out.later (below_here HBX.out.below h9) (Nat.le_refl _)) (below_here HBX.out.below h9).size hfm0
      have HTC1 : ∀ w9, Hid (Below w2.heap.size w2 w9 → Calls Tryz.prog 45 #[.agg #[.int .i64 n1, .slice a1 q1.length cap1, .slice am1 z1.length cm1, .int .i64 o1, .int .i64 s1]] w9 fun e w' => ∃ a' am' mid, e = .returned (.agg #[.int .i64 n1, .slice a' q1.length q1.length, .slice am' z1.length z1.length, .int .i64 o1, .int .i64 s1]) ∧ w9.heap.size ≤ mid ∧ mid ≤ w'.heap.size ∧ OwnSquares w9.heap.size mid w' a' q1.length q1 ∧ OwnPlaces mid w'.heap.size w' am' z1.length z1 ∧ Below w9.heap.size w9 w') := fun w9 h9 => toFtl_any n1 a1 q1.length cap1 q1 am1 z1.length cm1 z1 o1 s1 w9 (HSQ1.out.later (below_here HBX.out.below h9) (Nat.le_refl _)) (below_here HBX.out.below h9).size hfit1 (HPL1.out.later (below_here HBX.out.below h9) (Nat.le_refl _)) (below_here HBX.out.below h9).size hfm1
      have P0 : Below w2.heap.size w2 w2 := Below.refl _ _
      have P1 : Below w2.heap.size w2 w2.drew := (Below.refl _ _).drew
      have HK : ∀ w9, Hid (Below w2.heap.size w2 w9 → w9.cell? ⟨w.heap.size, 0, none⟩ = some (.int .i64 n0) ∧ w9.cell? ⟨w.heap.size, 1, none⟩ = some (.slice a0 q0.length cap0) ∧ w9.cell? ⟨w.heap.size, 2, none⟩ = some (.slice am0 z0.length cm0) ∧ w9.cell? ⟨w.heap.size, 3, none⟩ = some (.int .i64 o0) ∧ w9.cell? ⟨w.heap.size, 4, none⟩ = some (.int .i64 s0) ∧ w9.cell? ⟨w.heap.size + 1, 0, none⟩ = some (.int .i64 n1) ∧ w9.cell? ⟨w.heap.size + 1, 1, none⟩ = some (.slice a1 q1.length cap1) ∧ w9.cell? ⟨w.heap.size + 1, 2, none⟩ = some (.slice am1 z1.length cm1) ∧ w9.cell? ⟨w.heap.size + 1, 3, none⟩ = some (.int .i64 o1) ∧ w9.cell? ⟨w.heap.size + 1, 4, none⟩ = some (.int .i64 s1)) := fun w9 h9 => by
        obtain ⟨⟨c0, c1, c2, c3, c4⟩, ⟨d0, d1, d2, d3, d4⟩⟩ := (HBX.out.on h9).cells
        exact ⟨c0, c1, c2, c3, c4, d0, d1, d2, d3, d4⟩
      obtain ⟨⟨c0, c1, c2, c3, c4⟩, ⟨d0, d1, d2, d3, d4⟩⟩ := HBX.out.cells
      go_upto_region 8 with fail
      go_cut [6] (fun p wx => p = .bool SB ∧ Below w2.heap.size w2 wx)
      case first =>
        go_region_held3 (fun w9 => w9.cell? ⟨w.heap.size, 0, none⟩ = some (.int .i64 n0) ∧ w9.cell? ⟨w.heap.size, 1, none⟩ = some (.slice a0 q0.length cap0) ∧ w9.cell? ⟨w.heap.size, 2, none⟩ = some (.slice am0 z0.length cm0) ∧ w9.cell? ⟨w.heap.size, 3, none⟩ = some (.int .i64 o0) ∧ w9.cell? ⟨w.heap.size, 4, none⟩ = some (.int .i64 s0) ∧ w9.cell? ⟨w.heap.size + 1, 0, none⟩ = some (.int .i64 n1) ∧ w9.cell? ⟨w.heap.size + 1, 1, none⟩ = some (.slice a1 q1.length cap1) ∧ w9.cell? ⟨w.heap.size + 1, 2, none⟩ = some (.slice am1 z1.length cm1) ∧ w9.cell? ⟨w.heap.size + 1, 3, none⟩ = some (.int .i64 o1) ∧ w9.cell? ⟨w.heap.size + 1, 4, none⟩ = some (.int .i64 s1))
          (first | with_reducible exact (HK _).out P0 | with_reducible exact (HK _).out P1 | with_reducible exact (HK _).out B2.out | with_reducible exact (HK _).out B3.out | with_reducible exact (HK _).out B4.out | fail)
          (first
          | (go_at_call_of 45 (Value.agg #[.int .i64 n0, .slice a0 q0.length cap0, .slice am0 z0.length cm0, .int .i64 o0, .int .i64 s0]); refine ((HTC0 _).out (by first | with_reducible exact P1 | exact P1)).mono ?_; rintro e v2 ⟨a2, am2, mid2, rfl, m1, m2, o2, p2, b2⟩; have B2 : Hid (Below w2.heap.size w2 v2) := below_here P1 b2; have O2 := hide (squares_wide o2.squares (Nat.zero_le _) m2 (Nat.le_refl _)); have Q2 := hide (places_wide p2.places (Nat.zero_le _) (Nat.le_refl _) (Nat.le_refl _)); have S2 := B2.out.size; clear b2 o2 p2 m1 m2)
          | (go_at_call_of 45 (Value.agg #[.int .i64 n1, .slice a1 q1.length cap1, .slice am1 z1.length cm1, .int .i64 o1, .int .i64 s1]); refine ((HTC1 _).out B2.out).mono ?_; rintro e v3 ⟨a3, am3, mid3, rfl, m1, m2, o3, p3, b3⟩; have B3 : Hid (Below w2.heap.size w2 v3) := below_here B2.out b3; have O3 := hide (squares_wide o3.squares (Nat.zero_le _) m2 (Nat.le_refl _)); have Q3 := hide (places_wide p3.places (Nat.zero_le _) (Nat.le_refl _) (Nat.le_refl _)); have OO3 := hide (O2.out.later b3 (Nat.le_refl _)); have QQ3 := hide (Q2.out.later b3 (Nat.le_refl _)); have S3 := b3.size; clear b3 o3 p3 m1 m2)
          | (go_at_call 33; refine (specSame_any ⟨n0, q0, z0, o0, s0⟩ ⟨n1, q1, z1, o1, s1⟩ a2 q0.length q0.length am2 z0.length z0.length a3 q1.length q1.length am3 z1.length z1.length v3 OO3.out S3 (by show q0.length ≤ _; omega) HF0.out QQ3.out S3 (by show z0.length ≤ _; omega) O3.out (Nat.le_refl _) (by show q1.length ≤ _; omega) HF1.out Q3.out (Nat.le_refl _) (by show z1.length ≤ _; omega)).mono ?_; rintro e v4 ⟨rfl, b4⟩; have B4 : Hid (Below w2.heap.size w2 v4) := below_here B3.out b4; clear b4))
        all_goals
          go_wp2_with fail
          go_meet
          exact ⟨by rw [HSB.out], B4.out⟩
      clear c0 c1 c2 c3 c4 d0 d1 d2 d3 d4 HTC0 HTC1 HK P0 P1
      obtain ⟨rfl, hB⟩ := hcut
      obtain ⟨w3, hn⟩ : ∃ w3, w3 = wc := ⟨_, rfl⟩
      subst hn
      have hs3 := hB.size
      have HN := hide (HBX.out.on hB)
      clear HBX
      have HBX := HN
      clear HN
      clear hB
      obtain ⟨⟨c0, c1, c2, c3, c4⟩, ⟨d0, d1, d2, d3, d4⟩⟩ := HBX.out.cells
      go_wp2_with fail
      refine (toFtl_any n0 a0 q0.length cap0 q0 am0 z0.length cm0 z0 o0 s0 w3 (HSQ0.out.later HBX.out.below (Nat.le_refl _)) HBX.out.below.size hfit0 (HPL0.out.later HBX.out.below (Nat.le_refl _)) HBX.out.below.size hfm0).mono ?_
      rintro e w4 ⟨a_X, am_X, mid, rfl, m1, m2, ot, pt, bt⟩
      clear c0 c1 c2 c3 c4 d0 d1 d2 d3 d4
      obtain ⟨wX, hwV⟩ : ∃ wX, wX = w4.alloc (.cells #[.int .i64 n0, .slice a_X q0.length q0.length, .slice am_X z0.length z0.length, .int .i64 o0, .int .i64 s0] 29) := ⟨_, rfl⟩
      have hzwX : w4.heap.size < wX.heap.size := by rw [hwV]; simp
      have HV4 : Hid (Below w4.heap.size w4 wX) := by rw [hwV]; exact (Below.refl _ _).alloc (Nat.le_refl _) _
      have HX : Hid (wX.heap[w4.heap.size]? = some (.cells #[.int .i64 n0, .slice a_X q0.length q0.length, .slice am_X z0.length z0.length, .int .i64 o0, .int .i64 s0] 29)) := by rw [hwV]; exact heap_new _ _
      have HXF := hide (own_of_to (ot.later HV4.out m2) (pt.later HV4.out (Nat.le_refl _)) m1 m2 hzwX)
      have hsw4 := bt.size
      have B_ := below_here bt HV4.out
      have HN := hide (HBX.out.on B_)
      clear HBX
      have HBX := HN
      clear HN
      clear B_ bt ot pt m1 m2 HV4
      go_upto_region 10 with fail
      rw [← hwV]
      clear hwV
      obtain ⟨⟨c0, c1, c2, c3, c4⟩, ⟨d0, d1, d2, d3, d4⟩⟩ := HBX.out.cells
      go_wp2_with fail
      refine (toFtl_any n1 a1 q1.length cap1 q1 am1 z1.length cm1 z1 o1 s1 wX (HSQ1.out.later HBX.out.below (Nat.le_refl _)) HBX.out.below.size hfit1 (HPL1.out.later HBX.out.below (Nat.le_refl _)) HBX.out.below.size hfm1).mono ?_
      rintro e w5 ⟨a_Y, am_Y, mid, rfl, m1, m2, ot, pt, bt⟩
      clear c0 c1 c2 c3 c4 d0 d1 d2 d3 d4
      obtain ⟨wY, hwV⟩ : ∃ wY, wY = w5.alloc (.cells #[.int .i64 n1, .slice a_Y q1.length q1.length, .slice am_Y z1.length z1.length, .int .i64 o1, .int .i64 s1] 29) := ⟨_, rfl⟩
      have hzwY : w5.heap.size < wY.heap.size := by rw [hwV]; simp
      have HV4 : Hid (Below w5.heap.size w5 wY) := by rw [hwV]; exact (Below.refl _ _).alloc (Nat.le_refl _) _
      have HY : Hid (wY.heap[w5.heap.size]? = some (.cells #[.int .i64 n1, .slice a_Y q1.length q1.length, .slice am_Y z1.length z1.length, .int .i64 o1, .int .i64 s1] 29)) := by rw [hwV]; exact heap_new _ _
      have HYF := hide (own_of_to (ot.later HV4.out m2) (pt.later HV4.out (Nat.le_refl _)) m1 m2 hzwY)
      have hsw5 := bt.size
      have B_ := below_here bt HV4.out
      have HN := hide (HBX.out.on B_)
      clear HBX
      have HBX := HN
      clear HN
      have HN := hide (block_on HX.out B_)
      clear HX
      have HX := HN
      clear HN
      have HN := hide (HXF.out.later B_ HXF.out.1)
      clear HXF
      have HXF := HN
      clear HN
      clear B_ bt ot pt m1 m2 HV4
      go_upto_region 11 with fail
      rw [← hwV]
      clear hwV
      obtain ⟨c0, c1, c2, c3, c4⟩ := five_cells HX.out
      obtain ⟨d0, d1, d2, d3, d4⟩ := five_cells HY.out
      go_wp2_with fail
      refine (implSame_any ⟨n0, q0, z0, o0, s0⟩ ⟨n1, q1, z1, o1, s1⟩ a_X q0.length q0.length am_X z0.length z0.length a_Y q1.length q1.length am_Y z1.length z1.length wY HXF.out.squares HXF.out.1 (by show q0.length ≤ _; omega) HF0.out HXF.out.places HXF.out.1 (by show z0.length ≤ _; omega) HYF.out.squares HYF.out.1 (by show q1.length ≤ _; omega) HF1.out HYF.out.places HYF.out.1 (by show z1.length ≤ _; omega) (Nat.le_refl _) (Nat.le_refl _) (HT.out.here HBX.out.below) (HE.out.here HBX.out.below)).mono ?_
      rintro e w6 ⟨rfl, b6⟩
      clear c0 c1 c2 c3 c4 d0 d1 d2 d3 d4
      have hs6 := b6.size
      have HN := hide (HBX.out.on b6)
      clear HBX
      have HBX := HN
      clear HN
      have HN := hide (block_on HX.out b6)
      clear HX
      have HX := HN
      clear HN
      have HN := hide (HXF.out.later b6 HXF.out.1)
      clear HXF
      have HXF := HN
      clear HN
      have HN := hide (block_on HY.out b6)
      clear HY
      have HY := HN
      clear HN
      have HN := hide (HYF.out.later b6 HYF.out.1)
      clear HYF
      have HYF := HN
      clear HN
      clear b6
      rw [← HSB.out]
      obtain ⟨⟨c0, c1, c2, c3, c4⟩, ⟨d0, d1, d2, d3, d4⟩⟩ := HBX.out.cells
      obtain ⟨x0, x1, x2, x3, x4⟩ := five_cells HX.out
      have HXd := hide (HXF.out.later (Below.refl w6.heap.size w6).drew HXF.out.1)
      have HSd := hide (HSQ0.out.later HBX.out.below (Nat.le_refl _))
      have HPd := hide (HPL0.out.later HBX.out.below (Nat.le_refl _))
      have hwd := HBX.out.below.size
      have hxd := HXF.out.1
      go_upto_region 14 with fail
      go_cut [39] (fun c wx => c = .bool false ∧ Below w6.heap.size w6 wx)
      case first =>
        go_region_with (first
          | (go_at_call 45; refine (toFtl_any n0 a0 q0.length cap0 q0 am0 z0.length cm0 z0 o0 s0 _ (by exact HSd.out) (by show w.heap.size ≤ w6.heap.size; omega) hfit0 (by exact HPd.out) (by show w.heap.size ≤ w6.heap.size; omega) hfm0).mono ?_; rintro e v6 ⟨a6, am6, mid6, rfl, k3, k4, o6, p6, b6⟩; have HX6 := hide (block_on (w := w6.drew) HX.out b6); have HB6 : Hid (Below w6.heap.size w6 v6) := below_here (Below.refl w6.heap.size w6).drew b6; have hs6 : w6.heap.size ≤ v6.heap.size := b6.size; have HXS := hide (HXd.out.later b6 HXd.out.1); have HV6 := hide o6; have HU6 := hide p6; clear o6 p6 b6; obtain ⟨e0, e1, e2, e3, e4⟩ := five_cells HX6.out)
          | (go_at_call 46; refine (eqFtl_same n0 a_X a6 q0.length q0.length q0.length q0 am_X am6 z0.length z0.length z0.length z0 o0 s0 _ (by exact HXS.out.squares) (by exact HV6.out.squares) (by omega) (by omega) hfit0 (by exact HXS.out.places) (by exact HU6.out.places) (by omega) (by omega) hfm0).mono ?_; rintro e v7 ⟨rfl, b7⟩; have HB7 := hide (below_here HB6.out b7); clear b7))
        all_goals
          go_wp2_with fail
          go_meet
          exact ⟨rfl, HB7.out⟩
      clear c0 c1 c2 c3 c4 d0 d1 d2 d3 d4 x0 x1 x2 x3 x4 HXd HSd HPd hwd hxd
      obtain ⟨rfl, hB⟩ := hcut
      obtain ⟨w7, hn⟩ : ∃ w7, w7 = wc := ⟨_, rfl⟩
      subst hn
      have hsw7 := hB.size
      have HN := hide (HBX.out.on hB)
      clear HBX
      have HBX := HN
      clear HN
      have HN := hide (block_on HX.out hB)
      clear HX
      have HX := HN
      clear HN
      have HN := hide (HXF.out.later hB HXF.out.1)
      clear HXF
      have HXF := HN
      clear HN
      have HN := hide (block_on HY.out hB)
      clear HY
      have HY := HN
      clear HN
      have HN := hide (HYF.out.later hB HYF.out.1)
      clear HYF
      have HYF := HN
      clear HN
      clear hB
      clear HX HXF
      obtain ⟨⟨c0, c1, c2, c3, c4⟩, ⟨d0, d1, d2, d3, d4⟩⟩ := HBX.out.cells
      obtain ⟨x0, x1, x2, x3, x4⟩ := five_cells HY.out
      have HXd := hide (HYF.out.later (Below.refl w7.heap.size w7).drew HYF.out.1)
      have HSd := hide (HSQ1.out.later HBX.out.below (Nat.le_refl _))
      have HPd := hide (HPL1.out.later HBX.out.below (Nat.le_refl _))
      have hwd := HBX.out.below.size
      have hxd := HYF.out.1
      go_upto_region 16 with fail
      go_cut [44] (fun c wx => c = .bool false ∧ Below w7.heap.size w7 wx)
      case first =>
        go_region_with (first
          | (go_at_call 45; refine (toFtl_any n1 a1 q1.length cap1 q1 am1 z1.length cm1 z1 o1 s1 _ (by exact HSd.out) (by show w.heap.size ≤ w7.heap.size; omega) hfit1 (by exact HPd.out) (by show w.heap.size ≤ w7.heap.size; omega) hfm1).mono ?_; rintro e v6 ⟨a6, am6, mid6, rfl, k3, k4, o6, p6, b6⟩; have HX6 := hide (block_on (w := w7.drew) HY.out b6); have HB6 : Hid (Below w7.heap.size w7 v6) := below_here (Below.refl w7.heap.size w7).drew b6; have hs6 : w7.heap.size ≤ v6.heap.size := b6.size; have HXS := hide (HXd.out.later b6 HXd.out.1); have HV6 := hide o6; have HU6 := hide p6; clear o6 p6 b6; obtain ⟨e0, e1, e2, e3, e4⟩ := five_cells HX6.out)
          | (go_at_call 46; refine (eqFtl_same n1 a_Y a6 q1.length q1.length q1.length q1 am_Y am6 z1.length z1.length z1.length z1 o1 s1 _ (by exact HXS.out.squares) (by exact HV6.out.squares) (by omega) (by omega) hfit1 (by exact HXS.out.places) (by exact HU6.out.places) (by omega) (by omega) hfm1).mono ?_; rintro e v7 ⟨rfl, b7⟩; have HB7 := hide (below_here HB6.out b7); clear b7))
        all_goals
          go_wp2_with fail
          go_meet
          exact ⟨rfl, HB7.out⟩
      clear c0 c1 c2 c3 c4 d0 d1 d2 d3 d4 x0 x1 x2 x3 x4 HXd HSd HPd hwd hxd
      obtain ⟨rfl, hB⟩ := hcut
      obtain ⟨w8, hn⟩ : ∃ w8, w8 = wc := ⟨_, rfl⟩
      subst hn
      have hsw8 := hB.size
      have HN := hide (HBX.out.on hB)
      clear HBX
      have HBX := HN
      clear HN
      have HN := hide (block_on HY.out hB)
      clear HY
      have HY := HN
      clear HN
      have HN := hide (HYF.out.later hB HYF.out.1)
      clear HYF
      have HYF := HN
      clear HN
      clear hB
      go_wp2_with fail
      go_ret
      exact ⟨rfl, HBX.out.below⟩
    · clear hr'
      go_wp2_with fail
      go_ret
      exact ⟨rfl, HBX.out.below⟩
  · clear hr
    go_wp2_with fail
    go_ret
    exact ⟨rfl, HBX.out.below⟩
end Go.Proofs.YtoocbagnfkgbfaaGreatDoor.fnExactSame
