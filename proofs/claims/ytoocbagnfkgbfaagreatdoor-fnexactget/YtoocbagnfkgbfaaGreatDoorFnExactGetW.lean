/- For every Ftl and every number the law FnExactGet returns true and leaves its arguments as they were; the package-level variables that its row lists read as they are laid. -/
import Derived.Test.YtoocbagnfkgbfaaGreatDoorRows
import Derived.Test.YtoocbagnfkgbfaaGreatDoorSChipOwn2
import Derived.Test.YtoocbagnfkgbfaaGreatDoorSFtlMath
import Derived.Test.YtoocbagnfkgbfaaGreatDoorSFtlImplA
import Derived.Test.YtoocbagnfkgbfaaGreatDoorSLyLaid
import Derived.Deep.RegionWith
import Derived.Deep.DeepCutAuto
import Derived.WalkKit
import Derived.ProofKit
import Derived.OpenShut
import Derived.ShutString
import Derived.ChangeOld
import Derived.Below
namespace Go.Proofs.YtoocbagnfkgbfaaGreatDoor.fnExactGet
open Go.ChangeShapes Go.WideShapes Go.ChangeAt Go.RowKit
open Go.ChangeMaps (open_string shut_string)
set_option linter.unusedVariables false

theorem own : ownKnob Tryz.prog.godebug = none := by kernel_rfl
theorem laidOut : laidOutB Tryz.prog = true := by kernel_rfl

set_option maxHeartbeats 4000000 in

theorem walk (n0 : Int) (a0 : Option Addr) (len0 cap0 : Nat) (q0 : List Sq) (am0 : Option Addr) (lm0 cm0 : Nat) (z0 : List Pl) (o0 s0 : Int) (a1 : Int) (w : World) (w0 : (Lit.int .i64 n0).wf = true ∧ Squares 0 w.heap.size w a0 len0 q0 ∧ (∀ x ∈ q0, sqFits x) ∧ len0 ≤ maxLen ∧ Places 0 w.heap.size w am0 lm0 z0 ∧ (∀ x ∈ z0, plFits x) ∧ lm0 ≤ maxLen ∧ (Lit.int .i64 o0).wf = true ∧ (Lit.int .i64 s0).wf = true) (w1 : (Lit.int .i64 a1).wf = true) (hT : Tab w) {aB aL aS aC aF : Addr} (E : Errs w aB aL aS aC aF) :
    Calls Tryz.prog 7 #[.agg #[.int .i64 n0, .slice a0 len0 cap0, .slice am0 lm0 cm0, .int .i64 o0, .int .i64 s0], .int .i64 a1] w fun e w' => e = .returned (.bool true) ∧ Below w.heap.size w w' := by
  obtain ⟨_, hsq, hfi, hm, hpl, _, hml, _, _⟩ := w0
  obtain ⟨wA, hwA⟩ : ∃ wA, wA = w.alloc (.cells #[.int .i64 n0, .slice a0 len0 cap0, .slice am0 lm0 cm0, .int .i64 o0, .int .i64 s0] 72) := ⟨_, rfl⟩
  have hzA : wA.heap.size = w.heap.size + 1 := by rw [hwA]; simp
  have HBA : Hid (Below w.heap.size w wA) := by rw [hwA]; exact (Below.refl _ _).alloc (Nat.le_refl _) _
  have HO : Hid (wA.heap[w.heap.size]? = some (.cells #[.int .i64 n0, .slice a0 len0 cap0, .slice am0 lm0 cm0, .int .i64 o0, .int .i64 s0] 72)) := by rw [hwA]; exact heap_new _ _
  have HSQ := hide (hsq.later HBA.out (Nat.le_refl _))
  have HPL := hide (hpl.later HBA.out (Nat.le_refl _))
  have HF := hide hfi
  have HM := hide hm
  have HML := hide hml
  have HTA := hide (hT.here HBA.out)
  have HEA := hide (E.here HBA.out)
  clear hsq hfi hm hpl hml hT E
  obtain ⟨c0, c1, c2, c3, c4⟩ := five_cells HO.out
  go_enter Tryz.func7, Tryz.ntmps7
  go_wp2_with fail
  rw [← hwA]
  clear hwA
  refine (szFtl_any n0 a0 len0 cap0 q0 am0 lm0 cm0 o0 s0 1048576 wA HSQ.out (by omega) HM.out HF.out HML.out (by omega) (by omega)).mono ?_
  rintro e w1 ⟨⟨r, rfl, r1, r2, hr⟩, b1⟩
  have HO1 := hide (block_on HO.out b1)
  have HS1 := hide (HSQ.out.later b1 (by omega))
  have HP1 := hide (HPL.out.later b1 (by omega))
  have HB1 := hide (below_here HBA.out b1)
  have HT1 := hide (HTA.out.here b1)
  have HE1 := hide (HEA.out.here b1)
  have hs1 := b1.size
  clear b1 HO HSQ HPL HBA HTA HEA c0 c1 c2 c3 c4
  by_cases h0 : 0 ≤ r
  · have hfit : len0 + weight q0 ≤ 1048576 := by have := hr h0; omega
    have hfm : lm0 ≤ 1048576 := by have := hr h0; omega
    clear hr
    obtain ⟨c0, c1, c2, c3, c4⟩ := five_cells HO1.out
    go_wp2_with fail
    refine (toFtl_any n0 a0 len0 cap0 q0 am0 lm0 cm0 z0 o0 s0 w1 HS1.out (by omega) hfit HP1.out (by omega) hfm).mono ?_
    rintro e w2 ⟨a2, am2, mid2, rfl, k1, k2, o2, p2, b2⟩
    have HO2 := hide (block_on HO1.out b2)
    have HS2 := hide (HS1.out.later b2 (by omega))
    have HP2 := hide (HP1.out.later b2 (by omega))
    have HB2 := hide (below_here HB1.out b2)
    have HT2 := hide (HT1.out.here b2)
    have HE2 := hide (HE1.out.here b2)
    have HW2 := hide o2
    have HQ2 := hide p2
    have hs2 := b2.size
    clear b2 o2 p2 HO1 HS1 HP1 HB1 HT1 HE1 c0 c1 c2 c3 c4
    go_wp2_with fail
    refine (specGet_any n0 a2 len0 len0 q0 am2 lm0 lm0 z0 o0 s0 a1 w2 HW2.out.squares (by omega) (by omega) HF.out HQ2.out.places (by omega) hfm).mono ?_
    rintro e w3 ⟨rfl, b3⟩
    have HO3 := hide (block_on HO2.out b3)
    have HS3 := hide (HS2.out.later b3 (by omega))
    have HP3 := hide (HP2.out.later b3 (by omega))
    have HB3 := hide (below_here HB2.out b3)
    have HT3 := hide (HT2.out.here b3)
    have HE3 := hide (HE2.out.here b3)
    have hs3 := b3.size
    clear b3 HW2 HQ2 HO2 HS2 HP2 HB2 HT2 HE2 k1 k2
    obtain ⟨gg, hgg⟩ : ∃ gg, gg = ftlGet n0 q0 z0 o0 s0 a1 := ⟨_, rfl⟩
    have HGG := hide hgg
    rw [← hgg]
    clear hgg
    obtain ⟨tx, bx⟩ := gg
    obtain ⟨c0, c1, c2, c3, c4⟩ := five_cells HO3.out
    go_wp2_with fail
    refine (toFtl_any n0 a0 len0 cap0 q0 am0 lm0 cm0 z0 o0 s0 w3 HS3.out (by omega) hfit HP3.out (by omega) hfm).mono ?_
    rintro e w4 ⟨a4, am4, mid4, rfl, k1, k2, o4, p4, b4⟩
    obtain ⟨wX, hwX⟩ : ∃ wX, wX = w4.alloc (.cells #[.int .i64 n0, .slice a4 len0 len0, .slice am4 lm0 lm0, .int .i64 o0, .int .i64 s0] 29) := ⟨_, rfl⟩
    have hzX : wX.heap.size = w4.heap.size + 1 := by rw [hwX]; simp
    have HBX : Hid (Below w4.heap.size w4 wX) := by rw [hwX]; exact (Below.refl _ _).alloc (Nat.le_refl _) _
    have HX4 : Hid (wX.heap[w4.heap.size]? = some (.cells #[.int .i64 n0, .slice a4 len0 len0, .slice am4 lm0 lm0, .int .i64 o0, .int .i64 s0] 29)) := by rw [hwX]; exact heap_new _ _
    have HO4 := hide (block_on (block_on HO3.out b4) HBX.out)
    have HS4 := hide ((HS3.out.later b4 (by omega)).later HBX.out (by have := b4.size; omega))
    have HP4 := hide ((HP3.out.later b4 (by omega)).later HBX.out (by have := b4.size; omega))
    have HB4 := hide (below_here (below_here HB3.out b4) HBX.out)
    have HT4 := hide ((HT3.out.here b4).here HBX.out)
    have HE4 := hide ((HE3.out.here b4).here HBX.out)
    have HW4 := hide (o4.later HBX.out (by omega))
    have HQ4 := hide (p4.later HBX.out (Nat.le_refl _))
    have hs4 := b4.size
    clear b4 o4 p4 HO3 HS3 HP3 HB3 HT3 HE3 c0 c1 c2 c3 c4 HBX
    obtain ⟨d0, d1, d2, d3, d4⟩ := five_cells HX4.out
    rw [hwX] at d0 d1 d2 d3 d4
    have HZX := hide hzX
    clear hzX
    go_wp2_with fail
    rw [← hwX]
    clear hwX d0 d1 d2 d3 d4
    have hzX := HZX.out
    refine (implGet_any n0 a4 len0 len0 q0 am4 lm0 lm0 z0 o0 s0 a1 wX HW4.out.squares (by omega) (by omega) HF.out HQ4.out.places (by omega) hfm (Nat.le_refl _) HT4.out HE4.out).mono ?_
    rintro e w5 ⟨rfl, b5⟩
    have HO5 := hide (block_on HO4.out b5)
    have HX5 := hide (block_on HX4.out b5)
    have HS5 := hide (HS4.out.later b5 (by omega))
    have HP5 := hide (HP4.out.later b5 (by omega))
    have HB5 := hide (below_here HB4.out b5)
    have HW5 := hide (HW4.out.later b5 (by omega))
    have HQ5 := hide (HQ4.out.later b5 (by omega))
    have hs5 := b5.size
    clear b5 HO4 HX4 HS4 HP4 HB4 HW4 HQ4 HT4 HE4
    rw [← HGG.out]
    dsimp only
    obtain ⟨c0, c1, c2, c3, c4⟩ := five_cells HO5.out
    obtain ⟨d0, d1, d2, d3, d4⟩ := five_cells HX5.out
    have HW5d := hide (HW5.out.later (Below.refl w5.heap.size w5).drew (by omega))
    have HQ5d := hide (HQ5.out.later (Below.refl w5.heap.size w5).drew (by omega))
    go_upto_region 10 with fail
    go_cut [43] (fun c wx => c = .bool false ∧ Below w.heap.size w wx)
    case first =>
      go_region_with (first
        | (go_at_call 45; refine (toFtl_any n0 a0 len0 cap0 q0 am0 lm0 cm0 z0 o0 s0 _ (by exact HS5.out) (by show w.heap.size ≤ w5.heap.size; omega) hfit (by exact HP5.out) (by show w.heap.size ≤ w5.heap.size; omega) hfm).mono ?_; rintro e w6 ⟨a6, am6, mid6, rfl, k3, k4, o6, p6, b6⟩; have HX6 := hide (block_on (w := w5.drew) HX5.out b6); have HB6 := hide (below_here (HB5.out.drew) b6); have HW6 := hide (HW5d.out.later b6 (by show mid4 ≤ w5.heap.size; omega)); have HQ6 := hide (HQ5d.out.later b6 (by show w4.heap.size ≤ w5.heap.size; omega)); have HV6 := hide o6; have HU6 := hide p6; have hs6 : w5.heap.size ≤ w6.heap.size := b6.size; clear o6 p6 b6; obtain ⟨e0, e1, e2, e3, e4⟩ := five_cells HX6.out)
        | (go_at_call 46; refine (eqFtl_same n0 a4 a6 len0 len0 len0 q0 am4 am6 lm0 lm0 lm0 z0 o0 s0 _ (by exact HW6.out.squares) (by exact HV6.out.squares) (by omega) (by omega) hfit (by exact HQ6.out.places) (by exact HU6.out.places) (by omega) (by omega) hfm).mono ?_; rintro e w7 ⟨rfl, b7⟩; have HB7 := hide (below_here HB6.out b7); clear b7))
      all_goals
        go_wp2_with fail
        go_meet
        exact ⟨rfl, HB7.out⟩
    case rest =>
      obtain ⟨rfl, hbw⟩ := hcut
      have HB := hide hbw
      clear hbw
      go_wp2_with fail
      go_ret
      exact ⟨rfl, HB.out⟩
  · clear hr
    go_wp2_with fail
    go_ret
    exact ⟨rfl, HB1.out⟩
end Go.Proofs.YtoocbagnfkgbfaaGreatDoor.fnExactGet
