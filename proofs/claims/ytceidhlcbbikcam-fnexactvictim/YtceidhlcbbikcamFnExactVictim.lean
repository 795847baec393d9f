/- For every Chip, every map and every number the law FnExactVictim returns true and leaves its arguments as they were; no condition. -/
import Derived.Test.YtceidhlcbbikcamRows
import Derived.Test.YtceidhlcbbikcamPlaceBase
import Derived.Test.YtceidhlcbbikcamChipEq
import Derived.Test.YtceidhlcbbikcamPlaceWalk
import Derived.Test.YtceidhlcbbikcamWearSpecD
import Derived.Test.YtceidhlcbbikcamWearImplE
import Derived.Deep.RegionWith
import Derived.Deep.DeepCutAuto
import Derived.WalkKit
import Derived.ProofKit
import Derived.OpenShut
import Derived.ShutString
import Derived.ChangeOld
import Derived.Below
namespace Go.Proofs.Ytceidhlcbbikcam.fnExactVictim
open Go.ChangeShapes Go.WideShapes Go.ChangeAt Go.RowKit
open Go.ChangeMaps (open_string shut_string)
set_option linter.unusedVariables false

theorem own : ownKnob Try.prog.godebug = none := by kernel_rfl
theorem laidOut : laidOutB Try.prog = true := by kernel_rfl

set_option maxHeartbeats 8000000 in

theorem walk (n0 : Int) (a0 : Option Addr) (len0 cap0 : Nat) (q0 : List Sq) (a1 : Option Addr) (len1 cap1 : Nat) (z1 : List Pl) (a2 : Int) (w : World) (w0 : (Lit.int .i64 n0).wf = true ∧ Squares 0 w.heap.size w a0 len0 q0 ∧ (∀ x ∈ q0, sqFits x) ∧ len0 ≤ maxLen) (w1 : Places 0 w.heap.size w a1 len1 z1 ∧ (∀ x ∈ z1, plFits x) ∧ len1 ≤ maxLen) (w2 : (Lit.int .i64 a2).wf = true) :
    Calls Try.prog 8 #[.agg #[.int .i64 n0, .slice a0 len0 cap0], .slice a1 len1 cap1, .int .i64 a2] w fun e w' => e = .returned (.bool true) ∧ Below w.heap.size w w' := by
  obtain ⟨_, hsq, hfi, hm⟩ := w0
  obtain ⟨hpl, _, hml⟩ := w1
  obtain ⟨wA, hwA⟩ : ∃ wA, wA = w.alloc (.cells #[.int .i64 n0, .slice a0 len0 cap0] 24) := ⟨_, rfl⟩
  have hzA : wA.heap.size = w.heap.size + 1 := by rw [hwA]; simp
  have HBA : Hid (Below w.heap.size w wA) := by rw [hwA]; exact (Below.refl _ _).alloc (Nat.le_refl _) _
  have HO : Hid (wA.heap[w.heap.size]? = some (.cells #[.int .i64 n0, .slice a0 len0 cap0] 24)) := by rw [hwA]; exact heap_new _ _
  have HSQ := hide (hsq.later HBA.out (Nat.le_refl _))
  have HPL := hide (hpl.later HBA.out (Nat.le_refl _))
  have HF := hide hfi
  have HM := hide hm
  have HML := hide hml
  clear hsq hfi hm hpl hml
  obtain ⟨c0, c1⟩ := two_cells HO.out
  go_enter Try.func8, Try.ntmps8
  go_wp2_with fail
  rw [← hwA]
  clear hwA
  refine (szChip_any n0 a0 len0 cap0 q0 1048576 wA HSQ.out (by omega) HM.out HF.out (by omega) (by omega)).mono ?_
  rintro e w1 ⟨⟨r, rfl, r1, r2, hr⟩, b1⟩
  have HO1 := hide (block_on HO.out b1)
  have HS1 := hide (HSQ.out.later b1 (by omega))
  have HP1 := hide (HPL.out.later b1 (by omega))
  have HB1 := hide (below_here HBA.out b1)
  have hs1 := b1.size
  clear b1 HO HSQ HPL HBA c0 c1
  by_cases h0 : 0 ≤ r
  · have hfit : len0 + weight q0 ≤ 1048576 := by have := hr h0; omega
    clear hr
    have hg0 : decide (r < 0) = false := by simp; omega
    go_wp2_with fail
    refine (szPlaceS_any a1 len1 cap1 r w1 HML.out h0 (by omega)).mono ?_
    rintro e w9 ⟨⟨r', rfl, r1', r2', hr'⟩, rfl⟩
    by_cases h1 : 0 ≤ r'
    · have hfit1 : len1 ≤ 1048576 := by have := hr' h1; omega
      have hg1 : decide (r' < 0) = false := by simp; omega
      clear hr' HML HM hg0
      obtain ⟨c0, c1⟩ := two_cells HO1.out
      go_wp2_with fail
      refine (toChip_any n0 a0 len0 cap0 q0 w1 HS1.out (by omega) hfit).mono ?_
      rintro e w2 ⟨aa, rfl, o2, b2⟩
      have HO2 := hide (block_on HO1.out b2)
      have HS2 := hide (HS1.out.later b2 (by omega))
      have HP2 := hide (HP1.out.later b2 (by omega))
      have HB2 := hide (below_here HB1.out b2)
      have HW2 := hide o2
      have hs2 := b2.size
      clear b2 o2 HO1 HS1 HP1 HB1 c0 c1 hg1
      go_wp2_with fail
      refine (toPlaceS_any a1 len1 cap1 z1 w2 HP2.out hfit1).mono ?_
      rintro e w3 ⟨ab, rfl, o3, b3⟩
      have HO3 := hide (block_on HO2.out b3)
      have HS3 := hide (HS2.out.later b3 (by omega))
      have HP3 := hide (HP2.out.later b3 (by omega))
      have HB3 := hide (below_here HB2.out b3)
      have HW3 := hide (HW2.out.later b3 (Nat.le_refl _))
      have HQ3 := hide o3
      have hs3 := b3.size
      have hq3 := o3.2.1
      clear b3 o3 HO2 HS2 HP2 HB2 HW2
      go_wp2_with fail
      refine (specVictim_any n0 aa len0 len0 q0 ab len1 len1 z1 a2 w3 HW3.out.squares (by omega) (by omega) HF.out HQ3.out.places (by omega) hfit1).mono ?_
      rintro e w4 ⟨rfl, b4⟩
      have HO4 := hide (block_on HO3.out b4)
      have HS4 := hide (HS3.out.later b4 (by omega))
      have HP4 := hide (HP3.out.later b4 (by omega))
      have HB4 := hide (below_here HB3.out b4)
      have hs4 := b4.size
      clear b4 HW3 HQ3 HO3 HS3 HP3 HB3 hq3
      obtain ⟨c0, c1⟩ := two_cells HO4.out
      go_wp2_with fail
      refine (toChip_any n0 a0 len0 cap0 q0 w4 HS4.out (by omega) hfit).mono ?_
      rintro e w5 ⟨ac, rfl, o5, b5⟩
      obtain ⟨wX, hwX⟩ : ∃ wX, wX = w5.alloc (.cells #[.int .i64 n0, .slice ac len0 len0] 31) := ⟨_, rfl⟩
      have hzX : wX.heap.size = w5.heap.size + 1 := by rw [hwX]; simp
      have HBX : Hid (Below w5.heap.size w5 wX) := by rw [hwX]; exact (Below.refl _ _).alloc (Nat.le_refl _) _
      have HX5 : Hid (wX.heap[w5.heap.size]? = some (.cells #[.int .i64 n0, .slice ac len0 len0] 31)) := by rw [hwX]; exact heap_new _ _
      have HO5 := hide (block_on (block_on HO4.out b5) HBX.out)
      have HS5 := hide ((HS4.out.later b5 (by omega)).later HBX.out (by have := b5.size; omega))
      have HP5 := hide ((HP4.out.later b5 (by omega)).later HBX.out (by have := b5.size; omega))
      have HB5 := hide (below_here (below_here HB4.out b5) HBX.out)
      have HW5 := hide (o5.later HBX.out (Nat.le_refl _))
      have hs5 := b5.size
      clear b5 o5 HO4 HS4 HP4 HB4 c0 c1 HBX
      go_upto_region 10 with fail
      rw [← hwX]
      clear hwX
      go_wp2_with fail
      refine (toPlaceS_any a1 len1 cap1 z1 wX HP5.out hfit1).mono ?_
      rintro e w6 ⟨ad, rfl, o6, b6⟩
      have HO6 := hide (block_on HO5.out b6)
      have HX6 := hide (block_on HX5.out b6)
      have HS6 := hide (HS5.out.later b6 (by omega))
      have HP6 := hide (HP5.out.later b6 (by omega))
      have HB6 := hide (below_here HB5.out b6)
      have HW6 := hide (HW5.out.later b6 (by omega))
      have HQ6 := hide o6
      have hs6 := b6.size
      have hq6 := o6.2.1
      clear b6 o6 HO5 HX5 HS5 HP5 HB5 HW5
      obtain ⟨d0, d1⟩ := two_cells HX6.out
      go_wp2_with fail
      refine (implVictim_any n0 ac len0 len0 q0 ad len1 len1 z1 a2 w6 HW6.out.squares (by omega) (by omega) HF.out HQ6.out.places (by omega) hfit1 (Nat.le_refl _)).mono ?_
      rintro e w7 ⟨rfl, b7⟩
      have HO7 := hide (block_on HO6.out b7)
      have HX7 := hide (block_on HX6.out b7)
      have HS7 := hide (HS6.out.later b7 (by omega))
      have HP7 := hide (HP6.out.later b7 (by omega))
      have HB7 := hide (below_here HB6.out b7)
      have HW7 := hide (HW6.out.later b7 (by omega))
      have HQ7 := hide (HQ6.out.later b7 (by omega))
      have hs7 := b7.size
      clear b7 HO6 HX6 HS6 HP6 HB6 HW6 HQ6 d0 d1
      obtain ⟨c0, c1⟩ := two_cells HO7.out
      obtain ⟨d0, d1⟩ := two_cells HX7.out
      have HW7d := hide (HW7.out.later (Below.refl w7.heap.size w7).drew (by omega))
      go_upto_region 14 with fail
      go_cut [43] (fun c wx => c = .bool false ∧ Below w7.heap.size w7 wx)
      case first =>
        go_region_with (first
          | (go_at_call 12; refine (toChip_any n0 a0 len0 cap0 q0 _ (by exact HS7.out) (by show w.heap.size ≤ w7.heap.size; omega) hfit).mono ?_; rintro e w8 ⟨a8, rfl, o8, b8⟩; have HX8 := hide (block_on (w := w7.drew) HX7.out b8); have HB8 := hide (((Below.refl w7.heap.size w7).drew).trans b8); have HW8 := hide (HW7d.out.later b8 (by show w5.heap.size ≤ w7.heap.size; omega)); have HV8 := hide o8; have hs8 : w7.heap.size ≤ w8.heap.size := b8.size; clear o8 b8; obtain ⟨e0, e1⟩ := two_cells HX8.out)
          | (go_at_call 15; refine (eqChip_same n0 ac a8 len0 len0 len0 q0 _ (by exact HW8.out.squares) (by exact HV8.out.squares) (by omega) (by omega) hfit).mono ?_; rintro e w9 ⟨rfl, b9⟩; have HB9 := hide (below_here HB8.out b9); clear b9))
        all_goals
          go_wp2_with fail
          go_meet
          exact ⟨rfl, HB9.out⟩
      case rest =>
        obtain ⟨rfl, hbw⟩ := hcut
        obtain ⟨wE, hwE⟩ : ∃ wE, wE = wc := ⟨_, rfl⟩
        subst hwE
        have HPE := hide (HP7.out.later hbw (by omega))
        have HQE := hide (HQ7.out.later hbw (by omega))
        have HBE := hide (below_here HB7.out hbw)
        have hsE := hbw.size
        clear hbw HO7 HX7 HS7 HP7 HB7 HW7 HQ7 HW7d c0 c1 d0 d1
        go_wp2_with fail
        refine (toPlaceS_any a1 len1 cap1 z1 wE HPE.out hfit1).mono ?_
        rintro e wF ⟨af, rfl, oF, bF⟩
        have HQF := hide (HQE.out.later bF (by omega))
        have HVF := hide oF
        have HBF := hide (below_here HBE.out bF)
        clear oF bF
        go_wp2_with fail
        refine (eqPlaceS_same ad af len1 len1 len1 z1 wF HQF.out.places HVF.out.places hfit1).mono ?_
        rintro e wG ⟨rfl, bG⟩
        have HBG := hide (below_here HBF.out bG)
        clear bG
        go_wp2_with fail
        go_ret
        exact ⟨rfl, HBG.out⟩
    · clear hr'
      have hg1 : decide (r' < 0) = true := by simp; omega
      go_wp2_with fail
      go_ret
      exact ⟨rfl, HB1.out⟩
  · clear hr
    go_wp2_with fail
    go_ret
    exact ⟨rfl, HB1.out⟩

/-! ### THE ROW's STEP: WRITTEN OUT: LEAVE IT -/
set_option maxRecDepth 100000 in
theorem lifted (os : Os) (started : os.Started) (H : Type) (enc : TypeId × Value → H) :
    ReturnsInHanded {} Try.checked os 8 .any (Rows.fnExactVictimSpec.pre6 enc Try.prog Try.f8 Rows.fnExactVictimRow.domain false) (Rows.fnExactVictimSpec.post enc Try.prog Try.f8 false true false false) := by
  refine returnsInHanded_of_change (C := Try.checked) own started (by kernel_rfl) Try.func8
    (ChangeSpec.witness6 (enc := enc) (C := Try.checked) false ⟨#[], #[.agg #[.int .i64 0, .slice none 0 0], .slice none 0 0, .int .i64 0], []⟩ 8 (by kernel_rfl) (by kernel_rfl) (by kernel_rfl) (by kernel_rfl)) ?_
  intro W base args ds gs before hval0 hW hcnd _
  have hval : ∀ (j : Nat) t v, Try.f8.params[j]? = some t → args[j]? = some v → Value.okWide Try.prog W .any base t v := hval0
  have hW' := hW
  obtain ⟨p, q, hA0, hV, rfl, hfz, hnd⟩ := hW
  have hA : DataW.TrodAll enc Try.prog W 0 (fun _ => true) true Try.f8.params.toList args.toList ds p := hA0
  rw [Try.params8] at hA hval
  obtain ⟨v0, vs0, d0, ds0, p0, q0, hargs, rfl, rfl, h0, r0⟩ := trodAll_cons hA
  obtain ⟨v1, vs1, d1, ds1, p1, q1, rfl, rfl, rfl, h1, r1⟩ := trodAll_cons r0
  obtain ⟨v2, vs2, d2, ds2, p2, q2, rfl, rfl, rfl, h2, r2⟩ := trodAll_cons r1
  obtain ⟨rfl, rfl, rfl⟩ := trodAll_nil r2
  obtain rfl : args = #[v0, v1, v2] := by cases args; simp_all
  obtain ⟨rfl, rfl⟩ := trodVars_none hV
  have kk0 := h0
  have lt0 : ∀ x ∈ p0, x.block < W.heap.size := by obtain ⟨m, hm⟩ := kk0; exact DataW.trod_lt m _ _ _ hm
  obtain ⟨n0, a0, len0, cap0, q0, rfl, w0⟩ := chip_read Try.underlying24 (by kernel_rfl) (by kernel_rfl) Try.underlying2 Try.underlying22 Try.underlying95 (by kernel_rfl) (by kernel_rfl) Try.underlying66 Try.underlying9 (by kernel_rfl) Try.underlying2 Try.underlying4 (hval 0 24 v0 rfl rfl) h0
  obtain ⟨a1, len1, cap1, rfl⟩ := okWide_slice Try.underlying41 (hval 1 41 v1 rfl rfl)
  have k1 := h1
  have lt1 : ∀ x ∈ p1, x.block < W.heap.size := by obtain ⟨m, hm⟩ := k1; exact DataW.trod_lt m _ _ _ hm
  obtain ⟨z1, w1⟩ := places_read Try.underlying41 Try.underlying80 (by kernel_rfl) (by kernel_rfl) Try.underlying2 Try.underlying2 h1
  obtain ⟨a2, rfl, rfl, rfl, w2⟩ := open_int Try.underlying2 (hval 2 2 v2 rfl rfl) h2
  clear hA0 hval0
  refine (walk n0 a0 len0 cap0 q0 a1 len1 cap1 z1 a2 W w0 w1 w2).mono fun e W' ⟨he, bel⟩ => ?_
  subst he
  exact ⟨_, rfl, _, _, _, [], _, [], hW', trodAll_mk1 (shut_bool Try.underlying4 _), (trodAll_cons_mk (Below.trod laidOut (by kernel_rfl) (of_decide_eq_true (by kernel_rfl)) kk0 bel lt0) (trodAll_cons_mk (Below.trod laidOut (by kernel_rfl) (of_decide_eq_true (by kernel_rfl)) k1 bel lt1) (trodAll_cons_mk (shut_int Try.underlying2 w2) trodAll_mk0))), rfl, bel.frame _, fun h => by cases h⟩

theorem over : Rows.fnExactVictimRow.holds Try.pinned (OpenSpec.ofChange Rows.fnExactVictimSpec) :=
  OpenClaim.holds_of_wide 8 Try.f8 rfl rfl rfl rfl rfl rfl rfl ⟨rfl, rfl, rfl, rfl, rfl⟩ rfl rfl rfl rfl rfl (by kernel_rfl) Try.func8 (by kernel_rfl)
    (of_decide_eq_true (by kernel_rfl)) (by unfold Func.isWrapper; first | (rw [if_pos (by decide +kernel)]; kernel_rfl) | (rw [if_neg (by decide +kernel)]; exact ⟨rfl, rfl⟩))
    (fun os started H enc _ => lifted os started H enc)

/-- ████ THE STATEMENT ████ -/
theorem proved : Rows.FnExactVictimSaid := over
#print axioms proved
end Go.Proofs.Ytceidhlcbbikcam.fnExactVictim
