/- Chapter 19, the program: one number more. -/
import Derived.Test.YtnemncmaaejajaaHistImplD
import Derived.Deep.RegionHeld3
namespace Go.Proofs.Ytnemncmaaejajaa
open Go.RowKit
set_option linter.unusedVariables false
set_option linter.unusedSimpArgs false
set_option maxRecDepth 20000

/-- A standing, by its marks and texts. -/
abbrev stOf (L : List O9) (us : List Bool) (vs : List ByteArray) : Value := stV (pb us : Int) (txtNo L (vs.getD 0 ByteArray.empty)) (txtNo L (vs.getD 1 ByteArray.empty)) (txtNo L (vs.getD 2 ByteArray.empty))
abbrev stOb (L : List O9) (us : List Bool) (vs : List ByteArray) : Obj := stO (pb us : Int) (txtNo L (vs.getD 0 ByteArray.empty)) (txtNo L (vs.getD 1 ByteArray.empty)) (txtNo L (vs.getD 2 ByteArray.empty))
/-- Texts that may have been written. -/
def VsOk (L : List O9) (vs : List ByteArray) : Prop := vs.length = 3 ∧ ∀ a, a < 3 → vs.getD a ByteArray.empty = ByteArray.empty ∨ ∃ k, k < L.length ∧ (o9At L k).t = vs.getD a ByteArray.empty
theorem VsOk.wrote {L : List O9} {vs : List ByteArray} (h : VsOk L vs) {j : Nat} (hj : j < L.length) : VsOk L (wrote L j vs) := by
  unfold Proofs.Ytnemncmaaejajaa.wrote
  split
  · refine ⟨by rw [List.length_set]; exact h.1, fun a ha => ?_⟩
    rw [List.getD_eq_getElem?_getD, List.getElem?_set]
    by_cases e : (o9At L j).a.toNat = a
    · rw [if_pos e, if_pos (by rw [h.1]; omega)]
      exact .inr ⟨j, hj, rfl⟩
    · rw [if_neg e, ← List.getD_eq_getElem?_getD]
      exact h.2 a ha
  · exact h
theorem VsOk.zero (L : List O9) : VsOk L texts0 := ⟨rfl, fun a ha => .inl (by match a, ha with | 0, _ | 1, _ | 2, _ => rfl)⟩
theorem histOk_at {L : List O9} (h : histOk L = true) {k : Nat} (hk : k < L.length) : o9Ok (o9At L k) = true := by
  unfold histOk at h
  simp only [Bool.and_eq_true] at h
  exact histK_at h.2 k hk
theorem o9Ok_end {o : O9} (h : o9Ok o = true) : 0 ≤ o.b ∧ (o.e = -1 ∨ o.b < o.e) := by
  unfold o9Ok at h
  simp only [Bool.and_eq_true, Bool.not_eq_true', decide_eq_false_iff_not, Bool.or_eq_true, decide_eq_true_eq] at h
  omega
theorem late_wait {L : List O9} (h : histOk L = true) {i : Nat} (hi : i < L.length) (us : List Bool) {k : Nat} (hk : k < L.length) : late L us i k = (!us.getD k false && aheadOf (o9At L i) (o9At L k)) := by
  have h1 := o9Ok_end (histOk_at h hk)
  have h2 := o9Ok_end (histOk_at h hi)
  unfold late aheadOf aheadB
  congr 1
  by_cases e : k = i
  · subst e
    rw [decide_eq_true rfl]
    have : (!decide ((o9At L k).e = -1) && decide ((o9At L k).e < (o9At L k).b)) = false := by
      by_cases c : (o9At L k).e = -1
      · simp [c]
      · rw [decide_eq_false (show ¬ (o9At L k).e < (o9At L k).b by omega), Bool.and_false]
    rw [this]; rfl
  · rw [decide_eq_false e]
    by_cases c : (o9At L k).e = -1
    · simp [c]
    · rw [decide_eq_false c, decide_eq_true (show 0 ≤ (o9At L k).e by omega)]; rfl
theorem nxK_wait {L : List O9} (h : histOk L = true) {i : Nat} (hi : i < L.length) (us : List Bool) : ∀ k, k ≤ L.length → nxK L us i k = !waitK L us (aheadOf (o9At L i)) k
  | 0, _ => rfl
  | k + 1, hk => by
    show (nxK L us i k && !late L us i k) = !(waitK L us (aheadOf (o9At L i)) k || _)
    rw [nxK_wait h hi us k (by omega), late_wait h hi us (by omega)]
    simp
theorem stood_wait {L : List O9} (h : histOk L = true) (us : List Bool) : ∀ k, k ≤ L.length → stoodK L us k = !waitK L us endB k
  | 0, _ => rfl
  | k + 1, hk => by
    show (stoodK L us k && (us.getD k false || decide ((o9At L k).e < 0))) = !(waitK L us endB k || (!us.getD k false && endB (o9At L k)))
    have h1 := o9Ok_end (histOk_at h (show k < L.length by omega))
    have h2 : decide ((o9At L k).e < 0) = !endB (o9At L k) := by
      unfold endB
      by_cases c : (o9At L k).e = -1
      · simp [c]
      · rw [decide_eq_false c, decide_eq_false (by omega)]; rfl
    rw [stood_wait h us k (by omega), h2]
    simp [Bool.not_and]
/-- One number more: what the standing becomes. -/
theorem st_write {L : List O9} {vs : List ByteArray} (hv : VsOk L vs) {j : Nat} (hj : j < L.length) {A : Nat} (hA : (o9At L j).a = (A : Int)) (hA3 : A < 3) (hw : (o9At L j).w = true ∨ vs.getD A ByteArray.empty = (o9At L j).t) : ∀ a, a < 3 → txtNo L ((wrote L j vs).getD a ByteArray.empty) = if a = A then txtNo L (o9At L j).t else txtNo L (vs.getD a ByteArray.empty) := by
  intro a ha
  unfold wrote
  rw [hA]
  by_cases e : a = A
  · subst e
    rw [if_pos rfl]
    split
    · rw [List.getD_eq_getElem?_getD, Int.toNat_natCast, List.getElem?_set_self (by rw [hv.1]; exact ha)]; rfl
    · rename_i hn
      rw [hw.resolve_left hn]
  · rw [if_neg e]
    split
    · rw [List.getD_eq_getElem?_getD, Int.toNat_natCast, List.getElem?_set_ne (fun x => e x.symm), ← List.getD_eq_getElem?_getD]
    · rfl
theorem nx_eq {L : List O9} (h : histOk L = true) {i : Nat} (hi : i < L.length) {us : List Bool} {vs : List ByteArray} {q r : Bool} (hq : us.getD i false = q) (hr : waitK L us (aheadOf (o9At L i)) L.length = r) : nx L us i vs = (!q && (!r && ((o9At L i).w || decide (vs.getD (o9At L i).a.toNat ByteArray.empty = (o9At L i).t)))) := by
  unfold nx
  rw [hq, nxK_wait h hi us _ (Nat.le_refl _), hr]
theorem txtNo_eq {L : List O9} {vs : List ByteArray} (hv : VsOk L vs) {A j : Nat} (hA : A < 3) (hj : j < L.length) : (txtNo L (vs.getD A ByteArray.empty) == txtNo L (o9At L j).t) = decide (vs.getD A ByteArray.empty = (o9At L j).t) := by
  by_cases e : vs.getD A ByteArray.empty = (o9At L j).t
  · rw [e]; simp
  · rw [decide_eq_false e, beq_eq_false_iff_ne]
    exact fun h => e (txtNo_inj (hv.2 A hA) (.inr ⟨j, hj, rfl⟩) h)
theorem Aside.drew' {lo hi : Nat} {w w' : World} (h : Aside lo hi w w') : Aside lo hi w w'.drew := ⟨h.os, h.tape, h.output, h.size, h.block⟩
theorem two_wrap : ∀ j : Fin 12, wrap64 ((2 : Int) ^ j.val) = ((2 ^ j.val : Nat) : Int) := by decide +kernel
theorem or_bit {us : List Bool} {j : Nat} (hj : j < us.length) (hu : us.length ≤ 12) : bits .or .i64 (pb us : Int) (wrap64 (2 ^ j)) = (pb (us.set j true) : Int) := by
  have h1 := two_wrap ⟨j, by omega⟩
  dsimp only at h1
  have h2 : 2 ^ j < 65536 := Nat.lt_of_lt_of_le (Nat.pow_lt_pow_right (by omega) (show j < 12 by omega)) (by decide)
  rw [h1, h9_or _ _ (by have := pb_small hu; omega) h2, pb_set hj, Nat.one_shiftLeft]
/-- What 'placed' answers. -/
def placedV (L : List O9) (us : List Bool) (vs : List ByteArray) (z : Int) : Value := if stepP L us vs z then .tuple #[stOf L (us.set z.toNat true) (wrote L z.toNat vs), .bool true] else .tuple #[stOf L us vs, .bool false]
set_option maxHeartbeats 3200000 in
theorem placed_any (a : Option Addr) (n cap : Nat) (L : List O9) (at_ : Option Addr) (ct : Nat) (us : List Bool) (vs : List ByteArray) (z : Int) (w : World) {lo hi lo4 hi4 : Nat} (h : Ops9 lo hi w a n L) (hok : histOk L = true) (ht : Ints lo4 hi4 w at_ n (txNos L)) (hu : us.length = n) (hv : VsOk L vs) :
    Calls Try.prog 39 #[.agg #[.slice a n cap, .slice at_ n ct], stOf L us vs, .int .i64 z] w fun e w' => e = .returned (placedV L us vs z) ∧ Below w.heap.size w w' := by
  obtain ⟨wA, hwA⟩ : ∃ wA, wA = ((w.alloc (.cells #[.slice a n cap, .slice at_ n ct] 56)).alloc (stOb L us vs)).alloc (stO 0 0 0 0) := ⟨_, rfl⟩
  have HBA : Hid (Below w.heap.size w wA) := by rw [hwA]; exact (((Below.refl _ _).alloc (Nat.le_refl _) _).alloc (by simp) _).alloc (by simp; omega) _
  have H0 : Hid (wA.heap[w.heap.size]? = some (.cells #[.slice a n cap, .slice at_ n ct] 56)) := by rw [hwA]; exact heap_old (heap_old (heap_new _ _))
  have H1 : Hid (wA.heap[w.heap.size + 1]? = some (stOb L us vs)) := by rw [hwA]; exact heap_old (heap_at (by simp))
  have H2 : Hid (wA.heap[w.heap.size + 1 + 1]? = some (stO 0 0 0 0)) := by rw [hwA]; exact heap_at (by simp)
  have hn12 : n ≤ 12 := by rw [← h.1]; exact histOk_len hok
  have HN := hide hn12
  have HLN := hide h.1
  have HY := hide (h.later HBA.out h.2.1)
  have HT := hide (ht.later HBA.out ht.2.1)
  have HLO : Hid (hi ≤ w.heap.size ∧ hi4 ≤ w.heap.size) := ⟨h.2.1, ht.2.1⟩
  have HOK := hide hok
  have HUL := hide hu
  have HV := hide hv
  clear h ht hok hu hv
  obtain ⟨z0, z1⟩ := h9_two H0.out
  have hcs := four_cells H1.out
  have HST : Hid (∀ x, stepP L us vs z = x → placedV L us vs z = if x then .tuple #[stOf L (us.set z.toNat true) (wrote L z.toNat vs), .bool true] else .tuple #[stOf L us vs, .bool false]) := fun x hx => by unfold placedV; rw [hx]
  -- the answer where nothing is placed: what is loaded out of the result's cell
  have HRN : ∀ W : World, Hid (W.heap[w.heap.size + 1 + 1]? = some (stO 0 0 0 0) → ((((W.setCell ⟨w.heap.size + 1 + 1, 0, none⟩ (.int .i64 (pb us : Int))).setCell ⟨w.heap.size + 1 + 1, 1, none⟩ (.int .i64 (txtNo L (vs.getD 0 ByteArray.empty)))).setCell ⟨w.heap.size + 1 + 1, 2, none⟩ (.int .i64 (txtNo L (vs.getD 1 ByteArray.empty)))).setCell ⟨w.heap.size + 1 + 1, 3, none⟩ (.int .i64 (txtNo L (vs.getD 2 ByteArray.empty)))).heap[w.heap.size + 1 + 1]? = some (stOb L us vs)) := fun W h => four_set h _ _ _ _
  have HRB : ∀ W : World, Hid (Below w.heap.size w W → Below w.heap.size w ((((W.setCell ⟨w.heap.size + 1 + 1, 0, none⟩ (.int .i64 (pb us : Int))).setCell ⟨w.heap.size + 1 + 1, 1, none⟩ (.int .i64 (txtNo L (vs.getD 0 ByteArray.empty)))).setCell ⟨w.heap.size + 1 + 1, 2, none⟩ (.int .i64 (txtNo L (vs.getD 1 ByteArray.empty)))).setCell ⟨w.heap.size + 1 + 1, 3, none⟩ (.int .i64 (txtNo L (vs.getD 2 ByteArray.empty))))) := fun W h => four_below h (by omega) _ _ _ _
  have HM0 : Hid (txtNo L (vs.getD 0 ByteArray.empty) = txtNo L (vs.getD 0 ByteArray.empty)) := rfl
  obtain ⟨M0, hM0⟩ : ∃ x, x = txtNo L (vs.getD 0 ByteArray.empty) := ⟨_, rfl⟩
  obtain ⟨M1, hM1⟩ : ∃ x, x = txtNo L (vs.getD 1 ByteArray.empty) := ⟨_, rfl⟩
  obtain ⟨M2, hM2⟩ : ∃ x, x = txtNo L (vs.getD 2 ByteArray.empty) := ⟨_, rfl⟩
  have HM : Hid (M0 = txtNo L (vs.getD 0 ByteArray.empty) ∧ M1 = txtNo L (vs.getD 1 ByteArray.empty) ∧ M2 = txtNo L (vs.getD 2 ByteArray.empty)) := ⟨hM0, hM1, hM2⟩
  have HSZ : Hid (z = z) := rfl
  clear HM0
  unfold stOf
  unfold stOb at *
  unfold stOf at HST
  rw [← hM0, ← hM1, ← hM2]
  rw [← hM0, ← hM1, ← hM2] at H1 hcs hwA
  simp only [← hM0, ← hM1, ← hM2] at HRN HRB HST
  clear hM0 hM1 hM2
  have HB0 : Hid (Below wA.heap.size wA wA) := Below.refl _ _
  go_enter Try.func39, Try.ntmps39
  go_upto_region 1 with fail
  rw [← hwA]
  clear hwA
  obtain ⟨c0, c1, c2, c3⟩ := hcs
  go_wp2_with fail
  refine (isNumberOf_any _ n _ z _ (by omega)).mono ?_
  rintro e w1 ⟨rfl, rfl⟩
  obtain ⟨x, hx⟩ : ∃ x, inB z 0 ((n : Int) - 1) = x := ⟨_, rfl⟩
  have HX := hide hx
  rw [hx]
  clear hx
  cases x with
  | false =>
    clear c0 c1 c2 c3
    have HF : Hid (stepP L us vs z = false) := stepP_out (by rw [HLN.out]; exact HX.out)
    have K2 := hide (block_on H2.out HB0.out)
    have K1 := hide (block_on H1.out HB0.out)
    obtain ⟨r0, r1, r2, r3⟩ := four_cells K2.out
    have f0 := four_frozen K2.out 0
    have f1 := four_frozen K2.out 1
    have f2 := four_frozen K2.out 2
    have f3 := four_frozen K2.out 3
    obtain ⟨c0, c1, c2, c3⟩ := four_cells K1.out
    go_wp2_with fail
    exact bodyPost_ret (results_ct rfl rfl (run_loadVar_row _ _ _ _ _ _ _ ((HRN _).out K2.out) Try.underlying60 rfl (by kernel_rfl))) rfl ⟨by rw [HST.out false HF.out]; rfl, (HRB _).out (below_here HBA.out HB0.out)⟩
  | true =>
    obtain ⟨j, hj, hjn⟩ : ∃ j : Nat, z = (j : Int) ∧ j < n := by
      have h2 := HX.out
      simp only [inB, Bool.and_eq_true, decide_eq_true_eq] at h2
      exact ⟨z.toNat, by omega, by omega⟩
    subst hj
    have HJ : Hid (j < L.length) := by rw [HLN.out]; exact hjn
    have hj12 : j < 12 := by omega
    have hjI : (j : Int) < (n : Int) := by omega
    have HHS := hide (has_any us M0 M1 M2 j wA hj12 (by rw [HUL.out]; exact hn12) .i64 rfl)
    have HSP : Hid (stepP L us vs (j : Int) = nx L us j vs) := stepP_at HJ.out
    go_wp2_with fail
    refine HHS.out.mono ?_
    rintro e w1 ⟨rfl, b1⟩
    have HB1 := hide b1
    clear b1 c0 c1 c2 c3 HHS
    obtain ⟨q, hq⟩ : ∃ q, us.getD j false = q := ⟨_, rfl⟩
    have HQ := hide hq
    rw [hq]
    clear hq
    cases q with
    | true =>
      have HF : Hid (stepP L us vs (j : Int) = false) := HSP.out.trans (nx_eq HOK.out HJ.out HQ.out rfl)
      have K2 := hide (block_on H2.out HB1.out)
      have K1 := hide (block_on H1.out HB1.out)
      obtain ⟨r0, r1, r2, r3⟩ := four_cells K2.out
      have f0 := four_frozen K2.out 0
      have f1 := four_frozen K2.out 1
      have f2 := four_frozen K2.out 2
      have f3 := four_frozen K2.out 3
      obtain ⟨c0, c1, c2, c3⟩ := four_cells K1.out
      go_wp2_with fail
      exact bodyPost_ret (results_ct rfl rfl (run_loadVar_row _ _ _ _ _ _ _ ((HRN _).out K2.out) Try.underlying60 rfl (by kernel_rfl))) rfl ⟨by rw [HST.out false HF.out]; rfl, (HRB _).out (below_here HBA.out HB1.out)⟩
    | false =>
      have hbl := HB1.out
      obtain ⟨b, off, rfl, _, hb, hc⟩ := HY.out.2.2 (by omega)
      obtain ⟨x0, x1, x2, x3, x4⟩ := op9_row hc hbl (show b < wA.heap.size by have := HLO.out; have := HBA.out.size; omega) hjn
      obtain ⟨bt, ot, rfl, _, hbt, hct⟩ := HT.out.2.2 (by omega)
      have hxt := (hbl.cell (p := ⟨bt, ot + j, none⟩) (show bt < wA.heap.size by have := HLO.out; have := HBA.out.size; omega)).trans (hct j hjn)
      unfold cellI at hxt
      obtain ⟨N, hN⟩ : ∃ N, (txNos L).getD j 0 = N := ⟨_, rfl⟩
      rw [hN] at hxt
      obtain ⟨o, ho⟩ : ∃ o, o = o9At L j := ⟨_, rfl⟩
      have HO := hide ho
      have HN2 : Hid (N = txtNo L o.t) := by
        show _ = _
        rw [← hN, ho, o9At_get HJ.out]
        unfold txNos
        rw [List.getD_eq_getElem?_getD, List.getElem?_map, List.getElem?_eq_getElem HJ.out]; rfl
      have hat := histOk_ats HOK.out j HJ.out
      rw [← ho] at x0 x1 x2 x3 x4 hat
      obtain ⟨z0', z1'⟩ := h9_two (block_on H0.out hbl)
      obtain ⟨wO, hwO⟩ : ∃ wO, wO = w1.alloc (o9O o 45) := ⟨_, rfl⟩
      have HBO : Hid (Below wA.heap.size wA wO.drew) := by rw [hwO]; exact (HB1.out.alloc HB1.out.size _).drew
      have HPO : Hid (wO.drew.heap[w1.heap.size]? = some (o9O o 45)) := by rw [hwO]; exact heap_new _ _
      have HWA := hide (waitsAhead_any (some ⟨b, off, none⟩) n cap L us (.slice (some ⟨bt, ot, none⟩) n ct) M0 M1 M2 o w1.heap.size 45 wO.drew (HY.out.later HBO.out (by have := HLO.out; have := HBA.out.size; omega)) HN.out HUL.out HPO.out)
      obtain ⟨oa, ow, ot', ob, oe⟩ := o
      dsimp only at x0 x1 x2 x3 x4 hat
      have hlt0 : w.heap.size < w1.heap.size := by have := (Array.getElem?_eq_some_iff.1 (block_on H0.out hbl)).1; omega
      have hlt1 : b < w1.heap.size := by have := HLO.out; omega
      have hlt2 : bt < w1.heap.size := by have := HLO.out; omega
      clear hc hct hN ho hbl z0 z1
      go_upto_region 3 with fail
      go_region
      rw [← hwO]
      clear hwO x0 x1 x2 x3 x4 hlt0 hlt1 hlt2 hxt z0' z1'
      obtain ⟨z0, z1⟩ := h9_two (block_on H0.out HBO.out)
      obtain ⟨c0, c1, c2, c3⟩ := four_cells (block_on H1.out HBO.out)
      go_wp2_with fail
      refine HWA.out.mono ?_
      rintro e w2 ⟨rfl, b2⟩
      have HB2 := hide (below_here HBO.out b2)
      have HP2 := hide (block_on HPO.out b2)
      clear b2 z0 z1 c0 c1 c2 c3 HWA
      obtain ⟨r, hr⟩ : ∃ r, waitK L us (aheadOf ⟨oa, ow, ot', ob, oe⟩) L.length = r := ⟨_, rfl⟩
      have HNX : Hid (nx L us j vs = (!r && (ow || decide (vs.getD oa.toNat ByteArray.empty = ot')))) := by
        show _ = _
        have h := nx_eq HOK.out HJ.out (vs := vs) HQ.out (r := r) (by rw [← HO.out]; exact hr)
        rw [← HO.out] at h
        exact h
      rw [hr]
      clear hr
      cases r with
      | true =>
        have HF : Hid (stepP L us vs (j : Int) = false) := HSP.out.trans HNX.out
        have K2 := hide (block_on H2.out HB2.out)
        have K1 := hide (block_on H1.out HB2.out)
        obtain ⟨r0, r1, r2, r3⟩ := four_cells K2.out
        have f0 := four_frozen K2.out 0
        have f1 := four_frozen K2.out 1
        have f2 := four_frozen K2.out 2
        have f3 := four_frozen K2.out 3
        obtain ⟨c0, c1, c2, c3⟩ := four_cells K1.out
        go_wp2_with fail
        exact bodyPost_ret (results_ct rfl rfl (run_loadVar_row _ _ _ _ _ _ _ ((HRN _).out K2.out) Try.underlying60 rfl (by kernel_rfl))) rfl ⟨by rw [HST.out false HF.out]; rfl, (HRB _).out (below_here HBA.out HB2.out)⟩
      | false =>
        obtain ⟨A, hA⟩ : ∃ A : Nat, oa = (A : Int) := ⟨oa.toNat, by omega⟩
        subst hA
        have hA3 : A < 3 := by omega
        have hA3' : (A : Int) < 3 := by omega
        have HA3 := hide hA3
        obtain ⟨V, hV⟩ : ∃ V, V = txtNo L (vs.getD A ByteArray.empty) := ⟨_, rfl⟩
        have HVV := hide hV
        have K1 := hide (block_on H1.out HB2.out)
        have hcA : w2.cell? ⟨w.heap.size + 1, 1 + A, none⟩ = some (.int .i64 V) := by
          have hm := HM.out
          obtain ⟨_, e1, e2, e3⟩ := four_cells K1.out
          rcases (show A = 0 ∨ A = 1 ∨ A = 2 by omega) with rfl | rfl | rfl
          · rw [hV, ← hm.1]; exact e1
          · rw [hV, ← hm.2.1]; exact e2
          · rw [hV, ← hm.2.2]; exact e3
        have HVQ : Hid ((V == N) = decide (vs.getD A ByteArray.empty = ot')) := by
          show _ = _
          rw [HN2.out, hV]
          have h := txtNo_eq HV.out HA3.out HJ.out
          rw [← HO.out] at h
          exact h
        obtain ⟨x0, x1, x2, x3, x4⟩ := op9_cells HP2.out
        dsimp only at x0 x1 x2 x3 x4
        clear hat
        by_cases hbad : ow = false ∧ V ≠ N
        · obtain ⟨rfl, hvn⟩ := hbad
          have hvn2 : (V != N) = true := by simp [hvn]
          have hvn3 : (V == N) = false := by simp [hvn]
          have HD : Hid (decide (vs.getD A ByteArray.empty = ot') = false) := by show _ = _; rw [← HVQ.out]; exact hvn3
          clear hvn hvn3 hV
          have HF : Hid (stepP L us vs (j : Int) = false) := HSP.out.trans (HNX.out.trans (by rw [show ((A : Int)).toNat = A from rfl, HD.out]; rfl))
          have K2 := hide (block_on H2.out HB2.out)
          have K1 := hide (block_on H1.out HB2.out)
          obtain ⟨r0, r1, r2, r3⟩ := four_cells K2.out
          have f0 := four_frozen K2.out 0
          have f1 := four_frozen K2.out 1
          have f2 := four_frozen K2.out 2
          have f3 := four_frozen K2.out 3
          obtain ⟨c0, c1, c2, c3⟩ := four_cells K1.out
          go_wp2_with fail
          exact bodyPost_ret (results_ct rfl rfl (run_loadVar_row _ _ _ _ _ _ _ ((HRN _).out K2.out) Try.underlying60 rfl (by kernel_rfl))) rfl ⟨by rw [HST.out false HF.out]; rfl, (HRB _).out (below_here HBA.out HB2.out)⟩
        · have HGOOD : Hid (ow = true ∨ vs.getD A ByteArray.empty = ot') := by
            show _ ∨ _
            cases ow with
            | true => exact .inl rfl
            | false =>
              have h1 : V = N := by
                by_cases c : V = N
                · exact c
                · exact absurd ⟨rfl, c⟩ hbad
              have h2 := HVQ.out
              rw [h1] at h2
              exact .inr (of_decide_eq_true (h2.symm.trans (by simp)))
          have HSY : Hid (stepP L us vs (j : Int) = true) := by
            show _ = _
            rw [HSP.out, HNX.out, show ((A : Int)).toNat = A from rfl]
            rcases HGOOD.out with h | h
            · rw [h]; rfl
            · rw [decide_eq_true h]; simp
          have f0 := four_frozen K1.out 0
          obtain ⟨c0, c1, c2, c3⟩ := four_cells K1.out
          have HG2 : Hid ((o9At L j).w = true ∨ vs.getD A ByteArray.empty = (o9At L j).t) := by rw [← HO.out]; exact HGOOD.out
          have HTJ : Hid (txtNo L (o9At L j).t = N) := by show _ = _; rw [← HO.out]; exact HN2.out.symm
          have HAJ : Hid ((o9At L j).a = (A : Int)) := by show _ = _; rw [← HO.out]
          have HBAD := hide hbad
          clear hV
          cases ow with
          | true =>
            clear hbad
            go_upto_region 8 with fail
            go_region
            obtain ⟨w8, hw8⟩ : ∃ w8, w8 = (w2.setCell ⟨w.heap.size + 1, 0, none⟩ (.int .i64 (pb (us.set j true) : Int))).drew := ⟨_, rfl⟩
            rw [or_bit (show j < us.length by rw [HUL.out, ← HLN.out]; exact HJ.out) (show us.length ≤ 12 by rw [HUL.out]; exact HN.out), ← hw8]
            have AS8 : Hid (Aside (w.heap.size + 1) (w.heap.size + 1 + 1) w2 w8) := by
              rw [hw8]
              exact Aside.drew' ((Aside.refl _ _ _).setCell (p := ⟨w.heap.size + 1, 0, none⟩) (Nat.le_refl _) (Nat.lt_succ_self _) _)
            have K8 : Hid (w8.heap[w.heap.size + 1]? = some (stO (pb (us.set j true) : Int) M0 M1 M2)) := by
              rw [hw8]
              exact set_block K1.out 0 (.int .i64 (pb (us.set j true) : Int)) (by simp)
            clear hw8 c0 c1 c2 c3 f0 hcA x0 x1 x2 x3 x4
            have hP8 := (AS8.out.block w1.heap.size (by have := (Array.getElem?_eq_some_iff.1 HP2.out).1; exact this) (.inr (by have := (Array.getElem?_eq_some_iff.1 (block_on H2.out HB1.out)).1; omega))).trans HP2.out
            obtain ⟨x0, x1, x2, x3, x4⟩ := op9_cells hP8
            dsimp only at x0 x1 x2 x3 x4
            have hcA : ∃ V0, w8.cell? ⟨w.heap.size + 1, 1 + A, none⟩ = some (.int .i64 V0) := by
              obtain ⟨_, e1, e2, e3⟩ := four_cells K8.out
              rcases (show A = 0 ∨ A = 1 ∨ A = 2 by omega) with rfl | rfl | rfl
              · exact ⟨_, e1⟩
              · exact ⟨_, e2⟩
              · exact ⟨_, e3⟩
            obtain ⟨V0, hcA⟩ := hcA
            have f0 := four_frozen K8.out (1 + A)
            obtain ⟨w9, hw9⟩ : ∃ w9, w9 = w8.setCell ⟨w.heap.size + 1, 1 + A, none⟩ (.int .i64 N) := ⟨_, rfl⟩
            have AS9 : Hid (Aside (w.heap.size + 1) (w.heap.size + 1 + 1) w2 w9) := by rw [hw9]; exact AS8.out.setCell (p := ⟨w.heap.size + 1, 1 + A, none⟩) (Nat.le_refl _) (Nat.lt_succ_self _) _
            have K9 : Hid (w9.heap[w.heap.size + 1]? = some (stO (pb (us.set j true) : Int) (if A = 0 then N else M0) (if A = 1 then N else M1) (if A = 2 then N else M2))) := by
              rw [hw9]
              rcases (show A = 0 ∨ A = 1 ∨ A = 2 by omega) with rfl | rfl | rfl
              · exact set_block K8.out 1 (.int .i64 N) (by simp)
              · exact set_block K8.out 2 (.int .i64 N) (by simp)
              · exact set_block K8.out 3 (.int .i64 N) (by simp)
            go_upto_region 10 with fail
            rw [← hw9]
            clear hw9 hcA f0 x0 x1 x2 x3 x4 hP8
            have H29 := hide ((AS9.out.block _ (Array.getElem?_eq_some_iff.1 (block_on H2.out HB2.out)).1 (.inr (Nat.le_refl _))).trans (block_on H2.out HB2.out))
            have HB9 : Hid (Below w.heap.size w w9) := (below_here HBA.out HB2.out).trans (AS9.out.below (Nat.le_succ _) (below_here HBA.out HB2.out).size)
            obtain ⟨r0, r1, r2, r3⟩ := four_cells H29.out
            have f0 := four_frozen H29.out 0
            have f1 := four_frozen H29.out 1
            have f2 := four_frozen H29.out 2
            have f3 := four_frozen H29.out 3
            obtain ⟨c0, c1, c2, c3⟩ := four_cells K9.out
            have HPV : Hid (placedV L us vs (j : Int) = .tuple #[stV (pb (us.set j true) : Int) (if A = 0 then N else M0) (if A = 1 then N else M1) (if A = 2 then N else M2), .bool true]) := by
              show _ = _
              unfold placedV
              rw [HSY.out, if_pos rfl, Int.toNat_natCast]
              unfold stOf
              have hw := st_write HV.out HJ.out (A := A) HAJ.out HA3.out HG2.out
              have hn : txtNo L (o9At L j).t = N := HTJ.out
              have hm := HM.out
              rw [hw 0 (by omega), hw 1 (by omega), hw 2 (by omega), hn, ← hm.1, ← hm.2.1, ← hm.2.2]
              rcases (show A = 0 ∨ A = 1 ∨ A = 2 by omega) with rfl | rfl | rfl <;> rfl
            generalize (if A = 0 then N else M0) = Q0 at *
            generalize (if A = 1 then N else M1) = Q1 at *
            generalize (if A = 2 then N else M2) = Q2 at *
            have HRS := hide (four_set H29.out (.int .i64 (pb (us.set j true) : Int)) (.int .i64 Q0) (.int .i64 Q1) (.int .i64 Q2))
            have HBS := hide (four_below (b := w.heap.size + 1 + 1) HB9.out (by omega) (.int .i64 (pb (us.set j true) : Int)) (.int .i64 Q0) (.int .i64 Q1) (.int .i64 Q2))
            go_wp2_with fail
            exact bodyPost_ret (results_ct rfl rfl (run_loadVar_row _ _ _ _ _ _ _ HRS.out Try.underlying60 rfl (by kernel_rfl))) rfl ⟨by rw [HPV.out]; rfl, HBS.out⟩
          | false =>
            have hvn : V = N := by
              by_cases c : V = N
              · exact c
              · exact absurd ⟨rfl, c⟩ hbad
            have hvn2 : (V != N) = false := by simp [hvn]
            clear hbad hvn
            go_upto_region 8 with fail
            go_region
            obtain ⟨w8, hw8⟩ : ∃ w8, w8 = (w2.setCell ⟨w.heap.size + 1, 0, none⟩ (.int .i64 (pb (us.set j true) : Int))).drew := ⟨_, rfl⟩
            rw [or_bit (show j < us.length by rw [HUL.out, ← HLN.out]; exact HJ.out) (show us.length ≤ 12 by rw [HUL.out]; exact HN.out), ← hw8]
            have AS8 : Hid (Aside (w.heap.size + 1) (w.heap.size + 1 + 1) w2 w8) := by
              rw [hw8]
              exact Aside.drew' ((Aside.refl _ _ _).setCell (p := ⟨w.heap.size + 1, 0, none⟩) (Nat.le_refl _) (Nat.lt_succ_self _) _)
            have K8 : Hid (w8.heap[w.heap.size + 1]? = some (stO (pb (us.set j true) : Int) M0 M1 M2)) := by
              rw [hw8]
              exact set_block K1.out 0 (.int .i64 (pb (us.set j true) : Int)) (by simp)
            clear hw8 c0 c1 c2 c3 f0 hcA x0 x1 x2 x3 x4
            have hP8 := (AS8.out.block w1.heap.size (by have := (Array.getElem?_eq_some_iff.1 HP2.out).1; exact this) (.inr (by have := (Array.getElem?_eq_some_iff.1 (block_on H2.out HB1.out)).1; omega))).trans HP2.out
            obtain ⟨x0, x1, x2, x3, x4⟩ := op9_cells hP8
            dsimp only at x0 x1 x2 x3 x4
            have hcA : ∃ V0, w8.cell? ⟨w.heap.size + 1, 1 + A, none⟩ = some (.int .i64 V0) := by
              obtain ⟨_, e1, e2, e3⟩ := four_cells K8.out
              rcases (show A = 0 ∨ A = 1 ∨ A = 2 by omega) with rfl | rfl | rfl
              · exact ⟨_, e1⟩
              · exact ⟨_, e2⟩
              · exact ⟨_, e3⟩
            obtain ⟨V0, hcA⟩ := hcA
            have f0 := four_frozen K8.out (1 + A)
            obtain ⟨w9, hw9⟩ : ∃ w9, w9 = w8.setCell ⟨w.heap.size + 1, 1 + A, none⟩ (.int .i64 N) := ⟨_, rfl⟩
            have AS9 : Hid (Aside (w.heap.size + 1) (w.heap.size + 1 + 1) w2 w9) := by rw [hw9]; exact AS8.out.setCell (p := ⟨w.heap.size + 1, 1 + A, none⟩) (Nat.le_refl _) (Nat.lt_succ_self _) _
            have K9 : Hid (w9.heap[w.heap.size + 1]? = some (stO (pb (us.set j true) : Int) (if A = 0 then N else M0) (if A = 1 then N else M1) (if A = 2 then N else M2))) := by
              rw [hw9]
              rcases (show A = 0 ∨ A = 1 ∨ A = 2 by omega) with rfl | rfl | rfl
              · exact set_block K8.out 1 (.int .i64 N) (by simp)
              · exact set_block K8.out 2 (.int .i64 N) (by simp)
              · exact set_block K8.out 3 (.int .i64 N) (by simp)
            go_upto_region 10 with fail
            rw [← hw9]
            clear hw9 hcA f0 x0 x1 x2 x3 x4 hP8
            have H29 := hide ((AS9.out.block _ (Array.getElem?_eq_some_iff.1 (block_on H2.out HB2.out)).1 (.inr (Nat.le_refl _))).trans (block_on H2.out HB2.out))
            have HB9 : Hid (Below w.heap.size w w9) := (below_here HBA.out HB2.out).trans (AS9.out.below (Nat.le_succ _) (below_here HBA.out HB2.out).size)
            obtain ⟨r0, r1, r2, r3⟩ := four_cells H29.out
            have f0 := four_frozen H29.out 0
            have f1 := four_frozen H29.out 1
            have f2 := four_frozen H29.out 2
            have f3 := four_frozen H29.out 3
            obtain ⟨c0, c1, c2, c3⟩ := four_cells K9.out
            have HPV : Hid (placedV L us vs (j : Int) = .tuple #[stV (pb (us.set j true) : Int) (if A = 0 then N else M0) (if A = 1 then N else M1) (if A = 2 then N else M2), .bool true]) := by
              show _ = _
              unfold placedV
              rw [HSY.out, if_pos rfl, Int.toNat_natCast]
              unfold stOf
              have hw := st_write HV.out HJ.out (A := A) HAJ.out HA3.out HG2.out
              have hn : txtNo L (o9At L j).t = N := HTJ.out
              have hm := HM.out
              rw [hw 0 (by omega), hw 1 (by omega), hw 2 (by omega), hn, ← hm.1, ← hm.2.1, ← hm.2.2]
              rcases (show A = 0 ∨ A = 1 ∨ A = 2 by omega) with rfl | rfl | rfl <;> rfl
            generalize (if A = 0 then N else M0) = Q0 at *
            generalize (if A = 1 then N else M1) = Q1 at *
            generalize (if A = 2 then N else M2) = Q2 at *
            have HRS := hide (four_set H29.out (.int .i64 (pb (us.set j true) : Int)) (.int .i64 Q0) (.int .i64 Q1) (.int .i64 Q2))
            have HBS := hide (four_below (b := w.heap.size + 1 + 1) HB9.out (by omega) (.int .i64 (pb (us.set j true) : Int)) (.int .i64 Q0) (.int .i64 Q1) (.int .i64 Q2))
            go_wp2_with fail
            exact bodyPost_ret (results_ct rfl rfl (run_loadVar_row _ _ _ _ _ _ _ HRS.out Try.underlying60 rfl (by kernel_rfl))) rfl ⟨by rw [HPV.out]; rfl, HBS.out⟩
end Go.Proofs.Ytnemncmaaejajaa
