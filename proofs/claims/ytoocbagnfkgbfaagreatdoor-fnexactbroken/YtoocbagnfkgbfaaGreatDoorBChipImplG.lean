/- Several texts in one: ChipImplG, ChipImplH. -/
import Derived.Test.YtoocbagnfkgbfaaGreatDoorBWearImplB
import Derived.Test.YtoocbagnfkgbfaaGreatDoorBChipCutS2
import Derived.Test.YtoocbagnfkgbfaaGreatDoorBChipAns
section
namespace Go.Proofs.YtoocbagnfkgbfaaGreatDoor
open Go.RowKit
set_option linter.unusedVariables false
set_option maxRecDepth 20000

set_option maxHeartbeats 1600000 in
theorem implDidAll_ans (z : Int) (a : Option Addr) (n cap : Nat) (qs : List Sq) (al : Option Addr) (m capl : Nat) (js : List Jb) (w : World) {lo hi lo' hi' : Nat} (h : Squares lo hi w a n qs) (hhi : hi ≤ w.heap.size) (hn : n ≤ 1048576) (hf : ∀ x ∈ qs, sqFits x) (hj : Jobs lo' hi' w al m js) (hhi' : hi' ≤ w.heap.size) (hm : m ≤ 1048576) (hjf : ∀ x ∈ js, jbFits x) :
    Calls Tryz.prog 85 #[.agg #[.int .i64 z, .slice a n cap], .slice al m capl] w fun e w' => ∃ v, e = .returned (.tuple #[v, .bool (allB z qs js)]) ∧ ChipAns w (allZ z qs js) (allS z qs js) v w' := by
  obtain ⟨wA, hwA⟩ : ∃ wA, wA = (w.alloc (.cells #[.int .i64 z, .slice a n cap] 26)).alloc (.cells #[.int .i64 0, .slice none 0 0] 26) := ⟨_, rfl⟩
  have hzA : wA.heap.size = w.heap.size + 1 + 1 := by rw [hwA]; simp
  have HBA : Hid (Below w.heap.size w wA) := by rw [hwA]; exact (((Below.refl _ _).alloc (Nat.le_refl _) _).alloc (by simp) _)
  have H0 : Hid (wA.heap[w.heap.size]? = some (.cells #[.int .i64 z, .slice a n cap] 26)) := by rw [hwA]; exact heap_old (heap_new _ _)
  have H2 : Hid (wA.heap[w.heap.size + 1]? = some (.cells #[.int .i64 0, .slice none 0 0] 26)) := by rw [hwA]; exact heap_at (by simp)
  have HSQ := hide (h.later HBA.out hhi)
  have HF := hide hf
  have HJS := hide hj
  have HJF := hide hjf
  have HJL := hide hj.1
  clear h hf hj hjf
  obtain ⟨a0, a1⟩ := two_cells H0.out
  go_enter Tryz.func85, Tryz.ntmps85
  go_wp2_with fail
  rw [← hwA]
  clear hwA
  refine (implChipOk_any z a n cap qs wA HSQ.out (by omega) hn HF.out).mono ?_
  rintro e w1 ⟨rfl, b1⟩
  have K0 := hide (block_on H0.out b1)
  have K2 := hide (block_on H2.out b1)
  have HS1 := hide (HSQ.out.later b1 (by omega))
  have HB1 := hide (below_here HBA.out b1)
  have hs1 := b1.size
  clear b1 H0 H2 HSQ HBA a0 a1
  obtain ⟨a0, a1⟩ := two_cells K0.out
  cases hok : chipOk z qs with
  | false =>
    obtain ⟨p0, p1⟩ := two_cells K2.out
    have f0 := four_frozen K2.out 0
    have f1 := four_frozen K2.out 1
    have HRS := hide (two_set K2.out (.int .i64 0) (.slice none 0 0))
    have HAS := hide (two_aside (b := w.heap.size + 1) (Aside.refl (w.heap.size + 1) (w.heap.size + 1 + 1) w1) (Nat.le_refl _) (Nat.lt_succ_self _) (.int .i64 0) (.slice none 0 0))
    have HBF := hide (HB1.out.trans (HAS.out.below (B := w.heap.size) (by omega) (by omega)))
    go_wp2_with fail
    refine bodyPost_ret (results_ct rfl rfl (run_loadVar_row _ _ _ _ _ _ _ HRS.out Tryz.underlying26 rfl (by kernel_rfl))) rfl ⟨.agg #[.int .i64 0, .slice none 0 0], ?_, none, 0, ?_, ⟨Nat.le_refl _, .inl ?_⟩, HBF.out⟩
    · unfold allB; rw [hok]; rfl
    · unfold allZ allS allB; rw [hok]; rfl
    · unfold allS; rw [hok]; exact ⟨rfl, rfl⟩
  | true =>
    go_wp2_with fail
    refine (copyOfChip_any z a n cap qs w1 HS1.out (by omega) hok).mono ?_
    rintro e w2 ⟨g, c, A, C, rfl, hG, b2⟩
    obtain ⟨wX, hwX⟩ : ∃ wX, wX = w2.alloc (.cells #[.int .i64 z, .slice (some ⟨g, 0, none⟩) n c] 26) := ⟨_, rfl⟩
    have hzX : wX.heap.size = w2.heap.size + 1 := by rw [hwX]; simp
    have HBX : Hid (Below w2.heap.size w2 wX) := by rw [hwX]; exact (Below.refl _ _).alloc (Nat.le_refl _) _
    have HX : Hid (wX.heap[w2.heap.size]? = some (.cells #[.int .i64 z, .slice (some ⟨g, 0, none⟩) n c] 26)) := by rw [hwX]; exact heap_new _ _
    have K22 := hide (block_on (block_on K2.out b2) HBX.out)
    have HG2 := hide (hG.later HBX.out)
    have HB2 := hide (below_here (below_here HB1.out b2) HBX.out)
    have hs2 := b2.size
    have hgl : g < w2.heap.size := by have := hG.row.1; omega
    have hBg : w1.heap.size ≤ g := hG.atG
    clear hG b2 HBX K0 K2 HS1 HB1 a0 a1
    go_wp2_with fail
    rw [← hwX]
    clear hwX
    have HOK := hide hok
    clear hok
    go_loopw [17] (fun i wr => ∃ (k : Nat) (qk : List Sq) (A : Nat → Option Addr) (C : Nat → Nat), k ≤ m ∧ i = .int .i64 (k : Int) ∧ allQ z qs (js.take k) = some qk ∧ GrowSqs w1.heap.size wr n qk g A C ∧ Only w1.heap.size g wX wr) (fun i _ => m - (intOf i).toNat)
    case atStart => exact ⟨0, qs, A, C, Nat.zero_le _, rfl, rfl, HG2.out, Only.refl _ _ _⟩
    case round =>
      obtain ⟨k, qk, A, C, hk, rfl, hall, hG, hO⟩ := hrel
      have HAL := hide hall
      have HG := hide hG
      have HO := hide hO
      have hsr := hO.below.size
      have HX3 := hide (hO.other _ _ _ _ (show w2.heap.size ≠ g by omega) (by decide) HX.out)
      have K23 := hide (hO.other _ _ _ _ (show w.heap.size + 1 ≠ g by omega) (by decide) K22.out)
      have HB3 := hide (HB2.out.trans (hO.below.mono (show w.heap.size ≤ w1.heap.size by omega)))
      have HQK := hide (allQ_ok HOK.out hall)
      clear hall hG hO
      by_cases hlt : k < m
      · have hjl : k < js.length := by rw [HJL.out]; exact hlt
        obtain ⟨b, off, rfl, _, hb, hc⟩ := HJS.out.2.2 (by omega)
        obtain ⟨c0, c1, c2⟩ := job_cells hc HB3.out (show b < w.heap.size by omega) hlt
        have htx : (jbAt js k).2.2.size ≤ maxLen := (HJF.out _ (by unfold jbAt; rw [List.getD_eq_getElem?_getD, List.getElem?_eq_getElem hjl]; exact List.getElem_mem hjl)).2.2
        have HST := hide (fun h => allQ_step (z := z) hjl HAL.out h)
        have HFA := hide (fun h => allQ_fall (z := z) hjl HAL.out h)
        clear hc
        generalize jbAt js k = y at *
        obtain ⟨kd, sq, tx⟩ := y
        dsimp only at c0 c1 c2 htx
        obtain ⟨wV, hwV⟩ : ∃ wV, wV = wr.alloc (.cells #[.int .i64 kd, .int .i64 sq, .string tx] 119) := ⟨_, rfl⟩
        have hzV : wV.heap.size = wr.heap.size + 1 := by rw [hwV]; simp
        have HBV : Hid (Below wr.heap.size wr wV) := by rw [hwV]; exact (Below.refl _ _).alloc (Nat.le_refl _) _
        have HXV := hide (block_on HX3.out HBV.out)
        have HKV := hide (block_on K23.out HBV.out)
        have HGV := hide (HG.out.later HBV.out)
        have HOV := hide (HO.out.on HBV.out (by omega))
        have HBV3 := hide (below_here HB3.out HBV.out)
        obtain ⟨x0, x1⟩ := two_cells HXV.out
        rw [hwV] at x0 x1
        go_wp2_with fail
        rw [← hwV]
        clear hwV x0 x1
        refine (alter_any c w1.heap.size z n qk g A C kd sq tx wV HGV.out (by omega) HQK.out htx).mono ?_
        rintro e w3 ⟨rfl, A', C', hG3, hO3⟩
        have HG3 := hide hG3
        have HO3 := hide (HOV.out.trans hO3)
        have K24 := hide (hO3.other _ _ _ _ (show w.heap.size + 1 ≠ g by omega) (by decide) HKV.out)
        have HB4 := hide (HBV3.out.trans (hO3.below.mono (show w.heap.size ≤ w1.heap.size by omega)))
        have hs3 := hO3.below.size
        clear hG3 hO3 c0 c1 c2 HX3 K23 HB3
        cases hcan : canJ z qk (kd, sq, tx) with
        | true =>
          have HS := hide (HST.out hcan)
          go_wp2_with fail
          exact ⟨⟨k + 1, _, A', C', by omega, by go_num, HS.out, HG3.out, HO3.out⟩, by simp [intOf]; omega⟩
        | false =>
          have HN := hide (HFA.out hcan)
          obtain ⟨p0, p1⟩ := two_cells K24.out
          have f0 := four_frozen K24.out 0
          have f1 := four_frozen K24.out 1
          have HRS := hide (two_set K24.out (.int .i64 0) (.slice none 0 0))
          have HAS := hide (two_aside (b := w.heap.size + 1) (Aside.refl (w.heap.size + 1) (w.heap.size + 1 + 1) w3) (Nat.le_refl _) (Nat.lt_succ_self _) (.int .i64 0) (.slice none 0 0))
          have HBF := hide (HB4.out.trans (HAS.out.below (B := w.heap.size) (by omega) (by omega)))
          go_wp2_with fail
          refine bodyPost_ret (results_ct rfl rfl (run_loadVar_row _ _ _ _ _ _ _ HRS.out Tryz.underlying26 rfl (by kernel_rfl))) rfl ⟨.agg #[.int .i64 0, .slice none 0 0], ?_, none, 0, ?_, ⟨Nat.le_refl _, .inl ?_⟩, HBF.out⟩
          · unfold allB; rw [HN.out]; simp
          · unfold allZ allS allB; rw [HN.out]; simp
          · unfold allS; rw [HN.out]; simp
      · obtain rfl : k = m := by omega
        have HE : Hid (allQ z qs js = some qk) := by
          have h9 := HAL.out
          rw [List.take_of_length_le (by rw [HJL.out]; exact Nat.le_refl _)] at h9
          exact h9
        obtain ⟨x0, x1⟩ := two_cells HX3.out
        obtain ⟨p0, p1⟩ := two_cells K23.out
        have f0 := four_frozen K23.out 0
        have f1 := four_frozen K23.out 1
        have HRS := hide (two_set K23.out (.int .i64 z) (.slice (some ⟨g, 0, none⟩) n c))
        have HAS := hide (two_aside (b := w.heap.size + 1) (Aside.refl (w.heap.size + 1) (w.heap.size + 1 + 1) wr) (Nat.le_refl _) (Nat.lt_succ_self _) (.int .i64 z) (.slice (some ⟨g, 0, none⟩) n c))
        have HBF := hide (HB3.out.trans (HAS.out.below (B := w.heap.size) (by omega) (by omega)))
        have HGF := hide (HG.out.aside HAS.out (.inl (by omega)))
        go_wp2_with fail
        refine bodyPost_ret (results_ct rfl rfl (run_loadVar_row _ _ _ _ _ _ _ HRS.out Tryz.underlying26 rfl (by kernel_rfl))) rfl ⟨.agg #[.int .i64 z, .slice (some ⟨g, 0, none⟩) n c], ?_, ?_⟩
        · unfold allB; rw [HOK.out, HE.out]; rfl
        · unfold allZ allS allB
          rw [HOK.out, HE.out]
          exact ans_of_grow HGF.out (by omega) HBF.out
end Go.Proofs.YtoocbagnfkgbfaaGreatDoor
end

section
namespace Go.Proofs.YtoocbagnfkgbfaaGreatDoor
open Go.RowKit
set_option linter.unusedVariables false
set_option maxRecDepth 20000

theorem sqCut_of (q : Sq) {kd : Int} {tx : ByteArray} {b : Int} (h : kd = 1 ∨ kd = 2 ∨ kd = 3) : sqWork q (shCut b (shOf kd tx)) = sqCut q kd tx b := by
  rcases h with rfl | rfl | rfl <;> rfl
theorem shCut_write {z : Int} {q : Sq} {kd : Int} {tx s : ByteArray} {b : Int} (hk : canK z q kd tx = true) (e : shCut b (shOf kd tx) = .write s) : s.size ≤ 200 := by
  rcases canK_kind hk with ⟨rfl, _, h1, h2⟩ | ⟨rfl, _⟩ | rfl
  · have e' : Sh.write (part tx b) = .write s := e
    cases e'
    have := (part_size b h1).2
    omega
  · cases e
  · cases e

set_option maxHeartbeats 1600000 in
theorem implCut_ans (z : Int) (a : Option Addr) (n cap : Nat) (qs : List Sq) (kd sq : Int) (tx : ByteArray) (by_ : Int) (w : World) {lo hi : Nat} (h : Squares lo hi w a n qs) (hhi : hi ≤ w.heap.size) (hn : n ≤ 1048576) (hf : ∀ x ∈ qs, sqFits x) (htx : tx.size ≤ maxLen) :
    Calls Tryz.prog 86 #[.agg #[.int .i64 z, .slice a n cap], .agg #[.int .i64 kd, .int .i64 sq, .string tx], .int .i64 by_] w fun e w' => ∃ v, e = .returned v ∧ ChipAns w (didZ z qs) (cutQ z qs (kd, sq, tx) by_) v w' := by
  obtain ⟨wA, hwA⟩ : ∃ wA, wA = ((w.alloc (.cells #[.int .i64 z, .slice a n cap] 26)).alloc (.cells #[.int .i64 kd, .int .i64 sq, .string tx] 119)).alloc (.cells #[.int .i64 0, .slice none 0 0] 26) := ⟨_, rfl⟩
  have hzA : wA.heap.size = w.heap.size + 1 + 1 + 1 := by rw [hwA]; simp
  have HBA : Hid (Below w.heap.size w wA) := by rw [hwA]; exact ((((Below.refl _ _).alloc (Nat.le_refl _) _).alloc (by simp) _).alloc (by simp; omega) _)
  have H0 : Hid (wA.heap[w.heap.size]? = some (.cells #[.int .i64 z, .slice a n cap] 26)) := by rw [hwA]; exact heap_old (heap_old (heap_new _ _))
  have H1 : Hid (wA.heap[w.heap.size + 1]? = some (.cells #[.int .i64 kd, .int .i64 sq, .string tx] 119)) := by rw [hwA]; exact heap_old (heap_at (by simp))
  have H2 : Hid (wA.heap[w.heap.size + 1 + 1]? = some (.cells #[.int .i64 0, .slice none 0 0] 26)) := by rw [hwA]; exact heap_at (by simp)
  have HSQ := hide (h.later HBA.out hhi)
  have HF := hide hf
  clear h hf
  obtain ⟨a0, a1⟩ := two_cells H0.out
  go_enter Tryz.func86, Tryz.ntmps86
  go_wp2_with fail
  rw [← hwA]
  clear hwA
  refine (implChipOk_any z a n cap qs wA HSQ.out (by omega) hn HF.out).mono ?_
  rintro e w1 ⟨rfl, b1⟩
  have K0 := hide (block_on H0.out b1)
  have K1 := hide (block_on H1.out b1)
  have K2 := hide (block_on H2.out b1)
  have HS1 := hide (HSQ.out.later b1 (by omega))
  have HB1 := hide (below_here HBA.out b1)
  have hs1 := b1.size
  clear b1 H0 H1 H2 HSQ HBA a0 a1
  obtain ⟨a0, a1⟩ := two_cells K0.out
  cases hok : chipOk z qs with
  | false =>
    obtain ⟨p0, p1⟩ := two_cells K2.out
    have f0 := four_frozen K2.out 0
    have f1 := four_frozen K2.out 1
    have HRS := hide (two_set K2.out (.int .i64 0) (.slice none 0 0))
    have HAS := hide (two_aside (b := w.heap.size + 1 + 1) (Aside.refl (w.heap.size + 1 + 1) (w.heap.size + 1 + 1 + 1) w1) (Nat.le_refl _) (Nat.lt_succ_self _) (.int .i64 0) (.slice none 0 0))
    have HBF := hide (HB1.out.trans (HAS.out.below (B := w.heap.size) (by omega) (by omega)))
    go_wp2_with fail
    refine bodyPost_ret (results_cell rfl rfl (run_loadVar_row _ _ _ _ _ _ _ HRS.out Tryz.underlying26 rfl (by kernel_rfl))) rfl ⟨.agg #[.int .i64 0, .slice none 0 0], rfl, none, 0, ?_, ⟨Nat.le_refl _, .inl ?_⟩, HBF.out⟩
    · unfold didZ cutQ; rw [hok]; rfl
    · unfold cutQ; rw [hok]; exact ⟨rfl, rfl⟩
  | true =>
    go_wp2_with fail
    refine (copyOfChip_any z a n cap qs w1 HS1.out (by omega) hok).mono ?_
    rintro e w2 ⟨g, c, A, C, rfl, hG, b2⟩
    obtain ⟨wX, hwX⟩ : ∃ wX, wX = w2.alloc (.cells #[.int .i64 z, .slice (some ⟨g, 0, none⟩) n c] 26) := ⟨_, rfl⟩
    have hzX : wX.heap.size = w2.heap.size + 1 := by rw [hwX]; simp
    have HBX : Hid (Below w2.heap.size w2 wX) := by rw [hwX]; exact (Below.refl _ _).alloc (Nat.le_refl _) _
    have HX : Hid (wX.heap[w2.heap.size]? = some (.cells #[.int .i64 z, .slice (some ⟨g, 0, none⟩) n c] 26)) := by rw [hwX]; exact heap_new _ _
    have K12 := hide (block_on (block_on K1.out b2) HBX.out)
    have K22 := hide (block_on (block_on K2.out b2) HBX.out)
    have HG2 := hide (hG.later HBX.out)
    have HB2 := hide (below_here (below_here HB1.out b2) HBX.out)
    have hs2 := b2.size
    have hgl : g < w2.heap.size := by have := hG.row.1; omega
    clear hG b2 HBX K0 K1 K2 HS1 HB1 a0 a1
    obtain ⟨j0, j1, j2⟩ := three_cells K12.out
    obtain ⟨x0, x1⟩ := two_cells HX.out
    have HOK := hide hok
    have HL := hide HG2.out.len
    have hn12 : n ≤ 12 := by have := (chipOk_parts hok).2.2.2.1; rw [HG2.out.len] at this; exact this
    have hz8 := (chipOk_parts hok).2.1
    have HL8 : Hid (∀ q ∈ qs, q.1.length ≤ 8) := fun q hq => by have := (sqOk_parts ((chipOk_parts HOK.out).2.2.2.2 q hq)).1; omega
    have HON : Hid (w.heap.size + 1 + 1 ≠ g) := by show _ ≠ _; have := HG2.out.atG; omega
    clear hok
    rw [hwX] at j0 j1 j2 x0 x1
    go_upto_region 4 with fail
    go_wp2_with fail
    rw [← hwX]
    rw [← hwX] at j0 j1 j2 x0 x1
    clear hwX
    refine (takenShape_any z (some ⟨g, 0, none⟩) n c qs kd sq tx wX HG2.out.ownS.squares (Nat.le_refl _) hn12 HL8.out htx).mono ?_
    rintro e w3 ⟨rfl, b3⟩
    have hs3 := b3.size
    have K13 := hide (block_on K12.out b3)
    have K23 := hide (block_on K22.out b3)
    have HX3 := hide (block_on HX.out b3)
    have HG3 := hide (HG2.out.later b3)
    have HB3 := hide (below_here HB2.out b3)
    clear b3 K12 K22 HX HG2 HB2 j0 j1 j2 x0 x1
    obtain ⟨svv, hsv⟩ : ∃ svv, svv = shV (shT qs (kd, sq, tx)) := ⟨_, rfl⟩
    rw [← hsv]
    cases hcan : canJ z qs (kd, sq, tx) with
    | false =>
      have HE := hide (cutJ_no (b := by_) hcan)
      obtain ⟨x0, x1⟩ := two_cells HX3.out
      obtain ⟨p0, p1⟩ := two_cells K23.out
      have f0 := four_frozen K23.out 0
      have f1 := four_frozen K23.out 1
      have HRS := hide (two_set K23.out (.int .i64 z) (.slice (some ⟨g, 0, none⟩) n c))
      have HAS := hide (two_aside (b := w.heap.size + 1 + 1) (Aside.refl (w.heap.size + 1 + 1) (w.heap.size + 1 + 1 + 1) w3) (Nat.le_refl _) (Nat.lt_succ_self _) (.int .i64 z) (.slice (some ⟨g, 0, none⟩) n c))
      have HBF := hide (HB3.out.trans (HAS.out.below (B := w.heap.size) (by omega) (by omega)))
      have HGF := hide (HG3.out.aside HAS.out (.inl (by omega)))
      clear hsv hcan
      go_wp2_with fail
      refine bodyPost_ret (results_cell rfl rfl (run_loadVar_row _ _ _ _ _ _ _ HRS.out Tryz.underlying26 rfl (by kernel_rfl))) rfl ⟨.agg #[.int .i64 z, .slice (some ⟨g, 0, none⟩) n c], rfl, ?_⟩
      unfold didZ cutQ
      rw [HOK.out]
      simp only [if_true]
      rw [HE.out]
      exact ans_of_grow HGF.out (by omega) HBF.out
    | true =>
      obtain ⟨i, hi, hil, hbad, hkk⟩ := canJ_parts hcan
      dsimp only at hi hkk
      subst hi
      have hin : i < n := by rw [← HL.out]; exact hil
      have HE := hide (cutJ_yes (b := by_) hcan)
      rw [shT_yes hil] at hsv
      have hsq := sqOk_parts (chipOk_at HOK.out hil)
      have HSW := hide (sqCut_of (sqAt qs i) (tx := tx) (b := by_) (canK_three hkk))
      obtain ⟨svc, hsc⟩ : ∃ svc, svc = shV (shCut by_ (shOf kd tx)) := ⟨_, rfl⟩
      have HCS : ∀ w9, Hid (Calls Tryz.prog 144 #[svv, .int .i64 by_] w9 fun e w' => e = .returned svc ∧ Below w9.heap.size w9 w') := fun w9 => by
        rw [hsv, hsc]
        exact cutShort_any (shOf kd tx) by_ w9 (fun s e => shOf_write hkk e)
      have HWK : ∀ w9, Hid (Below w3.heap.size w3 w9 → Calls Tryz.prog 143 #[.pointer (some ⟨g, i * 3, none⟩), svc] w9 fun e w' => e = .returned (.tuple #[]) ∧ ∃ A' C', GrowSqs w1.heap.size w' n (qs.set i (sqWork (sqAt qs i) (shCut by_ (shOf kd tx)))) g A' C' ∧ Only w1.heap.size g w3 w') := fun w9 h9 => by
        rw [hsc]
        exact (work_any w1.heap.size n qs g A C i (shCut by_ (shOf kd tx)) w9 (HG3.out.later h9) (by have := h9.size; omega) hin (HL8.out _ (sqAt_mem hil)) ⟨hsq.2.1, hsq.2.2.1⟩ hsq.2.2.2 (fun s e => shCut_write hkk e)).mono (fun e w' h => ⟨h.1, by obtain ⟨_, A', C', h2, h3⟩ := h; exact ⟨A', C', h2, (only_of_below h9 (by omega)).trans h3⟩⟩)
      clear hcan hkk hsq hsv hsc
      obtain ⟨x0, x1⟩ := two_cells HX3.out
      obtain ⟨j0, j1, j2⟩ := three_cells K13.out
      have hlt2 : (i : Int) < (n : Int) := by omega
      go_upto_region 6 with fail
      go_cut [6, 7] (fun p d wx => p = .pointer (some ⟨w.heap.size + 1 + 1, 0, none⟩) ∧ d = .pointer (some ⟨w2.heap.size, 0, none⟩) ∧ ∃ A' C', GrowSqs w1.heap.size wx n (qs.set i (sqWork (sqAt qs i) (shCut by_ (shOf kd tx)))) g A' C' ∧ Only w1.heap.size g w3 wx)
      case first =>
        go_region_with (first
          | (go_at_call 144; refine (HCS _).out.mono ?_; rintro e w4 ⟨rfl, b4⟩; have B4 := hide ((Below.refl w3.heap.size w3).drew.trans b4); clear b4; obtain ⟨y0, y1⟩ := two_cells (block_on HX3.out B4.out); obtain ⟨l0, l1, l2⟩ := three_cells (block_on K13.out B4.out))
          | (go_at_call 143; refine ((HWK _).out (by exact B4.out)).mono ?_; rintro e w5 ⟨rfl, A', C', hG5, hO5⟩; have HG5 := hide hG5; have HO5 := hide hO5; clear hG5 hO5))
        all_goals
          go_wp2_with fail
          go_meet
          exact ⟨rfl, rfl, A', C', HG5.out, HO5.out⟩
      case rest =>
        obtain ⟨rfl, rfl, A', C', hG9, hO9⟩ := hcut
        have K24 := hide (hO9.other _ _ _ _ HON.out (by decide) K23.out)
        have HX4 := hide (hO9.other _ _ _ _ (show w2.heap.size ≠ g by omega) (by decide) HX3.out)
        have HG4 := hide hG9
        have HB4 := hide (HB3.out.trans (hO9.below.mono (show w.heap.size ≤ w1.heap.size by omega)))
        have hs4 := hO9.below.size
        clear hG9 hO9 x0 x1 j0 j1 j2
        obtain ⟨x0, x1⟩ := two_cells HX4.out
        obtain ⟨p0, p1⟩ := two_cells K24.out
        have f0 := four_frozen K24.out 0
        have f1 := four_frozen K24.out 1
        have HRS := hide (two_set K24.out (.int .i64 z) (.slice (some ⟨g, 0, none⟩) n c))
        have HAS := hide (two_aside (b := w.heap.size + 1 + 1) (Aside.refl (w.heap.size + 1 + 1) (w.heap.size + 1 + 1 + 1) wc) (Nat.le_refl _) (Nat.lt_succ_self _) (.int .i64 z) (.slice (some ⟨g, 0, none⟩) n c))
        have HBF := hide (HB4.out.trans (HAS.out.below (B := w.heap.size) (by omega) (by omega)))
        have HGF := hide (HG4.out.aside HAS.out (.inl (by omega)))
        go_wp2_with fail
        refine bodyPost_ret (results_cell rfl rfl (run_loadVar_row _ _ _ _ _ _ _ HRS.out Tryz.underlying26 rfl (by kernel_rfl))) rfl ⟨.agg #[.int .i64 z, .slice (some ⟨g, 0, none⟩) n c], rfl, ?_⟩
        unfold didZ cutQ
        rw [HOK.out]
        simp only [if_true]
        rw [HE.out, ← HSW.out]
        exact ans_of_grow HGF.out (by omega) HBF.out
end Go.Proofs.YtoocbagnfkgbfaaGreatDoor
end

