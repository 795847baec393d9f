/- The program's Did, DidAll. -/
import Derived.Test.YtceidhlcbbikcalChipImplC
import Derived.Test.YtceidhlcbbikcalChipImplF
import Derived.Test.YtceidhlcbbikcalChipDidS
namespace Go.Proofs.Ytceidhlcbbikcal
open Go.RowKit
set_option linter.unusedVariables false
set_option maxRecDepth 20000

set_option maxHeartbeats 1600000 in
theorem implDid_ans (z : Int) (a : Option Addr) (n cap : Nat) (qs : List Sq) (kd sq : Int) (tx : ByteArray) (w : World) {lo hi : Nat} (h : Squares lo hi w a n qs) (hhi : hi ≤ w.heap.size) (hn : n ≤ 1048576) (hf : ∀ x ∈ qs, sqFits x) (htx : tx.size ≤ maxLen) :
    Calls Try.prog 24 #[.agg #[.int .i64 z, .slice a n cap], .agg #[.int .i64 kd, .int .i64 sq, .string tx]] w fun e w' => ∃ v, e = .returned (.tuple #[v, .bool (didB z qs (kd, sq, tx))]) ∧ ChipAns w (didZ z qs) (didQ z qs (kd, sq, tx)) v w' := by
  obtain ⟨wA, hwA⟩ : ∃ wA, wA = ((w.alloc (.cells #[.int .i64 z, .slice a n cap] 36)).alloc (.cells #[.int .i64 kd, .int .i64 sq, .string tx] 48)).alloc (.cells #[.int .i64 0, .slice none 0 0] 36) := ⟨_, rfl⟩
  have hzA : wA.heap.size = w.heap.size + 1 + 1 + 1 := by rw [hwA]; simp
  have HBA : Hid (Below w.heap.size w wA) := by rw [hwA]; exact ((((Below.refl _ _).alloc (Nat.le_refl _) _).alloc (by simp) _).alloc (by simp; omega) _)
  have H0 : Hid (wA.heap[w.heap.size]? = some (.cells #[.int .i64 z, .slice a n cap] 36)) := by rw [hwA]; exact heap_old (heap_old (heap_new _ _))
  have H1 : Hid (wA.heap[w.heap.size + 1]? = some (.cells #[.int .i64 kd, .int .i64 sq, .string tx] 48)) := by rw [hwA]; exact heap_old (heap_at (by simp))
  have H2 : Hid (wA.heap[w.heap.size + 1 + 1]? = some (.cells #[.int .i64 0, .slice none 0 0] 36)) := by rw [hwA]; exact heap_at (by simp)
  have HSQ := hide (h.later HBA.out hhi)
  have HF := hide hf
  clear h hf
  obtain ⟨a0, a1⟩ := two_cells H0.out
  go_enter Try.func24, Try.ntmps24
  go_wp2_with fail
  rw [← hwA]
  clear hwA
  refine (implChipOk_any z a n cap qs wA HSQ.out (by omega) hn HF.out).mono ?_
  rintro e w1 ⟨rfl, b1⟩
  have K0 := hide (block_on H0.out b1)
  have K1 := hide (block_on H1.out b1)
  have K2 := hide (block_on H2.out b1)
  have HS1 := hide (HSQ.out.later b1 (by omega))
  have HB1 := hide (below_here HBA.out b1)
  have hs1 := b1.size
  clear b1 H0 H1 H2 HSQ HBA a0 a1
  obtain ⟨a0, a1⟩ := two_cells K0.out
  cases hok : chipOk z qs with
  | false =>
    obtain ⟨p0, p1⟩ := two_cells K2.out
    have f0 := four_frozen K2.out 0
    have f1 := four_frozen K2.out 1
    have HRS := hide (two_set K2.out (.int .i64 0) (.slice none 0 0))
    have HAS := hide (two_aside (b := w.heap.size + 1 + 1) (Aside.refl (w.heap.size + 1 + 1) (w.heap.size + 1 + 1 + 1) w1) (Nat.le_refl _) (Nat.lt_succ_self _) (.int .i64 0) (.slice none 0 0))
    have HBF := hide (HB1.out.trans (HAS.out.below (B := w.heap.size) (by omega) (by omega)))
    go_wp2_with fail
    refine bodyPost_ret (results_ct rfl rfl (run_loadVar_row _ _ _ _ _ _ _ HRS.out Try.underlying36 rfl (by kernel_rfl))) rfl ⟨.agg #[.int .i64 0, .slice none 0 0], ?_, none, 0, ?_, ⟨Nat.le_refl _, .inl ?_⟩, HBF.out⟩
    · unfold didB; rw [hok]; rfl
    · unfold didZ didQ; rw [hok]; rfl
    · unfold didQ; rw [hok]; exact ⟨rfl, rfl⟩
  | true =>
    go_wp2_with fail
    refine (copyOfChip_any z a n cap qs w1 HS1.out (by omega) hok).mono ?_
    rintro e w2 ⟨g, c, A, C, rfl, hG, b2⟩
    obtain ⟨wX, hwX⟩ : ∃ wX, wX = w2.alloc (.cells #[.int .i64 z, .slice (some ⟨g, 0, none⟩) n c] 36) := ⟨_, rfl⟩
    have hzX : wX.heap.size = w2.heap.size + 1 := by rw [hwX]; simp
    have HBX : Hid (Below w2.heap.size w2 wX) := by rw [hwX]; exact (Below.refl _ _).alloc (Nat.le_refl _) _
    have HX : Hid (wX.heap[w2.heap.size]? = some (.cells #[.int .i64 z, .slice (some ⟨g, 0, none⟩) n c] 36)) := by rw [hwX]; exact heap_new _ _
    have K12 := hide (block_on (block_on K1.out b2) HBX.out)
    have K22 := hide (block_on (block_on K2.out b2) HBX.out)
    have HG2 := hide (hG.later HBX.out)
    have HB2 := hide (below_here (below_here HB1.out b2) HBX.out)
    have hs2 := b2.size
    have hgl : g < w2.heap.size := by have := hG.row.1; omega
    clear hG b2 HBX K0 K1 K2 HS1 HB1 a0 a1
    obtain ⟨j0, j1, j2⟩ := three_cells K12.out
    obtain ⟨x0, x1⟩ := two_cells HX.out
    have hok2 := hok
    have HAL : ∀ w9, Hid (Below wX.heap.size wX w9 → Calls Try.prog 42 #[.agg #[.int .i64 z, .slice (some ⟨g, 0, none⟩) n c], .agg #[.int .i64 kd, .int .i64 sq, .string tx]] w9 fun e w' => e = .returned (.bool (canJ z qs (kd, sq, tx))) ∧ ∃ A' C', GrowSqs w1.heap.size w' n (doJ z qs (kd, sq, tx)) g A' C' ∧ Only w1.heap.size g wX w') := fun w9 h9 =>
      (alter_any c w1.heap.size z n qs g A C kd sq tx w9 (HG2.out.later h9) (by have := h9.size; omega) hok2 htx).mono (fun e w' h => ⟨h.1, by obtain ⟨_, A', C', h2, h3⟩ := h; exact ⟨A', C', h2, (only_of_below h9 (by omega)).trans h3⟩⟩)
    have HON : Hid (w.heap.size + 1 + 1 ≠ g) := by show _ ≠ _; have := HG2.out.atG; omega
    go_upto_region 4 with fail
    rw [← hwX]
    clear hwX
    go_cut [4, 5] (fun p d wx => p = .pointer (some ⟨w.heap.size + 1 + 1, 0, none⟩) ∧ d = .bool (canJ z qs (kd, sq, tx)) ∧ ∃ A' C', GrowSqs w1.heap.size wx n (doJ z qs (kd, sq, tx)) g A' C' ∧ Below w.heap.size w wx ∧ wx.heap[w.heap.size + 1 + 1]? = some (.cells #[.int .i64 z, .slice (some ⟨g, 0, none⟩) n c] 36))
    case first =>
      go_region_with (go_at_call 42; refine ((HAL _).out (by exact (Below.refl _ wX).drew)).mono ?_; rintro e w3 ⟨rfl, A', C', hG3, hO3⟩; have K23 := hide (hO3.other _ _ _ _ HON.out (by decide) K22.out); have HX3 := hide (hO3.other _ _ _ _ (show w2.heap.size ≠ g by omega) (by decide) HX.out); have HG3 := hide hG3; have HB3 := hide (HB2.out.trans (hO3.below.mono (show w.heap.size ≤ w1.heap.size by omega))); have hs3 := hO3.below.size; clear hG3 hO3; obtain ⟨y0, y1⟩ := two_cells HX3.out; obtain ⟨p0, p1⟩ := two_cells K23.out; have f0 := four_frozen K23.out 0; have f1 := four_frozen K23.out 1)
      all_goals
        have HRS := hide (two_set K23.out (.int .i64 z) (.slice (some ⟨g, 0, none⟩) n c))
        have HAS := hide (two_aside (b := w.heap.size + 1 + 1) (Aside.refl (w.heap.size + 1 + 1) (w.heap.size + 1 + 1 + 1) w3) (Nat.le_refl _) (Nat.lt_succ_self _) (.int .i64 z) (.slice (some ⟨g, 0, none⟩) n c))
        have HBF := hide (HB3.out.trans (HAS.out.below (B := w.heap.size) (by omega) (by omega)))
        have HGF := hide (HG3.out.aside HAS.out (.inl (by omega)))
        go_wp2_with fail
        go_meet
        exact ⟨rfl, rfl, A', C', HGF.out, HBF.out, HRS.out⟩
    case rest =>
      obtain ⟨rfl, rfl, A', C', hG9, hB9, hR9⟩ := hcut
      have HRS := hide hR9
      have HGF := hide hG9
      have HBF := hide hB9
      clear hG9 hB9 hR9
      go_wp2_with fail
      refine bodyPost_ret (results_ct rfl rfl (run_loadVar_row _ _ _ _ _ _ _ HRS.out Try.underlying36 rfl (by kernel_rfl))) rfl ⟨.agg #[.int .i64 z, .slice (some ⟨g, 0, none⟩) n c], ?_, ?_⟩
      · unfold didB; rw [hok, Bool.true_and]; rfl
      · unfold didZ didQ
        rw [hok]
        exact ans_of_grow HGF.out (by omega) HBF.out

set_option maxHeartbeats 1600000 in
theorem implDidAll_ans (z : Int) (a : Option Addr) (n cap : Nat) (qs : List Sq) (al : Option Addr) (m capl : Nat) (js : List Jb) (w : World) {lo hi lo' hi' : Nat} (h : Squares lo hi w a n qs) (hhi : hi ≤ w.heap.size) (hn : n ≤ 1048576) (hf : ∀ x ∈ qs, sqFits x) (hj : Jobs lo' hi' w al m js) (hhi' : hi' ≤ w.heap.size) (hm : m ≤ 1048576) (hjf : ∀ x ∈ js, jbFits x) :
    Calls Try.prog 28 #[.agg #[.int .i64 z, .slice a n cap], .slice al m capl] w fun e w' => ∃ v, e = .returned (.tuple #[v, .bool (allB z qs js)]) ∧ ChipAns w (allZ z qs js) (allS z qs js) v w' := by
  obtain ⟨wA, hwA⟩ : ∃ wA, wA = (w.alloc (.cells #[.int .i64 z, .slice a n cap] 36)).alloc (.cells #[.int .i64 0, .slice none 0 0] 36) := ⟨_, rfl⟩
  have hzA : wA.heap.size = w.heap.size + 1 + 1 := by rw [hwA]; simp
  have HBA : Hid (Below w.heap.size w wA) := by rw [hwA]; exact (((Below.refl _ _).alloc (Nat.le_refl _) _).alloc (by simp) _)
  have H0 : Hid (wA.heap[w.heap.size]? = some (.cells #[.int .i64 z, .slice a n cap] 36)) := by rw [hwA]; exact heap_old (heap_new _ _)
  have H2 : Hid (wA.heap[w.heap.size + 1]? = some (.cells #[.int .i64 0, .slice none 0 0] 36)) := by rw [hwA]; exact heap_at (by simp)
  have HSQ := hide (h.later HBA.out hhi)
  have HF := hide hf
  have HJS := hide hj
  have HJF := hide hjf
  have HJL := hide hj.1
  clear h hf hj hjf
  obtain ⟨a0, a1⟩ := two_cells H0.out
  go_enter Try.func28, Try.ntmps28
  go_wp2_with fail
  rw [← hwA]
  clear hwA
  refine (implChipOk_any z a n cap qs wA HSQ.out (by omega) hn HF.out).mono ?_
  rintro e w1 ⟨rfl, b1⟩
  have K0 := hide (block_on H0.out b1)
  have K2 := hide (block_on H2.out b1)
  have HS1 := hide (HSQ.out.later b1 (by omega))
  have HB1 := hide (below_here HBA.out b1)
  have hs1 := b1.size
  clear b1 H0 H2 HSQ HBA a0 a1
  obtain ⟨a0, a1⟩ := two_cells K0.out
  cases hok : chipOk z qs with
  | false =>
    obtain ⟨p0, p1⟩ := two_cells K2.out
    have f0 := four_frozen K2.out 0
    have f1 := four_frozen K2.out 1
    have HRS := hide (two_set K2.out (.int .i64 0) (.slice none 0 0))
    have HAS := hide (two_aside (b := w.heap.size + 1) (Aside.refl (w.heap.size + 1) (w.heap.size + 1 + 1) w1) (Nat.le_refl _) (Nat.lt_succ_self _) (.int .i64 0) (.slice none 0 0))
    have HBF := hide (HB1.out.trans (HAS.out.below (B := w.heap.size) (by omega) (by omega)))
    go_wp2_with fail
    refine bodyPost_ret (results_ct rfl rfl (run_loadVar_row _ _ _ _ _ _ _ HRS.out Try.underlying36 rfl (by kernel_rfl))) rfl ⟨.agg #[.int .i64 0, .slice none 0 0], ?_, none, 0, ?_, ⟨Nat.le_refl _, .inl ?_⟩, HBF.out⟩
    · unfold allB; rw [hok]; rfl
    · unfold allZ allS allB; rw [hok]; rfl
    · unfold allS; rw [hok]; exact ⟨rfl, rfl⟩
  | true =>
    go_wp2_with fail
    refine (copyOfChip_any z a n cap qs w1 HS1.out (by omega) hok).mono ?_
    rintro e w2 ⟨g, c, A, C, rfl, hG, b2⟩
    obtain ⟨wX, hwX⟩ : ∃ wX, wX = w2.alloc (.cells #[.int .i64 z, .slice (some ⟨g, 0, none⟩) n c] 36) := ⟨_, rfl⟩
    have hzX : wX.heap.size = w2.heap.size + 1 := by rw [hwX]; simp
    have HBX : Hid (Below w2.heap.size w2 wX) := by rw [hwX]; exact (Below.refl _ _).alloc (Nat.le_refl _) _
    have HX : Hid (wX.heap[w2.heap.size]? = some (.cells #[.int .i64 z, .slice (some ⟨g, 0, none⟩) n c] 36)) := by rw [hwX]; exact heap_new _ _
    have K22 := hide (block_on (block_on K2.out b2) HBX.out)
    have HG2 := hide (hG.later HBX.out)
    have HB2 := hide (below_here (below_here HB1.out b2) HBX.out)
    have hs2 := b2.size
    have hgl : g < w2.heap.size := by have := hG.row.1; omega
    have hBg : w1.heap.size ≤ g := hG.atG
    clear hG b2 HBX K0 K2 HS1 HB1 a0 a1
    go_wp2_with fail
    rw [← hwX]
    clear hwX
    have HOK := hide hok
    clear hok
    go_loopw [17] (fun i wr => ∃ (k : Nat) (qk : List Sq) (A : Nat → Option Addr) (C : Nat → Nat), k ≤ m ∧ i = .int .i64 (k : Int) ∧ allQ z qs (js.take k) = some qk ∧ GrowSqs w1.heap.size wr n qk g A C ∧ Only w1.heap.size g wX wr) (fun i _ => m - (intOf i).toNat)
    case atStart => exact ⟨0, qs, A, C, Nat.zero_le _, rfl, rfl, HG2.out, Only.refl _ _ _⟩
    case round =>
      obtain ⟨k, qk, A, C, hk, rfl, hall, hG, hO⟩ := hrel
      have HAL := hide hall
      have HG := hide hG
      have HO := hide hO
      have hsr := hO.below.size
      have HX3 := hide (hO.other _ _ _ _ (show w2.heap.size ≠ g by omega) (by decide) HX.out)
      have K23 := hide (hO.other _ _ _ _ (show w.heap.size + 1 ≠ g by omega) (by decide) K22.out)
      have HB3 := hide (HB2.out.trans (hO.below.mono (show w.heap.size ≤ w1.heap.size by omega)))
      have HQK := hide (allQ_ok HOK.out hall)
      clear hall hG hO
      by_cases hlt : k < m
      · have hjl : k < js.length := by rw [HJL.out]; exact hlt
        obtain ⟨b, off, rfl, _, hb, hc⟩ := HJS.out.2.2 (by omega)
        obtain ⟨c0, c1, c2⟩ := job_cells hc HB3.out (show b < w.heap.size by omega) hlt
        have htx : (jbAt js k).2.2.size ≤ maxLen := (HJF.out _ (by unfold jbAt; rw [List.getD_eq_getElem?_getD, List.getElem?_eq_getElem hjl]; exact List.getElem_mem hjl)).2.2
        have HST := hide (fun h => allQ_step (z := z) hjl HAL.out h)
        have HFA := hide (fun h => allQ_fall (z := z) hjl HAL.out h)
        clear hc
        generalize jbAt js k = y at *
        obtain ⟨kd, sq, tx⟩ := y
        dsimp only at c0 c1 c2 htx
        obtain ⟨wV, hwV⟩ : ∃ wV, wV = wr.alloc (.cells #[.int .i64 kd, .int .i64 sq, .string tx] 48) := ⟨_, rfl⟩
        have hzV : wV.heap.size = wr.heap.size + 1 := by rw [hwV]; simp
        have HBV : Hid (Below wr.heap.size wr wV) := by rw [hwV]; exact (Below.refl _ _).alloc (Nat.le_refl _) _
        have HXV := hide (block_on HX3.out HBV.out)
        have HKV := hide (block_on K23.out HBV.out)
        have HGV := hide (HG.out.later HBV.out)
        have HOV := hide (HO.out.on HBV.out (by omega))
        have HBV3 := hide (below_here HB3.out HBV.out)
        obtain ⟨x0, x1⟩ := two_cells HXV.out
        rw [hwV] at x0 x1
        go_wp2_with fail
        rw [← hwV]
        clear hwV x0 x1
        refine (alter_any c w1.heap.size z n qk g A C kd sq tx wV HGV.out (by omega) HQK.out htx).mono ?_
        rintro e w3 ⟨rfl, A', C', hG3, hO3⟩
        have HG3 := hide hG3
        have HO3 := hide (HOV.out.trans hO3)
        have K24 := hide (hO3.other _ _ _ _ (show w.heap.size + 1 ≠ g by omega) (by decide) HKV.out)
        have HB4 := hide (HBV3.out.trans (hO3.below.mono (show w.heap.size ≤ w1.heap.size by omega)))
        have hs3 := hO3.below.size
        clear hG3 hO3 c0 c1 c2 HX3 K23 HB3
        cases hcan : canJ z qk (kd, sq, tx) with
        | true =>
          have HS := hide (HST.out hcan)
          go_wp2_with fail
          exact ⟨⟨k + 1, _, A', C', by omega, by go_num, HS.out, HG3.out, HO3.out⟩, by simp [intOf]; omega⟩
        | false =>
          have HN := hide (HFA.out hcan)
          obtain ⟨p0, p1⟩ := two_cells K24.out
          have f0 := four_frozen K24.out 0
          have f1 := four_frozen K24.out 1
          have HRS := hide (two_set K24.out (.int .i64 0) (.slice none 0 0))
          have HAS := hide (two_aside (b := w.heap.size + 1) (Aside.refl (w.heap.size + 1) (w.heap.size + 1 + 1) w3) (Nat.le_refl _) (Nat.lt_succ_self _) (.int .i64 0) (.slice none 0 0))
          have HBF := hide (HB4.out.trans (HAS.out.below (B := w.heap.size) (by omega) (by omega)))
          go_wp2_with fail
          refine bodyPost_ret (results_ct rfl rfl (run_loadVar_row _ _ _ _ _ _ _ HRS.out Try.underlying36 rfl (by kernel_rfl))) rfl ⟨.agg #[.int .i64 0, .slice none 0 0], ?_, none, 0, ?_, ⟨Nat.le_refl _, .inl ?_⟩, HBF.out⟩
          · unfold allB; rw [HN.out]; simp
          · unfold allZ allS allB; rw [HN.out]; simp
          · unfold allS; rw [HN.out]; simp
      · obtain rfl : k = m := by omega
        have HE : Hid (allQ z qs js = some qk) := by
          have h9 := HAL.out
          rw [List.take_of_length_le (by rw [HJL.out]; exact Nat.le_refl _)] at h9
          exact h9
        obtain ⟨x0, x1⟩ := two_cells HX3.out
        obtain ⟨p0, p1⟩ := two_cells K23.out
        have f0 := four_frozen K23.out 0
        have f1 := four_frozen K23.out 1
        have HRS := hide (two_set K23.out (.int .i64 z) (.slice (some ⟨g, 0, none⟩) n c))
        have HAS := hide (two_aside (b := w.heap.size + 1) (Aside.refl (w.heap.size + 1) (w.heap.size + 1 + 1) wr) (Nat.le_refl _) (Nat.lt_succ_self _) (.int .i64 z) (.slice (some ⟨g, 0, none⟩) n c))
        have HBF := hide (HB3.out.trans (HAS.out.below (B := w.heap.size) (by omega) (by omega)))
        have HGF := hide (HG.out.aside HAS.out (.inl (by omega)))
        go_wp2_with fail
        refine bodyPost_ret (results_ct rfl rfl (run_loadVar_row _ _ _ _ _ _ _ HRS.out Try.underlying36 rfl (by kernel_rfl))) rfl ⟨.agg #[.int .i64 z, .slice (some ⟨g, 0, none⟩) n c], ?_, ?_⟩
        · unfold allB; rw [HOK.out, HE.out]; rfl
        · unfold allZ allS allB
          rw [HOK.out, HE.out]
          exact ans_of_grow HGF.out (by omega) HBF.out
end Go.Proofs.Ytceidhlcbbikcal
