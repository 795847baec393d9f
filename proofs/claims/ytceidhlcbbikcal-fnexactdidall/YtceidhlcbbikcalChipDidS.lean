/- The model's Did and DidAll. -/
import Derived.Test.YtceidhlcbbikcalChipDoS
import Derived.Test.YtceidhlcbbikcalChipAns
import Derived.Test.YtceidhlcbbikcalChipJob
namespace Go.Proofs.Ytceidhlcbbikcal
open Go.RowKit
set_option linter.unusedVariables false
set_option maxRecDepth 20000

def didZ (z : Int) (qs : List Sq) : Int := if chipOk z qs then z else 0
def didQ (z : Int) (qs : List Sq) (j : Jb) : List Sq := if chipOk z qs then doJ z qs j else []
def didB (z : Int) (qs : List Sq) (j : Jb) : Bool := chipOk z qs && canJ z qs j
theorem zero_two (z : Int) : (Value.agg #[.int .i64 0, .slice none 0 0]) = .agg #[.int .i64 0, .slice none (([] : List Sq).length) 0] := rfl
/-- A Chip of one's own in a result's cells. -/
theorem ans_of_grow {B n g c : Nat} {w w' : World} {z : Int} {qs : List Sq} {A : Nat → Option Addr} {C : Nat → Nat} (h : GrowSqs B w' n qs g A C) (hB : w.heap.size ≤ B) (hb : Below w.heap.size w w') : ChipAns w z qs (.agg #[.int .i64 z, .slice (some ⟨g, 0, none⟩) n c]) w' := by
  have hl := h.len
  subst hl
  exact ⟨_, c, rfl, ⟨Nat.le_refl _, .inr (h.ownS.wide hB (Nat.le_refl _) (Nat.le_refl _))⟩, hb⟩

set_option maxHeartbeats 1600000 in
theorem specDid_ans (z : Int) (a : Option Addr) (n cap : Nat) (qs : List Sq) (kd sq : Int) (tx : ByteArray) (w : World) {lo hi : Nat} (h : Squares lo hi w a n qs) (hhi : hi ≤ w.heap.size) (hn : n ≤ 1048576) (hf : ∀ x ∈ qs, sqFits x) (htx : tx.size ≤ maxLen) :
    Calls Try.prog 22 #[.agg #[.int .i64 z, .slice a n cap], .agg #[.int .i64 kd, .int .i64 sq, .string tx]] w fun e w' => ∃ v, e = .returned (.tuple #[v, .bool (didB z qs (kd, sq, tx))]) ∧ ChipAns w (didZ z qs) (didQ z qs (kd, sq, tx)) v w' := by
  obtain ⟨wA, hwA⟩ : ∃ wA, wA = ((w.alloc (.cells #[.int .i64 z, .slice a n cap] 36)).alloc (.cells #[.int .i64 kd, .int .i64 sq, .string tx] 48)).alloc (.cells #[.int .i64 0, .slice none 0 0] 36) := ⟨_, rfl⟩
  have hzA : wA.heap.size = w.heap.size + 1 + 1 + 1 := by rw [hwA]; simp
  have HBA : Hid (Below w.heap.size w wA) := by rw [hwA]; exact ((((Below.refl _ _).alloc (Nat.le_refl _) _).alloc (by simp) _).alloc (by simp; omega) _)
  have H0 : Hid (wA.heap[w.heap.size]? = some (.cells #[.int .i64 z, .slice a n cap] 36)) := by rw [hwA]; exact heap_old (heap_old (heap_new _ _))
  have H1 : Hid (wA.heap[w.heap.size + 1]? = some (.cells #[.int .i64 kd, .int .i64 sq, .string tx] 48)) := by rw [hwA]; exact heap_old (heap_at (by simp))
  have H2 : Hid (wA.heap[w.heap.size + 1 + 1]? = some (.cells #[.int .i64 0, .slice none 0 0] 36)) := by rw [hwA]; exact heap_at (by simp)
  have HSQ := hide (h.later HBA.out hhi)
  have HF := hide hf
  clear h hf
  obtain ⟨a0, a1⟩ := two_cells H0.out
  go_enter Try.func22, Try.ntmps22
  go_wp2_with fail
  rw [← hwA]
  clear hwA
  refine (specChipOk_any z a n cap qs wA HSQ.out (by omega) hn HF.out).mono ?_
  rintro e w1 ⟨rfl, b1⟩
  have K0 := hide (block_on H0.out b1)
  have K1 := hide (block_on H1.out b1)
  have K2 := hide (block_on H2.out b1)
  have HS1 := hide (HSQ.out.later b1 (by omega))
  have HB1 := hide (below_here HBA.out b1)
  have hs1 := b1.size
  clear b1 H0 H1 H2 HSQ HBA a0 a1
  obtain ⟨a0, a1⟩ := two_cells K0.out
  cases hok : chipOk z qs with
  | false =>
    obtain ⟨p0, p1⟩ := two_cells K2.out
    have f0 := four_frozen K2.out 0
    have f1 := four_frozen K2.out 1
    have HRS := hide (two_set K2.out (.int .i64 0) (.slice none 0 0))
    have HAS := hide (two_aside (b := w.heap.size + 1 + 1) (Aside.refl (w.heap.size + 1 + 1) (w.heap.size + 1 + 1 + 1) w1) (Nat.le_refl _) (Nat.lt_succ_self _) (.int .i64 0) (.slice none 0 0))
    have HBF := hide (HB1.out.trans (HAS.out.below (B := w.heap.size) (by omega) (by omega)))
    go_wp2_with fail
    refine bodyPost_ret (results_ct rfl rfl (run_loadVar_row _ _ _ _ _ _ _ HRS.out Try.underlying36 rfl (by kernel_rfl))) rfl ⟨.agg #[.int .i64 0, .slice none 0 0], ?_, none, 0, ?_, ⟨Nat.le_refl _, .inl ?_⟩, HBF.out⟩
    · unfold didB; rw [hok]; rfl
    · unfold didZ didQ; rw [hok]; rfl
    · unfold didQ; rw [hok]; exact ⟨rfl, rfl⟩
  | true =>
    go_wp2_with fail
    refine (l8Copy_any z a n cap qs w1 HS1.out (by omega) hok).mono ?_
    rintro e w2 ⟨g, c, A, C, rfl, hG, b2⟩
    obtain ⟨wX, hwX⟩ : ∃ wX, wX = w2.alloc (.cells #[.int .i64 z, .slice (some ⟨g, 0, none⟩) n c] 36) := ⟨_, rfl⟩
    have hzX : wX.heap.size = w2.heap.size + 1 := by rw [hwX]; simp
    have HBX : Hid (Below w2.heap.size w2 wX) := by rw [hwX]; exact (Below.refl _ _).alloc (Nat.le_refl _) _
    have HX : Hid (wX.heap[w2.heap.size]? = some (.cells #[.int .i64 z, .slice (some ⟨g, 0, none⟩) n c] 36)) := by rw [hwX]; exact heap_new _ _
    have K12 := hide (block_on (block_on K1.out b2) HBX.out)
    have K22 := hide (block_on (block_on K2.out b2) HBX.out)
    have HG2 := hide (hG.later HBX.out)
    have HB2 := hide (below_here (below_here HB1.out b2) HBX.out)
    have hs2 := b2.size
    have hgl : g < w2.heap.size := by have := hG.row.1; omega
    clear hG b2 HBX K0 K1 K2 HS1 HB1 a0 a1
    obtain ⟨j0, j1, j2⟩ := three_cells K12.out
    rw [hwX] at j0 j1 j2
    go_wp2_with fail
    rw [← hwX]
    clear hwX j0 j1 j2
    refine (l8Do_any w2.heap.size c w1.heap.size z n qs g A C kd sq tx wX HG2.out (by omega) HX.out (by omega) hok htx).mono ?_
    rintro e w3 ⟨rfl, A', C', hG3, hO3⟩
    have K23 := hide (hO3.other _ _ _ _ (show w.heap.size + 1 + 1 ≠ g by have := HG2.out.atG; omega) (by decide) K22.out)
    have HX3 := hide (hO3.other _ _ _ _ (show w2.heap.size ≠ g by omega) (by decide) HX.out)
    have HG3 := hide hG3
    have HB3 := hide (HB2.out.trans (hO3.below.mono (show w.heap.size ≤ w1.heap.size by omega)))
    clear hG3 HG2 K12 K22 HX HB2
    have hs3 := hO3.below.size
    clear hO3
    obtain ⟨x0, x1⟩ := two_cells HX3.out
    obtain ⟨p0, p1⟩ := two_cells K23.out
    have f0 := four_frozen K23.out 0
    have f1 := four_frozen K23.out 1
    have HRS := hide (two_set K23.out (.int .i64 z) (.slice (some ⟨g, 0, none⟩) n c))
    have HAS := hide (two_aside (b := w.heap.size + 1 + 1) (Aside.refl (w.heap.size + 1 + 1) (w.heap.size + 1 + 1 + 1) w3) (Nat.le_refl _) (Nat.lt_succ_self _) (.int .i64 z) (.slice (some ⟨g, 0, none⟩) n c))
    have HBF := hide (HB3.out.trans (HAS.out.below (B := w.heap.size) (by omega) (by omega)))
    have HGF := hide (HG3.out.aside HAS.out (.inl (by omega)))
    go_wp2_with fail
    refine bodyPost_ret (results_ct rfl rfl (run_loadVar_row _ _ _ _ _ _ _ HRS.out Try.underlying36 rfl (by kernel_rfl))) rfl ⟨.agg #[.int .i64 z, .slice (some ⟨g, 0, none⟩) n c], ?_, ?_⟩
    · unfold didB; rw [hok, Bool.true_and]; rfl
    · unfold didZ didQ
      rw [hok]
      exact ans_of_grow HGF.out (by omega) HBF.out

/-! ### All Jobs in order -/
def allQ (z : Int) : List Sq → List Jb → Option (List Sq)
  | qs, [] => some qs
  | qs, j :: js => if canJ z qs j then allQ z (doJ z qs j) js else none
theorem allQ_append (z : Int) (js ks : List Jb) : ∀ qs, allQ z qs (js ++ ks) = (allQ z qs js).bind (fun q => allQ z q ks) := by
  induction js with
  | nil => intro qs; rfl
  | cons j js ih =>
    intro qs
    show (if canJ z qs j then allQ z (doJ z qs j) (js ++ ks) else none) = (if canJ z qs j then allQ z (doJ z qs j) js else none).bind _
    split
    · exact ih _
    · rfl
theorem jb_take {js : List Jb} {k : Nat} (h : k < js.length) : js.take (k + 1) = js.take k ++ [jbAt js k] := by
  rw [List.take_succ_eq_append_getElem h]
  unfold jbAt
  rw [List.getD_eq_getElem?_getD, List.getElem?_eq_getElem h]
  rfl
theorem allQ_step {z : Int} {qs qk : List Sq} {js : List Jb} {k : Nat} (h : k < js.length) (hk : allQ z qs (js.take k) = some qk) (hc : canJ z qk (jbAt js k) = true) : allQ z qs (js.take (k + 1)) = some (doJ z qk (jbAt js k)) := by
  rw [jb_take h, allQ_append, hk]
  show (if canJ z qk (jbAt js k) then some (doJ z qk (jbAt js k)) else none) = _
  rw [hc]; rfl
theorem allQ_fall {z : Int} {qs qk : List Sq} {js : List Jb} {k : Nat} (h : k < js.length) (hk : allQ z qs (js.take k) = some qk) (hc : canJ z qk (jbAt js k) = false) : allQ z qs js = none := by
  have e : allQ z qs (js.take (k + 1)) = none := by
    rw [jb_take h, allQ_append, hk]
    show (if canJ z qk (jbAt js k) then some (doJ z qk (jbAt js k)) else none) = _
    rw [hc]; rfl
  rw [← List.take_append_drop (k + 1) js, allQ_append, e]; rfl
theorem allQ_ok {z : Int} {js : List Jb} : ∀ {qs q : List Sq}, chipOk z qs = true → allQ z qs js = some q → chipOk z q = true := by
  induction js with
  | nil => intro qs q h e; simp only [allQ, Option.some.injEq] at e; subst e; exact h
  | cons j js ih =>
    intro qs q h e
    unfold allQ at e
    split at e
    · exact ih (doJ_ok h) e
    · cases e
def allB (z : Int) (qs : List Sq) (js : List Jb) : Bool := chipOk z qs && (allQ z qs js).isSome
def allZ (z : Int) (qs : List Sq) (js : List Jb) : Int := if allB z qs js then z else 0
def allS (z : Int) (qs : List Sq) (js : List Jb) : List Sq := if chipOk z qs then (allQ z qs js).getD [] else []

set_option maxHeartbeats 1600000 in
theorem specDidAll_ans (z : Int) (a : Option Addr) (n cap : Nat) (qs : List Sq) (al : Option Addr) (m capl : Nat) (js : List Jb) (w : World) {lo hi lo' hi' : Nat} (h : Squares lo hi w a n qs) (hhi : hi ≤ w.heap.size) (hn : n ≤ 1048576) (hf : ∀ x ∈ qs, sqFits x) (hj : Jobs lo' hi' w al m js) (hhi' : hi' ≤ w.heap.size) (hm : m ≤ 1048576) (hjf : ∀ x ∈ js, jbFits x) :
    Calls Try.prog 26 #[.agg #[.int .i64 z, .slice a n cap], .slice al m capl] w fun e w' => ∃ v, e = .returned (.tuple #[v, .bool (allB z qs js)]) ∧ ChipAns w (allZ z qs js) (allS z qs js) v w' := by
  obtain ⟨wA, hwA⟩ : ∃ wA, wA = (w.alloc (.cells #[.int .i64 z, .slice a n cap] 36)).alloc (.cells #[.int .i64 0, .slice none 0 0] 36) := ⟨_, rfl⟩
  have hzA : wA.heap.size = w.heap.size + 1 + 1 := by rw [hwA]; simp
  have HBA : Hid (Below w.heap.size w wA) := by rw [hwA]; exact (((Below.refl _ _).alloc (Nat.le_refl _) _).alloc (by simp) _)
  have H0 : Hid (wA.heap[w.heap.size]? = some (.cells #[.int .i64 z, .slice a n cap] 36)) := by rw [hwA]; exact heap_old (heap_new _ _)
  have H2 : Hid (wA.heap[w.heap.size + 1]? = some (.cells #[.int .i64 0, .slice none 0 0] 36)) := by rw [hwA]; exact heap_at (by simp)
  have HSQ := hide (h.later HBA.out hhi)
  have HF := hide hf
  have HJS := hide hj
  have HJF := hide hjf
  have HJL := hide hj.1
  clear h hf hj hjf
  obtain ⟨a0, a1⟩ := two_cells H0.out
  go_enter Try.func26, Try.ntmps26
  go_wp2_with fail
  rw [← hwA]
  clear hwA
  refine (specChipOk_any z a n cap qs wA HSQ.out (by omega) hn HF.out).mono ?_
  rintro e w1 ⟨rfl, b1⟩
  have K0 := hide (block_on H0.out b1)
  have K2 := hide (block_on H2.out b1)
  have HS1 := hide (HSQ.out.later b1 (by omega))
  have HB1 := hide (below_here HBA.out b1)
  have hs1 := b1.size
  clear b1 H0 H2 HSQ HBA a0 a1
  obtain ⟨a0, a1⟩ := two_cells K0.out
  cases hok : chipOk z qs with
  | false =>
    obtain ⟨p0, p1⟩ := two_cells K2.out
    have f0 := four_frozen K2.out 0
    have f1 := four_frozen K2.out 1
    have HRS := hide (two_set K2.out (.int .i64 0) (.slice none 0 0))
    have HAS := hide (two_aside (b := w.heap.size + 1) (Aside.refl (w.heap.size + 1) (w.heap.size + 1 + 1) w1) (Nat.le_refl _) (Nat.lt_succ_self _) (.int .i64 0) (.slice none 0 0))
    have HBF := hide (HB1.out.trans (HAS.out.below (B := w.heap.size) (by omega) (by omega)))
    go_wp2_with fail
    refine bodyPost_ret (results_ct rfl rfl (run_loadVar_row _ _ _ _ _ _ _ HRS.out Try.underlying36 rfl (by kernel_rfl))) rfl ⟨.agg #[.int .i64 0, .slice none 0 0], ?_, none, 0, ?_, ⟨Nat.le_refl _, .inl ?_⟩, HBF.out⟩
    · unfold allB; rw [hok]; rfl
    · unfold allZ allS allB; rw [hok]; rfl
    · unfold allS; rw [hok]; exact ⟨rfl, rfl⟩
  | true =>
    go_wp2_with fail
    refine (l8Copy_any z a n cap qs w1 HS1.out (by omega) hok).mono ?_
    rintro e w2 ⟨g, c, A, C, rfl, hG, b2⟩
    obtain ⟨wX, hwX⟩ : ∃ wX, wX = w2.alloc (.cells #[.int .i64 z, .slice (some ⟨g, 0, none⟩) n c] 36) := ⟨_, rfl⟩
    have hzX : wX.heap.size = w2.heap.size + 1 := by rw [hwX]; simp
    have HBX : Hid (Below w2.heap.size w2 wX) := by rw [hwX]; exact (Below.refl _ _).alloc (Nat.le_refl _) _
    have HX : Hid (wX.heap[w2.heap.size]? = some (.cells #[.int .i64 z, .slice (some ⟨g, 0, none⟩) n c] 36)) := by rw [hwX]; exact heap_new _ _
    have K22 := hide (block_on (block_on K2.out b2) HBX.out)
    have HG2 := hide (hG.later HBX.out)
    have HB2 := hide (below_here (below_here HB1.out b2) HBX.out)
    have hs2 := b2.size
    have hgl : g < w2.heap.size := by have := hG.row.1; omega
    have hBg : w1.heap.size ≤ g := hG.atG
    clear hG b2 HBX K0 K2 HS1 HB1 a0 a1
    go_wp2_with fail
    rw [← hwX]
    clear hwX
    have HOK := hide hok
    clear hok
    go_loopw [7] (fun i wr => ∃ (k : Nat) (qk : List Sq) (A : Nat → Option Addr) (C : Nat → Nat), k ≤ m ∧ i = .int .i64 (k : Int) ∧ allQ z qs (js.take k) = some qk ∧ GrowSqs w1.heap.size wr n qk g A C ∧ Only w1.heap.size g wX wr) (fun i _ => m - (intOf i).toNat)
    case atStart => exact ⟨0, qs, A, C, Nat.zero_le _, rfl, rfl, HG2.out, Only.refl _ _ _⟩
    case round =>
      obtain ⟨k, qk, A, C, hk, rfl, hall, hG, hO⟩ := hrel
      have HAL := hide hall
      have HG := hide hG
      have HO := hide hO
      have hsr := hO.below.size
      have HX3 := hide (hO.other _ _ _ _ (show w2.heap.size ≠ g by omega) (by decide) HX.out)
      have K23 := hide (hO.other _ _ _ _ (show w.heap.size + 1 ≠ g by omega) (by decide) K22.out)
      have HB3 := hide (HB2.out.trans (hO.below.mono (show w.heap.size ≤ w1.heap.size by omega)))
      have HQK := hide (allQ_ok HOK.out hall)
      clear hall hG hO
      by_cases hlt : k < m
      · have hjl : k < js.length := by rw [HJL.out]; exact hlt
        obtain ⟨b, off, rfl, _, hb, hc⟩ := HJS.out.2.2 (by omega)
        obtain ⟨c0, c1, c2⟩ := job_cells hc HB3.out (show b < w.heap.size by omega) hlt
        have htx : (jbAt js k).2.2.size ≤ maxLen := (HJF.out _ (by unfold jbAt; rw [List.getD_eq_getElem?_getD, List.getElem?_eq_getElem hjl]; exact List.getElem_mem hjl)).2.2
        have HST := hide (fun h => allQ_step (z := z) hjl HAL.out h)
        have HFA := hide (fun h => allQ_fall (z := z) hjl HAL.out h)
        clear hc
        generalize jbAt js k = y at *
        obtain ⟨kd, sq, tx⟩ := y
        dsimp only at c0 c1 c2 htx
        go_wp2_with fail
        refine (l8Do_any w2.heap.size c w1.heap.size z n qk g A C kd sq tx wr HG.out (by omega) HX3.out (by omega) HQK.out htx).mono ?_
        rintro e w3 ⟨rfl, A', C', hG3, hO3⟩
        have HG3 := hide hG3
        have HO3 := hide (HO.out.trans hO3)
        have K24 := hide (hO3.other _ _ _ _ (show w.heap.size + 1 ≠ g by omega) (by decide) K23.out)
        have HB4 := hide (HB3.out.trans (hO3.below.mono (show w.heap.size ≤ w1.heap.size by omega)))
        have hs3 := hO3.below.size
        clear hG3 hO3 c0 c1 c2 HX3 K23 HB3
        cases hcan : canJ z qk (kd, sq, tx) with
        | true =>
          have HS := hide (HST.out hcan)
          go_wp2_with fail
          exact ⟨⟨k + 1, _, A', C', by omega, by go_num, HS.out, HG3.out, HO3.out⟩, by simp [intOf]; omega⟩
        | false =>
          have HN := hide (HFA.out hcan)
          obtain ⟨p0, p1⟩ := two_cells K24.out
          have f0 := four_frozen K24.out 0
          have f1 := four_frozen K24.out 1
          have HRS := hide (two_set K24.out (.int .i64 0) (.slice none 0 0))
          have HAS := hide (two_aside (b := w.heap.size + 1) (Aside.refl (w.heap.size + 1) (w.heap.size + 1 + 1) w3) (Nat.le_refl _) (Nat.lt_succ_self _) (.int .i64 0) (.slice none 0 0))
          have HBF := hide (HB4.out.trans (HAS.out.below (B := w.heap.size) (by omega) (by omega)))
          go_wp2_with fail
          refine bodyPost_ret (results_ct rfl rfl (run_loadVar_row _ _ _ _ _ _ _ HRS.out Try.underlying36 rfl (by kernel_rfl))) rfl ⟨.agg #[.int .i64 0, .slice none 0 0], ?_, none, 0, ?_, ⟨Nat.le_refl _, .inl ?_⟩, HBF.out⟩
          · unfold allB; rw [HN.out]; simp
          · unfold allZ allS allB; rw [HN.out]; simp
          · unfold allS; rw [HN.out]; simp
      · obtain rfl : k = m := by omega
        have HE : Hid (allQ z qs js = some qk) := by
          have h9 := HAL.out
          rw [List.take_of_length_le (by rw [HJL.out]; exact Nat.le_refl _)] at h9
          exact h9
        obtain ⟨x0, x1⟩ := two_cells HX3.out
        obtain ⟨p0, p1⟩ := two_cells K23.out
        have f0 := four_frozen K23.out 0
        have f1 := four_frozen K23.out 1
        have HRS := hide (two_set K23.out (.int .i64 z) (.slice (some ⟨g, 0, none⟩) n c))
        have HAS := hide (two_aside (b := w.heap.size + 1) (Aside.refl (w.heap.size + 1) (w.heap.size + 1 + 1) wr) (Nat.le_refl _) (Nat.lt_succ_self _) (.int .i64 z) (.slice (some ⟨g, 0, none⟩) n c))
        have HBF := hide (HB3.out.trans (HAS.out.below (B := w.heap.size) (by omega) (by omega)))
        have HGF := hide (HG.out.aside HAS.out (.inl (by omega)))
        go_wp2_with fail
        refine bodyPost_ret (results_ct rfl rfl (run_loadVar_row _ _ _ _ _ _ _ HRS.out Try.underlying36 rfl (by kernel_rfl))) rfl ⟨.agg #[.int .i64 z, .slice (some ⟨g, 0, none⟩) n c], ?_, ?_⟩
        · unfold allB; rw [HOK.out, HE.out]; rfl
        · unfold allZ allS allB
          rw [HOK.out, HE.out]
          exact ans_of_grow HGF.out (by omega) HBF.out
end Go.Proofs.Ytceidhlcbbikcal
