/- The model's Cut. -/
import Derived.Test.YtceidhlcbbikcamChipCutS
import Derived.Test.YtceidhlcbbikcamChipDidS
namespace Go.Proofs.Ytceidhlcbbikcam
open Go.RowKit
set_option linter.unusedVariables false
set_option maxRecDepth 20000

def cutQ (z : Int) (qs : List Sq) (j : Jb) (b : Int) : List Sq := if chipOk z qs then cutJ z qs j b else []

set_option maxHeartbeats 1600000 in
theorem specCut_ans (z : Int) (a : Option Addr) (n cap : Nat) (qs : List Sq) (kd sq : Int) (tx : ByteArray) (by_ : Int) (w : World) {lo hi : Nat} (h : Squares lo hi w a n qs) (hhi : hi ≤ w.heap.size) (hn : n ≤ 1048576) (hf : ∀ x ∈ qs, sqFits x) (htx : tx.size ≤ maxLen) :
    Calls Try.prog 11 #[.agg #[.int .i64 z, .slice a n cap], .agg #[.int .i64 kd, .int .i64 sq, .string tx], .int .i64 by_] w fun e w' => ∃ v, e = .returned v ∧ ChipAns w (didZ z qs) (cutQ z qs (kd, sq, tx) by_) v w' := by
  obtain ⟨wA, hwA⟩ : ∃ wA, wA = ((w.alloc (.cells #[.int .i64 z, .slice a n cap] 31)).alloc (.cells #[.int .i64 kd, .int .i64 sq, .string tx] 34)).alloc (.cells #[.int .i64 0, .slice none 0 0] 31) := ⟨_, rfl⟩
  have hzA : wA.heap.size = w.heap.size + 1 + 1 + 1 := by rw [hwA]; simp
  have HBA : Hid (Below w.heap.size w wA) := by rw [hwA]; exact ((((Below.refl _ _).alloc (Nat.le_refl _) _).alloc (by simp) _).alloc (by simp; omega) _)
  have H0 : Hid (wA.heap[w.heap.size]? = some (.cells #[.int .i64 z, .slice a n cap] 31)) := by rw [hwA]; exact heap_old (heap_old (heap_new _ _))
  have H1 : Hid (wA.heap[w.heap.size + 1]? = some (.cells #[.int .i64 kd, .int .i64 sq, .string tx] 34)) := by rw [hwA]; exact heap_old (heap_at (by simp))
  have H2 : Hid (wA.heap[w.heap.size + 1 + 1]? = some (.cells #[.int .i64 0, .slice none 0 0] 31)) := by rw [hwA]; exact heap_at (by simp)
  have HSQ := hide (h.later HBA.out hhi)
  have HF := hide hf
  clear h hf
  obtain ⟨a0, a1⟩ := two_cells H0.out
  go_enter Try.func11, Try.ntmps11
  go_wp2_with fail
  rw [← hwA]
  clear hwA
  refine (specChipOk_any z a n cap qs wA HSQ.out (by omega) hn HF.out).mono ?_
  rintro e w1 ⟨rfl, b1⟩
  have K0 := hide (block_on H0.out b1)
  have K1 := hide (block_on H1.out b1)
  have K2 := hide (block_on H2.out b1)
  have HS1 := hide (HSQ.out.later b1 (by omega))
  have HB1 := hide (below_here HBA.out b1)
  have hs1 := b1.size
  clear b1 H0 H1 H2 HSQ HBA a0 a1
  obtain ⟨a0, a1⟩ := two_cells K0.out
  cases hok : chipOk z qs with
  | false =>
    obtain ⟨p0, p1⟩ := two_cells K2.out
    have f0 := four_frozen K2.out 0
    have f1 := four_frozen K2.out 1
    have HRS := hide (two_set K2.out (.int .i64 0) (.slice none 0 0))
    have HAS := hide (two_aside (b := w.heap.size + 1 + 1) (Aside.refl (w.heap.size + 1 + 1) (w.heap.size + 1 + 1 + 1) w1) (Nat.le_refl _) (Nat.lt_succ_self _) (.int .i64 0) (.slice none 0 0))
    have HBF := hide (HB1.out.trans (HAS.out.below (B := w.heap.size) (by omega) (by omega)))
    go_wp2_with fail
    refine bodyPost_ret (results_cell rfl rfl (run_loadVar_row _ _ _ _ _ _ _ HRS.out Try.underlying31 rfl (by kernel_rfl))) rfl ⟨.agg #[.int .i64 0, .slice none 0 0], rfl, none, 0, ?_, ⟨Nat.le_refl _, .inl ?_⟩, HBF.out⟩
    · unfold didZ cutQ; rw [hok]; rfl
    · unfold cutQ; rw [hok]; exact ⟨rfl, rfl⟩
  | true =>
    go_wp2_with fail
    refine (l8Copy_any z a n cap qs w1 HS1.out (by omega) hok).mono ?_
    rintro e w2 ⟨g, c, A, C, rfl, hG, b2⟩
    obtain ⟨wX, hwX⟩ : ∃ wX, wX = w2.alloc (.cells #[.int .i64 z, .slice (some ⟨g, 0, none⟩) n c] 31) := ⟨_, rfl⟩
    have hzX : wX.heap.size = w2.heap.size + 1 := by rw [hwX]; simp
    have HBX : Hid (Below w2.heap.size w2 wX) := by rw [hwX]; exact (Below.refl _ _).alloc (Nat.le_refl _) _
    have HX : Hid (wX.heap[w2.heap.size]? = some (.cells #[.int .i64 z, .slice (some ⟨g, 0, none⟩) n c] 31)) := by rw [hwX]; exact heap_new _ _
    have K12 := hide (block_on (block_on K1.out b2) HBX.out)
    have K22 := hide (block_on (block_on K2.out b2) HBX.out)
    have HG2 := hide (hG.later HBX.out)
    have HB2 := hide (below_here (below_here HB1.out b2) HBX.out)
    have hs2 := b2.size
    have hgl : g < w2.heap.size := by have := hG.row.1; omega
    clear hG b2 HBX K0 K1 K2 HS1 HB1 a0 a1
    obtain ⟨j0, j1, j2⟩ := three_cells K12.out
    rw [hwX] at j0 j1 j2
    go_wp2_with fail
    rw [← hwX]
    clear hwX j0 j1 j2
    refine (l8Cut_any w2.heap.size c w1.heap.size z n qs g A C kd sq tx by_ wX HG2.out (by omega) HX.out (by omega) hok htx).mono ?_
    rintro e w3 ⟨rfl, A', C', hG3, hO3⟩
    have K23 := hide (hO3.other _ _ _ _ (show w.heap.size + 1 + 1 ≠ g by have := HG2.out.atG; omega) (by decide) K22.out)
    have HX3 := hide (hO3.other _ _ _ _ (show w2.heap.size ≠ g by omega) (by decide) HX.out)
    have HG3 := hide hG3
    have HB3 := hide (HB2.out.trans (hO3.below.mono (show w.heap.size ≤ w1.heap.size by omega)))
    clear hG3 HG2 K12 K22 HX HB2
    have hs3 := hO3.below.size
    clear hO3
    obtain ⟨x0, x1⟩ := two_cells HX3.out
    obtain ⟨p0, p1⟩ := two_cells K23.out
    have f0 := four_frozen K23.out 0
    have f1 := four_frozen K23.out 1
    have HRS := hide (two_set K23.out (.int .i64 z) (.slice (some ⟨g, 0, none⟩) n c))
    have HAS := hide (two_aside (b := w.heap.size + 1 + 1) (Aside.refl (w.heap.size + 1 + 1) (w.heap.size + 1 + 1 + 1) w3) (Nat.le_refl _) (Nat.lt_succ_self _) (.int .i64 z) (.slice (some ⟨g, 0, none⟩) n c))
    have HBF := hide (HB3.out.trans (HAS.out.below (B := w.heap.size) (by omega) (by omega)))
    have HGF := hide (HG3.out.aside HAS.out (.inl (by omega)))
    go_wp2_with fail
    refine bodyPost_ret (results_cell rfl rfl (run_loadVar_row _ _ _ _ _ _ _ HRS.out Try.underlying31 rfl (by kernel_rfl))) rfl ⟨.agg #[.int .i64 z, .slice (some ⟨g, 0, none⟩) n c], rfl, ?_⟩
    · unfold didZ cutQ
      rw [hok]
      exact ans_of_grow HGF.out (by omega) HBF.out

end Go.Proofs.Ytceidhlcbbikcam
