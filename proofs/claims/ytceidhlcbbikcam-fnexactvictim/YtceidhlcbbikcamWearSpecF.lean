/- The model's Empty. -/
import Derived.Test.YtceidhlcbbikcamWearSpecE
namespace Go.Proofs.Ytceidhlcbbikcam
open Go.RowKit
set_option linter.unusedVariables false
set_option maxRecDepth 20000

theorem valN_ints (l : List Nat) : valN l = (l.map (fun (i : Nat) => (i : Int))).map (Value.int .i64) := by
  unfold valN; rw [List.map_map]; rfl
theorem own_valN {w : World} {base n : Nat} {v : Value} {l : List Nat} (h : w.ownsRow base 2 1 v n (valN l)) :
    ∃ a cap, v = .slice a n cap ∧ n ≤ cap ∧ OwnInts base w.heap.size w a n (l.map (fun (i : Nat) => (i : Int))) := by
  obtain ⟨a, cap, e, hc, hl, _, ho⟩ := owned_of_own h
  rw [valN_length] at hl
  refine ⟨a, cap, e, hc, by rw [List.length_map]; exact hl, ho.congr fun i hi => ?_⟩
  rw [valN_ints]
  exact map_cell _ i (by rw [List.length_map]; omega)

set_option maxHeartbeats 1600000 in
theorem specEmpty_any (z : Int) (a : Option Addr) (n cap : Nat) (qs : List Sq) (w : World) {lo hi : Nat} (h : Squares lo hi w a n qs) (hhi : hi ≤ w.heap.size) (hn : n ≤ 1048576) (hf : ∀ x ∈ qs, sqFits x) :
    Calls Try.prog 27 #[.agg #[.int .i64 z, .slice a n cap]] w fun e w' => ∃ a' n' cap', e = .returned (.slice a' n' cap') ∧ n' ≤ cap' ∧ n' ≤ 12 ∧ OwnInts w.heap.size w'.heap.size w' a' n' (emptyL z qs) ∧ Below w.heap.size w w' := by
  obtain ⟨wA, hwA⟩ : ∃ wA, wA = w.alloc (.cells #[.int .i64 z, .slice a n cap] 31) := ⟨_, rfl⟩
  have hzA : wA.heap.size = w.heap.size + 1 := by rw [hwA]; simp
  have HBA : Hid (Below w.heap.size w wA) := by rw [hwA]; exact (Below.refl _ _).alloc (Nat.le_refl _) _
  have H1 : Hid (wA.heap[w.heap.size]? = some (.cells #[.int .i64 z, .slice a n cap] 31)) := by rw [hwA]; exact heap_new _ _
  have HSQ := hide (h.later HBA.out hhi)
  have HL := hide h.1
  have HF := hide hf
  clear h hf
  obtain ⟨a0, a1⟩ := two_cells H1.out
  go_enter Try.func27, Try.ntmps27
  go_upto_region 1 with fail
  rw [← hwA]
  clear hwA
  go_wp2_with fail
  refine (specChipOk_any z a n cap qs wA HSQ.out (by omega) hn HF.out).mono ?_
  rintro e w1 ⟨rfl, b1⟩
  have K1 := hide (block_on H1.out b1)
  have HS1 := hide (HSQ.out.later b1 (by omega))
  have HB1 := hide (below_here HBA.out b1)
  have hs1 := b1.size
  clear b1 H1 HSQ HBA a0 a1
  obtain ⟨a0, a1⟩ := two_cells K1.out
  cases hok : chipOk z qs with
  | false =>
    have HE : Hid (emptyL z qs = []) := by show _ = _; unfold emptyL; rw [hok]; rfl
    have HM := hide (own_made0 w1 2)
    have HB2 := hide (HB1.out.alloc (by omega) (.cells #[] 2))
    go_wp2_with fail
    go_ret
    exact ⟨_, _, _, rfl, Nat.le_refl _, by omega, by rw [HE.out]; exact ⟨rfl, Nat.le_refl _, fun h => absurd h (Nat.lt_irrefl _)⟩, HB2.out⟩
  | true =>
    have HE : Hid (emptyL z qs = (emptyK qs qs.length).map (fun (i : Nat) => (i : Int))) := by show _ = _; unfold emptyL; rw [hok]; rfl
    have hn12 : n ≤ 12 := by have := (chipOk_parts hok).2.2.2.1; rw [HL.out] at this; exact this
    clear hok
    go_wp2_with fail
    refine (l9Empty_any z a n cap qs w1 HS1.out (by omega) hn12 HF.out).mono ?_
    rintro e w2 ⟨v, rfl, hown, b2⟩
    have hle := emptyK_length qs n
    obtain ⟨a', cap', rfl, hc', ho⟩ := own_valN hown
    have HO := hide ho
    have HB2 := hide (below_here HB1.out b2)
    clear ho hown b2
    go_wp2_with fail
    go_ret
    refine ⟨_, _, _, rfl, hc', by omega, ?_, HB2.out⟩
    rw [HE.out, HL.out]
    exact ⟨HO.out.1, HO.out.2.1, fun h => by obtain ⟨b, off, h1, h2, h3, h4⟩ := HO.out.2.2 h; exact ⟨b, off, h1, by omega, h3, h4⟩⟩
end Go.Proofs.Ytceidhlcbbikcam
