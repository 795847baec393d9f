/- Two Chips that are alike: the laws' own look at them. -/
import Derived.Test.YtceidhlcbbikcamChipOwn3
namespace Go.Proofs.Ytceidhlcbbikcam
open Go.RowKit
set_option linter.unusedVariables false
set_option maxRecDepth 20000

set_option maxHeartbeats 800000 in
theorem eqSquare_same (a a' : Option Addr) (n cap n' cap' : Nat) (ts : List ByteArray) (z : Int) (b : Bool) (w : World) {lo hi lo' hi' : Nat} (h : Texts lo hi w a n ts) (h' : Texts lo' hi' w a' n' ts) (hn : n ≤ 1048576) (hn' : n' ≤ 1048576) :
    Calls Try.prog 74 #[.agg #[.slice a n cap, .int .i64 z, .bool b], .agg #[.slice a' n' cap', .int .i64 z, .bool b]] w fun e w' => e = .returned (.bool true) ∧ Below w.heap.size w w' := by
  obtain ⟨wA, hwA⟩ : ∃ wA, wA = (w.alloc (.cells #[.slice a n cap, .int .i64 z, .bool b] 68)).alloc (.cells #[.slice a' n' cap', .int .i64 z, .bool b] 68) := ⟨_, rfl⟩
  have hzA : wA.heap.size = w.heap.size + 1 + 1 := by rw [hwA]; simp
  have HBA : Hid (Below w.heap.size w wA) := by rw [hwA]; exact (((Below.refl _ _).alloc (Nat.le_refl _) _).alloc (by simp) _)
  have H1 : Hid (wA.heap[w.heap.size]? = some (.cells #[.slice a n cap, .int .i64 z, .bool b] 68)) := by rw [hwA]; exact heap_old (heap_new _ _)
  have H2 : Hid (wA.heap[w.heap.size + 1]? = some (.cells #[.slice a' n' cap', .int .i64 z, .bool b] 68)) := by rw [hwA]; exact heap_at (by simp)
  have HTA := hide (h.later HBA.out h.2.1)
  have HTB := hide (h'.later HBA.out h'.2.1)
  clear h h'
  go_enter Try.func74, Try.ntmps74
  go_wp2_with fail
  rw [← hwA]
  clear hwA
  refine (eqT_any a n cap ts a' n' cap' ts wA HTA.out HTB.out hn hn').mono ?_
  rintro e w1 ⟨rfl, b1⟩
  have HB1 := hide (below_here HBA.out b1)
  obtain ⟨c0, c1, c2⟩ := three_cells (block_on H1.out b1)
  obtain ⟨d0, d1, d2⟩ := three_cells (block_on H2.out b1)
  have e0 : decide (ts = ts) = true := by simp
  rw [e0]
  clear b1 H1 H2 HTA HTB e0
  go_wp2_with fail
  go_ret
  exact ⟨rfl, HB1.out⟩

set_option maxHeartbeats 1600000 in
theorem eqSquareS_same (a a' : Option Addr) (n cap cap' : Nat) (qs : List Sq) (w : World) {lo hi lo' hi' : Nat} (h : Squares lo hi w a n qs) (h' : Squares lo' hi' w a' n qs) (hfit : n + weight qs ≤ 1048576) :
    Calls Try.prog 44 #[.slice a n cap, .slice a' n cap'] w fun e w' => e = .returned (.bool true) ∧ Below w.heap.size w w' := by
  obtain ⟨hl, A, C, hx, ht⟩ := h
  obtain ⟨hl', A', C', hx', ht'⟩ := h'
  have HL := hide hl
  have HX := hide hx
  have HX' := hide hx'
  have HT := hide ht
  have HT' := hide ht'
  have hsz := hx.1
  have hsz' := hx'.1
  clear hl hl' hx hx' ht ht'
  go_enter Try.func44, Try.ntmps44
  go_wp2_with fail
  go_loopw [5] (fun i wr => ∃ k : Nat, k ≤ n ∧ i = .int .i64 k ∧ Below w.heap.size w wr) (fun i _ => n - (intOf i).toNat)
  case atStart => exact ⟨0, Nat.zero_le _, rfl, Below.refl _ _⟩
  case round =>
    obtain ⟨k, hk, rfl, hbel⟩ := hrel
    by_cases hlt : k < n
    · obtain ⟨b, off, rfl, _, hb, hc⟩ := HX.out.2 (by omega)
      obtain ⟨b', off', rfl, _, hb', hc'⟩ := HX'.out.2 (by omega)
      obtain ⟨c0, c1, c2⟩ := sq_cells hc hbel (show b < w.heap.size by omega) hlt
      obtain ⟨d0, d1, d2⟩ := sq_cells hc' hbel (show b' < w.heap.size by omega) hlt
      have HI := hide ((HT.out k hlt).later hbel hsz)
      have HI' := hide ((HT'.out k hlt).later hbel hsz')
      have hl9 : (sqAt qs k).1.length ≤ 1048576 := by have := len_weight (show k < qs.length by rw [HL.out]; exact hlt); omega
      have HBB := hide hbel
      clear hc hc' hbel
      generalize sqAt qs k = y at *
      obtain ⟨ts, z, bd⟩ := y
      have HCC : ∀ w2, Hid (Below wr.heap.size wr w2 → Calls Try.prog 74 #[.agg #[.slice (A k) ts.length (C k), .int .i64 z, .bool bd], .agg #[.slice (A' k) ts.length (C' k), .int .i64 z, .bool bd]] w2 fun e w' => e = .returned (.bool true) ∧ Below w2.heap.size w2 w') := fun w2 hb2 =>
        eqSquare_same _ _ _ _ _ _ ts z bd w2 (HI.out.later hb2 (by have := HI.out.2.1; omega)) (HI'.out.later hb2 (by have := HI'.out.2.1; omega)) hl9 hl9
      generalize A k = p at c0 HCC
      generalize A' k = p' at d0 HCC
      generalize C k = cp at c0 HCC
      generalize C' k = cp' at d0 HCC
      clear HI HI'
      go_wp2_with fail
      go_region_with (go_at_call 74; refine ((HCC _).out (Below.refl _ wr).drew).mono ?_; rintro e w1 ⟨rfl, b1⟩; have HB1 := hide (below_here (show Below w.heap.size w wr.drew from HBB.out.drew) b1); clear b1)
      all_goals go_wp2_with fail
      all_goals exact ⟨⟨k + 1, by omega, by go_num, HB1.out⟩, by simp [intOf]; omega⟩
    · go_wp2_with fail
      go_ret
      exact ⟨rfl, hbel⟩

set_option maxHeartbeats 800000 in
theorem eqChip_same (z : Int) (a a' : Option Addr) (n cap cap' : Nat) (qs : List Sq) (w : World) {lo hi lo' hi' : Nat} (h : Squares lo hi w a n qs) (h' : Squares lo' hi' w a' n qs) (hhi : hi ≤ w.heap.size) (hhi' : hi' ≤ w.heap.size) (hfit : n + weight qs ≤ 1048576) :
    Calls Try.prog 15 #[.agg #[.int .i64 z, .slice a n cap], .agg #[.int .i64 z, .slice a' n cap']] w fun e w' => e = .returned (.bool true) ∧ Below w.heap.size w w' := by
  obtain ⟨wA, hwA⟩ : ∃ wA, wA = (w.alloc (.cells #[.int .i64 z, .slice a n cap] 31)).alloc (.cells #[.int .i64 z, .slice a' n cap'] 31) := ⟨_, rfl⟩
  have HBA : Hid (Below w.heap.size w wA) := by rw [hwA]; exact (((Below.refl _ _).alloc (Nat.le_refl _) _).alloc (by simp) _)
  have HTA := hide (h.later HBA.out hhi)
  have HTB := hide (h'.later HBA.out hhi')
  clear h h'
  go_enter Try.func15, Try.ntmps15
  go_wp2_with fail
  rw [← hwA]
  clear hwA
  refine (eqSquareS_same a a' n cap cap' qs wA HTA.out HTB.out hfit).mono ?_
  rintro e w1 ⟨rfl, b1⟩
  have HB1 := hide (below_here HBA.out b1)
  clear b1 HTA HTB
  go_wp2_with fail
  go_ret
  exact ⟨rfl, HB1.out⟩
end Go.Proofs.Ytceidhlcbbikcam
