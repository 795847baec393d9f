/- How much room is left behind a Chip: the laws' own walks. -/
import Derived.Test.YtceidhlcbbikcamChipBase
import Derived.Test.YtceidhlcbbikcamTextWalk
import Derived.Test.YtceidhlcbbikcamResCell
namespace Go.Proofs.Ytceidhlcbbikcam
open Go.RowKit
set_option linter.unusedVariables false
set_option maxRecDepth 20000

/-- What a look at the room answers: nothing left, or just what is left behind so much. -/
def Left (L : Int) (z : Nat) (e : Ending) : Prop := ∃ r : Int, e = .returned (.int .i64 r) ∧ -1 ≤ r ∧ r ≤ L ∧ (0 ≤ r → r = L - (z : Int))

set_option maxHeartbeats 800000 in
theorem szTL_any (a : Option Addr) (n cap : Nat) (xs : List ByteArray) (L : Int) (w : World) {lo hi : Nat} (h : Texts lo hi w a n xs) (hn : n ≤ maxLen) (hxs : ∀ s ∈ xs, s.size ≤ maxLen) (hL0 : 0 ≤ L) (hL1 : L ≤ 1048576) :
    Calls Try.prog 81 #[.slice a n cap, .int .i64 L] w fun e w' => Left L (n + total xs) e ∧ w = w' := by
  obtain ⟨hl, hsz, hx⟩ := h
  unfold maxLen at hn hxs
  have HL : Hid (xs.length = n) := hl
  have HX := hide hxs
  clear hl hxs
  by_cases hb : (n : Int) ≤ L
  · go_enter Try.func81, Try.ntmps81
    go_wp2
    go_loop [1, 5] (fun t i => ∃ k : Nat, k ≤ n ∧ i = .int .i64 k ∧ (n : Int) + (total (xs.take k) : Int) ≤ L ∧ t = .int .i64 (L - (n : Int) - (total (xs.take k) : Int))) (fun _ i => n - (intOf i).toNat)
    case atStart => exact ⟨0, Nat.zero_le _, rfl, by simp [total]; omega, by simp [total]⟩
    case round =>
      obtain ⟨k, hk, rfl, htot, rfl⟩ := hrel
      by_cases hlt : k < n
      · obtain ⟨b, off, rfl, _, hb1, hc⟩ := hx (by omega)
        have hck : w.cell? ⟨b, off + k, none⟩ = some (.string (xs.getD k ByteArray.empty)) := hc k hlt
        clear hc hx
        have HT : Hid (total (xs.take (k + 1)) = total (xs.take k) + (xs.getD k ByteArray.empty).size) := total_take xs k (by rw [HL.out]; exact hlt)
        have hz9 : (xs.getD k ByteArray.empty).size ≤ 9223372036854775807 := by
          refine Nat.le_trans (HX.out _ ?_) (by omega)
          rw [List.getD_eq_getElem?_getD, List.getElem?_eq_getElem (by rw [HL.out]; exact hlt)]
          exact List.getElem_mem _
        obtain ⟨z, hz⟩ : ∃ z, z = xs.getD k ByteArray.empty := ⟨_, rfl⟩
        rw [← hz] at hck hz9 HT
        clear hz
        generalize total (xs.take k) = q at *
        by_cases h0 : (n : Int) + (q : Int) + (z.size : Int) ≤ L
        · go_wp2
          go_round
          case rel => exact ⟨k + 1, by omega, by go_num, by rw [HT.out]; omega, by rw [HT.out]; go_num⟩
          case measure => simp [intOf]; omega
        · go_wp2
          go_ret
          exact ⟨⟨-1, rfl, by omega, by omega, by omega⟩, rfl⟩
      · have HW : Hid (total (xs.take k) = total xs) := by show _ = _; rw [List.take_of_length_le (by rw [HL.out]; omega)]
        generalize total (xs.take k) = q at *
        go_wp2
        go_ret
        exact ⟨⟨_, rfl, by omega, by omega, fun _ => by have := HW.out; omega⟩, rfl⟩
  · go_enter Try.func81, Try.ntmps81
    go_wp2
    go_ret
    exact ⟨⟨-1, rfl, by omega, by omega, by omega⟩, rfl⟩

set_option maxHeartbeats 800000 in
theorem szSquare_any (a : Option Addr) (n cap : Nat) (xs : List ByteArray) (z : Int) (b : Bool) (L : Int) (w : World) {lo hi : Nat} (h : Texts lo hi w a n xs) (hhi : hi ≤ w.heap.size) (hn : n ≤ maxLen) (hxs : ∀ s ∈ xs, s.size ≤ maxLen) (hL0 : 0 ≤ L) (hL1 : L ≤ 1048576) :
    Calls Try.prog 64 #[.agg #[.slice a n cap, .int .i64 z, .bool b], .int .i64 L] w fun e w' => Left L (n + total xs) e ∧ Below w.heap.size w w' := by
  have HB := hide ((Below.refl w.heap.size w).alloc (Nat.le_refl _) (.cells #[.slice a n cap, .int .i64 z, .bool b] 95))
  go_enter Try.func64, Try.ntmps64
  go_wp2_with fail
  refine (szTL_any a n cap xs L _ (h.later HB.out hhi) hn hxs hL0 hL1).mono ?_
  rintro e w1 ⟨⟨r, rfl, h1, h2, h3⟩, rfl⟩
  have H3 := hide h3
  clear h3
  by_cases h0 : r < 0
  · go_wp2_with fail
    go_ret
    exact ⟨⟨-1, rfl, by omega, by omega, by omega⟩, HB.out⟩
  · go_wp2_with fail
    go_ret
    exact ⟨⟨r, rfl, h1, h2, H3.out⟩, HB.out⟩
def weight (qs : List Sq) : Nat := (qs.map fun q => q.1.length + total q.1).sum
theorem weight_take (qs : List Sq) (k : Nat) (h : k < qs.length) : weight (qs.take (k + 1)) = weight (qs.take k) + ((sqAt qs k).1.length + total (sqAt qs k).1) := by
  unfold weight sqAt
  rw [List.take_succ_eq_append_getElem h, List.map_append, List.sum_append, List.getD_eq_getElem?_getD, List.getElem?_eq_getElem h]
  simp
theorem sq_fits {qs : List Sq} {k : Nat} (h : ∀ x ∈ qs, sqFits x) (hk : k < qs.length) : sqFits (sqAt qs k) := by
  unfold sqAt
  rw [List.getD_eq_getElem?_getD, List.getElem?_eq_getElem hk]
  exact h _ (List.getElem_mem hk)

set_option maxHeartbeats 1600000 in
theorem szSquareS_any (a : Option Addr) (n cap : Nat) (qs : List Sq) (L : Int) (w : World) {lo hi : Nat} (h : Squares lo hi w a n qs) (hhi : hi ≤ w.heap.size) (hn : n ≤ maxLen) (hfit : ∀ x ∈ qs, sqFits x) (hL0 : 0 ≤ L) (hL1 : L ≤ 1048576) :
    Calls Try.prog 34 #[.slice a n cap, .int .i64 L] w fun e w' => Left L (n + weight qs) e ∧ Below w.heap.size w w' := by
  obtain ⟨hl, A, C, hx, ht⟩ := h
  have HL := hide hl
  have HX := hide hx
  have HT := hide ht
  have HF := hide hfit
  unfold maxLen at hn
  clear hl hx ht hfit
  by_cases hb : (n : Int) ≤ L
  · go_enter Try.func34, Try.ntmps34
    go_wp2_with fail
    go_loopw [1, 5] (fun t i wr => ∃ k : Nat, k ≤ n ∧ i = .int .i64 (k : Int) ∧ (n : Int) + (weight (qs.take k) : Int) ≤ L ∧ t = .int .i64 (L - (n : Int) - (weight (qs.take k) : Int)) ∧ Below w.heap.size w wr) (fun _ i _ => n - (intOf i).toNat)
    case atStart => exact ⟨0, Nat.zero_le _, rfl, by simp [weight]; omega, by simp [weight], Below.refl _ _⟩
    case round =>
      obtain ⟨k, hk, rfl, htot, rfl, hbel⟩ := hrel
      by_cases hlt : k < n
      · obtain ⟨b, off, rfl, _, hb1, hc⟩ := HX.out.2 (by omega)
        have hbw : b < w.heap.size := by omega
        obtain ⟨c0, c1, c2⟩ := sq_cells hc hbel hbw hlt
        have HTX := hide ((HT.out k hlt).later hbel hhi)
        have HFK := hide (sq_fits HF.out (show k < qs.length by rw [HL.out]; exact hlt))
        have HWT := hide (weight_take qs k (by rw [HL.out]; exact hlt))
        clear hc
        generalize weight (qs.take k) = q at *
        generalize sqAt qs k = y at *
        obtain ⟨ts, z, bd⟩ := y
        have hL2 : 0 ≤ L - (n : Int) - (q : Int) := by omega
        go_wp2_with fail
        refine (szSquare_any (A k) ts.length (C k) ts z bd (L - (n : Int) - (q : Int)) wr HTX.out (by have := hbel.size; omega) HFK.out.2.1 HFK.out.1 hL2 (by omega)).mono ?_
        rintro e w2 ⟨⟨r, rfl, r1, r2, r3⟩, b2⟩
        have HR := hide r3
        have HB2 := hide (below_here hbel b2)
        clear r3 b2 hbel c0 c1 c2
        by_cases h0 : r < 0
        · go_wp2_with fail
          go_ret
          exact ⟨⟨-1, rfl, by omega, by omega, by omega⟩, HB2.out⟩
        · have hr : r = L - (n : Int) - (q : Int) - ((ts.length + total ts : Nat) : Int) := HR.out (by omega)
          go_wp2_with fail
          go_roundw
          case rel => exact ⟨k + 1, by omega, by go_num, by rw [HWT.out]; omega, by rw [HWT.out]; congr 1; omega, HB2.out⟩
          case measure => simp [intOf]; omega
      · have HW : Hid (weight (qs.take k) = weight qs) := by show _ = _; rw [List.take_of_length_le (by rw [HL.out]; omega)]
        generalize weight (qs.take k) = q at *
        go_wp2_with fail
        go_ret
        exact ⟨⟨_, rfl, by omega, by omega, fun _ => by have := HW.out; omega⟩, hbel⟩
  · go_enter Try.func34, Try.ntmps34
    go_wp2_with fail
    go_ret
    exact ⟨⟨-1, rfl, by omega, by omega, by omega⟩, Below.refl _ _⟩

set_option maxHeartbeats 800000 in
theorem szChip_any (z : Int) (a : Option Addr) (n cap : Nat) (qs : List Sq) (L : Int) (w : World) {lo hi : Nat} (h : Squares lo hi w a n qs) (hhi : hi ≤ w.heap.size) (hn : n ≤ maxLen) (hfit : ∀ x ∈ qs, sqFits x) (hL0 : 0 ≤ L) (hL1 : L ≤ 1048576) :
    Calls Try.prog 9 #[.agg #[.int .i64 z, .slice a n cap], .int .i64 L] w fun e w' => Left L (n + weight qs) e ∧ Below w.heap.size w w' := by
  have HB := hide ((Below.refl w.heap.size w).alloc (Nat.le_refl _) (.cells #[.int .i64 z, .slice a n cap] 24))
  go_enter Try.func9, Try.ntmps9
  go_wp2_with fail
  refine (szSquareS_any a n cap qs L _ (h.later HB.out hhi) (Nat.le_trans hhi HB.out.size) hn hfit hL0 hL1).mono ?_
  rintro e w1 ⟨⟨r, rfl, h1, h2, h3⟩, b1⟩
  have H3 := hide h3
  have HB1 := hide (below_here HB.out b1)
  clear h3 b1
  by_cases h0 : r < 0
  · go_wp2_with fail
    go_ret
    exact ⟨⟨-1, rfl, by omega, by omega, by omega⟩, HB1.out⟩
  · go_wp2_with fail
    go_ret
    exact ⟨⟨r, rfl, h1, h2, H3.out⟩, HB1.out⟩
/-- A Chip behind which there is room: all of it is small. -/
theorem left_small {z : Nat} {r : Int} (h : 0 ≤ r → r = 1048576 - (z : Int)) (h0 : 0 ≤ r) : z ≤ 1048576 := by
  have := h h0; omega
end Go.Proofs.Ytceidhlcbbikcam
