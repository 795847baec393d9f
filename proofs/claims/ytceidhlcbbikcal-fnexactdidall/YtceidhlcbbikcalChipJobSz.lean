/- How much room is left behind Jobs. -/
import Derived.Test.YtceidhlcbbikcalChipJob2
namespace Go.Proofs.Ytceidhlcbbikcal
open Go.RowKit
set_option linter.unusedVariables false
set_option maxRecDepth 20000

theorem szJob_any (k q : Int) (x : ByteArray) (L : Int) (w : World) (hx : x.size ≤ maxLen) (hL0 : 0 ≤ L) (hL1 : L ≤ 1048576) :
    Calls Try.prog 21 #[.agg #[.int .i64 k, .int .i64 q, .string x], .int .i64 L] w fun e w' => Left L x.size e ∧ Below w.heap.size w w' := by
  unfold maxLen at hx
  by_cases hb : (x.size : Int) ≤ L
  · have e1 : decide (L - (x.size : Int) < 0) = false := by simp; omega
    go_enter Try.func21, Try.ntmps21
    go_wp2_with fail
    go_ret
    exact ⟨⟨L - (x.size : Int), rfl, by omega, by omega, fun _ => rfl⟩, (Below.refl w.heap.size w).alloc (Nat.le_refl _) _⟩
  · have e1 : decide (L - (x.size : Int) < 0) = true := by simp; omega
    go_enter Try.func21, Try.ntmps21
    go_wp2_with fail
    go_ret
    exact ⟨⟨-1, rfl, by omega, by omega, fun h => absurd h (by omega)⟩, (Below.refl w.heap.size w).alloc (Nat.le_refl _) _⟩

def weightJ (js : List Jb) : Nat := (js.map fun j => j.2.2.size).sum
theorem weightJ_take (js : List Jb) (k : Nat) (h : k < js.length) : weightJ (js.take (k + 1)) = weightJ (js.take k) + (jbAt js k).2.2.size := by
  unfold weightJ jbAt
  rw [List.take_succ_eq_append_getElem h, List.map_append, List.sum_append, List.getD_eq_getElem?_getD, List.getElem?_eq_getElem h]
  simp
theorem jb_fits {js : List Jb} {k : Nat} (h : ∀ x ∈ js, jbFits x) (hk : k < js.length) : jbFits (jbAt js k) := by
  unfold jbAt
  rw [List.getD_eq_getElem?_getD, List.getElem?_eq_getElem hk]
  exact h _ (List.getElem_mem hk)

set_option maxHeartbeats 1600000 in
theorem szJobS_any (a : Option Addr) (n cap : Nat) (js : List Jb) (L : Int) (w : World) {lo hi : Nat} (h : Jobs lo hi w a n js) (hhi : hi ≤ w.heap.size) (hn : n ≤ maxLen) (hfit : ∀ x ∈ js, jbFits x) (hL0 : 0 ≤ L) (hL1 : L ≤ 1048576) :
    Calls Try.prog 25 #[.slice a n cap, .int .i64 L] w fun e w' => Left L (n + weightJ js) e ∧ Below w.heap.size w w' := by
  obtain ⟨hl, hx⟩ := h
  have HL := hide hl
  have HX := hide hx
  have HF := hide hfit
  unfold maxLen at hn
  clear hl hx hfit
  by_cases hb : (n : Int) ≤ L
  · go_enter Try.func25, Try.ntmps25
    go_wp2_with fail
    go_loopw [1, 5] (fun t i wr => ∃ k : Nat, k ≤ n ∧ i = .int .i64 (k : Int) ∧ (n : Int) + (weightJ (js.take k) : Int) ≤ L ∧ t = .int .i64 (L - (n : Int) - (weightJ (js.take k) : Int)) ∧ Below w.heap.size w wr) (fun _ i _ => n - (intOf i).toNat)
    case atStart => exact ⟨0, Nat.zero_le _, rfl, by simp [weightJ]; omega, by simp [weightJ], Below.refl _ _⟩
    case round =>
      obtain ⟨k, hk, rfl, htot, rfl, hbel⟩ := hrel
      by_cases hlt : k < n
      · obtain ⟨b, off, rfl, _, hb1, hc⟩ := HX.out.2 (by omega)
        have hbw : b < w.heap.size := by omega
        obtain ⟨c0, c1, c2⟩ := job_cells hc hbel hbw hlt
        have HFK := hide (jb_fits HF.out (show k < js.length by rw [HL.out]; exact hlt))
        have HWT := hide (weightJ_take js k (by rw [HL.out]; exact hlt))
        clear hc
        generalize weightJ (js.take k) = q at *
        generalize jbAt js k = y at *
        obtain ⟨kd, sq, tx⟩ := y
        have hL2 : 0 ≤ L - (n : Int) - (q : Int) := by omega
        go_wp2_with fail
        refine (szJob_any kd sq tx (L - (n : Int) - (q : Int)) wr HFK.out.2.2 hL2 (by omega)).mono ?_
        rintro e w2 ⟨⟨r, rfl, r1, r2, r3⟩, b2⟩
        have HR := hide r3
        have HB2 := hide (below_here hbel b2)
        clear r3 b2 hbel c0 c1 c2
        by_cases h0 : r < 0
        · go_wp2_with fail
          go_ret
          exact ⟨⟨-1, rfl, by omega, by omega, by omega⟩, HB2.out⟩
        · have hr : r = L - (n : Int) - (q : Int) - (tx.size : Int) := HR.out (by omega)
          go_wp2_with fail
          go_roundw
          case rel => exact ⟨k + 1, by omega, by go_num, by rw [HWT.out]; omega, by rw [HWT.out]; congr 1; omega, HB2.out⟩
          case measure => simp [intOf]; omega
      · have HW : Hid (weightJ (js.take k) = weightJ js) := by show _ = _; rw [List.take_of_length_le (by rw [HL.out]; omega)]
        generalize weightJ (js.take k) = q at *
        go_wp2_with fail
        go_ret
        exact ⟨⟨_, rfl, by omega, by omega, fun _ => by have := HW.out; omega⟩, hbel⟩
  · go_enter Try.func25, Try.ntmps25
    go_wp2_with fail
    go_ret
    exact ⟨⟨-1, rfl, by omega, by omega, by omega⟩, Below.refl _ _⟩
end Go.Proofs.Ytceidhlcbbikcal
