/- Chapter 19, the program: Part, Ahead; the model's Ahead. -/
import Derived.Test.YtnemncmaaejajaaHistImplH
import Derived.Test.YtnemncmaaejajaaHistPart
import Derived.Test.YtnemncmaaejajaaCloneW
namespace Go.Proofs.Ytnemncmaaejajaa
open Go.RowKit
set_option linter.unusedVariables false
set_option linter.unusedSimpArgs false
set_option maxRecDepth 20000

set_option maxHeartbeats 6400000 in
theorem implPart_any (a : Option Addr) (n cap : Nat) (L : List O9) (z : Int) (w : World) {lo hi : Nat} (h : Ops9 lo hi w a n L) (hn : n ≤ 9223372036854775807) (hcap : n ≤ cap) (htx : ∀ i, i < n → (o9At L i).t.size ≤ 1048576) :
    Calls Try.prog 25 #[.slice a n cap, .int .i64 z] w (PartTo (partF L z) w) := by
  have HH := hide h
  have HTX := hide htx
  have HC := hide (implHistoryOk_any a n cap L w h hn hcap)
  clear h htx
  go_enter Try.func25, Try.ntmps25
  go_wp2_with fail
  refine HC.out.mono ?_
  rintro e w1 ⟨rfl, b1⟩
  have HB1 := hide b1
  clear b1 HC
  obtain ⟨q, hq⟩ : ∃ q, histOk L = q := ⟨_, rfl⟩
  have HQ := hide hq
  rw [hq]
  clear hq
  cases q with
  | false =>
    have HN : Hid (partF L z = []) := by show _ = _; unfold partF; rw [HQ.out]; rfl
    go_wp2_with fail
    go_ret
    rw [HN.out]
    exact ⟨_, rfl, o9_nil _ _, HB1.out⟩
  | true =>
    have HZ : Hid (n ≤ 12) := by show n ≤ 12; rw [← HH.out.1]; exact histOk_len HQ.out
    go_wp2_with fail
    go_loopw [5, 13] (fun v i wr => ∃ k : Nat, k ≤ n ∧ i = .int .i64 (k : Int) ∧ O9Own w.heap.size wr v ((L.take k).filter (isAt z)) ∧ Below w.heap.size w wr) (fun _ i _ => n - (intOf i).toNat)
    case atStart => exact ⟨0, Nat.zero_le _, rfl, o9_nil _ _, HB1.out⟩
    case round =>
      clear HB1
      obtain ⟨k, hk, rfl, hown, hbel⟩ := hrel
      obtain ⟨w1, hw1⟩ : ∃ w1, w1 = wr := ⟨_, rfl⟩
      subst hw1
      have HO := hide hown
      have HB := hide hbel
      obtain ⟨ao, co, rfl, _⟩ := o9_form hown
      clear hown hbel
      by_cases hlt : k < n
      · have hkn : (k : Int) < (n : Int) := by omega
        obtain ⟨b, off, rfl, _, hb, hc⟩ := HH.out.2.2 (by omega)
        obtain ⟨c0, c1, c2, c3, c4⟩ := op9_row hc HB.out (show b < w.heap.size by have := HH.out.2.1; omega) hlt
        have hstep := take_filter (L := L) (z := z) (k := k) (by rw [HH.out.1]; omega)
        have hlen : Hid (((L.take k).filter (isAt z)).length ≤ 1000) := by show _ ≤ _; have := take_filter_len (L := L) (z := z) k; have := HH.out.1; have := HZ.out; omega
        have hsize := HTX.out k hlt
        obtain ⟨oa, how⟩ : ∃ o, o = o9At L k := ⟨_, rfl⟩
        rw [← how] at c0 c1 c2 c3 c4 hstep hsize
        obtain ⟨wO, hwO⟩ : ∃ wO, wO = w1.alloc (o9O oa 45) := ⟨_, rfl⟩
        have HPO : Hid (wO.heap[w1.heap.size]? = some (o9O oa 45)) := by rw [hwO]; exact heap_new _ _
        have HBO : Hid (Below w1.heap.size w1 wO) := by rw [hwO]; exact (Below.refl _ _).alloc (Nat.le_refl _) _
        obtain ⟨xa, xw, xt, xb, xe⟩ := oa
        dsimp only at c0 c1 c2 c3 c4 hsize
        have HST := hide hstep
        have HCL : ∀ W, Hid (Calls Try.prog 44 #[.string xt] W fun e w' => e = .returned (.string xt) ∧ Below W.heap.size W w') := fun W => cloneT_any xt W hsize
        obtain ⟨N, hN⟩ : ∃ N, N = ((L.take k).filter (isAt z)).length := ⟨_, rfl⟩
        rw [← hN] at hlen
        rw [← hN]
        have HNN := hide hN
        have HK1 : Hid (k + 1 ≤ n) := hlt
        have hk12 : k < 12 := by have := HZ.out; omega
        clear hc hstep how hN hsize
        go_upto_region 7 with fail
        rw [← hwO]
        clear hwO c0 c1 c2 c3 c4
        obtain ⟨c0, c1, c2, c3, c4⟩ := op9_cells HPO.out
        dsimp only at c0 c1 c2 c3 c4
        by_cases hz : xa = z
        · have hzb : (xa == z) = true := by simp [hz]
          have HI : Hid (isAt z ⟨xa, xw, xt, xb, xe⟩ = true) := by show _ = _; unfold isAt; exact decide_eq_true hz
          clear hz
          go_wp2_with fail
          refine (HCL wO).out.mono ?_
          rintro e w2 ⟨rfl, b2⟩
          have HP2 := hide (block_on HPO.out b2)
          have HB2 : Hid (Below w1.heap.size w1 w2) := below_here HBO.out b2
          clear b2 c0 c1 c2 c3 c4
          have HS2 := hide (set_block HP2.out 2 (.string xt) (by simp))
          obtain ⟨w3, hw3⟩ : ∃ w3, w3 = w2.setCell ⟨w1.heap.size, 2, none⟩ (.string xt) := ⟨_, rfl⟩
          have HP3 : Hid (w3.heap[w1.heap.size]? = some (o9O ⟨xa, xw, xt, xb, xe⟩ 45)) := by rw [hw3]; exact HS2.out
          have HB3 : Hid (Below w1.heap.size w1 w3) := by rw [hw3]; exact HB2.out.setCell (p := ⟨w1.heap.size, 2, none⟩) (Nat.le_refl _) _
          obtain ⟨d0, d1, d2, d3, d4⟩ := op9_cells HP2.out
          have f2 := four_frozen HP2.out 2
          dsimp only at d0 d1 d2 d3 d4
          go_upto_region 9 with fail
          rw [← hw3]
          clear hw3 d0 d1 d2 d3 d4 f2
          obtain ⟨c0, c1, c2, c3, c4⟩ := op9_cells HP3.out
          dsimp only at c0 c1 c2 c3 c4
          obtain ⟨wP, hwP⟩ : ∃ wP, wP = w3.alloc (.cells #[.int .i64 xa, .bool xw, .string xt, .int .i64 xb, .int .i64 xe] 45) := ⟨_, rfl⟩
          have HOB : Hid (O9Own w.heap.size wP (.slice ao N co) ((L.take k).filter (isAt z))) := by rw [hwP, HNN.out]; exact o9_alloc (o9_later HO.out HB3.out) _
          obtain ⟨v6, w6, hap, ho6, hg6⟩ := append_op (t := 25) (c := 1) (x := ⟨xa, xw, xt, xb, xe⟩) Try.underlying25 HOB.out (by rw [hwP]; have := HB.out.size; have := HB3.out.size; simp; omega) (g := w3.heap.size) (by rw [hwP]; exact heap_new _ _) hlen.out
          rw [hwP] at hap
          have HAP := hide hap
          have HO6 := hide ho6
          have HBW3 : Hid (Below w.heap.size w w3) := below_here HB.out HB3.out
          have HB6 : Hid (Below w.heap.size w w6) := Below.grown (HBW3.out.alloc HBW3.out.size (.cells #[.int .i64 xa, .bool xw, .string xt, .int .i64 xb, .int .i64 xe] 45)) (by rw [← hwP]; exact hg6) (by have := HBW3.out.size; simp; omega) (fun k e => (World.ownsRow.lt HOB.out k e).1)
          clear hwP hap ho6 hg6
          go_wp2_with (at_builtin; refine Lib.wpList_append_run _ rfl (.tmp 25) (.tmp 27) _ _ rfl _ _ rfl rfl _ _ HAP.out ?_)
          go_roundw
          case rel => exact ⟨k + 1, HK1.out, by go_num, by rw [HST.out, HI.out]; exact HO6.out, HB6.out⟩
          case measure => have := HK1.out; simp [intOf]; omega
        · have hzb : (xa == z) = false := by simp [hz]
          have HI : Hid (isAt z ⟨xa, xw, xt, xb, xe⟩ = false) := by show _ = _; unfold isAt; exact decide_eq_false hz
          clear hz
          go_wp2_with fail
          go_roundw
          case rel => exact ⟨k + 1, HK1.out, by go_num, by rw [HST.out, HI.out, HNN.out]; simpa using o9_later HO.out HBO.out, below_here HB.out HBO.out⟩
          case measure => have := HK1.out; simp [intOf]; omega
      · obtain rfl : k = n := by omega
        have HF : Hid (partF L z = (L.take k).filter (isAt z)) := by show _ = _; unfold partF; rw [HQ.out, if_pos rfl, List.take_of_length_le (by rw [HH.out.1]; exact Nat.le_refl _)]
        go_wp2_with fail
        go_ret
        rw [HF.out]
        exact ⟨_, rfl, HO.out, HB.out⟩
end Go.Proofs.Ytnemncmaaejajaa
