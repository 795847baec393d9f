/- Chapter 19: the model's Part and Local. -/
import Derived.Test.YtnemncmaaejajaaHistLin
import Derived.Test.YtnemncmaaejajaaHistOwn
namespace Go.Proofs.Ytnemncmaaejajaa
open Go.RowKit
set_option linter.unusedVariables false
set_option linter.unusedSimpArgs false
set_option maxRecDepth 20000

def isAt (z : Int) (o : O9) : Bool := decide (o.a = z)
def partF (L : List O9) (z : Int) : List O9 := if histOk L then L.filter (isAt z) else []
/-- What Part answers: operations of one's own. -/
def PartTo (P : List O9) (w : World) (e : Ending) (w' : World) : Prop := ∃ v, e = .returned v ∧ O9Own w.heap.size w' v P ∧ Below w.heap.size w w'
theorem take_filter {L : List O9} {z : Int} {k : Nat} (h : k < L.length) : (L.take (k + 1)).filter (isAt z) = (L.take k).filter (isAt z) ++ (if isAt z (o9At L k) then [o9At L k] else []) := by
  have e : o9At L k = L[k] := by unfold o9At; rw [List.getD_eq_getElem?_getD, List.getElem?_eq_getElem h]; rfl
  rw [e, List.take_succ_eq_append_getElem h, List.filter_append]
  congr 1
  by_cases hc : isAt z L[k] = true <;> simp [List.filter, hc]
theorem take_filter_len {L : List O9} {z : Int} (k : Nat) : ((L.take k).filter (isAt z)).length ≤ L.length :=
  Nat.le_trans (List.length_filter_le _ _) (by rw [List.length_take]; omega)
set_option maxHeartbeats 6400000 in
theorem specPart_any (a : Option Addr) (n cap : Nat) (L : List O9) (z : Int) (w : World) {lo hi : Nat} (h : Ops9 lo hi w a n L) (hn : n ≤ 9223372036854775807) :
    Calls Try.prog 24 #[.slice a n cap, .int .i64 z] w (PartTo (partF L z) w) := by
  have HH := hide h
  clear h
  obtain ⟨wA, hwA⟩ : ∃ wA, wA = w.alloc (.cells #[] 45) := ⟨_, rfl⟩
  have HBA : Hid (Below w.heap.size w wA) := by rw [hwA]; exact (Below.refl _ _).alloc (Nat.le_refl _) _
  have HOA : Hid (O9Own w.heap.size wA (.slice (some ⟨w.heap.size, 0, none⟩) 0 0) []) := by rw [hwA]; exact o9_made0 w
  have HC := hide (specHistoryOk_any a n cap L wA (HH.out.later HBA.out HH.out.2.1) hn)
  go_enter Try.func24, Try.ntmps24
  go_upto_region 2 with fail
  rw [← hwA]
  clear hwA
  go_wp2_with fail
  refine HC.out.mono ?_
  rintro e w1 ⟨rfl, b1⟩
  have HB1 := hide (below_here HBA.out b1)
  have HO1 := hide (o9_later HOA.out b1)
  clear b1 HC HBA HOA
  obtain ⟨q, hq⟩ : ∃ q, histOk L = q := ⟨_, rfl⟩
  have HQ := hide hq
  rw [hq]
  clear hq
  cases q with
  | false =>
    have HN : Hid (partF L z = []) := by show _ = _; unfold partF; rw [HQ.out]; rfl
    go_wp2_with fail
    go_ret
    rw [HN.out]
    exact ⟨_, rfl, HO1.out, HB1.out⟩
  | true =>
    have HZ : Hid (n ≤ 12) := by show n ≤ 12; rw [← HH.out.1]; exact histOk_len HQ.out
    go_wp2_with fail
    go_loopw [5, 6] (fun v i wr => ∃ k : Nat, k ≤ n ∧ i = .int .i64 (k : Int) ∧ O9Own w.heap.size wr v ((L.take k).filter (isAt z)) ∧ Below w.heap.size w wr) (fun _ i _ => n - (intOf i).toNat)
    case atStart => exact ⟨0, Nat.zero_le _, rfl, HO1.out, HB1.out⟩
    case round =>
      clear HO1 HB1
      obtain ⟨k, hk, rfl, hown, hbel⟩ := hrel
      obtain ⟨w1, hw1⟩ : ∃ w1, w1 = wr := ⟨_, rfl⟩
      subst hw1
      have HO := hide hown
      have HB := hide hbel
      obtain ⟨ao, co, rfl, _⟩ := o9_form hown
      clear hown hbel
      by_cases hlt : k < n
      · have hkn : (k : Int) < (n : Int) := by omega
        obtain ⟨b, off, rfl, _, hb, hc⟩ := HH.out.2.2 (by omega)
        obtain ⟨c0, c1, c2, c3, c4⟩ := op9_row hc HB.out (show b < w.heap.size by have := HH.out.2.1; omega) hlt
        have hstep := take_filter (L := L) (z := z) (k := k) (by rw [HH.out.1]; omega)
        have hlen : Hid (((L.take k).filter (isAt z)).length ≤ 1000) := by show _ ≤ _; have := take_filter_len (L := L) (z := z) k; have := HH.out.1; have := HZ.out; omega
        obtain ⟨oa, how⟩ : ∃ o, o = o9At L k := ⟨_, rfl⟩
        rw [← how] at c0 c1 c2 c3 c4 hstep
        obtain ⟨xa, xw, xt, xb, xe⟩ := oa
        dsimp only at c0 c1 c2 c3 c4
        have HST := hide hstep
        obtain ⟨N, hN⟩ : ∃ N, N = ((L.take k).filter (isAt z)).length := ⟨_, rfl⟩
        rw [← hN] at hlen
        rw [← hN]
        have HNN := hide hN
        clear hc hstep how hN
        by_cases hz : xa = z
        · have hzb : (xa == z) = true := by simp [hz]
          have HI : Hid (isAt z ⟨xa, xw, xt, xb, xe⟩ = true) := by show _ = _; unfold isAt; exact decide_eq_true hz
          obtain ⟨wO, hwO⟩ : ∃ wO, wO = w1.alloc (.cells #[.int .i64 xa, .bool xw, .string xt, .int .i64 xb, .int .i64 xe] 45) := ⟨_, rfl⟩
          have HOB : Hid (O9Own w.heap.size wO (.slice ao N co) ((L.take k).filter (isAt z))) := by rw [hwO, HNN.out]; exact o9_alloc HO.out _
          obtain ⟨v6, w6, hap, ho6, hg6⟩ := append_op (t := 25) (c := 1) (x := ⟨xa, xw, xt, xb, xe⟩) Try.underlying25 HOB.out (by rw [hwO]; have := HB.out.size; simp; omega) (g := w1.heap.size) (by rw [hwO]; exact heap_new _ _) hlen.out
          rw [hwO] at hap
          have HAP := hide hap
          have HO6 := hide ho6
          have HB6 : Hid (Below w.heap.size w w6) := Below.grown (HB.out.alloc HB.out.size (.cells #[.int .i64 xa, .bool xw, .string xt, .int .i64 xb, .int .i64 xe] 45)) (by rw [← hwO]; exact hg6) (by have := HB.out.size; simp; omega) (fun k e => (World.ownsRow.lt HOB.out k e).1)
          clear hz hwO hap ho6 hg6
          go_wp2_with (at_builtin; refine Lib.wpList_append_run _ rfl (.tmp 25) (.tmp 30) _ _ rfl _ _ rfl rfl _ _ HAP.out ?_)
          go_roundw
          case rel => exact ⟨k + 1, by omega, by go_num, by rw [HST.out, HI.out]; exact HO6.out, HB6.out⟩
          case measure => simp [intOf]; omega
        · have hzb : (xa == z) = false := by simp [hz]
          have HI : Hid (isAt z ⟨xa, xw, xt, xb, xe⟩ = false) := by show _ = _; unfold isAt; exact decide_eq_false hz
          clear hz
          go_wp2_with fail
          go_roundw
          case rel => exact ⟨k + 1, by omega, by go_num, by rw [HST.out, HI.out, HNN.out]; simpa using HO.out, HB.out⟩
          case measure => simp [intOf]; omega
      · obtain rfl : k = n := by omega
        have HF : Hid (partF L z = (L.take k).filter (isAt z)) := by show _ = _; unfold partF; rw [HQ.out, if_pos rfl, List.take_of_length_le (by rw [HH.out.1]; exact Nat.le_refl _)]
        go_wp2_with fail
        go_ret
        rw [HF.out]
        exact ⟨_, rfl, HO.out, HB.out⟩
end Go.Proofs.Ytnemncmaaejajaa
