/- Chapter 19: the laws' walks over operations: copied, compared, sized. -/
import Derived.Test.YtnemncmaaejajaaHistOwn
import Derived.Test.YtnemncmaaejajaaHistRead
import Derived.Test.YtnemncmaaejajaaChipJobSz
import Derived.Test.YtnemncmaaejajaaHistLin
namespace Go.Proofs.Ytnemncmaaejajaa
open Go.RowKit
set_option linter.unusedVariables false
set_option linter.unusedSimpArgs false
set_option maxRecDepth 20000

theorem toOp_any (x : O9) (w : World) :
    Calls Try.prog 29 #[.agg #[.int .i64 x.a, .bool x.w, .string x.t, .int .i64 x.b, .int .i64 x.e]] w fun e w' => e = .returned (.agg #[.int .i64 x.a, .bool x.w, .string x.t, .int .i64 x.b, .int .i64 x.e]) ∧ Below w.heap.size w w' := by
  go_enter Try.func29, Try.ntmps29
  go_wp2_with fail
  refine bodyPost_ret (results_cell rfl rfl (run_loadVar_row _ _ _ _ _ _ _ (heap_old (heap_at (by simp))) Try.underlying45 rfl (by kernel_rfl))) rfl ⟨rfl, ?_⟩
  exact (((Below.refl w.heap.size w).alloc (Nat.le_refl _) _).alloc (by simp) _).alloc (by simp; omega) _
theorem make5 {P : Program} (t e : TypeId) (z0 z1 z2 z3 z4 : Value) (bytes : Nat) (ht : P.underlying t = some (.slice e)) (hinfo : (P.info? e).map (fun i => (i.zero, i.size, i.bytes)) = some (some (.agg #[z0, z1, z2, z3, z4]), 5, bytes))
    (n : Nat) (hb : bytes * n ≤ 281474976710656) (h63 : n ≤ 9223372036854775807) (w : World) :
    (Instr.makeSlice t (.int .i64 (n : Int)) (.int .i64 (n : Int))).run P w = .ok (.slice (some ⟨w.heap.size, 0, none⟩) n n) (w.alloc (.cells (madeCells #[z0, z1, z2, z3, z4] (n * 5)) e)) := by
  obtain ⟨i, hi, hzz⟩ := Option.map_eq_some_iff.1 hinfo
  simp only [Prod.mk.injEq] at hzz
  obtain ⟨hz, hs, hb'⟩ := hzz
  have h := run_make (P := P) w t e i (.agg #[z0, z1, z2, z3, z4]) ht hi hz .i64 .i64 (n : Int) (n : Int) (by omega) (by omega) (by rw [hb', ← Int.natCast_mul]; generalize bytes * n = q at hb ⊢; omega) (by omega)
  rw [h, hs]
  rfl
def zeroO (j : Nat) : Value := o9J ⟨0, false, ByteArray.empty, 0, 0⟩ (j % 5)
theorem madeO (w : World) (n : Nat) (e : TypeId) : Owned w.heap.size (w.heap.size + 1) (w.alloc (.cells (madeCells #[.int .i64 0, .bool false, .string ByteArray.empty, .int .i64 0, .int .i64 0] (n * 5)) e)) (some ⟨w.heap.size, 0, none⟩) (n * 5) zeroO := by
  refine ⟨by simp, fun _ => ⟨w.heap.size, 0, rfl, Nat.le_refl _, Nat.lt_succ_self _, fun j hj => ⟨?_, ?_⟩⟩⟩
  · rw [World.cell?_alloc_new, Nat.zero_add]
    have h3 : j % 5 = 0 ∨ j % 5 = 1 ∨ j % 5 = 2 ∨ j % 5 = 3 ∨ j % 5 = 4 := by omega
    rcases h3 with h | h | h | h | h <;> simp [madeCells, hj, zeroO, h, o9J]
  · exact four_frozen (heap_new w _) _
theorem rowO_step (L : List O9) (k j : Nat) (z : Nat → Value) :
    (if j = k * 5 + 4 then Value.int .i64 (o9At L k).e else if j = k * 5 + 3 then .int .i64 (o9At L k).b else if j = k * 5 + 2 then .string (o9At L k).t else if j = k * 5 + 1 then .bool (o9At L k).w else if j = k * 5 then .int .i64 (o9At L k).a else if j < k * 5 then o9C L j else z j) = (if j < (k + 1) * 5 then o9C L j else z j) := by
  by_cases hl : j < k * 5
  · rw [if_neg (by omega), if_neg (by omega), if_neg (by omega), if_neg (by omega), if_neg (by omega), if_pos hl, if_pos (by omega)]
  · by_cases hu : j < (k + 1) * 5
    · rw [if_pos hu]
      unfold o9C
      rw [show j / 5 = k by omega]
      rcases (show j = k * 5 ∨ j = k * 5 + 1 ∨ j = k * 5 + 2 ∨ j = k * 5 + 3 ∨ j = k * 5 + 4 by omega) with e | e | e | e | e
      · rw [if_neg (by omega), if_neg (by omega), if_neg (by omega), if_neg (by omega), if_pos e, show j % 5 = 0 by omega]; rfl
      · rw [if_neg (by omega), if_neg (by omega), if_neg (by omega), if_pos e, show j % 5 = 1 by omega]; rfl
      · rw [if_neg (by omega), if_neg (by omega), if_pos e, show j % 5 = 2 by omega]; rfl
      · rw [if_neg (by omega), if_pos e, show j % 5 = 3 by omega]; rfl
      · rw [if_pos e, show j % 5 = 4 by omega]; rfl
    · rw [if_neg (by omega), if_neg (by omega), if_neg (by omega), if_neg (by omega), if_neg (by omega), if_neg hl, if_neg hu]
set_option maxHeartbeats 1600000 in
theorem toOpS_any (a : Option Addr) (n cap : Nat) (L : List O9) (w : World) {lo hi : Nat} (h : Ops9 lo hi w a n L) (hn : n ≤ 1048576) :
    Calls Try.prog 10 #[.slice a n cap] w fun e w' => ∃ a', e = .returned (.slice a' n n) ∧ OwnOps9 w.heap.size (w.heap.size + 1) w' a' n L ∧ Below w.heap.size w w' := by
  have HX := hide h
  have hsz := h.2.1
  clear h
  have hmk := make5 (P := Try.prog) 25 45 (.int .i64 0) (.bool false) (.string ByteArray.empty) (.int .i64 0) (.int .i64 0) 48 Try.underlying25 Try.infoO9 n (by omega) (by omega) w
  have HM := hide (madeO w n 45)
  go_enter Try.func10, Try.ntmps10
  go_wp2_with fail
  go_loopw [4] (fun i wr => ∃ k : Nat, k ≤ n ∧ i = .int .i64 (k : Int) ∧
    Owned w.heap.size (w.heap.size + 1) wr (some ⟨w.heap.size, 0, none⟩) (n * 5) (fun j => if j < k * 5 then o9C L j else zeroO j) ∧ Below w.heap.size w wr) (fun i _ => n - (intOf i).toNat)
  case atStart => exact ⟨0, Nat.zero_le _, rfl, HM.out.congr (fun j _ => by simp), (Below.refl _ _).alloc (Nat.le_refl _) _⟩
  case round =>
    obtain ⟨k, hk, rfl, hrow, hbel⟩ := hrel
    clear HM
    by_cases hlt : k < n
    · obtain ⟨b, off, rfl, _, hb1, hc⟩ := HX.out.2.2 (by omega)
      have hbw : b < w.heap.size := by omega
      obtain ⟨c0, c1, c2, c3, c4⟩ := op9_row hc hbel hbw hlt
      have HRW := hide hrow
      have HBB := hide hbel
      have HK3 := hide (fun j => rowO_step L k j zeroO)
      clear hrow hc hbel
      obtain ⟨y, hy⟩ : ∃ y, y = o9At L k := ⟨_, rfl⟩
      rw [← hy] at c0 c1 c2 c3 c4 HK3
      have HTO := hide (toOp_any y wr)
      obtain ⟨xa, xw, xt, xb, xe⟩ := y
      dsimp only at c0 c1 c2 c3 c4
      clear hy
      go_wp2_with fail
      refine HTO.out.mono ?_
      rintro e w2 ⟨rfl, b2⟩
      have hgs := HRW.out.1
      have hro := HRW.out.later b2 hgs
      obtain ⟨d0, f0, _, _⟩ := hro.at0 (show k * 5 < n * 5 by omega)
      obtain ⟨d1, f1, _, _⟩ := hro.at0 (show k * 5 + 1 < n * 5 by omega)
      obtain ⟨d2, f2, _, _⟩ := hro.at0 (show k * 5 + 2 < n * 5 by omega)
      obtain ⟨d3, f3, _, _⟩ := hro.at0 (show k * 5 + 3 < n * 5 by omega)
      obtain ⟨d4, f4, _, _⟩ := hro.at0 (show k * 5 + 4 < n * 5 by omega)
      have HAS := hide ((((((Aside.refl w.heap.size (w.heap.size + 1) w2).setCell (p := ⟨w.heap.size, k * 5, none⟩) (Nat.le_refl _) (Nat.lt_succ_self _) (.int .i64 xa)).setCell (p := ⟨w.heap.size, k * 5 + 1, none⟩) (Nat.le_refl _) (Nat.lt_succ_self _) (.bool xw)).setCell (p := ⟨w.heap.size, k * 5 + 2, none⟩) (Nat.le_refl _) (Nat.lt_succ_self _) (.string xt)).setCell (p := ⟨w.heap.size, k * 5 + 3, none⟩) (Nat.le_refl _) (Nat.lt_succ_self _) (.int .i64 xb)).setCell (p := ⟨w.heap.size, k * 5 + 4, none⟩) (Nat.le_refl _) (Nat.lt_succ_self _) (.int .i64 xe))
      have HNR := hide ((((((hro.set0 (show k * 5 < n * 5 by omega) (.int .i64 xa)).set0 (show k * 5 + 1 < n * 5 by omega) (.bool xw)).set0 (show k * 5 + 2 < n * 5 by omega) (.string xt)).set0 (show k * 5 + 3 < n * 5 by omega) (.int .i64 xb)).set0 (show k * 5 + 4 < n * 5 by omega) (.int .i64 xe)).congr (fun j _ => HK3.out j))
      have hs2 := b2.size
      have HB2 := hide (below_here HBB.out b2)
      clear b2 hro c0 c1 c2 c3 c4 HRW HK3
      go_wp2_with fail
      exact ⟨⟨k + 1, by omega, by go_num, HNR.out, HB2.out.trans (HAS.out.below (Nat.le_refl _) (by omega))⟩, by simp [intOf]; omega⟩
    · obtain rfl : k = n := by omega
      go_wp2_with fail
      go_ret
      exact ⟨_, rfl, ⟨HX.out.1, hrow.congr (fun j hj => if_pos hj)⟩, hbel⟩
theorem eqOp_same (x : O9) (w : World) :
    Calls Try.prog 33 #[.agg #[.int .i64 x.a, .bool x.w, .string x.t, .int .i64 x.b, .int .i64 x.e], .agg #[.int .i64 x.a, .bool x.w, .string x.t, .int .i64 x.b, .int .i64 x.e]] w fun e w' => e = .returned (.bool true) ∧ Below w.heap.size w w' := by
  obtain ⟨xa, xw, xt, xb, xe⟩ := x
  have e0 := text_same xt
  dsimp only
  cases xw <;>
  · go_enter Try.func33, Try.ntmps33
    go_wp2_with fail
    all_goals go_ret
    all_goals exact ⟨rfl, ((Below.refl w.heap.size w).alloc (Nat.le_refl _) _).alloc (by simp) _⟩
theorem eqOpS_same (a a' : Option Addr) (n cap cap' : Nat) (L : List O9) (w : World) {lo hi lo' hi' : Nat} (h : Ops9 lo hi w a n L) (h' : Ops9 lo' hi' w a' n L) (hn : n ≤ 1048576) :
    Calls Try.prog 12 #[.slice a n cap, .slice a' n cap'] w fun e w' => e = .returned (.bool true) ∧ Below w.heap.size w w' := by
  have HX := hide h
  have HX' := hide h'
  have hsz := h.2.1
  have hsz' := h'.2.1
  clear h h'
  go_enter Try.func12, Try.ntmps12
  go_wp2_with fail
  go_loopw [5] (fun i wr => ∃ k : Nat, k ≤ n ∧ i = .int .i64 k ∧ Below w.heap.size w wr) (fun i _ => n - (intOf i).toNat)
  case atStart => exact ⟨0, Nat.zero_le _, rfl, Below.refl _ _⟩
  case round =>
    obtain ⟨k, hk, rfl, hbel⟩ := hrel
    by_cases hlt : k < n
    · obtain ⟨b, off, rfl, _, hb, hc⟩ := HX.out.2.2 (by omega)
      obtain ⟨b', off', rfl, _, hb', hc'⟩ := HX'.out.2.2 (by omega)
      obtain ⟨c0, c1, c2, c3, c4⟩ := op9_row hc hbel (show b < w.heap.size by omega) hlt
      obtain ⟨d0, d1, d2, d3, d4⟩ := op9_row hc' hbel (show b' < w.heap.size by omega) hlt
      have HBB := hide hbel
      clear hc hc' hbel
      obtain ⟨y, hy⟩ : ∃ y, y = o9At L k := ⟨_, rfl⟩
      rw [← hy] at c0 c1 c2 c3 c4 d0 d1 d2 d3 d4
      have HEQ := hide (eqOp_same y wr.drew)
      obtain ⟨xa, xw, xt, xb, xe⟩ := y
      dsimp only at c0 c1 c2 c3 c4 d0 d1 d2 d3 d4
      clear hy
      go_wp2_with fail
      go_region_with (go_at_call 33; refine HEQ.out.mono ?_; rintro e w1 ⟨rfl, b1⟩; have HB1 := hide (below_here (show Below w.heap.size w wr.drew from HBB.out.drew) b1); clear b1)
      all_goals go_wp2_with fail
      all_goals exact ⟨⟨k + 1, by omega, by go_num, HB1.out⟩, by simp [intOf]; omega⟩
    · go_wp2_with fail
      go_ret
      exact ⟨rfl, hbel⟩
def weightO (L : List O9) : Nat := (L.map fun j => j.t.size).sum
theorem weightO_take (L : List O9) (k : Nat) (h : k < L.length) : weightO (L.take (k + 1)) = weightO (L.take k) + (o9At L k).t.size := by
  unfold weightO o9At
  rw [List.take_succ_eq_append_getElem h, List.map_append, List.sum_append, List.getD_eq_getElem?_getD, List.getElem?_eq_getElem h]
  simp
theorem weightO_le {L : List O9} {k : Nat} (h : k < L.length) : (o9At L k).t.size ≤ weightO L := by
  have h1 := weightO_take L k h
  have h2 : weightO (L.take (k + 1)) ≤ weightO L := by
    unfold weightO
    conv => rhs; rw [← List.take_append_drop (k + 1) L, List.map_append, List.sum_append]
    omega
  omega
theorem o9_fits {L : List O9} {k : Nat} (h : ∀ x ∈ L, o9Fits x) (hk : k < L.length) : o9Fits (o9At L k) := by
  unfold o9At
  rw [List.getD_eq_getElem?_getD, List.getElem?_eq_getElem hk]
  exact h _ (List.getElem_mem hk)
theorem szOp_any (x : O9) (L : Int) (w : World) (hx : x.t.size ≤ maxLen) (hL0 : 0 ≤ L) (hL1 : L ≤ 1048576) :
    Calls Try.prog 27 #[.agg #[.int .i64 x.a, .bool x.w, .string x.t, .int .i64 x.b, .int .i64 x.e], .int .i64 L] w fun e w' => Left L x.t.size e ∧ Below w.heap.size w w' := by
  obtain ⟨xa, xw, xt, xb, xe⟩ := x
  dsimp only at hx ⊢
  unfold maxLen at hx
  by_cases hb : (xt.size : Int) ≤ L
  · have e1 : decide (L - (xt.size : Int) < 0) = false := by simp; omega
    go_enter Try.func27, Try.ntmps27
    go_wp2_with fail
    go_ret
    exact ⟨⟨L - (xt.size : Int), rfl, by omega, by omega, fun _ => rfl⟩, (Below.refl w.heap.size w).alloc (Nat.le_refl _) _⟩
  · have e1 : decide (L - (xt.size : Int) < 0) = true := by simp; omega
    go_enter Try.func27, Try.ntmps27
    go_wp2_with fail
    go_ret
    exact ⟨⟨-1, rfl, by omega, by omega, fun h => absurd h (by omega)⟩, (Below.refl w.heap.size w).alloc (Nat.le_refl _) _⟩
theorem szOpS_any (a : Option Addr) (n cap : Nat) (js : List O9) (L : Int) (w : World) {lo hi : Nat} (h : Ops9 lo hi w a n js) (hn : n ≤ maxLen) (hfit : ∀ x ∈ js, o9Fits x) (hL0 : 0 ≤ L) (hL1 : L ≤ 1048576) :
    Calls Try.prog 8 #[.slice a n cap, .int .i64 L] w fun e w' => Left L (n + weightO js) e ∧ Below w.heap.size w w' := by
  have HL := hide h.1
  have HX := hide h
  have hhi := h.2.1
  have HF := hide hfit
  unfold maxLen at hn
  clear h hfit
  by_cases hb : (n : Int) ≤ L
  · go_enter Try.func8, Try.ntmps8
    go_wp2_with fail
    go_loopw [1, 5] (fun t i wr => ∃ k : Nat, k ≤ n ∧ i = .int .i64 (k : Int) ∧ (n : Int) + (weightO (js.take k) : Int) ≤ L ∧ t = .int .i64 (L - (n : Int) - (weightO (js.take k) : Int)) ∧ Below w.heap.size w wr) (fun _ i _ => n - (intOf i).toNat)
    case atStart => exact ⟨0, Nat.zero_le _, rfl, by simp [weightO]; omega, by simp [weightO], Below.refl _ _⟩
    case round =>
      obtain ⟨k, hk, rfl, htot, rfl, hbel⟩ := hrel
      by_cases hlt : k < n
      · obtain ⟨b, off, rfl, _, hb1, hc⟩ := HX.out.2.2 (by omega)
        have hbw : b < w.heap.size := by omega
        obtain ⟨c0, c1, c2, c3, c4⟩ := op9_row hc hbel hbw hlt
        have HFK := hide (o9_fits HF.out (show k < js.length by rw [HL.out]; exact hlt))
        have HWT := hide (weightO_take js k (by rw [HL.out]; exact hlt))
        clear hc
        generalize weightO (js.take k) = q at *
        obtain ⟨y, hy⟩ : ∃ y, y = o9At js k := ⟨_, rfl⟩
        rw [← hy] at c0 c1 c2 c3 c4 HFK HWT
        have hL2 : 0 ≤ L - (n : Int) - (q : Int) := by omega
        have HSZ := hide (szOp_any y (L - (n : Int) - (q : Int)) wr HFK.out hL2 (by omega))
        obtain ⟨xa, xw, xt, xb, xe⟩ := y
        dsimp only at c0 c1 c2 c3 c4
        clear hy
        go_wp2_with fail
        refine HSZ.out.mono ?_
        rintro e w2 ⟨⟨r, rfl, r1, r2, r3⟩, b2⟩
        have HR := hide r3
        have HB2 := hide (below_here hbel b2)
        clear r3 b2 hbel c0 c1 c2 c3 c4
        by_cases h0 : r < 0
        · go_wp2_with fail
          go_ret
          exact ⟨⟨-1, rfl, by omega, by omega, by omega⟩, HB2.out⟩
        · have hr : r = L - (n : Int) - (q : Int) - (xt.size : Int) := HR.out (by omega)
          go_wp2_with fail
          go_roundw
          case rel => exact ⟨k + 1, by omega, by go_num, by rw [HWT.out]; omega, by rw [HWT.out]; congr 1; omega, HB2.out⟩
          case measure => simp [intOf]; omega
      · have HW : Hid (weightO (js.take k) = weightO js) := by show _ = _; rw [List.take_of_length_le (by rw [HL.out]; omega)]
        generalize weightO (js.take k) = q at *
        go_wp2_with fail
        go_ret
        exact ⟨⟨_, rfl, by omega, by omega, fun _ => by have := HW.out; omega⟩, hbel⟩
  · go_enter Try.func8, Try.ntmps8
    go_wp2_with fail
    go_ret
    exact ⟨⟨-1, rfl, by omega, by omega, by omega⟩, Below.refl _ _⟩
end Go.Proofs.Ytnemncmaaejajaa
