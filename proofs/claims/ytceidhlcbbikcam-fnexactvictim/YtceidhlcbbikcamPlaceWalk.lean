/- The laws' own walks over Places: how many, copied, held against each other. -/
import Derived.Test.YtceidhlcbbikcamPlaceBase
import Derived.Test.YtceidhlcbbikcamChipEq
namespace Go.Proofs.Ytceidhlcbbikcam
open Go.RowKit
set_option linter.unusedVariables false
set_option maxRecDepth 20000

theorem Try.infoPl : (Try.prog.info? 76).map (fun i => (i.zero, i.size, i.bytes)) = some (some (.agg #[.int .i64 0, .int .i64 0]), 2, 16) := by kernel_rfl
set_option maxHeartbeats 400000 in
theorem szPlaceS_any (a : Option Addr) (n cap : Nat) (L : Int) (w : World) (hn : n ≤ maxLen) (hL0 : 0 ≤ L) (hL1 : L ≤ 1048576) :
    Calls Try.prog 20 #[.slice a n cap, .int .i64 L] w fun e w' => Left L n e ∧ w = w' := by
  unfold maxLen at hn
  by_cases hb : (n : Int) ≤ L
  · have g : decide (L - (n : Int) < 0) = false := by simp; omega
    go_enter Try.func20, Try.ntmps20
    go_wp2_with fail
    go_ret
    exact ⟨⟨L - (n : Int), rfl, by omega, by omega, fun _ => rfl⟩, rfl⟩
  · have g : decide (L - (n : Int) < 0) = true := by simp; omega
    go_enter Try.func20, Try.ntmps20
    go_wp2_with fail
    go_ret
    exact ⟨⟨-1, rfl, by omega, by omega, by omega⟩, rfl⟩
theorem toPlace_any (p q : Int) (w : World) :
    Calls Try.prog 52 #[.agg #[.int .i64 p, .int .i64 q]] w fun e w' => e = .returned (.agg #[.int .i64 p, .int .i64 q]) ∧ Below w.heap.size w w' := by
  go_enter Try.func52, Try.ntmps52
  go_wp2_with fail
  refine bodyPost_ret (results_cell rfl rfl (run_loadVar_row _ _ _ _ _ _ _ (heap_old (heap_at (by simp))) Try.underlying76 rfl (by kernel_rfl))) rfl ⟨rfl, ?_⟩
  exact (((Below.refl w.heap.size w).alloc (Nat.le_refl _) _).alloc (by simp) _).alloc (by simp; omega) _

set_option maxHeartbeats 1600000 in
theorem toPlaceS_any (a : Option Addr) (n cap : Nat) (ps : List Pl) (w : World) {lo hi : Nat} (h : Places lo hi w a n ps) (hn : n ≤ 1048576) :
    Calls Try.prog 22 #[.slice a n cap] w fun e w' => ∃ a', e = .returned (.slice a' n n) ∧ OwnPlaces w.heap.size (w.heap.size + 1) w' a' n ps ∧ Below w.heap.size w w' := by
  obtain ⟨hl, hx⟩ := h
  have HL := hide hl
  have HX := hide hx
  have hsz := hx.1
  clear hl hx
  have hmk := make2 (P := Try.prog) 44 76 (.int .i64 0) (.int .i64 0) 16 Try.underlying44 Try.infoPl n (by omega) (by omega) w
  have HM := hide (madeP w n 76)
  go_enter Try.func22, Try.ntmps22
  go_wp2_with fail
  go_loopw [4] (fun i wr => ∃ k : Nat, k ≤ n ∧ i = .int .i64 (k : Int) ∧
    Owned w.heap.size (w.heap.size + 1) wr (some ⟨w.heap.size, 0, none⟩) (2 * n) (fun j => if j < 2 * k then cellP ps j else .int .i64 0) ∧ Below w.heap.size w wr) (fun i _ => n - (intOf i).toNat)
  case atStart => exact ⟨0, Nat.zero_le _, rfl, HM.out.congr (fun j _ => by simp), (Below.refl _ _).alloc (Nat.le_refl _) _⟩
  case round =>
    obtain ⟨k, hk, rfl, hrow, hbel⟩ := hrel
    clear HM
    by_cases hlt : k < n
    · obtain ⟨b, off, rfl, _, hb1, hc⟩ := HX.out.2 (by omega)
      have hbw : b < w.heap.size := by omega
      obtain ⟨c0, c1⟩ := pl_cells hc hbel hbw hlt
      have HRW := hide hrow
      have HBB := hide hbel
      have HK3 := rowP_step ps k
      clear hrow hc hbel
      generalize hy : plAt ps k = y at *
      obtain ⟨p, q⟩ := y
      have HST := hide HK3
      clear hy HK3
      go_wp2_with fail
      refine (toPlace_any p q wr).mono ?_
      rintro e w2 ⟨rfl, b2⟩
      have hgs := HRW.out.1
      have hro := HRW.out.later b2 hgs
      obtain ⟨d0, f0, _, _⟩ := hro.at0 (show k * 2 < 2 * n by omega)
      obtain ⟨d1, f1, _, _⟩ := hro.at0 (show k * 2 + 1 < 2 * n by omega)
      have HAS := hide (((Aside.refl w.heap.size (w.heap.size + 1) w2).setCell (p := ⟨w.heap.size, k * 2, none⟩) (Nat.le_refl _) (Nat.lt_succ_self _) (.int .i64 p)).setCell (p := ⟨w.heap.size, k * 2 + 1, none⟩) (Nat.le_refl _) (Nat.lt_succ_self _) (.int .i64 q))
      have HNR := hide (((hro.set0 (show k * 2 < 2 * n by omega) (.int .i64 p)).set0 (show k * 2 + 1 < 2 * n by omega) (.int .i64 q)).congr (fun j _ => HST.out j))
      have hs2 := b2.size
      have HB2 := hide (below_here HBB.out b2)
      clear b2 hro c0 c1 HRW HST
      go_wp2_with fail
      exact ⟨⟨k + 1, by omega, by go_num, HNR.out, HB2.out.trans (HAS.out.below (Nat.le_refl _) (by omega))⟩, by simp [intOf]; omega⟩
    · obtain rfl : k = n := by omega
      go_wp2_with fail
      go_ret
      exact ⟨_, rfl, ⟨HL.out, hrow.congr (fun j hj => if_pos hj)⟩, hbel⟩

theorem eqPlace_same (p q : Int) (w : World) :
    Calls Try.prog 55 #[.agg #[.int .i64 p, .int .i64 q], .agg #[.int .i64 p, .int .i64 q]] w fun e w' => e = .returned (.bool true) ∧ Below w.heap.size w w' := by
  go_enter Try.func55, Try.ntmps55
  go_wp2_with fail
  go_ret
  exact ⟨rfl, ((Below.refl w.heap.size w).alloc (Nat.le_refl _) _).alloc (by simp) _⟩

set_option maxHeartbeats 1600000 in
theorem eqPlaceS_same (a a' : Option Addr) (n cap cap' : Nat) (ps : List Pl) (w : World) {lo hi lo' hi' : Nat} (h : Places lo hi w a n ps) (h' : Places lo' hi' w a' n ps) (hn : n ≤ 1048576) :
    Calls Try.prog 24 #[.slice a n cap, .slice a' n cap'] w fun e w' => e = .returned (.bool true) ∧ Below w.heap.size w w' := by
  obtain ⟨hl, hx⟩ := h
  obtain ⟨hl', hx'⟩ := h'
  have HX := hide hx
  have HX' := hide hx'
  have hsz := hx.1
  have hsz' := hx'.1
  clear hl hl' hx hx'
  go_enter Try.func24, Try.ntmps24
  go_wp2_with fail
  go_loopw [5] (fun i wr => ∃ k : Nat, k ≤ n ∧ i = .int .i64 k ∧ Below w.heap.size w wr) (fun i _ => n - (intOf i).toNat)
  case atStart => exact ⟨0, Nat.zero_le _, rfl, Below.refl _ _⟩
  case round =>
    obtain ⟨k, hk, rfl, hbel⟩ := hrel
    by_cases hlt : k < n
    · obtain ⟨b, off, rfl, _, hb, hc⟩ := HX.out.2 (by omega)
      obtain ⟨b', off', rfl, _, hb', hc'⟩ := HX'.out.2 (by omega)
      obtain ⟨c0, c1⟩ := pl_cells hc hbel (show b < w.heap.size by omega) hlt
      obtain ⟨d0, d1⟩ := pl_cells hc' hbel (show b' < w.heap.size by omega) hlt
      have HBB := hide hbel
      clear hc hc' hbel
      generalize plAt ps k = y at *
      obtain ⟨p, q⟩ := y
      go_wp2_with fail
      go_region_with (go_at_call 55; refine (eqPlace_same p q _).mono ?_; rintro e w1 ⟨rfl, b1⟩; have HB1 := hide (below_here (show Below w.heap.size w wr.drew from HBB.out.drew) b1); clear b1)
      all_goals go_wp2_with fail
      all_goals exact ⟨⟨k + 1, by omega, by go_num, HB1.out⟩, by simp [intOf]; omega⟩
    · go_wp2_with fail
      go_ret
      exact ⟨rfl, hbel⟩

end Go.Proofs.Ytceidhlcbbikcam
