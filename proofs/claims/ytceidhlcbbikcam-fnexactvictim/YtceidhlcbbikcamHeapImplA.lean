/- The program's ranking: Len, Less, Swap. -/
import Derived.Test.YtceidhlcbbikcamHeapBase
import Derived.BigRegion
import Derived.Deep.QuietTactic
import Derived.BigQuiet
namespace Go.Proofs.Ytceidhlcbbikcam
open Go.RowKit
set_option linter.unusedVariables false
set_option maxRecDepth 20000

set_option maxHeartbeats 400000 in
theorem rkLen_any (a : Option Addr) (n cap : Nat) (w : World) (hn : n ≤ 1048576) :
    Calls Try.prog 61 #[.slice a n cap] w fun e w' => e = .returned (.int .i64 (n : Int)) ∧ w = w' := by
  go_enter Try.func61, Try.ntmps61
  go_wp2_with fail
  go_ret
  exact ⟨rfl, rfl⟩

set_option maxHeartbeats 1600000 in
theorem rkLess_any (B g n cap : Nat) (f : Nat → Rk) (i j : Nat) (w : World) (h : RkRow B w g n cap f) (hi : i < n) (hj : j < n) (hn : n ≤ 1048576) :
    Calls Try.prog 106 #[.slice (some ⟨g, 0, none⟩) n cap, .int .i64 (i : Int), .int .i64 (j : Int)] w fun e w' => e = .returned (.bool (decide (lessR (f i) (f j)))) ∧ Below w.heap.size w w' := by
  obtain ⟨c0, c1, c2⟩ := rk_cells h hi
  obtain ⟨d0, d1, d2⟩ := rk_cells h hj
  have hi2 : (i : Int) < (n : Int) := by omega
  have hj2 : (j : Int) < (n : Int) := by omega
  have hg := (rk_lt h).2
  have hg1 : ¬ g = w.heap.size := by omega
  have hg2 : ¬ g = w.heap.size + 1 := by omega
  clear h
  obtain ⟨x, hx⟩ : ∃ x, f i = x := ⟨_, rfl⟩
  obtain ⟨y, hy⟩ : ∃ y, f j = y := ⟨_, rfl⟩
  rw [hx] at c0 c1 c2
  rw [hy] at d0 d1 d2
  rw [hx, hy]
  obtain ⟨x0, x1, x2⟩ := x
  obtain ⟨y0, y1, y2⟩ := y
  dsimp only at c0 c1 c2 d0 d1 d2
  clear hx hy
  have HB : Hid (∀ o1 o2, Below w.heap.size w ((w.alloc o1).alloc o2).drew) := fun o1 o2 => (((Below.refl _ _).alloc (Nat.le_refl _) o1).alloc (by simp) o2).drew
  go_enter Try.func106, Try.ntmps106
  go_wp2_with fail
  go_region
  all_goals
    by_cases h0 : x0 = y0
    · subst h0
      by_cases h1 : x1 = y1
      · subst h1
        go_wp2_with fail
        go_ret
        exact ⟨ret_bool (by unfold lessR; simp), (HB.out _ _)⟩
      · go_wp2_with fail
        go_ret
        exact ⟨ret_bool (by unfold lessR; simp [h1]), (HB.out _ _)⟩
    · go_wp2_with fail
      go_ret
      exact ⟨ret_bool (by unfold lessR; simp [h0]), (HB.out _ _)⟩

theorem rk_drew {B : Nat} {w : World} {g n cap : Nat} {f : Nat → Rk} (h : RkRow B w g n cap f) : RkRow B w.drew g n cap f := h
theorem Aside.drew' {lo hi : Nat} {w w' : World} (h : Aside lo hi w w') : Aside lo hi w w'.drew := ⟨h.os, h.tape, h.output, h.size, h.block⟩
/-- Three cells of a rank written. -/
def put3 (w : World) (g i : Nat) (x : Rk) : World := ((w.setCell ⟨g, i * 3, none⟩ (.int .i64 x.1)).setCell ⟨g, i * 3 + 1, none⟩ (.int .i64 x.2.1)).setCell ⟨g, i * 3 + 2, none⟩ (.int .i64 x.2.2)
theorem put3_aside (w : World) (g i : Nat) (x : Rk) : Aside g (g + 1) w (put3 w g i x) :=
  (((Aside.refl g (g + 1) w).setCell (p := ⟨g, i * 3, none⟩) (Nat.le_refl _) (Nat.lt_succ_self _) _).setCell (p := ⟨g, i * 3 + 1, none⟩) (Nat.le_refl _) (Nat.lt_succ_self _) _).setCell (p := ⟨g, i * 3 + 2, none⟩) (Nat.le_refl _) (Nat.lt_succ_self _) _

set_option maxHeartbeats 1600000 in
theorem rkSwap_any (B g n cap : Nat) (f : Nat → Rk) (i j : Nat) (w : World) (h : RkRow B w g n cap f) (hi : i < n) (hj : j < n) (hn : n ≤ 1048576) :
    Calls Try.prog 109 #[.slice (some ⟨g, 0, none⟩) n cap, .int .i64 (i : Int), .int .i64 (j : Int)] w fun e w' => e = .returned (.tuple #[]) ∧ RkRow B w' g n cap (swp f i j) ∧ Aside g (g + 1) w w' := by
  obtain ⟨c0, c1, c2⟩ := rk_cells h hi
  obtain ⟨d0, d1, d2⟩ := rk_cells h hj
  have e0 := h.frozenAt (i * 3)
  have e1 := h.frozenAt (i * 3 + 1)
  have e2 := h.frozenAt (i * 3 + 2)
  have f0 := h.frozenAt (j * 3)
  have f1 := h.frozenAt (j * 3 + 1)
  have f2 := h.frozenAt (j * 3 + 2)
  have hi2 : (i : Int) < (n : Int) := by omega
  have hj2 : (j : Int) < (n : Int) := by omega
  have HR := hide h
  clear h
  by_cases hij : i = j
  · subst hij
    obtain ⟨x, hx⟩ : ∃ x, f i = x := ⟨_, rfl⟩
    have HX := hide hx
    rw [hx] at c0 c1 c2
    clear hx hj2 f0 f1 f2 d0 d1 d2
    obtain ⟨x0, x1, x2⟩ := x
    dsimp only at c0 c1 c2
    go_enter Try.func109, Try.ntmps109
    go_wp2_with fail
    go_region
    go_wp2_with fail
    go_end0
    have r1 := rk_set HR.out hi (x0, x1, x2)
    have r2 := rk_set r1 hi (x0, x1, x2)
    have e : upd (upd f i (x0, x1, x2)) i (x0, x1, x2) = swp f i i := by rw [← HX.out, upd_swp]
    rw [e] at r2
    exact ⟨rfl, rk_drew r2, Aside.drew' ((put3_aside w g i (x0, x1, x2)).trans (put3_aside _ g i (x0, x1, x2)))⟩
  · have n0 : ¬ j = i := by omega
    have n1 : ¬ j * 3 = i * 3 + 1 := by omega
    have n2 : ¬ j * 3 = i * 3 + 2 := by omega
    have n3 : ¬ j * 3 + 1 = i * 3 := by omega
    have n4 : ¬ j * 3 + 2 = i * 3 := by omega
    have n5 : ¬ i * 3 = j * 3 + 1 := by omega
    have n6 : ¬ i * 3 = j * 3 + 2 := by omega
    have n7 : ¬ i * 3 + 1 = j * 3 := by omega
    have n8 : ¬ i * 3 + 2 = j * 3 := by omega
    obtain ⟨x, hx⟩ : ∃ x, f i = x := ⟨_, rfl⟩
    obtain ⟨y, hy⟩ : ∃ y, f j = y := ⟨_, rfl⟩
    have HX := hide hx
    have HY := hide hy
    rw [hx] at c0 c1 c2
    rw [hy] at d0 d1 d2
    clear hx hy
    obtain ⟨x0, x1, x2⟩ := x
    obtain ⟨y0, y1, y2⟩ := y
    dsimp only at c0 c1 c2 d0 d1 d2
    go_enter Try.func109, Try.ntmps109
    go_wp2_with fail
    go_region
    go_wp2_with fail
    go_end0
    have r1 := rk_set HR.out hi (y0, y1, y2)
    have r2 := rk_set r1 hj (x0, x1, x2)
    have e : upd (upd f i (y0, y1, y2)) j (x0, x1, x2) = swp f i j := by rw [← HX.out, ← HY.out, upd_swp]
    rw [e] at r2
    exact ⟨rfl, rk_drew r2, Aside.drew' ((put3_aside w g i (y0, y1, y2)).trans (put3_aside _ g j (x0, x1, x2)))⟩
end Go.Proofs.Ytceidhlcbbikcam
