/- Several texts in one: HeapBase, HeapImplA, HeapImplB, HeapImplC, HeapImplD, WearSpecF. -/
import Derived.Test.YtocinobbocjikaaGreatDoorRChipOkS
import Derived.Test.YtocinobbocjikaaGreatDoorRChipGrow
import Derived.Test.YtocinobbocjikaaGreatDoorRBase
import Derived.BigRegion
import Derived.Deep.QuietTactic
import Derived.BigQuiet
import Derived.Deep.RegionLaw
import Derived.Deep.AppendLies
import Derived.Test.YtocinobbocjikaaGreatDoorRWearSpecD
section
namespace Go.Proofs.YtocinobbocjikaaGreatDoor
open Go.RowKit
set_option linter.unusedVariables false
set_option maxRecDepth 20000

def cellR (f : Nat → Rk) (j : Nat) : Value := if j % 3 = 0 then .int .i64 (f (j / 3)).1 else if j % 3 = 1 then .int .i64 (f (j / 3)).2.1 else .int .i64 (f (j / 3)).2.2
theorem cellR0 (f : Nat → Rk) (i : Nat) : cellR f (i * 3) = .int .i64 (f i).1 := by
  unfold cellR; rw [if_pos (by omega), show i * 3 / 3 = i by omega]
theorem cellR1 (f : Nat → Rk) (i : Nat) : cellR f (i * 3 + 1) = .int .i64 (f i).2.1 := by
  unfold cellR; rw [if_neg (by omega), if_pos (by omega), show (i * 3 + 1) / 3 = i by omega]
theorem cellR2 (f : Nat → Rk) (i : Nat) : cellR f (i * 3 + 2) = .int .i64 (f i).2.2 := by
  unfold cellR; rw [if_neg (by omega), if_neg (by omega), show (i * 3 + 2) / 3 = i by omega]
def rkL (n : Nat) (f : Nat → Rk) : List Value := (List.range (n * 3)).map (cellR f)
theorem rkL_length (n : Nat) (f : Nat → Rk) : (rkL n f).length = n * 3 := by simp [rkL]
theorem rkL_at (n : Nat) (f : Nat → Rk) {j : Nat} (h : j < n * 3) : (rkL n f)[j]? = some (cellR f j) := by
  unfold rkL; rw [List.getElem?_map, List.getElem?_range h]; rfl
theorem rkL_ext {n : Nat} {f : Nat → Rk} {l : List Value} (hl : l.length = n * 3) (h : ∀ j, j < n * 3 → l[j]? = some (cellR f j)) : l = rkL n f := by
  refine List.ext_getElem? fun j => ?_
  by_cases hj : j < n * 3
  · rw [h j hj, rkL_at n f hj]
  · rw [List.getElem?_eq_none (by omega), List.getElem?_eq_none (by rw [rkL_length]; omega)]
theorem rkL_snoc (n : Nat) (f : Nat → Rk) (x : Rk) : rkL n f ++ [.int .i64 x.1, .int .i64 x.2.1, .int .i64 x.2.2] = rkL (n + 1) (upd f n x) := by
  refine rkL_ext (by simp [rkL_length]; omega) fun j hj => ?_
  by_cases h : j < n * 3
  · rw [List.getElem?_append_left (by rw [rkL_length]; exact h), rkL_at n f h]
    unfold cellR
    rw [upd_other _ _ (show j / 3 ≠ n by omega)]
  · rw [List.getElem?_append_right (by rw [rkL_length]; omega), rkL_length]
    have e : j = n * 3 ∨ j = n * 3 + 1 ∨ j = n * 3 + 2 := by omega
    rcases e with rfl | rfl | rfl
    · rw [cellR0, upd_same]; simp
    · rw [cellR1, upd_same]; simp
    · rw [cellR2, upd_same]; simp
theorem rkL_take (n : Nat) (f : Nat → Rk) : (rkL (n + 1) f).take (n * 3) = rkL n f := by
  refine rkL_ext (by rw [List.length_take, rkL_length]; omega) fun j hj => ?_
  rw [List.getElem?_take, if_pos hj, rkL_at (n + 1) f (by omega)]
theorem rkL_set3 (n : Nat) (f : Nat → Rk) {i : Nat} (hi : i < n) (x : Rk) : (((rkL n f).set (i * 3) (.int .i64 x.1)).set (i * 3 + 1) (.int .i64 x.2.1)).set (i * 3 + 2) (.int .i64 x.2.2) = rkL n (upd f i x) := by
  refine rkL_ext (by simp [rkL_length]) fun j hj => ?_
  by_cases e2 : j = i * 3 + 2
  · subst e2
    rw [List.getElem?_set_self (by simp [rkL_length]; omega), cellR2, upd_same]
  · rw [List.getElem?_set_ne (by omega)]
    by_cases e1 : j = i * 3 + 1
    · subst e1
      rw [List.getElem?_set_self (by simp [rkL_length]; omega), cellR1, upd_same]
    · rw [List.getElem?_set_ne (by omega)]
      by_cases e0 : j = i * 3
      · subst e0
        rw [List.getElem?_set_self (by simp [rkL_length]; omega), cellR0, upd_same]
      · rw [List.getElem?_set_ne (by omega), rkL_at n f hj]
        unfold cellR
        rw [upd_other _ _ (show j / 3 ≠ i by omega)]
theorem upd_swp (f : Nat → Rk) (i j : Nat) : upd (upd f i (f j)) j (f i) = swp f i j := by
  funext k
  unfold upd swp
  by_cases h1 : k = j
  · subst h1
    by_cases h2 : k = i
    · subst h2; simp
    · simp [h2]
  · simp [h1]
theorem upd_swp' (f : Nat → Rk) (i j : Nat) : upd (upd f j (f i)) i (f j) = swp f i j := by
  funext k
  unfold upd swp
  by_cases h1 : k = i
  · simp [h1]
  · simp [h1]

/-- A row of n ranks of one's own, in block g. -/
abbrev RkRow (B : Nat) (w : World) (g n cap : Nat) (f : Nat → Rk) : Prop := w.ownsRow B 225 3 (.slice (some ⟨g, 0, none⟩) n cap) n (rkL n f)
theorem rk_cells {B : Nat} {w : World} {g n cap : Nat} {f : Nat → Rk} (h : RkRow B w g n cap f) {i : Nat} (hi : i < n) :
    w.cell? ⟨g, i * 3, none⟩ = some (.int .i64 (f i).1) ∧ w.cell? ⟨g, i * 3 + 1, none⟩ = some (.int .i64 (f i).2.1) ∧ w.cell? ⟨g, i * 3 + 2, none⟩ = some (.int .i64 (f i).2.2) := by
  refine ⟨?_, ?_, ?_⟩
  · rw [h.cellAt _ (by omega), rkL_at n f (by omega), cellR0]
  · rw [h.cellAt _ (by omega), rkL_at n f (by omega), cellR1]
  · rw [h.cellAt _ (by omega), rkL_at n f (by omega), cellR2]
theorem rk_lt {B : Nat} {w : World} {g n cap : Nat} {f : Nat → Rk} (h : RkRow B w g n cap f) : B ≤ g ∧ g < w.heap.size := h.lt g rfl
theorem rk_kind {B : Nat} {w : World} {g n cap : Nat} {f : Nat → Rk} (h : RkRow B w g n cap f) : ∃ c fz, w.heap[g]? = some (.cells c 225 fz) := Go.Lib.ownsRow_kind h g rfl
theorem rk_keep {B : Nat} {w w' : World} {g n cap : Nat} {f : Nat → Rk} (h : RkRow B w g n cap f) (hb : w'.heap[g]? = w.heap[g]?) : RkRow B w' g n cap f := by
  refine ⟨h.1, ?_⟩
  rcases h.2 with h' | ⟨p, cap', cur, e, h1, h2, h3⟩
  · exact .inl h'
  · have hp : p = g := by simp only [Value.slice.injEq, Option.some.injEq, Addr.mk.injEq] at e; exact e.1.1.symm
    subst hp
    exact .inr ⟨p, cap', cur, e, h1, by rw [hb, h2], h3⟩
theorem rk_set {B : Nat} {w : World} {g n cap : Nat} {f : Nat → Rk} (h : RkRow B w g n cap f) {i : Nat} (hi : i < n) (x : Rk) :
    RkRow B (((w.setCell ⟨g, i * 3, none⟩ (.int .i64 x.1)).setCell ⟨g, i * 3 + 1, none⟩ (.int .i64 x.2.1)).setCell ⟨g, i * 3 + 2, none⟩ (.int .i64 x.2.2)) g n cap (upd f i x) := by
  have h1 := (h.stored (i * 3) (.int .i64 x.1)).1
  have h2 := (World.ownsRow.stored h1 (i * 3 + 1) (.int .i64 x.2.1)).1
  have h3 := (World.ownsRow.stored h2 (i * 3 + 2) (.int .i64 x.2.2)).1
  rw [rkL_set3 n f hi x] at h3
  exact h3
theorem rk_cut {B : Nat} {w : World} {g n cap : Nat} {f : Nat → Rk} (h : RkRow B w g (n + 1) cap f) : RkRow B w g n cap f := by
  refine ⟨rkL_length n f, ?_⟩
  rcases h.2 with ⟨e, _⟩ | ⟨p, cap', cur, e, h1, h2, h3, h4, h5, h6⟩
  · simp at e
  · simp only [Value.slice.injEq, Option.some.injEq, Addr.mk.injEq, and_true, true_and] at e
    obtain ⟨rfl, rfl⟩ := e
    refine .inr ⟨g, cap, cur, rfl, h1, h2, by omega, h4, h5, ?_⟩
    rw [← rkL_take, ← h6, List.take_take, Nat.min_eq_left (by omega)]

/-- A ranking: its cell in block p, its row in block g. -/
structure Rkg (B : Nat) (w : World) (p g n cap : Nat) (f : Nat → Rk) : Prop where
  row : RkRow B w g n cap f
  cell : w.heap[p]? = some (.cells #[.slice (some ⟨g, 0, none⟩) n cap] 222 (0, 0))
  atP : B ≤ p
theorem rk_cell1 {W : World} {b : Nat} {c0 : Value} {t : TypeId} {fr : Nat × Nat} (h : W.heap[b]? = some (.cells #[c0] t fr)) : W.cell? ⟨b, 0, none⟩ = some c0 := by
  simp [World.cell?, h]
section
variable {B : Nat} {w w' : World} {p g n cap : Nat} {f : Nat → Rk}
theorem Rkg.ltP (h : Rkg B w p g n cap f) : p < w.heap.size := (Array.getElem?_eq_some_iff.1 h.cell).1
theorem Rkg.apart (h : Rkg B w p g n cap f) : g ≠ p := by
  intro e
  obtain ⟨c, fz, h1⟩ := rk_kind h.row
  rw [e, h.cell] at h1
  simp only [Option.some.injEq, Obj.cells.injEq] at h1
  exact absurd h1.2.1 (by decide)
theorem Rkg.keep (h : Rkg B w p g n cap f) (hp : w'.heap[p]? = w.heap[p]?) (hg : w'.heap[g]? = w.heap[g]?) : Rkg B w' p g n cap f :=
  ⟨rk_keep h.row hg, by rw [hp, h.cell], h.atP⟩
theorem Rkg.later (h : Rkg B w p g n cap f) (hb : Below w.heap.size w w') : Rkg B w' p g n cap f :=
  h.keep (hb.block p h.ltP) (hb.block g (rk_lt h.row).2)
theorem Rkg.aside (h : Rkg B w p g n cap f) {l r : Nat} (hb : Aside l r w w') (hr : r ≤ B ∨ w.heap.size ≤ l) : Rkg B w' p g n cap f := by
  have h1 := h.ltP
  have h2 := rk_lt h.row
  have h3 := h.atP
  exact h.keep (hb.block p h1 (by omega)) (hb.block g h2.2 (by omega))
end
/-- The receiver of a method on the value, told through the pointer. -/
theorem Tryz.toLen (p : Nat) (v : Value) (w : World) (h : w.cell? ⟨p, 0, none⟩ = some v) : (Go.method 416 220 (.pointer (some ⟨p, 0, none⟩)) "Len").run Tryz.prog w = .ok (185, v) w := by
  have e : ∀ w, (Go.method 416 220 (.pointer (some ⟨p, 0, none⟩)) "Len").run Tryz.prog w = ((do let v ← loadVar 222 ⟨p, 0, none⟩; pure (185, v)) : Sem (FuncId × Value)).run Tryz.prog w := fun w => by kernel_rfl
  rw [e]
  simp [loadVar, isAgg, run_underlying (show Tryz.prog.underlying 222 = some (.slice 225) from rfl), h]
end Go.Proofs.YtocinobbocjikaaGreatDoor
end

section
namespace Go.Proofs.YtocinobbocjikaaGreatDoor
open Go.RowKit
set_option linter.unusedVariables false
set_option maxRecDepth 20000

set_option maxHeartbeats 400000 in
theorem rkLen_any (a : Option Addr) (n cap : Nat) (w : World) (hn : n ≤ 1048576) :
    Calls Tryz.prog 185 #[.slice a n cap] w fun e w' => e = .returned (.int .i64 (n : Int)) ∧ w = w' := by
  go_enter Tryz.func185, Tryz.ntmps185
  go_wp2_with fail
  go_ret
  exact ⟨rfl, rfl⟩

set_option maxHeartbeats 1600000 in
theorem rkLess_any (B g n cap : Nat) (f : Nat → Rk) (i j : Nat) (w : World) (h : RkRow B w g n cap f) (hi : i < n) (hj : j < n) (hn : n ≤ 1048576) :
    Calls Tryz.prog 245 #[.slice (some ⟨g, 0, none⟩) n cap, .int .i64 (i : Int), .int .i64 (j : Int)] w fun e w' => e = .returned (.bool (decide (lessR (f i) (f j)))) ∧ Below w.heap.size w w' := by
  obtain ⟨c0, c1, c2⟩ := rk_cells h hi
  obtain ⟨d0, d1, d2⟩ := rk_cells h hj
  have hi2 : (i : Int) < (n : Int) := by omega
  have hj2 : (j : Int) < (n : Int) := by omega
  have hg := (rk_lt h).2
  have hg1 : ¬ g = w.heap.size := by omega
  have hg2 : ¬ g = w.heap.size + 1 := by omega
  clear h
  obtain ⟨x, hx⟩ : ∃ x, f i = x := ⟨_, rfl⟩
  obtain ⟨y, hy⟩ : ∃ y, f j = y := ⟨_, rfl⟩
  rw [hx] at c0 c1 c2
  rw [hy] at d0 d1 d2
  rw [hx, hy]
  obtain ⟨x0, x1, x2⟩ := x
  obtain ⟨y0, y1, y2⟩ := y
  dsimp only at c0 c1 c2 d0 d1 d2
  clear hx hy
  have HB : Hid (∀ o1 o2, Below w.heap.size w ((w.alloc o1).alloc o2).drew) := fun o1 o2 => (((Below.refl _ _).alloc (Nat.le_refl _) o1).alloc (by simp) o2).drew
  go_enter Tryz.func245, Tryz.ntmps245
  go_wp2_with fail
  go_region
  all_goals
    by_cases h0 : x0 = y0
    · subst h0
      by_cases h1 : x1 = y1
      · subst h1
        go_wp2_with fail
        go_ret
        exact ⟨ret_bool (by unfold lessR; simp), (HB.out _ _)⟩
      · go_wp2_with fail
        go_ret
        exact ⟨ret_bool (by unfold lessR; simp [h1]), (HB.out _ _)⟩
    · go_wp2_with fail
      go_ret
      exact ⟨ret_bool (by unfold lessR; simp [h0]), (HB.out _ _)⟩

theorem rk_drew {B : Nat} {w : World} {g n cap : Nat} {f : Nat → Rk} (h : RkRow B w g n cap f) : RkRow B w.drew g n cap f := h
theorem Aside.drew' {lo hi : Nat} {w w' : World} (h : Aside lo hi w w') : Aside lo hi w w'.drew := ⟨h.os, h.tape, h.output, h.size, h.block⟩
/-- Three cells of a rank written. -/
def put3 (w : World) (g i : Nat) (x : Rk) : World := ((w.setCell ⟨g, i * 3, none⟩ (.int .i64 x.1)).setCell ⟨g, i * 3 + 1, none⟩ (.int .i64 x.2.1)).setCell ⟨g, i * 3 + 2, none⟩ (.int .i64 x.2.2)
theorem put3_aside (w : World) (g i : Nat) (x : Rk) : Aside g (g + 1) w (put3 w g i x) :=
  (((Aside.refl g (g + 1) w).setCell (p := ⟨g, i * 3, none⟩) (Nat.le_refl _) (Nat.lt_succ_self _) _).setCell (p := ⟨g, i * 3 + 1, none⟩) (Nat.le_refl _) (Nat.lt_succ_self _) _).setCell (p := ⟨g, i * 3 + 2, none⟩) (Nat.le_refl _) (Nat.lt_succ_self _) _

set_option maxHeartbeats 1600000 in
theorem rkSwap_any (B g n cap : Nat) (f : Nat → Rk) (i j : Nat) (w : World) (h : RkRow B w g n cap f) (hi : i < n) (hj : j < n) (hn : n ≤ 1048576) :
    Calls Tryz.prog 248 #[.slice (some ⟨g, 0, none⟩) n cap, .int .i64 (i : Int), .int .i64 (j : Int)] w fun e w' => e = .returned (.tuple #[]) ∧ RkRow B w' g n cap (swp f i j) ∧ Aside g (g + 1) w w' := by
  obtain ⟨c0, c1, c2⟩ := rk_cells h hi
  obtain ⟨d0, d1, d2⟩ := rk_cells h hj
  have e0 := h.frozenAt (i * 3)
  have e1 := h.frozenAt (i * 3 + 1)
  have e2 := h.frozenAt (i * 3 + 2)
  have f0 := h.frozenAt (j * 3)
  have f1 := h.frozenAt (j * 3 + 1)
  have f2 := h.frozenAt (j * 3 + 2)
  have hi2 : (i : Int) < (n : Int) := by omega
  have hj2 : (j : Int) < (n : Int) := by omega
  have HR := hide h
  clear h
  by_cases hij : i = j
  · subst hij
    obtain ⟨x, hx⟩ : ∃ x, f i = x := ⟨_, rfl⟩
    have HX := hide hx
    rw [hx] at c0 c1 c2
    clear hx hj2 f0 f1 f2 d0 d1 d2
    obtain ⟨x0, x1, x2⟩ := x
    dsimp only at c0 c1 c2
    go_enter Tryz.func248, Tryz.ntmps248
    go_wp2_with fail
    go_region
    go_wp2_with fail
    go_end0
    have r1 := rk_set HR.out hi (x0, x1, x2)
    have r2 := rk_set r1 hi (x0, x1, x2)
    have e : upd (upd f i (x0, x1, x2)) i (x0, x1, x2) = swp f i i := by rw [← HX.out, upd_swp]
    rw [e] at r2
    exact ⟨rfl, rk_drew r2, Aside.drew' ((put3_aside w g i (x0, x1, x2)).trans (put3_aside _ g i (x0, x1, x2)))⟩
  · have n0 : ¬ j = i := by omega
    have n1 : ¬ j * 3 = i * 3 + 1 := by omega
    have n2 : ¬ j * 3 = i * 3 + 2 := by omega
    have n3 : ¬ j * 3 + 1 = i * 3 := by omega
    have n4 : ¬ j * 3 + 2 = i * 3 := by omega
    have n5 : ¬ i * 3 = j * 3 + 1 := by omega
    have n6 : ¬ i * 3 = j * 3 + 2 := by omega
    have n7 : ¬ i * 3 + 1 = j * 3 := by omega
    have n8 : ¬ i * 3 + 2 = j * 3 := by omega
    obtain ⟨x, hx⟩ : ∃ x, f i = x := ⟨_, rfl⟩
    obtain ⟨y, hy⟩ : ∃ y, f j = y := ⟨_, rfl⟩
    have HX := hide hx
    have HY := hide hy
    rw [hx] at c0 c1 c2
    rw [hy] at d0 d1 d2
    clear hx hy
    obtain ⟨x0, x1, x2⟩ := x
    obtain ⟨y0, y1, y2⟩ := y
    dsimp only at c0 c1 c2 d0 d1 d2
    go_enter Tryz.func248, Tryz.ntmps248
    go_wp2_with fail
    go_region
    go_wp2_with fail
    go_end0
    have r1 := rk_set HR.out hi (y0, y1, y2)
    have r2 := rk_set r1 hj (x0, x1, x2)
    have e : upd (upd f i (y0, y1, y2)) j (x0, x1, x2) = swp f i j := by rw [← HX.out, ← HY.out, upd_swp]
    rw [e] at r2
    exact ⟨rfl, rk_drew r2, Aside.drew' ((put3_aside w g i (y0, y1, y2)).trans (put3_aside _ g j (x0, x1, x2)))⟩
end Go.Proofs.YtocinobbocjikaaGreatDoor
end

section
namespace Go.Proofs.YtocinobbocjikaaGreatDoor
open Go.RowKit
set_option linter.unusedVariables false
set_option maxRecDepth 20000

abbrev rkV (x : Rk) : Value := .agg #[.int .i64 x.1, .int .i64 x.2.1, .int .i64 x.2.2]
theorem Tryz.infoRk : (Tryz.prog.info? 225).map (fun i => (i.zero, i.size, i.bytes)) = some (some (.agg #[.int .i64 0, .int .i64 0, .int .i64 0]), 3, 24) := by kernel_rfl
theorem Tryz.asRk (v : Value) (w : World) : (Instr.typeAssert (.iface 225 v) 20 225 false).run Tryz.prog w = .ok v w := by kernel_rfl
theorem Tryz.toLess (p : Nat) (v : Value) (w : World) (h : w.cell? ⟨p, 0, none⟩ = some v) : (Go.method 416 220 (.pointer (some ⟨p, 0, none⟩)) "Less").run Tryz.prog w = .ok (245, v) w := by
  have e : ∀ w, (Go.method 416 220 (.pointer (some ⟨p, 0, none⟩)) "Less").run Tryz.prog w = ((do let v ← loadVar 222 ⟨p, 0, none⟩; pure (245, v)) : Sem (FuncId × Value)).run Tryz.prog w := fun w => by kernel_rfl
  rw [e]
  simp [loadVar, isAgg, run_underlying (show Tryz.prog.underlying 222 = some (.slice 225) from rfl), h]
theorem Tryz.toSwap (p : Nat) (v : Value) (w : World) (h : w.cell? ⟨p, 0, none⟩ = some v) : (Go.method 416 220 (.pointer (some ⟨p, 0, none⟩)) "Swap").run Tryz.prog w = .ok (248, v) w := by
  have e : ∀ w, (Go.method 416 220 (.pointer (some ⟨p, 0, none⟩)) "Swap").run Tryz.prog w = ((do let v ← loadVar 222 ⟨p, 0, none⟩; pure (248, v)) : Sem (FuncId × Value)).run Tryz.prog w := fun w => by kernel_rfl
  rw [e]
  simp [loadVar, isAgg, run_underlying (show Tryz.prog.underlying 222 = some (.slice 225) from rfl), h]
theorem Tryz.toPush (p : Nat) (w : World) : (Go.method 416 220 (.pointer (some ⟨p, 0, none⟩)) "Push").run Tryz.prog w = .ok (247, .pointer (some ⟨p, 0, none⟩)) w := by kernel_rfl
theorem Tryz.toPop (p : Nat) (w : World) : (Go.method 416 220 (.pointer (some ⟨p, 0, none⟩)) "Pop").run Tryz.prog w = .ok (246, .pointer (some ⟨p, 0, none⟩)) w := by kernel_rfl

theorem Rkg.setCell {B : Nat} {w : World} {p g n cap : Nat} {f : Nat → Rk} (h : RkRow B w g n cap f) {v : Value} (hp : w.heap[p]? = some (.cells #[v] 222 (0, 0))) (hB : B ≤ p) : Rkg B (w.setCell ⟨p, 0, none⟩ (.slice (some ⟨g, 0, none⟩) n cap)) p g n cap f := by
  have hne : g ≠ p := by
    intro e
    obtain ⟨c, fz, h1⟩ := rk_kind h
    rw [e, hp] at h1
    simp only [Option.some.injEq, Obj.cells.injEq] at h1
    exact absurd h1.2.1 (by decide)
  exact ⟨rk_keep h (Go.Deep.blk_setCell_other _ _ _ _ hne), set_block hp 0 _ (by simp), hB⟩

set_option maxHeartbeats 1600000 in
theorem rkPop_any (B p g n cap : Nat) (f : Nat → Rk) (w : World) (h : Rkg B w p g (n + 1) cap f) (hn : n < 1048576) :
    Calls Tryz.prog 246 #[.pointer (some ⟨p, 0, none⟩)] w fun e w' => e = .returned (.iface 225 (rkV (f n))) ∧ Rkg B w' p g n cap f ∧ Aside p (p + 1) w w' := by
  obtain ⟨c0, c1, c2⟩ := rk_cells h.row (Nat.lt_succ_self n)
  have hp := rk_cell1 h.cell
  have hf := four_frozen h.cell 0
  have HP := hide h.ltP
  have hpn : p < w.heap.size := h.ltP
  have hcap : n + 1 ≤ cap := by
    rcases h.row.2 with ⟨e, _⟩ | ⟨p, cap', cur, e, h1, h2, h3, h4, h5, h6⟩
    · simp at e
    · simp only [Value.slice.injEq] at e
      omega
  have HR := hide h
  clear h
  obtain ⟨x, hx⟩ : ∃ x, f n = x := ⟨_, rfl⟩
  have HX := hide hx
  rw [hx] at c0 c1 c2
  rw [hx]
  clear hx
  obtain ⟨x0, x1, x2⟩ := x
  dsimp only at c0 c1 c2
  have hi2 : (n : Int) < (n : Int) + 1 := by omega
  have HS := hide (Rkg.setCell (rk_cut HR.out.row) HR.out.cell HR.out.atP)
  have HA := hide ((Aside.refl p (p + 1) w).setCell (p := ⟨p, 0, none⟩) (Nat.le_refl _) (Nat.lt_succ_self _) (.slice (some ⟨g, 0, none⟩) n cap))
  go_enter Tryz.func246, Tryz.ntmps246
  go_wp2_with fail
  go_ret
  exact ⟨rfl, HS.out.later ((Below.refl _ _).alloc (Nat.le_refl _) _), HA.out.thenAlloc _⟩

theorem three_news (w : World) (x : Rk) (t : TypeId) : ∀ j u, [Value.int .i64 x.1, .int .i64 x.2.1, .int .i64 x.2.2][j]? = some u → (w.alloc (.cells #[.int .i64 x.1, .int .i64 x.2.1, .int .i64 x.2.2] t)).cell? ((⟨w.heap.size, 0, none⟩ : Addr).add j) = some u := by
  intro j u hj
  have h := heap_new w (.cells #[.int .i64 x.1, .int .i64 x.2.1, .int .i64 x.2.2] t)
  obtain ⟨c0, c1, c2⟩ := three_cells h
  have hadd : (⟨w.heap.size, 0, none⟩ : Addr).add j = ⟨w.heap.size, j, none⟩ := by unfold Addr.add; split <;> simp_all
  rw [hadd]
  match j, hj with
  | 0, hj => rw [c0]; exact hj
  | 1, hj => rw [c1]; exact hj
  | 2, hj => rw [c2]; exact hj
  | j + 3, hj => simp at hj
theorem rk_one (x : Rk) : ∀ u ∈ [Value.int .i64 x.1, .int .i64 x.2.1, .int .i64 x.2.2], u.oneCell' = true := by
  intro u hu
  simp only [List.mem_cons, List.not_mem_nil, or_false] at hu
  rcases hu with rfl | rfl | rfl <;> rfl

set_option maxHeartbeats 1600000 in
theorem rkPush_any (B p g n cap : Nat) (f : Nat → Rk) (x : Rk) (w : World) (h : Rkg B w p g n cap f) (hn : n < 1048576) (hB : B ≤ w.heap.size) :
    Calls Tryz.prog 247 #[.pointer (some ⟨p, 0, none⟩), .iface 225 (rkV x)] w fun e w' => e = .returned (.tuple #[]) ∧ ∃ g' cap', Rkg B w' p g' (n + 1) cap' (upd f n x) ∧ Below B w w' := by
  have hp := rk_cell1 h.cell
  have hf := four_frozen h.cell 0
  have hpn : p < w.heap.size := h.ltP
  have q0 := Tryz.asRk (rkV x)
  obtain ⟨i0, hi0, hzz0, hzz1, hzz2⟩ := info_parts Tryz.infoRk
  obtain ⟨wA, hwA⟩ : ∃ wA, wA = w.alloc (.cells #[.int .i64 x.1, .int .i64 x.2.1, .int .i64 x.2.2] 225) := ⟨_, rfl⟩
  have hzA : wA.heap.size = w.heap.size + 1 := by rw [hwA]; simp
  have HBA : Hid (Below w.heap.size w wA) := by rw [hwA]; exact (Below.refl _ _).alloc (Nat.le_refl _) _
  have HRA := hide (h.later HBA.out)
  have HNW := hide (three_news w x 225)
  rw [← hwA] at HNW
  have HNE : Hid (some p ≠ (Value.slice (some ⟨g, 0, none⟩) n cap).ownBlock) := by show _ ≠ _; intro e; simp only [Value.ownBlock, Option.some.injEq] at e; exact h.apart e.symm
  have tA : (w.alloc (.cells #[.int .i64 x.1, .int .i64 x.2.1, .int .i64 x.2.2] 225)).cell? ⟨p, 0, none⟩ = some (.slice (some ⟨g, 0, none⟩) n cap) := by rw [← hwA]; exact rk_cell1 HRA.out.cell
  have tF : (w.alloc (.cells #[.int .i64 x.1, .int .i64 x.2.1, .int .i64 x.2.2] 225)).frozen? ⟨p, 0, none⟩ = false := by rw [← hwA]; exact four_frozen HRA.out.cell 0
  have HR := hide h
  clear h
  go_enter Tryz.func247, Tryz.ntmps247
  go_wp2_with fail
  go_region_law (first
    | (refine step_append_lies _ (by rfl) _ _ _ (by rfl) B 225 i0 (.agg #[.int .i64 0, .int .i64 0, .int .i64 0]) 3 24 Tryz.underlying222 hi0 hzz0 hzz1 hzz2 rfl (by decide) (.slice (some ⟨g, 0, none⟩) n cap) n (rkL n f) (by rfl) (by rw [← hwA]; exact HRA.out.row) ⟨w.heap.size, 0, none⟩ 1 1 [.int .i64 x.1, .int .i64 x.2.1, .int .i64 x.2.2] (by rfl) rfl (by rw [← hwA]; exact HNW.out) (rk_one x) (by omega) (by unfold maxLen; omega) (by omega) (by rw [← hwA]; show B ≤ wA.heap.size; omega) (w.heap.size + 1) (by simp) ?_; intro g' c' w5 hown5 hgr5 hat5 hlt5; have c5 := (hgr5.cell_far ⟨p, 0, none⟩ (by simp; omega) HNE.out).trans tA; have f5 := (hgr5.frozen_far ⟨p, 0, none⟩ (by simp; omega) HNE.out).trans tF; have HO5 := hide hown5; have HR5 := hide hgr5; clear hown5 hgr5 hat5))
  all_goals
    have HR6 : Hid (wA.grownBy w5 (some g)) := by rw [hwA]; exact ⟨HR5.out.os, HR5.out.tape, HR5.out.output, HR5.out.size, HR5.out.block⟩
    have HN5 : Hid (RkRow B w5 g' (n + 1) c' (upd f n x)) := by have h9 := HO5.out; rw [rkL_snoc] at h9; exact h9
    have HP5 : Hid (w5.heap[p]? = some (.cells #[.slice (some ⟨g, 0, none⟩) n cap] 222 (0, 0))) := (HR6.out.block p (by omega) HNE.out).trans HRA.out.cell
    have HF := hide (Rkg.setCell HN5.out HP5.out HR.out.atP)
    have HB5 := hide (((HBA.out.mono hB).grown HR6.out (by omega) (fun k hk => (HRA.out.row.lt k hk).1)).setCell (p := ⟨p, 0, none⟩) HR.out.atP (.slice (some ⟨g', 0, none⟩) (n + 1) c'))
    go_wp2_with fail
    go_end0
    exact ⟨rfl, g', c', HF.out, HB5.out⟩
end Go.Proofs.YtocinobbocjikaaGreatDoor
end

section
namespace Go.Proofs.YtocinobbocjikaaGreatDoor
open Go.RowKit
set_option linter.unusedVariables false
set_option maxRecDepth 20000



set_option maxHeartbeats 1600000 in
theorem up_any (B p g n cap : Nat) (f : Nat → Rk) (j : Nat) (w : World) (h : Rkg B w p g n cap f) (hj : j < n) (hu : UpR n f j) (hn : n ≤ 1048576) :
    Calls Tryz.prog 205 #[.iface 220 (.pointer (some ⟨p, 0, none⟩)), .int .i64 (j : Int)] w fun e w' => e = .returned (.tuple #[]) ∧ ∃ f', Rkg B w' p g n cap f' ∧ HeapR n f' ∧ SameR n f f' ∧ Aside g (g + 1) w w' := by
  have HR := hide h
  have HU := hide hu
  clear h hu
  go_enter Tryz.func205, Tryz.ntmps205
  go_wp2_with fail
  go_loopw [1] (fun jv wr => ∃ (k : Nat) (f' : Nat → Rk), k < n ∧ jv = .int .i64 (k : Int) ∧ Rkg B wr p g n cap f' ∧ UpR n f' k ∧ SameR n f f' ∧ Aside g (g + 1) w wr) (fun jv _ => (intOf jv).toNat)
  case atStart => exact ⟨j, f, hj, rfl, HR.out, HU.out, SameR.refl _ _, Aside.refl _ _ _⟩
  case round =>
    obtain ⟨k, f', hk, rfl, hR, hU, hS, hA⟩ := hrel
    have HRR := hide hR
    have HUU := hide hU
    have HSS := hide hS
    have HAA := hide hA
    clear hR hU hS hA
    by_cases h0 : k = 0
    · subst h0
      simp only [show ((0 : Nat) : Int) = 0 from rfl]
      go_wp2_with fail
      go_end0
      exact ⟨rfl, f', HRR.out, HUU.out.stop (.inl rfl), HSS.out, HAA.out⟩
    · obtain ⟨m, rfl⟩ : ∃ m, k = m + 1 := ⟨k - 1, by omega⟩
      obtain ⟨i, hi⟩ : ∃ i, i = m / 2 := ⟨_, rfl⟩
      have hm2 : (m : Int) / 2 = (i : Int) := by omega
      have hile : i < m + 1 := by omega
      have g1 : ((i : Int) == ((m + 1 : Nat) : Int)) = false := by simp; omega
      have g2 : ¬ ((i : Int) = ((m + 1 : Nat) : Int)) := by omega
      have g3 : ¬ ((i : Int) = (m : Int) + 1) := by omega
      have g4 : ¬ (i = m + 1) := by omega
      have HI : Hid ((m + 1 - 1) / 2 = i) := by show _ = _; omega
      clear hi
      have hcell := rk_cell1 HRR.out.cell
      have q1 := Tryz.toLess p _ wr hcell
      go_wp2_with fail
      refine (rkLess_any B g n cap f' (m + 1) i wr HRR.out.row hk (by omega) hn).mono ?_
      rintro e w1 ⟨rfl, b1⟩
      have HR1 := hide (HRR.out.later b1)
      have HA1 := hide (HAA.out.thenBelow b1 HAA.out.size)
      clear b1 q1 hcell
      by_cases hless : lessR (f' (m + 1)) (f' i)
      · rw [decide_eq_true hless]
        have HST := hide (HUU.out.step (by omega) hk (by rw [HI.out]; exact hless))
        rw [HI.out] at HST
        clear hless
        have hcell := rk_cell1 HR1.out.cell
        have q2 := Tryz.toSwap p _ w1 hcell
        go_wp2_with fail
        refine (rkSwap_any B g n cap f' i (m + 1) w1 HR1.out.row (by omega) hk hn).mono ?_
        rintro e w2 ⟨rfl, r2, a2⟩
        have HA2 := hide (HA1.out.trans a2)
        have HR2 : Hid (Rkg B w2 p g n cap (swp f' i (m + 1))) := ⟨r2, (a2.block p HR1.out.ltP (by have := HR1.out.apart; omega)).trans HR1.out.cell, HR1.out.atP⟩
        clear r2 a2 q2 hcell
        go_wp2_with fail
        go_roundw
        case rel => exact ⟨i, swp f' i (m + 1), by omega, rfl, HR2.out, HST.out, HSS.out.trans (SameR.swp f' (by omega) hk), HA2.out⟩
        case measure => simp [intOf]; omega
      · rw [decide_eq_false hless]
        have HST := hide (HUU.out.stop (.inr (by rw [HI.out]; exact hless)))
        clear hless
        go_wp2_with fail
        go_end0
        exact ⟨rfl, f', HR1.out, HST.out, HSS.out, HA1.out⟩

set_option maxHeartbeats 3200000 in
theorem down_any (B p g N cap : Nat) (f : Nat → Rk) (n : Nat) (w : World) (h : Rkg B w p g N cap f) (hnN : n ≤ N) (hd : DownR n f 0) (hN : N ≤ 1048576) :
    Calls Tryz.prog 216 #[.iface 220 (.pointer (some ⟨p, 0, none⟩)), .int .i64 0, .int .i64 (n : Int)] w fun e w' => ∃ v, e = .returned v ∧ ∃ f', Rkg B w' p g N cap f' ∧ HeapR n f' ∧ SameR n f f' ∧ (∀ x, n ≤ x → f' x = f x) ∧ Aside g (g + 1) w w' := by
  have HR := hide h
  have HD := hide hd
  clear h hd
  go_enter Tryz.func216, Tryz.ntmps216
  go_wp2_with fail
  go_loopw [7] (fun iv wr => ∃ (k : Nat) (f' : Nat → Rk), k ≤ n ∧ iv = .int .i64 (k : Int) ∧ Rkg B wr p g N cap f' ∧ DownR n f' k ∧ SameR n f f' ∧ (∀ x, n ≤ x → f' x = f x) ∧ Aside g (g + 1) w wr) (fun iv _ => n - (intOf iv).toNat)
  case atStart => exact ⟨0, f, Nat.zero_le _, rfl, HR.out, HD.out, SameR.refl _ _, fun _ _ => rfl, Aside.refl _ _ _⟩
  case round =>
    obtain ⟨k, f', hk, rfl, hR, hU, hS, hK, hA⟩ := hrel
    have HRR := hide hR
    have HDD := hide hU
    have HSS := hide hS
    have HKK := hide hK
    have HAA := hide hA
    clear hR hU hS hK hA HR HD
    obtain ⟨a, ha⟩ : ∃ a, a = 2 * k + 1 := ⟨_, rfl⟩
    obtain ⟨b, hb⟩ : ∃ b, b = a + 1 := ⟨_, rfl⟩
    have e1 : 2 * (k : Int) + 1 = (a : Int) := by omega
    have e2 : (a : Int) + 1 = (b : Int) := by omega
    have l1 : ¬ (a : Int) < 0 := by omega
    have HEQ : Hid (a = 2 * k + 1 ∧ b = 2 * k + 2) := ⟨ha, by omega⟩
    have hka : k < a := by omega
    have hkb : k < b := by omega
    clear ha hb
    by_cases h1 : a < n
    · have g1 : decide ((a : Int) ≥ (n : Int)) = false := by simp; omega
      have hkn : k < N := by omega
      have haN : a < N := by omega
      by_cases h2 : b < n
      · have g2 : decide ((b : Int) < (n : Int)) = true := by simp; omega
        have hbN : b < N := by omega
        have hcell := rk_cell1 HRR.out.cell
        have q1 := Tryz.toLess p _ wr hcell
        go_wp2_with fail
        refine (rkLess_any B g N cap f' b a wr HRR.out.row hbN haN hN).mono ?_
        rintro e w1 ⟨rfl, b1⟩
        have HR1 := hide (HRR.out.later b1)
        have HA1 := hide (HAA.out.thenBelow b1 HAA.out.size)
        clear b1 q1 hcell
        by_cases hba : lessR (f' b) (f' a)
        · rw [decide_eq_true hba]
          have HMIN : Hid (∀ x, (x = 2 * k + 1 ∨ x = 2 * k + 2) → x < n → ¬ lessR (f' x) (f' b)) := fun x hx _ => by
            rcases hx with e | e
            · rw [e, ← HEQ.out.1]; exact leR_of_less hba
            · rw [e, ← HEQ.out.2]; exact fun hh => lessR_asymm hh hh
          have HEND : Hid (¬ lessR (f' b) (f' k) → (2 * k + 1 < n → ¬ lessR (f' (2 * k + 1)) (f' k)) ∧ (2 * k + 2 < n → ¬ lessR (f' (2 * k + 2)) (f' k))) := fun hh => by
            rw [← HEQ.out.1, ← HEQ.out.2]
            exact ⟨fun _ => leR_trans hh (leR_of_less hba), fun _ => hh⟩
          clear hba
          have hcell := rk_cell1 HR1.out.cell
          have q1 := Tryz.toLess p _ w1 hcell
          go_wp2_with fail
          refine (rkLess_any B g N cap f' b k w1 HR1.out.row (by omega) (by omega) hN).mono ?_
          rintro e w2 ⟨rfl, b2⟩
          have HR2 := hide (HR1.out.later b2)
          have HA2 := hide (HA1.out.thenBelow b2 HA1.out.size)
          clear b2 q1 hcell
          by_cases hless : lessR (f' b) (f' k)
          · rw [decide_eq_true hless]
            have HST := hide (HDD.out.step (j := b) (.inr HEQ.out.2) (by omega) hless HMIN.out)
            clear hless
            have hcell := rk_cell1 HR2.out.cell
            have q2 := Tryz.toSwap p _ w2 hcell
            go_wp2_with fail
            refine (rkSwap_any B g N cap f' k b w2 HR2.out.row (by omega) (by omega) hN).mono ?_
            rintro e w3 ⟨rfl, r3, a3⟩
            have HA3 := hide (HA2.out.trans a3)
            have HR3 : Hid (Rkg B w3 p g N cap (swp f' k b)) := ⟨r3, (a3.block p HR2.out.ltP (by have := HR2.out.apart; omega)).trans HR2.out.cell, HR2.out.atP⟩
            clear r3 a3 q2 hcell
            go_wp2_with fail
            go_roundw
            case rel => exact ⟨b, swp f' k b, by omega, rfl, HR3.out, HST.out, HSS.out.trans (SameR.swp f' (by omega) (by omega)), (fun x hx => by rw [swp_o f' k b (by omega) (by omega)]; exact HKK.out x hx), HA3.out⟩
            case measure => simp [intOf]; omega
          · rw [decide_eq_false hless]
            have HST := hide (HDD.out.stop (HEND.out hless).1 (HEND.out hless).2)
            clear hless
            go_wp2_with fail
            go_ret
            exact ⟨_, rfl, f', HR2.out, HST.out, HSS.out, HKK.out, HA2.out⟩
        · rw [decide_eq_false hba]
          have HMIN : Hid (∀ x, (x = 2 * k + 1 ∨ x = 2 * k + 2) → x < n → ¬ lessR (f' x) (f' a)) := fun x hx _ => by
            rcases hx with e | e
            · rw [e, ← HEQ.out.1]; exact fun hh => lessR_asymm hh hh
            · rw [e, ← HEQ.out.2]; exact hba
          have HEND : Hid (¬ lessR (f' a) (f' k) → (2 * k + 1 < n → ¬ lessR (f' (2 * k + 1)) (f' k)) ∧ (2 * k + 2 < n → ¬ lessR (f' (2 * k + 2)) (f' k))) := fun hh => by
            rw [← HEQ.out.1, ← HEQ.out.2]
            exact ⟨fun _ => hh, fun _ => leR_trans hh hba⟩
          clear hba
          have hcell := rk_cell1 HR1.out.cell
          have q1 := Tryz.toLess p _ w1 hcell
          go_wp2_with fail
          refine (rkLess_any B g N cap f' a k w1 HR1.out.row (by omega) (by omega) hN).mono ?_
          rintro e w2 ⟨rfl, b2⟩
          have HR2 := hide (HR1.out.later b2)
          have HA2 := hide (HA1.out.thenBelow b2 HA1.out.size)
          clear b2 q1 hcell
          by_cases hless : lessR (f' a) (f' k)
          · rw [decide_eq_true hless]
            have HST := hide (HDD.out.step (j := a) (.inl HEQ.out.1) (by omega) hless HMIN.out)
            clear hless
            have hcell := rk_cell1 HR2.out.cell
            have q2 := Tryz.toSwap p _ w2 hcell
            go_wp2_with fail
            refine (rkSwap_any B g N cap f' k a w2 HR2.out.row (by omega) (by omega) hN).mono ?_
            rintro e w3 ⟨rfl, r3, a3⟩
            have HA3 := hide (HA2.out.trans a3)
            have HR3 : Hid (Rkg B w3 p g N cap (swp f' k a)) := ⟨r3, (a3.block p HR2.out.ltP (by have := HR2.out.apart; omega)).trans HR2.out.cell, HR2.out.atP⟩
            clear r3 a3 q2 hcell
            go_wp2_with fail
            go_roundw
            case rel => exact ⟨a, swp f' k a, by omega, rfl, HR3.out, HST.out, HSS.out.trans (SameR.swp f' (by omega) (by omega)), (fun x hx => by rw [swp_o f' k a (by omega) (by omega)]; exact HKK.out x hx), HA3.out⟩
            case measure => simp [intOf]; omega
          · rw [decide_eq_false hless]
            have HST := hide (HDD.out.stop (HEND.out hless).1 (HEND.out hless).2)
            clear hless
            go_wp2_with fail
            go_ret
            exact ⟨_, rfl, f', HR2.out, HST.out, HSS.out, HKK.out, HA2.out⟩
      · have g2 : decide ((b : Int) < (n : Int)) = false := by simp; omega
        have HMIN : Hid (∀ x, (x = 2 * k + 1 ∨ x = 2 * k + 2) → x < n → ¬ lessR (f' x) (f' a)) := fun x hx hxn => by
          rcases hx with e | e
          · rw [e, ← HEQ.out.1]; exact fun hh => lessR_asymm hh hh
          · have := HEQ.out.2; omega
        have HEND : Hid (¬ lessR (f' a) (f' k) → (2 * k + 1 < n → ¬ lessR (f' (2 * k + 1)) (f' k)) ∧ (2 * k + 2 < n → ¬ lessR (f' (2 * k + 2)) (f' k))) := fun hh => by
          rw [← HEQ.out.1, ← HEQ.out.2]
          exact ⟨fun _ => hh, fun hh => absurd hh (by omega)⟩
        have hcell := rk_cell1 HRR.out.cell
        have q1 := Tryz.toLess p _ wr hcell
        go_wp2_with fail
        refine (rkLess_any B g N cap f' a k wr HRR.out.row (by omega) (by omega) hN).mono ?_
        rintro e w2 ⟨rfl, b2⟩
        have HR2 := hide (HRR.out.later b2)
        have HA2 := hide (HAA.out.thenBelow b2 HAA.out.size)
        clear b2 q1 hcell
        by_cases hless : lessR (f' a) (f' k)
        · rw [decide_eq_true hless]
          have HST := hide (HDD.out.step (j := a) (.inl HEQ.out.1) (by omega) hless HMIN.out)
          clear hless
          have hcell := rk_cell1 HR2.out.cell
          have q2 := Tryz.toSwap p _ w2 hcell
          go_wp2_with fail
          refine (rkSwap_any B g N cap f' k a w2 HR2.out.row (by omega) (by omega) hN).mono ?_
          rintro e w3 ⟨rfl, r3, a3⟩
          have HA3 := hide (HA2.out.trans a3)
          have HR3 : Hid (Rkg B w3 p g N cap (swp f' k a)) := ⟨r3, (a3.block p HR2.out.ltP (by have := HR2.out.apart; omega)).trans HR2.out.cell, HR2.out.atP⟩
          clear r3 a3 q2 hcell
          go_wp2_with fail
          go_roundw
          case rel => exact ⟨a, swp f' k a, by omega, rfl, HR3.out, HST.out, HSS.out.trans (SameR.swp f' (by omega) (by omega)), (fun x hx => by rw [swp_o f' k a (by omega) (by omega)]; exact HKK.out x hx), HA3.out⟩
          case measure => simp [intOf]; omega
        · rw [decide_eq_false hless]
          have HST := hide (HDD.out.stop (HEND.out hless).1 (HEND.out hless).2)
          clear hless
          go_wp2_with fail
          go_ret
          exact ⟨_, rfl, f', HR2.out, HST.out, HSS.out, HKK.out, HA2.out⟩
    · have g1 : decide ((a : Int) ≥ (n : Int)) = true := by simp; omega
      have HST := hide (HDD.out.stop (fun hh => absurd hh (by rw [← HEQ.out.1]; exact h1)) (fun hh => absurd hh (by have := HEQ.out.1; omega)))
      go_wp2_with fail
      go_ret
      all_goals first | exact ⟨_, rfl, f', HRR.out, HST.out, HSS.out, HKK.out, HAA.out⟩ | exact ⟨⟨_, rfl⟩, f', HRR.out, HST.out, HSS.out, HKK.out, HAA.out⟩
end Go.Proofs.YtocinobbocjikaaGreatDoor
end

section
namespace Go.Proofs.YtocinobbocjikaaGreatDoor
open Go.RowKit
set_option linter.unusedVariables false
set_option maxRecDepth 20000

theorem HeapR.upd {n : Nat} {f : Nat → Rk} (h : HeapR n f) (x : Rk) : HeapR n (upd f n x) := by
  intro k h1 h2
  rw [upd_other _ _ (show k ≠ n by omega), upd_other _ _ (show (k - 1) / 2 ≠ n by omega)]
  exact h k h1 h2

set_option maxHeartbeats 1600000 in
theorem heapPush_any (B p g n cap : Nat) (f : Nat → Rk) (x : Rk) (w : World) (h : Rkg B w p g n cap f) (hh : HeapR n f) (hn : n < 1048576) (hB : B ≤ w.heap.size) :
    Calls Tryz.prog 184 #[.iface 220 (.pointer (some ⟨p, 0, none⟩)), .iface 225 (rkV x)] w fun e w' => e = .returned (.tuple #[]) ∧ ∃ g' cap' f', Rkg B w' p g' (n + 1) cap' f' ∧ HeapR (n + 1) f' ∧ SameR (n + 1) (upd f n x) f' ∧ Below B w w' := by
  have HR := hide h
  have HH := hide hh
  have q0 := Tryz.toPush p
  clear h hh
  go_enter Tryz.func184, Tryz.ntmps184
  go_wp2_with fail
  refine (rkPush_any B p g n cap f x w HR.out hn hB).mono ?_
  rintro e w1 ⟨rfl, g', cap', r1, b1⟩
  have HR1 := hide r1
  have HB1 := hide b1
  have hs1 := b1.size
  have hcell := rk_cell1 r1.cell
  have q1 := Tryz.toLen p _ w1 hcell
  clear r1 b1 q0
  go_wp2_with fail
  refine (rkLen_any _ (n + 1) cap' w1 (by omega)).mono ?_
  rintro e w2 ⟨rfl, rfl⟩
  clear q1 hcell
  go_wp2_with fail
  refine (up_any B p g' (n + 1) cap' (upd f n x) n w1 HR1.out (by omega) (UpR.start (HH.out.upd x)) (by omega)).mono ?_
  rintro e w2 ⟨rfl, f', r2, h2, s2, a2⟩
  have HR2 := hide r2
  have HH2 := hide h2
  have HS2 := hide s2
  have HB2 := hide (HB1.out.trans (a2.below (rk_lt HR1.out.row).1 (by omega)))
  clear r2 h2 s2 a2
  go_wp2_with fail
  go_end0
  exact ⟨rfl, g', cap', f', HR2.out, HH2.out, HS2.out, HB2.out⟩

set_option maxHeartbeats 1600000 in
theorem heapPop_any (B p g n cap : Nat) (f : Nat → Rk) (H : Nat) (w : World) (h : Rkg B w p g (n + 1) cap f) (hh : HeapR (n + 1) f) (hn : n < 1048576) (hpH : p < H) (hgH : g < H) :
    Calls Tryz.prog 206 #[.iface 220 (.pointer (some ⟨p, 0, none⟩))] w fun e w' => e = .returned (.iface 225 (rkV (f 0))) ∧ ∃ f', Rkg B w' p g n cap f' ∧ HeapR n f' ∧ SameR n (swp f 0 n) f' ∧ Aside B H w w' := by
  have HR := hide h
  have HH := hide hh
  have hcell := rk_cell1 h.cell
  have q1 := Tryz.toLen p _ w hcell
  have q2 := Tryz.toSwap p _ w hcell
  clear h hh
  go_enter Tryz.func206, Tryz.ntmps206
  go_wp2_with fail
  refine (rkLen_any _ (n + 1) cap w (by omega)).mono ?_
  rintro e w1 ⟨rfl, rfl⟩
  go_wp2_with fail
  refine (rkSwap_any B g (n + 1) cap f 0 n w HR.out.row (by omega) (by omega) (by omega)).mono ?_
  rintro e w1 ⟨rfl, r1, a1⟩
  have HR1 : Hid (Rkg B w1 p g (n + 1) cap (swp f 0 n)) := ⟨r1, (a1.block p HR.out.ltP (by have := HR.out.apart; omega)).trans HR.out.cell, HR.out.atP⟩
  have hgB := (rk_lt HR.out.row).1
  have hpB := HR.out.atP
  have HA1 := hide (a1.widen (lo' := B) (hi' := H) hgB (by omega))
  have HD1 : Hid (DownR n (swp f 0 n) 0) := DownR.start HH.out (fun k h1 h2 => swp_o f 0 n (by omega) (by omega))
  clear r1 a1 q1 q2 hcell
  go_wp2_with fail
  refine (down_any B p g (n + 1) cap (swp f 0 n) n w1 HR1.out (by omega) HD1.out (by omega)).mono ?_
  rintro e w2 ⟨v, rfl, f', r2, h2, s2, k2, a2⟩
  have HR2 := hide r2
  have HH2 := hide h2
  have HS2 := hide s2
  have HE : Hid (f' n = f 0) := by show _ = _; rw [k2 n (Nat.le_refl _), swp_r]
  have HA2 := hide (HA1.out.trans (a2.widen (lo' := B) (hi' := H) hgB (by omega)))
  have q0 := Tryz.toPop p
  clear r2 h2 s2 k2 a2
  go_wp2_with fail
  refine (rkPop_any B p g n cap f' w2 HR2.out hn).mono ?_
  rintro e w3 ⟨rfl, r3, a3⟩
  have HR3 := hide r3
  have HA3 := hide (HA2.out.trans (a3.widen (lo' := B) (hi' := H) hpB (by omega)))
  rw [HE.out]
  clear r3 a3
  go_wp2_with fail
  go_ret
  exact ⟨rfl, f', HR3.out, HH2.out, HS2.out, HA3.out⟩

set_option maxHeartbeats 1600000 in
theorem takeNext_any (B p g n cap : Nat) (f : Nat → Rk) (H : Nat) (w : World) (h : Rkg B w p g (n + 1) cap f) (hh : HeapR (n + 1) f) (hn : n < 1048576) (hpH : p < H) (hgH : g < H) :
    Calls Tryz.prog 186 #[.pointer (some ⟨p, 0, none⟩)] w fun e w' => e = .returned (rkV (f 0)) ∧ ∃ f', Rkg B w' p g n cap f' ∧ HeapR n f' ∧ SameR n (swp f 0 n) f' ∧ Aside B H w w' := by
  obtain ⟨wA, hwA⟩ : ∃ wA, wA = w.alloc (.cells #[.int .i64 0, .int .i64 0, .int .i64 0] 225) := ⟨_, rfl⟩
  have hzA : wA.heap.size = w.heap.size + 1 := by rw [hwA]; simp
  have HBA : Hid (Below w.heap.size w wA) := by rw [hwA]; exact (Below.refl _ _).alloc (Nat.le_refl _) _
  have H1 : Hid (wA.heap[w.heap.size]? = some (.cells #[.int .i64 0, .int .i64 0, .int .i64 0] 225)) := by rw [hwA]; exact heap_new _ _
  have HRA := hide (h.later HBA.out)
  have HH := hide hh
  have hsp := h.ltP
  have hsg := (rk_lt h.row).2
  clear h hh
  go_enter Tryz.func186, Tryz.ntmps186
  go_wp2_with fail
  rw [← hwA]
  clear hwA
  refine (heapPop_any B p g n cap f (min H w.heap.size) wA HRA.out HH.out hn (by omega) (by omega)).mono ?_
  rintro e w1 ⟨rfl, f', r1, h1, s1, a1⟩
  have HR1 := hide r1
  have HH1 := hide h1
  have HS1 := hide s1
  have HA1 := hide (((Aside.ofBelow HBA.out : Aside B (min H w.heap.size) w wA).trans a1).widen (lo' := B) (hi' := H) (Nat.le_refl _) (Nat.min_le_left _ _))
  have K1 : Hid (w1.heap[w.heap.size]? = some (.cells #[.int .i64 0, .int .i64 0, .int .i64 0] 225)) := (a1.block w.heap.size (by omega) (.inr (Nat.min_le_right _ _))).trans H1.out
  have q0 := Tryz.asRk (rkV (f 0))
  obtain ⟨c0, c1, c2⟩ := three_cells K1.out
  have f0 := four_frozen K1.out 0
  have f1 := four_frozen K1.out 1
  have f2 := four_frozen K1.out 2
  have hs1 := HA1.out.size
  clear r1 h1 s1 a1
  go_wp2_with fail
  have HSET := hide (set_block (set_block (set_block K1.out 0 (.int .i64 (f 0).1) (by simp)) 1 (.int .i64 (f 0).2.1) (by simp)) 2 (.int .i64 (f 0).2.2) (by simp))
  have HAS := hide ((((Aside.refl w.heap.size (w.heap.size + 1) w1).setCell (p := ⟨w.heap.size, 0, none⟩) (Nat.le_refl _) (Nat.lt_succ_self _) (.int .i64 (f 0).1)).setCell (p := ⟨w.heap.size, 1, none⟩) (Nat.le_refl _) (Nat.lt_succ_self _) (.int .i64 (f 0).2.1)).setCell (p := ⟨w.heap.size, 2, none⟩) (Nat.le_refl _) (Nat.lt_succ_self _) (.int .i64 (f 0).2.2))
  refine bodyPost_ret (results_cell rfl rfl (run_loadVar_row _ _ _ _ _ _ _ HSET.out Tryz.underlying225 rfl (by kernel_rfl))) rfl ⟨rfl, f', HR1.out.keep (HAS.out.block p HR1.out.ltP (by omega)) (HAS.out.block g (rk_lt HR1.out.row).2 (by omega)), HH1.out, HS1.out, HA1.out.thenNew HAS.out (Nat.le_refl _)⟩
end Go.Proofs.YtocinobbocjikaaGreatDoor
end

section
namespace Go.Proofs.YtocinobbocjikaaGreatDoor
open Go.RowKit
set_option linter.unusedVariables false
set_option maxRecDepth 20000

theorem valN_ints (l : List Nat) : valN l = (l.map (fun (i : Nat) => (i : Int))).map (Value.int .i64) := by
  unfold valN; rw [List.map_map]; rfl
theorem own_valN {w : World} {base n : Nat} {v : Value} {l : List Nat} (h : w.ownsRow base 2 1 v n (valN l)) :
    ∃ a cap, v = .slice a n cap ∧ n ≤ cap ∧ OwnInts base w.heap.size w a n (l.map (fun (i : Nat) => (i : Int))) := by
  obtain ⟨a, cap, e, hc, hl, _, ho⟩ := owned_of_own h
  rw [valN_length] at hl
  refine ⟨a, cap, e, hc, by rw [List.length_map]; exact hl, ho.congr fun i hi => ?_⟩
  rw [valN_ints]
  exact map_cell _ i (by rw [List.length_map]; omega)

end Go.Proofs.YtocinobbocjikaaGreatDoor
end

