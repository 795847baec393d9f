/- Rankings in memory: a cell that holds a slice of ranks, of a call's own. -/
import Derived.Test.YtceidhlcbbikcamHeapMath
import Derived.Test.YtceidhlcbbikcamChipGrow
import Derived.Test.YtceidhlcbbikcamResCell
namespace Go.Proofs.Ytceidhlcbbikcam
open Go.RowKit
set_option linter.unusedVariables false
set_option maxRecDepth 20000

def cellR (f : Nat → Rk) (j : Nat) : Value := if j % 3 = 0 then .int .i64 (f (j / 3)).1 else if j % 3 = 1 then .int .i64 (f (j / 3)).2.1 else .int .i64 (f (j / 3)).2.2
theorem cellR0 (f : Nat → Rk) (i : Nat) : cellR f (i * 3) = .int .i64 (f i).1 := by
  unfold cellR; rw [if_pos (by omega), show i * 3 / 3 = i by omega]
theorem cellR1 (f : Nat → Rk) (i : Nat) : cellR f (i * 3 + 1) = .int .i64 (f i).2.1 := by
  unfold cellR; rw [if_neg (by omega), if_pos (by omega), show (i * 3 + 1) / 3 = i by omega]
theorem cellR2 (f : Nat → Rk) (i : Nat) : cellR f (i * 3 + 2) = .int .i64 (f i).2.2 := by
  unfold cellR; rw [if_neg (by omega), if_neg (by omega), show (i * 3 + 2) / 3 = i by omega]
def rkL (n : Nat) (f : Nat → Rk) : List Value := (List.range (n * 3)).map (cellR f)
theorem rkL_length (n : Nat) (f : Nat → Rk) : (rkL n f).length = n * 3 := by simp [rkL]
theorem rkL_at (n : Nat) (f : Nat → Rk) {j : Nat} (h : j < n * 3) : (rkL n f)[j]? = some (cellR f j) := by
  unfold rkL; rw [List.getElem?_map, List.getElem?_range h]; rfl
theorem rkL_ext {n : Nat} {f : Nat → Rk} {l : List Value} (hl : l.length = n * 3) (h : ∀ j, j < n * 3 → l[j]? = some (cellR f j)) : l = rkL n f := by
  refine List.ext_getElem? fun j => ?_
  by_cases hj : j < n * 3
  · rw [h j hj, rkL_at n f hj]
  · rw [List.getElem?_eq_none (by omega), List.getElem?_eq_none (by rw [rkL_length]; omega)]
theorem rkL_snoc (n : Nat) (f : Nat → Rk) (x : Rk) : rkL n f ++ [.int .i64 x.1, .int .i64 x.2.1, .int .i64 x.2.2] = rkL (n + 1) (upd f n x) := by
  refine rkL_ext (by simp [rkL_length]; omega) fun j hj => ?_
  by_cases h : j < n * 3
  · rw [List.getElem?_append_left (by rw [rkL_length]; exact h), rkL_at n f h]
    unfold cellR
    rw [upd_other _ _ (show j / 3 ≠ n by omega)]
  · rw [List.getElem?_append_right (by rw [rkL_length]; omega), rkL_length]
    have e : j = n * 3 ∨ j = n * 3 + 1 ∨ j = n * 3 + 2 := by omega
    rcases e with rfl | rfl | rfl
    · rw [cellR0, upd_same]; simp
    · rw [cellR1, upd_same]; simp
    · rw [cellR2, upd_same]; simp
theorem rkL_take (n : Nat) (f : Nat → Rk) : (rkL (n + 1) f).take (n * 3) = rkL n f := by
  refine rkL_ext (by rw [List.length_take, rkL_length]; omega) fun j hj => ?_
  rw [List.getElem?_take, if_pos hj, rkL_at (n + 1) f (by omega)]
theorem rkL_set3 (n : Nat) (f : Nat → Rk) {i : Nat} (hi : i < n) (x : Rk) : (((rkL n f).set (i * 3) (.int .i64 x.1)).set (i * 3 + 1) (.int .i64 x.2.1)).set (i * 3 + 2) (.int .i64 x.2.2) = rkL n (upd f i x) := by
  refine rkL_ext (by simp [rkL_length]) fun j hj => ?_
  by_cases e2 : j = i * 3 + 2
  · subst e2
    rw [List.getElem?_set_self (by simp [rkL_length]; omega), cellR2, upd_same]
  · rw [List.getElem?_set_ne (by omega)]
    by_cases e1 : j = i * 3 + 1
    · subst e1
      rw [List.getElem?_set_self (by simp [rkL_length]; omega), cellR1, upd_same]
    · rw [List.getElem?_set_ne (by omega)]
      by_cases e0 : j = i * 3
      · subst e0
        rw [List.getElem?_set_self (by simp [rkL_length]; omega), cellR0, upd_same]
      · rw [List.getElem?_set_ne (by omega), rkL_at n f hj]
        unfold cellR
        rw [upd_other _ _ (show j / 3 ≠ i by omega)]
theorem upd_swp (f : Nat → Rk) (i j : Nat) : upd (upd f i (f j)) j (f i) = swp f i j := by
  funext k
  unfold upd swp
  by_cases h1 : k = j
  · subst h1
    by_cases h2 : k = i
    · subst h2; simp
    · simp [h2]
  · simp [h1]
theorem upd_swp' (f : Nat → Rk) (i j : Nat) : upd (upd f j (f i)) i (f j) = swp f i j := by
  funext k
  unfold upd swp
  by_cases h1 : k = i
  · simp [h1]
  · simp [h1]

/-- A row of n ranks of one's own, in block g. -/
abbrev RkRow (B : Nat) (w : World) (g n cap : Nat) (f : Nat → Rk) : Prop := w.ownsRow B 91 3 (.slice (some ⟨g, 0, none⟩) n cap) n (rkL n f)
theorem rk_cells {B : Nat} {w : World} {g n cap : Nat} {f : Nat → Rk} (h : RkRow B w g n cap f) {i : Nat} (hi : i < n) :
    w.cell? ⟨g, i * 3, none⟩ = some (.int .i64 (f i).1) ∧ w.cell? ⟨g, i * 3 + 1, none⟩ = some (.int .i64 (f i).2.1) ∧ w.cell? ⟨g, i * 3 + 2, none⟩ = some (.int .i64 (f i).2.2) := by
  refine ⟨?_, ?_, ?_⟩
  · rw [h.cellAt _ (by omega), rkL_at n f (by omega), cellR0]
  · rw [h.cellAt _ (by omega), rkL_at n f (by omega), cellR1]
  · rw [h.cellAt _ (by omega), rkL_at n f (by omega), cellR2]
theorem rk_lt {B : Nat} {w : World} {g n cap : Nat} {f : Nat → Rk} (h : RkRow B w g n cap f) : B ≤ g ∧ g < w.heap.size := h.lt g rfl
theorem rk_kind {B : Nat} {w : World} {g n cap : Nat} {f : Nat → Rk} (h : RkRow B w g n cap f) : ∃ c fz, w.heap[g]? = some (.cells c 91 fz) := Go.Lib.ownsRow_kind h g rfl
theorem rk_keep {B : Nat} {w w' : World} {g n cap : Nat} {f : Nat → Rk} (h : RkRow B w g n cap f) (hb : w'.heap[g]? = w.heap[g]?) : RkRow B w' g n cap f := by
  refine ⟨h.1, ?_⟩
  rcases h.2 with h' | ⟨p, cap', cur, e, h1, h2, h3⟩
  · exact .inl h'
  · have hp : p = g := by simp only [Value.slice.injEq, Option.some.injEq, Addr.mk.injEq] at e; exact e.1.1.symm
    subst hp
    exact .inr ⟨p, cap', cur, e, h1, by rw [hb, h2], h3⟩
theorem rk_set {B : Nat} {w : World} {g n cap : Nat} {f : Nat → Rk} (h : RkRow B w g n cap f) {i : Nat} (hi : i < n) (x : Rk) :
    RkRow B (((w.setCell ⟨g, i * 3, none⟩ (.int .i64 x.1)).setCell ⟨g, i * 3 + 1, none⟩ (.int .i64 x.2.1)).setCell ⟨g, i * 3 + 2, none⟩ (.int .i64 x.2.2)) g n cap (upd f i x) := by
  have h1 := (h.stored (i * 3) (.int .i64 x.1)).1
  have h2 := (World.ownsRow.stored h1 (i * 3 + 1) (.int .i64 x.2.1)).1
  have h3 := (World.ownsRow.stored h2 (i * 3 + 2) (.int .i64 x.2.2)).1
  rw [rkL_set3 n f hi x] at h3
  exact h3
theorem rk_cut {B : Nat} {w : World} {g n cap : Nat} {f : Nat → Rk} (h : RkRow B w g (n + 1) cap f) : RkRow B w g n cap f := by
  refine ⟨rkL_length n f, ?_⟩
  rcases h.2 with ⟨e, _⟩ | ⟨p, cap', cur, e, h1, h2, h3, h4, h5, h6⟩
  · simp at e
  · simp only [Value.slice.injEq, Option.some.injEq, Addr.mk.injEq, and_true, true_and] at e
    obtain ⟨rfl, rfl⟩ := e
    refine .inr ⟨g, cap, cur, rfl, h1, h2, by omega, h4, h5, ?_⟩
    rw [← rkL_take, ← h6, List.take_take, Nat.min_eq_left (by omega)]

/-- A ranking: its cell in block p, its row in block g. -/
structure Rkg (B : Nat) (w : World) (p g n cap : Nat) (f : Nat → Rk) : Prop where
  row : RkRow B w g n cap f
  cell : w.heap[p]? = some (.cells #[.slice (some ⟨g, 0, none⟩) n cap] 88 (0, 0))
  atP : B ≤ p
theorem rk_cell1 {W : World} {b : Nat} {c0 : Value} {t : TypeId} {fr : Nat × Nat} (h : W.heap[b]? = some (.cells #[c0] t fr)) : W.cell? ⟨b, 0, none⟩ = some c0 := by
  simp [World.cell?, h]
section
variable {B : Nat} {w w' : World} {p g n cap : Nat} {f : Nat → Rk}
theorem Rkg.ltP (h : Rkg B w p g n cap f) : p < w.heap.size := (Array.getElem?_eq_some_iff.1 h.cell).1
theorem Rkg.apart (h : Rkg B w p g n cap f) : g ≠ p := by
  intro e
  obtain ⟨c, fz, h1⟩ := rk_kind h.row
  rw [e, h.cell] at h1
  simp only [Option.some.injEq, Obj.cells.injEq] at h1
  exact absurd h1.2.1 (by decide)
theorem Rkg.keep (h : Rkg B w p g n cap f) (hp : w'.heap[p]? = w.heap[p]?) (hg : w'.heap[g]? = w.heap[g]?) : Rkg B w' p g n cap f :=
  ⟨rk_keep h.row hg, by rw [hp, h.cell], h.atP⟩
theorem Rkg.later (h : Rkg B w p g n cap f) (hb : Below w.heap.size w w') : Rkg B w' p g n cap f :=
  h.keep (hb.block p h.ltP) (hb.block g (rk_lt h.row).2)
theorem Rkg.aside (h : Rkg B w p g n cap f) {l r : Nat} (hb : Aside l r w w') (hr : r ≤ B ∨ w.heap.size ≤ l) : Rkg B w' p g n cap f := by
  have h1 := h.ltP
  have h2 := rk_lt h.row
  have h3 := h.atP
  exact h.keep (hb.block p h1 (by omega)) (hb.block g h2.2 (by omega))
end
/-- The receiver of a method on the value, told through the pointer. -/
theorem Try.toLen (p : Nat) (v : Value) (w : World) (h : w.cell? ⟨p, 0, none⟩ = some v) : (Go.method 244 86 (.pointer (some ⟨p, 0, none⟩)) "Len").run Try.prog w = .ok (61, v) w := by
  have e : ∀ w, (Go.method 244 86 (.pointer (some ⟨p, 0, none⟩)) "Len").run Try.prog w = ((do let v ← loadVar 88 ⟨p, 0, none⟩; pure (61, v)) : Sem (FuncId × Value)).run Try.prog w := fun w => by kernel_rfl
  rw [e]
  simp [loadVar, isAgg, run_underlying (show Try.prog.underlying 88 = some (.slice 91) from rfl), h]
end Go.Proofs.Ytceidhlcbbikcam
