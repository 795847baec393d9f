/- A Chip copied into new memory. -/
import Derived.Test.YtceidhlcbbikcamChipOwn2
namespace Go.Proofs.Ytceidhlcbbikcam
open Go.RowKit
set_option linter.unusedVariables false
set_option maxRecDepth 20000

theorem OwnSqs.aside {lo hi n g off l r : Nat} {w w' : World} {a : Option Addr} {qs : List Sq} {A : Nat → Option Addr} {C P : Nat → Nat} (h : OwnSqs lo hi w a n qs g off A C P) (hb : Aside l r w w') (hr : r ≤ lo ∨ hi ≤ l) : OwnSqs lo hi w' a n qs g off A C P :=
  ⟨h.len, h.row.aside hb (by have := h.atG; omega), h.addr, fun i hi => (h.pages i hi).aside hb (by have := h.atP i hi; omega), h.room, h.atG, h.atP, h.apartG, h.apartP, Nat.le_trans h.top hb.size⟩
theorem OwnSqs.wide {lo hi lo' hi' n g off : Nat} {w : World} {a : Option Addr} {qs : List Sq} {A : Nat → Option Addr} {C P : Nat → Nat} (h : OwnSqs lo hi w a n qs g off A C P) (h1 : lo' ≤ lo) (h2 : hi ≤ hi') (h3 : hi' ≤ w.heap.size) : OwnSqs lo' hi' w a n qs g off A C P :=
  ⟨h.len, h.row, h.addr, h.pages, h.room, by have := h.atG; omega, fun i hi => by have := h.atP i hi; omega, h.apartG, h.apartP, h3⟩
theorem OwnSquares.aside {lo hi n l r : Nat} {w w' : World} {a : Option Addr} {qs : List Sq} (h : OwnSquares lo hi w a n qs) (hb : Aside l r w w') (hr : r ≤ lo ∨ hi ≤ l) : OwnSquares lo hi w' a n qs := by
  obtain ⟨g, off, A, C, P, h⟩ := h
  exact ⟨g, off, A, C, P, h.aside hb hr⟩
theorem OwnSquares.wide {lo hi lo' hi' n : Nat} {w : World} {a : Option Addr} {qs : List Sq} (h : OwnSquares lo hi w a n qs) (h1 : lo' ≤ lo) (h2 : hi ≤ hi') (h3 : hi' ≤ w.heap.size) : OwnSquares lo' hi' w a n qs := by
  obtain ⟨g, off, A, C, P, h⟩ := h
  exact ⟨g, off, A, C, P, h.wide h1 h2 h3⟩
theorem two_cells {W : World} {b : Nat} {c0 c1 : Value} {t : TypeId} {fr : Nat × Nat} (h : W.heap[b]? = some (.cells #[c0, c1] t fr)) :
    W.cell? ⟨b, 0, none⟩ = some c0 ∧ W.cell? ⟨b, 1, none⟩ = some c1 := by
  simp [World.cell?, h]
theorem two_set {W : World} {b : Nat} {c0 c1 : Value} {t : TypeId} {fr : Nat × Nat} (h : W.heap[b]? = some (.cells #[c0, c1] t fr)) (v0 v1 : Value) :
    ((W.setCell ⟨b, 0, none⟩ v0).setCell ⟨b, 1, none⟩ v1).heap[b]? = some (.cells #[v0, v1] t fr) :=
  set_block (set_block h 0 v0 (by simp)) 1 v1 (by simp)
theorem two_other {W : World} {b k : Nat} {x : Option Obj} (h : W.heap[b]? = x) (hne : k ≠ b) (v0 v1 : Value) : ((W.setCell ⟨k, 0, none⟩ v0).setCell ⟨k, 1, none⟩ v1).heap[b]? = x :=
  set_other (set_other h hne v0) hne v1
theorem two_aside {lo hi : Nat} {w W : World} {b : Nat} (h : Aside lo hi w W) (h1 : lo ≤ b) (h2 : b < hi) (v0 v1 : Value) : Aside lo hi w ((W.setCell ⟨b, 0, none⟩ v0).setCell ⟨b, 1, none⟩ v1) :=
  (h.setCell (p := ⟨b, 0, none⟩) h1 h2 v0).setCell (p := ⟨b, 1, none⟩) h1 h2 v1

set_option maxHeartbeats 800000 in
/-- A Chip in new memory. -/
theorem toChip_any (z : Int) (a : Option Addr) (n cap : Nat) (qs : List Sq) (w : World) {lo hi : Nat} (h : Squares lo hi w a n qs) (hhi : hi ≤ w.heap.size) (hfit : n + weight qs ≤ 1048576) :
    Calls Try.prog 12 #[.agg #[.int .i64 z, .slice a n cap]] w fun e w' => ∃ a', e = .returned (.agg #[.int .i64 z, .slice a' n n]) ∧ OwnSquares w.heap.size w'.heap.size w' a' n qs ∧ Below w.heap.size w w' := by
  obtain ⟨wA, hwA⟩ : ∃ wA, wA = ((w.alloc (.cells #[.int .i64 z, .slice a n cap] 24)).alloc (.cells #[.int .i64 0, .slice none 0 0] 31)).alloc (.cells #[.int .i64 z, .slice none 0 0] 31) := ⟨_, rfl⟩
  have hzA : wA.heap.size = w.heap.size + 1 + 1 + 1 := by rw [hwA]; simp
  have HBA : Hid (Below w.heap.size w wA) := by rw [hwA]; exact ((((Below.refl _ _).alloc (Nat.le_refl _) _).alloc (by simp) _).alloc (by simp; omega) _)
  have H1 : Hid (wA.heap[w.heap.size + 1]? = some (.cells #[.int .i64 0, .slice none 0 0] 31)) := by rw [hwA]; exact heap_old (heap_at (by simp))
  have H2 : Hid (wA.heap[w.heap.size + 1 + 1]? = some (.cells #[.int .i64 z, .slice none 0 0] 31)) := by rw [hwA]; exact heap_at (by simp)
  have HTA := hide (h.later HBA.out hhi)
  clear h
  go_enter Try.func12, Try.ntmps12
  go_wp2_with fail
  rw [← hwA]
  clear hwA
  refine (toSquareS_any a n cap qs wA HTA.out (by omega) hfit).mono ?_
  rintro e w1 ⟨p, rfl, hown, b1⟩
  have K1 := hide (block_on H1.out b1)
  have K2 := hide (block_on H2.out b1)
  have hs1 := b1.size
  have HB1 := hide (below_here HBA.out b1)
  obtain ⟨d0, d1⟩ := two_cells K1.out
  obtain ⟨e0, e1⟩ := two_cells K2.out
  have f0 := four_frozen K1.out 0
  have f1 := four_frozen K1.out 1
  have g0 := four_frozen K2.out 0
  have g1 := four_frozen K2.out 1
  have HOW := hide hown
  clear hown b1 H1 H2 HTA
  have HAS := hide (two_aside (b := w.heap.size + 1) ((Aside.refl w.heap.size (w.heap.size + 3) w1).setCell (p := ⟨w.heap.size + 1 + 1, 1, none⟩) (by simp; omega) (by simp) (.slice p n n)) (by omega) (by omega) (.int .i64 z) (.slice p n n))
  have HRS := hide (two_set (set_other K1.out (show w.heap.size + 1 + 1 ≠ w.heap.size + 1 by omega) (o := 1) (.slice p n n)) (.int .i64 z) (.slice p n n))
  clear K1 K2
  go_wp2_with fail
  have hsz := HAS.out.size
  refine bodyPost_ret (results_cell rfl rfl (run_loadVar_row _ _ _ _ _ _ _ HRS.out Try.underlying31 rfl (by kernel_rfl))) rfl ⟨p, rfl, (HOW.out.aside HAS.out (.inl (by omega))).wide (by omega) hsz (Nat.le_refl _), HB1.out.trans (HAS.out.below (Nat.le_refl _) (by omega))⟩
end Go.Proofs.Ytceidhlcbbikcam
