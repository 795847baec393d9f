/- A new Pair, both sides. -/
import Derived.Test.YtdaemaefkikheaaNodeMark
import Derived.Test.YtdaemaefkikheaaWitNew
import Derived.Deep.RegionHeld3
namespace Go.Proofs.Ytdaemaefkikheaa
open Go.RowKit
set_option linter.unusedVariables false
set_option linter.unusedSimpArgs false
set_option maxRecDepth 20000

def nd0 : Nd := ⟨0, false, false, false, false, false, 0, [ByteArray.empty, ByteArray.empty, ByteArray.empty], (0, 0, ByteArray.empty)⟩
theorem texts_empty {w : World} {b : Nat} {t : TypeId} (h : w.heap[b]? = some (.cells #[.string ByteArray.empty, .string ByteArray.empty, .string ByteArray.empty] t)) : OwnTexts b (b + 1) w (some ⟨b, 0, none⟩) 3 [ByteArray.empty, ByteArray.empty, ByteArray.empty] := by
  refine ⟨rfl, (Array.getElem?_eq_some_iff.1 h).1, fun _ => ⟨b, 0, rfl, Nat.le_refl _, Nat.lt_succ_self _, fun i hi => ?_⟩⟩
  have : i = 0 ∨ i = 1 ∨ i = 2 := by omega
  rcases this with rfl | rfl | rfl <;> exact ⟨by simp [World.cell?, h, cellT], four_frozen h _⟩
theorem drew_on {W : World} {b : Nat} {o : Obj} (h : W.heap[b]? = some o) : W.drew.heap[b]? = some o := h
theorem pr_cells {W : World} {b : Nat} {c0 c1 c2 c3 c4 c5 : Value} {t : TypeId} {fr : Nat × Nat} (h : W.heap[b]? = some (.cells #[c0, c1, c2, c3, c4, c5] t fr)) :
    W.cell? ⟨b, 0, none⟩ = some c0 ∧ W.cell? ⟨b, 1, none⟩ = some c1 ∧ W.cell? ⟨b, 2, none⟩ = some c2 ∧ W.cell? ⟨b, 3, none⟩ = some c3 ∧ W.cell? ⟨b, 4, none⟩ = some c4 ∧ W.cell? ⟨b, 5, none⟩ = some c5 := by
  simp [World.cell?, h]
/-- A block of six cells that are not frozen, whatever they hold. -/
def SixAt (W : World) (b : Nat) : Prop := ∃ c0 c1 c2 c3 c4 c5, W.heap[b]? = some (.cells #[c0, c1, c2, c3, c4, c5] 37)
theorem SixAt.alloc {W : World} {b : Nat} (h : SixAt W b) (o : Obj) : SixAt (W.alloc o) b := by
  obtain ⟨c0, c1, c2, c3, c4, c5, h⟩ := h
  exact ⟨c0, c1, c2, c3, c4, c5, heap_old h⟩
theorem SixAt.drew {W : World} {b : Nat} (h : SixAt W b) : SixAt W.drew b := h
theorem SixAt.below {W W' : World} {b : Nat} (h : SixAt W b) (hb : Below W.heap.size W W') : SixAt W' b := by
  obtain ⟨c0, c1, c2, c3, c4, c5, h⟩ := h
  exact ⟨c0, c1, c2, c3, c4, c5, block_on h hb⟩
theorem SixAt.set {W : World} {b : Nat} (h : SixAt W b) (j : Nat) (hj : j < 6) (v : Value) : SixAt (W.setCell ⟨b, j, none⟩ v) b := by
  obtain ⟨c0, c1, c2, c3, c4, c5, h⟩ := h
  have := set_block h j v (by simpa using hj)
  have h6 : j = 0 ∨ j = 1 ∨ j = 2 ∨ j = 3 ∨ j = 4 ∨ j = 5 := by omega
  rcases h6 with rfl | rfl | rfl | rfl | rfl | rfl
  all_goals exact ⟨_, _, _, _, _, _, this⟩
/-- What a cell holds, whatever that is. -/
def cv (b j : Nat) (W : World) : Value := (W.cell? ⟨b, j, none⟩).getD undef
theorem six_has {W : World} {b : Nat} (h : SixAt W b) : W.cell? ⟨b, 0, none⟩ = some (cv b 0 W) ∧ W.cell? ⟨b, 1, none⟩ = some (cv b 1 W) ∧ W.cell? ⟨b, 2, none⟩ = some (cv b 2 W) ∧ W.cell? ⟨b, 3, none⟩ = some (cv b 3 W) ∧ W.cell? ⟨b, 4, none⟩ = some (cv b 4 W) ∧ W.cell? ⟨b, 5, none⟩ = some (cv b 5 W) ∧ W.frozen? ⟨b, 0, none⟩ = false ∧ W.frozen? ⟨b, 1, none⟩ = false ∧ W.frozen? ⟨b, 2, none⟩ = false ∧ W.frozen? ⟨b, 3, none⟩ = false ∧ W.frozen? ⟨b, 4, none⟩ = false ∧ W.frozen? ⟨b, 5, none⟩ = false := by
  obtain ⟨c0, c1, c2, c3, c4, c5, h⟩ := h
  refine ⟨?_, ?_, ?_, ?_, ?_, ?_, four_frozen h _, four_frozen h _, four_frozen h _, four_frozen h _, four_frozen h _, four_frozen h _⟩
  all_goals simp [cv, World.cell?, h]
theorem pr_set {W : World} {b : Nat} {t : TypeId} {fr : Nat × Nat} {c0 c1 c2 c3 c4 c5 : Value} (h : W.heap[b]? = some (.cells #[c0, c1, c2, c3, c4, c5] t fr)) (v0 v1 v2 v3 v4 v5 : Value) :
    ((((((W.setCell ⟨b, 0, none⟩ v0).setCell ⟨b, 1, none⟩ v1).setCell ⟨b, 2, none⟩ v2).setCell ⟨b, 3, none⟩ v3).setCell ⟨b, 4, none⟩ v4).setCell ⟨b, 5, none⟩ v5).heap[b]? = some (.cells #[v0, v1, v2, v3, v4, v5] t fr) :=
  set_block (set_block (set_block (set_block (set_block (set_block h 0 v0 (by simp)) 1 v1 (by simp)) 2 v2 (by simp)) 3 v3 (by simp)) 4 v4 (by simp)) 5 v5 (by simp)
theorem pr_aside {W : World} {b : Nat} (v0 v1 v2 v3 v4 v5 : Value) : Aside b (b + 1) W ((((((W.setCell ⟨b, 0, none⟩ v0).setCell ⟨b, 1, none⟩ v1).setCell ⟨b, 2, none⟩ v2).setCell ⟨b, 3, none⟩ v3).setCell ⟨b, 4, none⟩ v4).setCell ⟨b, 5, none⟩ v5) :=
  ((((((Aside.refl b (b + 1) W).setCell (p := ⟨b, 0, none⟩) (Nat.le_refl _) (Nat.lt_succ_self _) v0).setCell (p := ⟨b, 1, none⟩) (Nat.le_refl _) (Nat.lt_succ_self _) v1).setCell (p := ⟨b, 2, none⟩) (Nat.le_refl _) (Nat.lt_succ_self _) v2).setCell (p := ⟨b, 3, none⟩) (Nat.le_refl _) (Nat.lt_succ_self _) v3).setCell (p := ⟨b, 4, none⟩) (Nat.le_refl _) (Nat.lt_succ_self _) v4).setCell (p := ⟨b, 5, none⟩) (Nat.le_refl _) (Nat.lt_succ_self _) v5
theorem Try.infoStr3 : (Try.prog.info? 9).map (fun i => (i.zero, i.size, i.bytes)) = some (some (.string ByteArray.empty), 1, 16) := by kernel_rfl
def two (a b : Nat) (k : Nat) : Nat := if k = 0 then a else b
def newRow (ga gb ca cb : Nat) : Array Value := #[.int .i64 0, .bool false, .bool false, .bool false, .bool false, .bool false, .int .i64 0, .slice (some ⟨ga, 0, none⟩) 3 ca, .int .i64 0, .int .i64 0, .string ByteArray.empty, .int .i64 0, .bool false, .bool false, .bool false, .bool false, .bool false, .int .i64 0, .slice (some ⟨gb, 0, none⟩) 3 cb, .int .i64 0, .int .i64 0, .string ByteArray.empty]
theorem newRow_at (ga gb ca cb : Nat) : ∀ i, i < 22 → (newRow ga gb ca cb)[i]? = some (ndC (fun _ => nd0) (fun k => .slice (some ⟨two ga gb k, 0, none⟩) 3 (two ca cb k)) i) := by
  intro i hi
  have h : i = 0 ∨ i = 1 ∨ i = 2 ∨ i = 3 ∨ i = 4 ∨ i = 5 ∨ i = 6 ∨ i = 7 ∨ i = 8 ∨ i = 9 ∨ i = 10 ∨ i = 11 ∨ i = 12 ∨ i = 13 ∨ i = 14 ∨ i = 15 ∨ i = 16 ∨ i = 17 ∨ i = 18 ∨ i = 19 ∨ i = 20 ∨ i = 21 := by omega
  rcases h with rfl | rfl | rfl | rfl | rfl | rfl | rfl | rfl | rfl | rfl | rfl | rfl | rfl | rfl | rfl | rfl | rfl | rfl | rfl | rfl | rfl | rfl <;> rfl
/-- A new Pair's Nodes and flags, each in a block by itself. -/
structure NpAt (lo hi : Nat) (w : World) (g : Nat) (gs cs : Nat → Nat) (gw : Nat) : Prop where
  nodes : OwnNodes lo hi w g 0 2 (fun _ => nd0) gs cs
  flags : OwnBools gw (gw + 1) w (some ⟨gw, 0, none⟩) 2 [true, true]
  gw_at : lo ≤ gw ∧ gw < hi
  gw_g : gw ≠ g
  gw_v : ∀ k, k < 2 → gw ≠ gs k
theorem np_of {lo : Nat} {w : World} {g ga gb ca cb gw : Nat} (hn : Owned g (g + 1) w (some ⟨g, 0, none⟩) 22 (ndC (fun _ => nd0) (fun k => .slice (some ⟨two ga gb k, 0, none⟩) 3 (two ca cb k)))) (ha : OwnTexts ga (ga + 1) w (some ⟨ga, 0, none⟩) 3 nd0.vs) (hb : OwnTexts gb (gb + 1) w (some ⟨gb, 0, none⟩) 3 nd0.vs) (hw : OwnBools gw (gw + 1) w (some ⟨gw, 0, none⟩) 2 [true, true])
    (l1 : lo ≤ g) (l2 : lo ≤ ga) (l3 : lo ≤ gb) (l4 : lo ≤ gw) (d1 : ga ≠ gb) (d2 : ga ≠ g) (d3 : gb ≠ g) (d4 : gw ≠ g) (d5 : gw ≠ ga) (d6 : gw ≠ gb) : NpAt lo w.heap.size w g (two ga gb) (two ca cb) gw := by
  have s1 := hn.1
  have s2 := ha.2.1
  have s3 := hb.2.1
  have s4 := hw.2.1
  have t0 : two ga gb 0 = ga := rfl
  have t1 : two ga gb 1 = gb := rfl
  refine ⟨⟨Nat.le_refl _, ⟨l1, by omega⟩, fun k hk => ?_, hn, fun k hk => ?_, fun k hk => ?_, fun i j hi hj hij => ?_⟩, hw, ⟨l4, by omega⟩, d4, fun k hk => ?_⟩
  · rcases (by omega : k = 0 ∨ k = 1) with rfl | rfl
    · rw [t0]; omega
    · rw [t1]; omega
  · rcases (by omega : k = 0 ∨ k = 1) with rfl | rfl
    · exact ha
    · exact hb
  · rcases (by omega : k = 0 ∨ k = 1) with rfl | rfl
    · exact d2
    · exact d3
  · rcases (by omega : i = 0 ∨ i = 1) with rfl | rfl <;> rcases (by omega : j = 0 ∨ j = 1) with rfl | rfl
    · exact absurd rfl hij
    · exact d1
    · exact fun e => d1 e.symm
    · exact absurd rfl hij
  · rcases (by omega : k = 0 ∨ k = 1) with rfl | rfl
    · exact d5
    · exact d6
theorem NpAt.later {lo hi B : Nat} {w w' : World} {g : Nat} {gs cs : Nat → Nat} {gw : Nat} (h : NpAt lo hi w g gs cs gw) (hb : Below B w w') (hB : hi ≤ B) : NpAt lo hi w' g gs cs gw :=
  ⟨h.nodes.later hb hB, ⟨h.flags.1, h.flags.2.later hb (by have := h.gw_at; omega)⟩, h.gw_at, h.gw_g, h.gw_v⟩
theorem flags_own {lo hi w} {g : Nat} {xs : List Bool} (h : OwnBools lo hi w (some ⟨g, 0, none⟩) 2 xs) : OwnBools g (g + 1) w (some ⟨g, 0, none⟩) 2 xs ∧ lo ≤ g ∧ g < hi := by
  obtain ⟨b, off, e, h1, h2, h3⟩ := h.2.2 (by omega)
  simp only [Option.some.injEq, Addr.mk.injEq, and_true] at e
  obtain ⟨rfl, rfl⟩ := e
  have := h.2.1
  exact ⟨⟨h.1, by omega, fun _ => ⟨g, 0, rfl, Nat.le_refl _, Nat.lt_succ_self _, h3⟩⟩, h1, h2⟩
def PairAns (lo : Nat) (w : World) (v : Value) : Prop := ∃ g c gs cs gw cw, v = .agg #[.slice (some ⟨g, 0, none⟩) 2 c, .int .i64 0, .int .i64 (-1), .slice (some ⟨gw, 0, none⟩) 2 cw, .slice none 0 0, .slice none 0 0] ∧ NpAt lo w.heap.size w g gs cs gw
theorem flags_alloc {lo hi : Nat} {w : World} {a : Option Addr} {n : Nat} {xs : List Bool} (h : OwnBools lo hi w a n xs) (o : Obj) : OwnBools lo hi (w.alloc o) a n xs := ⟨h.1, h.2.later ((Below.refl w.heap.size w).alloc (Nat.le_refl _) o) h.2.1⟩
theorem made3s : madeCells #[.string ByteArray.empty] 3 = #[.string ByteArray.empty, .string ByteArray.empty, .string ByteArray.empty] := by kernel_rfl
theorem pr_below {B b : Nat} {w Z : World} (h : Below B w Z) (hb : B ≤ b) (v0 v1 v2 v3 v4 v5 : Value) : Below B w ((((((Z.setCell ⟨b, 0, none⟩ v0).setCell ⟨b, 1, none⟩ v1).setCell ⟨b, 2, none⟩ v2).setCell ⟨b, 3, none⟩ v3).setCell ⟨b, 4, none⟩ v4).setCell ⟨b, 5, none⟩ v5) :=
  (((((h.setCell (p := ⟨b, 0, none⟩) hb v0).setCell (p := ⟨b, 1, none⟩) hb v1).setCell (p := ⟨b, 2, none⟩) hb v2).setCell (p := ⟨b, 3, none⟩) hb v3).setCell (p := ⟨b, 4, none⟩) hb v4).setCell (p := ⟨b, 5, none⟩) hb v5
theorem six_set {W : World} {b : Nat} (h : SixAt W b) (v0 v1 v2 v3 v4 v5 : Value) : ((((((W.setCell ⟨b, 0, none⟩ v0).setCell ⟨b, 1, none⟩ v1).setCell ⟨b, 2, none⟩ v2).setCell ⟨b, 3, none⟩ v3).setCell ⟨b, 4, none⟩ v4).setCell ⟨b, 5, none⟩ v5).heap[b]? = some (.cells #[v0, v1, v2, v3, v4, v5] 37) := by
  obtain ⟨c0, c1, c2, c3, c4, c5, h⟩ := h
  exact pr_set h v0 v1 v2 v3 v4 v5
theorem row_own {Z : World} {g ga gb ca cb : Nat} {t1 : TypeId} (hn : Z.heap[g]? = some (.cells (newRow ga gb ca cb) t1)) : Owned g (g + 1) Z (some ⟨g, 0, none⟩) 22 (ndC (fun _ => nd0) (fun k => .slice (some ⟨two ga gb k, 0, none⟩) 3 (two ca cb k))) :=
  ⟨(Array.getElem?_eq_some_iff.1 hn).1, fun _ => ⟨g, 0, rfl, Nat.le_refl _, Nat.lt_succ_self _, fun i hi => ⟨by rw [Nat.zero_add, ← newRow_at ga gb ca cb i hi]; simp [World.cell?, hn], four_frozen hn _⟩⟩⟩
theorem np_new {lo b : Nat} {Z : World} {g ga gb gw : Nat} {t1 t2 t3 : TypeId} (hn : Z.heap[g]? = some (.cells (newRow ga gb 3 3) t1)) (ha : Z.heap[ga]? = some (.cells (madeCells #[.string ByteArray.empty] 3) t2)) (hb : Z.heap[gb]? = some (.cells (madeCells #[.string ByteArray.empty] 3) t3)) (hw : OwnBools gw (gw + 1) Z (some ⟨gw, 0, none⟩) 2 [true, true])
    (hd : lo ≤ b ∧ b < g ∧ b < ga ∧ b < gb ∧ b < gw ∧ ga ≠ gb ∧ ga ≠ g ∧ gb ≠ g ∧ gw ≠ g ∧ gw ≠ ga ∧ gw ≠ gb) (v0 v1 v2 v3 v4 v5 : Value) :
    NpAt lo ((((((Z.setCell ⟨b, 0, none⟩ v0).setCell ⟨b, 1, none⟩ v1).setCell ⟨b, 2, none⟩ v2).setCell ⟨b, 3, none⟩ v3).setCell ⟨b, 4, none⟩ v4).setCell ⟨b, 5, none⟩ v5).heap.size ((((((Z.setCell ⟨b, 0, none⟩ v0).setCell ⟨b, 1, none⟩ v1).setCell ⟨b, 2, none⟩ v2).setCell ⟨b, 3, none⟩ v3).setCell ⟨b, 4, none⟩ v4).setCell ⟨b, 5, none⟩ v5) g (two ga gb) (two 3 3) gw := by
  have hA := pr_aside (W := Z) (b := b) v0 v1 v2 v3 v4 v5
  obtain ⟨l0, l1, l2, l3, l4, d1, d2, d3, d4, d5, d6⟩ := hd
  exact np_of ((row_own hn).aside hA (.inr (by omega))) ((texts_empty (made3s ▸ ha)).aside hA (.inr (by omega))) ((texts_empty (made3s ▸ hb)).aside hA (.inr (by omega))) ⟨hw.1, hw.2.aside hA (.inr (by omega))⟩ (by omega) (by omega) (by omega) (by omega) d1 d2 d3 d4 d5 d6
set_option maxHeartbeats 3200000 in
theorem specNewPair_any (w : World) : Calls Try.prog 11 #[] w fun e w' => ∃ v, e = .returned v ∧ PairAns w.heap.size w' v ∧ Below w.heap.size w w' := by
  obtain ⟨wA, hwA⟩ : ∃ wA, wA = w.alloc (.cells #[.slice none 0 0, .int .i64 0, .int .i64 0, .slice none 0 0, .slice none 0 0, .slice none 0 0] 37) := ⟨_, rfl⟩
  have HBA : Hid (Below w.heap.size w wA) := by rw [hwA]; exact (Below.refl _ _).alloc (Nat.le_refl _) _
  have H0 : Hid (wA.heap[w.heap.size]? = some (.cells #[.slice none 0 0, .int .i64 0, .int .i64 0, .slice none 0 0, .slice none 0 0, .slice none 0 0] 37)) := by rw [hwA]; exact heap_new _ _
  have HZA : Hid (wA.heap.size = w.heap.size + 1) := by show _ = _; rw [hwA]; simp
  have HX : Hid (SixAt wA w.heap.size) := ⟨_, _, _, _, _, _, H0.out⟩
  go_enter Try.func11, Try.ntmps11
  go_upto_region 1 with fail
  rw [← hwA]
  clear hwA
  have hmkS : ∀ W : World, (Instr.makeSlice 49 (.int .i64 3) (.int .i64 3)).run Try.prog W = .ok (.slice (some ⟨W.heap.size, 0, none⟩) 3 3) (W.alloc (.cells (madeCells #[.string ByteArray.empty] 3) 9)) := fun W => run_make_row' (P := Try.prog) 49 9 (.string ByteArray.empty) 16 Try.underlying49 Try.infoStr3 rfl .i64 .i64 3 (by omega) (by omega) W
  go_region_held3 (fun W => W.cell? ⟨w.heap.size, 0, none⟩ = some (cv w.heap.size 0 W) ∧ W.cell? ⟨w.heap.size, 1, none⟩ = some (cv w.heap.size 1 W) ∧ W.cell? ⟨w.heap.size, 2, none⟩ = some (cv w.heap.size 2 W) ∧ W.cell? ⟨w.heap.size, 3, none⟩ = some (cv w.heap.size 3 W) ∧ W.cell? ⟨w.heap.size, 4, none⟩ = some (cv w.heap.size 4 W) ∧ W.cell? ⟨w.heap.size, 5, none⟩ = some (cv w.heap.size 5 W) ∧ W.frozen? ⟨w.heap.size, 0, none⟩ = false ∧ W.frozen? ⟨w.heap.size, 1, none⟩ = false ∧ W.frozen? ⟨w.heap.size, 2, none⟩ = false ∧ W.frozen? ⟨w.heap.size, 3, none⟩ = false ∧ W.frozen? ⟨w.heap.size, 4, none⟩ = false ∧ W.frozen? ⟨w.heap.size, 5, none⟩ = false)
    (with_reducible refine six_has ?_; repeat (first | with_reducible exact HX.out | with_reducible exact HK1.out | with_reducible refine SixAt.alloc ?_ _ | with_reducible refine SixAt.drew ?_ | with_reducible refine SixAt.set ?_ _ (by decide) _))
    (first | (go_at_call 39; refine (specNewWitness_any _).mono ?_; rintro e w1 ⟨v, rfl, ⟨gw, cw, rfl, ho⟩, hb⟩; have HK1 : Hid (SixAt w1 w.heap.size) := SixAt.below (by repeat (first | with_reducible exact HX.out | with_reducible refine SixAt.alloc ?_ _ | with_reducible refine SixAt.drew ?_)) hb) | fail)
  all_goals
    have hfl := flags_own ho
    have hfl1 : OwnBools gw (gw + 1) w1 (some ⟨gw, 0, none⟩) 2 [true, true] := hfl.1
    have hzb := hb.size
    have hq := hfl.2
    simp at hzb hq
    have hzA := HZA.out
    go_wp2_with fail
    refine bodyPost_ret (results_cell rfl rfl (run_loadVar_row _ _ _ _ _ _ _ (six_set ?_ _ _ _ _ _ _) Try.underlying37 rfl (by kernel_rfl))) rfl ⟨_, rfl, ⟨_, _, two ?_ ?_, two 3 3, _, _, rfl, np_new (b := w.heap.size) (t1 := 53) (t2 := 9) (t3 := 9) ?_ ?_ ?_ ?_ ?_ _ _ _ _ _ _⟩, ?_⟩
    · repeat (first | with_reducible exact HK1.out | with_reducible refine SixAt.alloc ?_ _ | with_reducible refine SixAt.drew ?_)
    rotate_left 2
    · repeat (first | (refine heap_at ?_; (simp; done)) | with_reducible refine block_on ?_ hb | with_reducible refine heap_old ?_ | with_reducible refine drew_on ?_)
    · repeat (first | (refine heap_at ?_; (simp; done)) | with_reducible refine block_on ?_ hb | with_reducible refine heap_old ?_ | with_reducible refine drew_on ?_)
    · repeat (first | (refine heap_at ?_; (simp; done)) | with_reducible refine block_on ?_ hb | with_reducible refine heap_old ?_ | with_reducible refine drew_on ?_)
    · repeat (first | with_reducible exact hfl1 | with_reducible refine flags_alloc ?_ _)
    · obtain ⟨hq1, hq2⟩ := hq
      refine ⟨?_, ?_, ?_, ?_, ?_, ?_, ?_, ?_, ?_, ?_, ?_⟩ <;> omega
    · refine pr_below ?_ (Nat.le_refl _) _ _ _ _ _ _
      repeat (first | with_reducible exact HBA.out | with_reducible refine below_here ?_ hb | with_reducible refine Below.drew ?_ | (with_reducible refine Below.alloc ?_ ?_ _; rotate_left; (first | omega | (simp; omega))))
end Go.Proofs.Ytdaemaefkikheaa
