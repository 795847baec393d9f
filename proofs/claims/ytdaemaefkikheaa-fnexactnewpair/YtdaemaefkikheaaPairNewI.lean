/- The program's NewPair. -/
import Derived.Test.YtdaemaefkikheaaPairNew
import Derived.Test.YtdaemaefkikheaaNodeOwn
import Derived.Deep.RegionLaw
namespace Go.Proofs.Ytdaemaefkikheaa
open Go.RowKit
set_option linter.unusedVariables false
set_option linter.unusedSimpArgs false
set_option maxRecDepth 20000

def npVal (gs : Nat → Nat) (i : Nat) : Nd × Value := (nd0, .slice (some ⟨gs i, 0, none⟩) 3 3)
def npRow (gs : Nat → Nat) (k : Nat) : List (Nd × Value) := (List.range k).map (npVal gs)
theorem npRow_length (gs : Nat → Nat) (k : Nat) : (npRow gs k).length = k := by simp [npRow]
theorem npRow_next (gs : Nat → Nat) (k L : Nat) : npRow gs k ++ [(nd0, .slice (some ⟨L, 0, none⟩) 3 3)] = npRow (fun i => if i = k then L else gs i) (k + 1) := by
  unfold npRow
  rw [List.range_succ, List.map_append]
  congr 1
  · apply List.map_congr_left
    intro i hi
    have : i < k := List.mem_range.1 hi
    simp [npVal, show i ≠ k by omega]
  · simp [npVal]
theorem np_form {B k L : Nat} {w : World} {v : Value} {gs : Nat → Nat} (h : NdOwn B w v (npRow gs k ++ [(nd0, .slice (some ⟨L, 0, none⟩) 3 3)])) : ∃ a c, v = .slice a (k + 1) c := by
  obtain ⟨a, c, e, _⟩ := nd_form h
  rw [List.length_append, npRow_length] at e
  exact ⟨a, c, e⟩
theorem nd_drew {B : Nat} {w : World} {v : Value} {xs : List (Nd × Value)} (h : NdOwn B w v xs) : NdOwn B w.drew v xs := h
/-- The program's NewPair on its way: k Nodes are there. -/
structure NpLoop (B b0 P gw cw k : Nat) (wr : World) (gs : Nat → Nat) (v : Value) : Prop where
  z : wr.heap[b0]? = some (.cells #[.slice none 0 0, .int .i64 0, .int .i64 0, .slice none 0 0, .slice none 0 0, .slice none 0 0] 37)
  p : wr.heap[P]? = some (.cells #[v, .int .i64 0, .int .i64 (-1), .slice (some ⟨gw, 0, none⟩) 2 cw, .slice none 0 0, .slice none 0 0] 37)
  own : NdOwn B wr v (npRow gs k)
  txt : ∀ i, i < k → wr.heap[gs i]? = some (.cells (madeCells #[.string ByteArray.empty] 3) 9)
  lo : ∀ i, i < k → B ≤ gs i
  ne : ∀ i j, i < k → j < k → i ≠ j → gs i ≠ gs j
  flags : OwnBools gw (gw + 1) wr (some ⟨gw, 0, none⟩) 2 [true, true]
  le : B ≤ wr.heap.size
  lt_b : b0 < B
  lt_p : P < B
  lt_w : gw < B
  ne_p : b0 ≠ P
  ne_w : gw ≠ P
theorem NpLoop.own_lt {B b0 P gw cw k : Nat} {wr : World} {gs : Nat → Nat} {v : Value} (h : NpLoop B b0 P gw cw k wr gs v) {q : Nat} (hq : v.ownBlock = some q) : B ≤ q ∧ q < wr.heap.size ∧ ∃ cur, wr.heap[q]? = some (.cells cur 53 (0, 0)) := by
  rcases h.own.2 with ⟨e, _⟩ | ⟨g, cap, cur, e, hb, hgg, _⟩
  · rw [e] at hq; cases hq
  · rw [e] at hq
    have e' : some g = some q := hq
    simp only [Option.some.injEq] at e'
    subst e'
    exact ⟨hb, (Array.getElem?_eq_some_iff.1 hgg).1, cur, hgg⟩
theorem np_keep {B b0 P gw cw k : Nat} {wr w5 : World} {gs : Nat → Nat} {v : Value} {o1 o2 : Obj} (h : NpLoop B b0 P gw cw k wr gs v)
    (hgr : (((wr.alloc o1).alloc o2).drew).grownBy w5 v.ownBlock) : w5.heap[P]? = some (.cells #[v, .int .i64 0, .int .i64 (-1), .slice (some ⟨gw, 0, none⟩) 2 cw, .slice none 0 0, .slice none 0 0] 37) :=
  (hgr.block P (by have := h.lt_p; have := h.le; simp; omega) (fun e => by have := (h.own_lt e.symm).1; have := h.lt_p; omega)).trans (drew_on (heap_old (heap_old h.p)))
theorem NpLoop.step {B b0 P gw cw k : Nat} {wr w5 : World} {gs : Nat → Nat} {v v' : Value} (h : NpLoop B b0 P gw cw k wr gs v)
    (hown : NdOwn B w5 v' (npRow gs k ++ [(nd0, .slice (some ⟨wr.heap.size, 0, none⟩) 3 3)])) {o2 : Obj}
    (hgr : (((wr.alloc (.cells (madeCells #[.string ByteArray.empty] 3) 9)).alloc o2).drew).grownBy w5 v.ownBlock) (hblk : v'.ownBlock = v.ownBlock ∨ v'.ownBlock = some ((wr.alloc (.cells (madeCells #[.string ByteArray.empty] 3) 9)).alloc o2).drew.heap.size) :
    NpLoop B b0 P gw cw (k + 1) (w5.setCell ⟨P, 0, none⟩ v') (fun i => if i = k then wr.heap.size else gs i) v' := by
  have hz : (((wr.alloc (.cells (madeCells #[.string ByteArray.empty] 3) 9)).alloc o2).drew).heap.size = wr.heap.size + 2 := by simp
  have h5 := hgr.size
  have hle := h.le
  have hA : Aside P (P + 1) w5 (w5.setCell ⟨P, 0, none⟩ v') := (Aside.refl _ _ _).setCell (p := ⟨P, 0, none⟩) (Nat.le_refl _) (Nat.lt_succ_self _) v'
  have old : ∀ {b : Nat} {o : Obj}, wr.heap[b]? = some o → v.ownBlock ≠ some b → b ≠ P → (w5.setCell ⟨P, 0, none⟩ v').heap[b]? = some o := fun {b o} hb hne hbp => by
    have hlt := (Array.getElem?_eq_some_iff.1 hb).1
    exact (hA.block b (by omega) (by omega)).trans ((hgr.block b (by omega) (fun e => hne e.symm)).trans (drew_on (heap_old (heap_old hb))))
  have hnode : ∀ {b : Nat} {cs : Array Value} {t : TypeId} {fr : Nat × Nat}, wr.heap[b]? = some (.cells cs t fr) → t ≠ 53 → v.ownBlock ≠ some b := fun {b cs t fr} hb ht e => by
    obtain ⟨_, _, cur, hc⟩ := h.own_lt e
    rw [hb] at hc
    simp only [Option.some.injEq, Obj.cells.injEq] at hc
    exact ht hc.2.1
  have htxt : ∀ i, i < k → gs i ≠ P := fun i hi => by have := h.lo i hi; have := h.lt_p; omega
  refine ⟨old h.z (hnode h.z (by decide)) h.ne_p, ?_, ?_, fun i hi => ?_, fun i hi => ?_, fun i j hi hj hij => ?_, ?_, by rw [Go.Deep.nblk_setCell]; omega, h.lt_b, h.lt_p, h.lt_w, h.ne_p, h.ne_w⟩
  · have := set_block (np_keep h hgr) 0 v' (by simp)
    simpa using this
  · rw [npRow_next] at hown
    have hne : ∀ q, v'.ownBlock = some q → q ≠ P := fun q hq => by
      have := h.lt_p
      rcases hblk with e | e
      · have := (h.own_lt (e.symm.trans hq)).1; omega
      · rw [e] at hq; simp only [Option.some.injEq] at hq; omega
    refine ⟨hown.1, ?_⟩
    rcases hown.2 with h1 | ⟨g, cap, cur, e, h2, hg, h3⟩
    · exact .inl h1
    · have hgp : g ≠ P := hne g (by rw [e]; rfl)
      exact .inr ⟨g, cap, cur, e, h2, (hA.block g (Array.getElem?_eq_some_iff.1 hg).1 (by omega)).trans hg, h3⟩
  · by_cases hik : i = k
    · subst hik
      simp only [if_true]
      exact (hA.block _ (by omega) (by have := h.lt_p; omega)).trans ((hgr.block _ (by omega) (fun e => by have := (h.own_lt e.symm).2.1; omega)).trans (drew_on (heap_old (heap_new _ _))))
    · simp only [if_neg hik]
      have hi' : i < k := by omega
      exact old (h.txt i hi') (hnode (h.txt i hi') (by decide)) (htxt i hi')
  · by_cases hik : i = k
    · simp only [if_pos hik]; exact hle
    · simp only [if_neg hik]; exact h.lo i (by omega)
  · have hlt : ∀ i, i < k → gs i < wr.heap.size := fun i hi => (Array.getElem?_eq_some_iff.1 (h.txt i hi)).1
    by_cases hik : i = k
    · have hjk : j ≠ k := by omega
      simp only [if_pos hik, if_neg hjk]
      have := hlt j (by omega)
      omega
    · by_cases hjk : j = k
      · simp only [if_neg hik, if_pos hjk]
        have := hlt i (by omega)
        omega
      · simp only [if_neg hik, if_neg hjk]
        exact h.ne i j (by omega) (by omega) hij
  · have hf := h.flags
    have hw := h.lt_w
    obtain ⟨b, off, e, h1, h2, h3⟩ := hf.2.2 (by omega)
    refine ⟨hf.1, hf.2.of (by rw [Go.Deep.nblk_setCell]; omega) (fun q hq1 hq2 => ?_)⟩
    obtain rfl : q = gw := by omega
    have hq : q < wr.heap.size := by omega
    refine (hA.block q (by omega) (by have := h.ne_w; omega)).trans ((hgr.block q (by omega) (fun e => by have := (h.own_lt e.symm).1; omega)).trans ?_)
    exact (((Below.refl wr.heap.size wr).alloc (Nat.le_refl _) _).alloc (by simp) o2).drew.block q hq
theorem np_below {B b0 P gw cw k : Nat} {w wr w5 : World} {gs : Nat → Nat} {v : Value} {o1 o2 : Obj} (hb : Below w.heap.size w wr) (h : NpLoop B b0 P gw cw k wr gs v)
    (hgr : (((wr.alloc o1).alloc o2).drew).grownBy w5 v.ownBlock) (hP : w.heap.size ≤ P) (v' : Value) : Below w.heap.size w (w5.setCell ⟨P, 0, none⟩ v') := by
  have h1 : Below w.heap.size w (((wr.alloc o1).alloc o2).drew) := ((hb.alloc hb.size _).alloc (by have := hb.size; simp; omega) _).drew
  have hB : w.heap.size ≤ B := by have := h.lt_p; omega
  exact (h1.grown hgr h1.size (fun q e => by have := (h.own_lt e).1; omega)).setCell (p := ⟨P, 0, none⟩) hP v'
theorem np_two {gs : Nat → Nat} : ∀ j, j < 22 → ndC (fun k => (ndF (npRow gs 2) (npVal gs 0) k).1) (fun k => (ndF (npRow gs 2) (npVal gs 0) k).2) j = ndC (fun _ => nd0) (fun k => .slice (some ⟨two (gs 0) (gs 1) k, 0, none⟩) 3 (two 3 3 k)) j := by
  intro j hj
  unfold ndC
  have e : npRow gs 2 = [npVal gs 0, npVal gs 1] := rfl
  rw [e]
  rcases (by omega : j / 11 = 0 ∨ j / 11 = 1) with h | h
  · rw [h]; rfl
  · rw [h]; rfl
theorem np_end {lo B b0 P gw cw : Nat} {wr : World} {gs : Nat → Nat} {a5 : Option Addr} {c5 : Nat} (h : NpLoop B b0 P gw cw 2 wr gs (.slice a5 2 c5)) (hb : lo ≤ b0) (hB : b0 < B) (hw : b0 < gw) (v0 v1 v2 v3 v4 v5 : Value) :
    ∃ g gs' cs', a5 = some ⟨g, 0, none⟩ ∧ NpAt lo ((((((wr.setCell ⟨b0, 0, none⟩ v0).setCell ⟨b0, 1, none⟩ v1).setCell ⟨b0, 2, none⟩ v2).setCell ⟨b0, 3, none⟩ v3).setCell ⟨b0, 4, none⟩ v4).setCell ⟨b0, 5, none⟩ v5).heap.size ((((((wr.setCell ⟨b0, 0, none⟩ v0).setCell ⟨b0, 1, none⟩ v1).setCell ⟨b0, 2, none⟩ v2).setCell ⟨b0, 3, none⟩ v3).setCell ⟨b0, 4, none⟩ v4).setCell ⟨b0, 5, none⟩ v5) g gs' cs' gw := by
  have hA := pr_aside (W := wr) (b := b0) v0 v1 v2 v3 v4 v5
  obtain ⟨g, c, e, hc, hg1, hg2, cur, hcur⟩ := nd_some h.own (by rw [npRow_length]; omega)
  simp only [Value.slice.injEq] at e
  obtain ⟨rfl, _, rfl⟩ := e
  have hrow := nd_owned (npVal gs 0) h.own
  rw [npRow_length] at hrow
  have hrow2 := hrow.congr (g := ndC (fun _ => nd0) (fun k => .slice (some ⟨two (gs 0) (gs 1) k, 0, none⟩) 3 (two 3 3 k))) np_two
  have t0 := h.txt 0 (by omega)
  have t1 := h.txt 1 (by omega)
  have l0 := h.lo 0 (by omega)
  have l1 := h.lo 1 (by omega)
  have hn := h.ne 0 1 (by omega) (by omega) (by omega)
  have hw2 := h.lt_w
  have tn : ∀ {q : Nat}, wr.heap[q]? = some (.cells (madeCells #[.string ByteArray.empty] 3) 9) → q ≠ g := fun hq e => by
    subst e
    rw [hcur] at hq
    simp only [Option.some.injEq, Obj.cells.injEq] at hq
    exact absurd hq.2.1 (by decide)
  have hgg : b0 < g := by omega
  exact ⟨g, two (gs 0) (gs 1), two 3 3, rfl, np_of (hrow2.aside hA (.inr (by omega))) ((texts_empty (made3s ▸ t0)).aside hA (.inr (by omega))) ((texts_empty (made3s ▸ t1)).aside hA (.inr (by omega))) ⟨h.flags.1, h.flags.2.aside hA (.inr (by omega))⟩ (by omega) (by omega) (by omega) (by omega) hn (tn t0) (tn t1) (by omega) (by omega) (by omega)⟩
set_option maxHeartbeats 3200000 in
theorem implNewPair_any (w : World) : Calls Try.prog 12 #[] w fun e w' => ∃ v, e = .returned v ∧ PairAns w.heap.size w' v ∧ Below w.heap.size w w' := by
  obtain ⟨wA, hwA⟩ : ∃ wA, wA = w.alloc (.cells #[.slice none 0 0, .int .i64 0, .int .i64 0, .slice none 0 0, .slice none 0 0, .slice none 0 0] 37) := ⟨_, rfl⟩
  have HBA : Hid (Below w.heap.size w wA) := by rw [hwA]; exact (Below.refl _ _).alloc (Nat.le_refl _) _
  have H0 : Hid (wA.heap[w.heap.size]? = some (.cells #[.slice none 0 0, .int .i64 0, .int .i64 0, .slice none 0 0, .slice none 0 0, .slice none 0 0] 37)) := by rw [hwA]; exact heap_new _ _
  have HZA : Hid (wA.heap.size = w.heap.size + 1) := by show _ = _; rw [hwA]; simp
  go_enter Try.func12, Try.ntmps12
  go_upto_region 1 with fail
  rw [← hwA]
  clear hwA
  go_wp2_with fail
  refine (implNewWitness_any wA).mono ?_
  rintro e w1 ⟨v, rfl, ⟨gw, cw, rfl, ho⟩, hb⟩
  obtain ⟨wP, hwP⟩ : ∃ wP, wP = w1.alloc (.cells #[.slice none 0 0, .int .i64 0, .int .i64 (-1), .slice (some ⟨gw, 0, none⟩) 2 cw, .slice none 0 0, .slice none 0 0] 37) := ⟨_, rfl⟩
  have hfl := flags_own ho
  have hzb := hb.size
  have hzP : wP.heap.size = w1.heap.size + 1 := by rw [hwP]; simp
  have hbP : Below w1.heap.size w1 wP := by rw [hwP]; exact (Below.refl _ _).alloc (Nat.le_refl _) _
  have hza := HZA.out
  have HL : Hid (NpLoop (w1.heap.size + 1) w.heap.size w1.heap.size gw cw 0 wP (fun _ => 0) (.slice none 0 0)) :=
    ⟨block_on (block_on H0.out hb) hbP, by rw [hwP]; exact heap_new _ _, nd_nil _ _, fun i hi => absurd hi (by omega), fun i hi => absurd hi (by omega), fun i j hi => absurd hi (by omega), ⟨hfl.1.1, hfl.1.2.later hbP (by have := hfl.2.2; omega)⟩, by omega, by omega, by omega, by have := hfl.2.2; omega, by omega, by have := hfl.2.2; omega⟩
  have HBP := hide (below_here (below_here HBA.out hb) hbP)
  have HZZ : Hid (w.heap.size < w1.heap.size) := by show _ < _; omega
  have hlw : Hid (w.heap.size < gw) := by have := hfl.2.1; show _ < _; omega
  clear ho hfl hzb hb hbP hza
  go_upto_region 2 with fail
  unfold wnV newW
  dsimp only
  rw [← hwP]
  clear hwP hzP
  go_wp2_with fail
  obtain ⟨B, hBB⟩ : ∃ B, B = w1.heap.size + 1 := ⟨_, rfl⟩
  obtain ⟨P, hPP⟩ : ∃ P, P = w1.heap.size := ⟨_, rfl⟩
  have HBQ := hide hBB
  have HPQ := hide hPP
  rw [← hBB, ← hPP] at HL
  rw [← hPP]
  clear hBB hPP
  have hmkS : ∀ W : World, (Instr.makeSlice 49 (.int .i64 3) (.int .i64 3)).run Try.prog W = .ok (.slice (some ⟨W.heap.size, 0, none⟩) 3 3) (W.alloc (.cells (madeCells #[.string ByteArray.empty] 3) 9)) := fun W => run_make_row' (P := Try.prog) 49 9 (.string ByteArray.empty) 16 Try.underlying49 Try.infoStr3 rfl .i64 .i64 3 (by omega) (by omega) W
  go_loopw [4] (fun i wr => ∃ (k : Nat) (gs : Nat → Nat) (v : Value), k ≤ 2 ∧ i = .int .i64 (k : Int) ∧ NpLoop B w.heap.size P gw cw k wr gs v ∧ Below w.heap.size w wr) (fun i _ => 2 - (intOf i).toNat)
  case atStart => exact ⟨0, _, _, Nat.zero_le _, rfl, HL.out, HBP.out⟩
  case round =>
    obtain ⟨k, gs, v, hk, rfl, hS, hbel⟩ := hrel
    clear HL HBP
    have HS := hide hS
    have HBL := hide hbel
    obtain ⟨a5, c5, rfl, hc5⟩ := nd_form hS.own
    rw [npRow_length] at *
    obtain ⟨q0, q1, q2, q3, q4, q5⟩ := pr_cells hS.p
    have g0 := four_frozen hS.p 0
    by_cases hlt : k < 2
    · have hk2 : (k : Int) < 2 := by omega
      have q0a : ∀ o, (wr.alloc o).cell? ⟨P, 0, none⟩ = some (.slice a5 k c5) := fun o => by
        have := pr_cells (heap_old (o := o) hS.p)
        exact this.1
      have q0b : ∀ o o', ((wr.alloc o).alloc o').cell? ⟨P, 0, none⟩ = some (.slice a5 k c5) := fun o o' => by
        have := pr_cells (heap_old (o := o') (heap_old (o := o) hS.p))
        exact this.1
      have q0c : wr.drew.cell? ⟨P, 0, none⟩ = some (.slice a5 k c5) := q0
      have q0d : ∀ o, (wr.alloc o).drew.cell? ⟨P, 0, none⟩ = some (.slice a5 k c5) := q0a
      have q0e : ∀ o o', ((wr.alloc o).alloc o').drew.cell? ⟨P, 0, none⟩ = some (.slice a5 k c5) := q0b
      clear hS hbel
      go_wp2_with fail
      go_region_law (refine step_app2 (by rfl) _ _ _ (by rfl) _ _ (by rfl) (by rfl) (append_node (x := (nd0, .slice (some ⟨wr.heap.size, 0, none⟩) 3 3)) (xs := npRow gs k) (B := B) (B9 := 80) (by omega) Try.infoNd Try.underlying32 (nd_drew (nd_later (nd_later HS.out.own ((Below.refl _ _).alloc (Nat.le_refl _) _)) ((Below.refl _ _).alloc (Nat.le_refl _) _))) (by have := HS.out.le; simp; omega) (by rw [npRow_length]; omega) rfl (drew_on (heap_at (by simp)))) ?_; rintro v5 w5 ⟨hown, hgr, hblk⟩; obtain ⟨a6, c6, rfl⟩ := np_form hown; have hpp := np_keep HS.out hgr; obtain ⟨r0, -, -, -, -, -⟩ := pr_cells hpp; have r1 := four_frozen hpp 0)
      all_goals
        have HSN := hide (HS.out.step hown hgr hblk)
        have HBN := hide (np_below HBL.out HS.out hgr (by have := HPQ.out; have := HZZ.out; omega) (.slice a6 (k + 1) c6))
        clear hown hgr hblk hpp
        go_wp2_with fail
        exact ⟨⟨k + 1, _, _, by omega, by go_num, HSN.out, HBN.out⟩, by simp [intOf]; omega⟩
    · obtain rfl : k = 2 := by omega
      obtain ⟨x0, x1, x2, x3, x4, x5⟩ := pr_cells hS.z
      have y0 := four_frozen hS.z 0
      have y1 := four_frozen hS.z 1
      have y2 := four_frozen hS.z 2
      have y3 := four_frozen hS.z 3
      have y4 := four_frozen hS.z 4
      have y5 := four_frozen hS.z 5
      have hend := np_end (lo := w.heap.size) hS (Nat.le_refl _) (by have := HZZ.out; have := HBQ.out; omega) hlw.out (.slice a5 2 c5) (.int .i64 0) (.int .i64 (-1)) (.slice (some ⟨gw, 0, none⟩) 2 cw) (.slice none 0 0) (.slice none 0 0)
      have HBW := hide (pr_below hbel (Nat.le_refl w.heap.size) (.slice a5 2 c5) (.int .i64 0) (.int .i64 (-1)) (.slice (some ⟨gw, 0, none⟩) 2 cw) (.slice none 0 0) (.slice none 0 0))
      have HPS := hide (pr_set hS.z (.slice a5 2 c5) (.int .i64 0) (.int .i64 (-1)) (.slice (some ⟨gw, 0, none⟩) 2 cw) (.slice none 0 0) (.slice none 0 0))
      have HEN := hide hend
      clear hS hbel hend
      go_wp2_with fail
      obtain ⟨g, gs', cs', ea, hnp⟩ := HEN.out
      subst ea
      exact bodyPost_ret (results_cell rfl rfl (run_loadVar_row _ _ _ _ _ _ _ HPS.out Try.underlying37 rfl (by kernel_rfl))) rfl ⟨_, rfl, ⟨_, _, _, _, _, _, rfl, hnp⟩, HBW.out⟩
end Go.Proofs.Ytdaemaefkikheaa
