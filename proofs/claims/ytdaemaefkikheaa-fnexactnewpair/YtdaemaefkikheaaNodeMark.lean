/- Two Nodes, as the laws walk over them: alike, marked, held. -/
import Derived.Test.YtdaemaefkikheaaNodeBase
namespace Go.Proofs.Ytdaemaefkikheaa
open Go.RowKit
set_option linter.unusedVariables false
set_option linter.unusedSimpArgs false
set_option maxRecDepth 20000

/-- Nodes, and each one's three Values. -/
structure Nodes (lo hi : Nat) (w : World) (a : Option Addr) (n : Nat) (xs : Nat → Nd) (gs cs : Nat → Nat) : Prop where
  row : Reads lo hi w a (n * 11) (ndC xs fun k => .slice (some ⟨gs k, 0, none⟩) 3 (cs k))
  val : ∀ k, k < n → Texts lo hi w (some ⟨gs k, 0, none⟩) 3 (xs k).vs
theorem Nodes.later {lo hi B n : Nat} {w w' : World} {a : Option Addr} {xs : Nat → Nd} {gs cs : Nat → Nat} (h : Nodes lo hi w a n xs gs cs) (hb : Below B w w') (hB : hi ≤ B) : Nodes lo hi w' a n xs gs cs :=
  ⟨h.row.later hb hB, fun k hk => (h.val k hk).later hb hB⟩
/-- .. of one's own, each in a block by itself. -/
structure OwnNodes (lo hi : Nat) (w : World) (g off n : Nat) (xs : Nat → Nd) (gs cs : Nat → Nat) : Prop where
  hi_le : hi ≤ w.heap.size
  at_g : lo ≤ g ∧ g < hi
  at_v : ∀ k, k < n → lo ≤ gs k ∧ gs k < hi
  row : Owned g (g + 1) w (some ⟨g, off, none⟩) (n * 11) (ndC xs fun k => .slice (some ⟨gs k, 0, none⟩) 3 (cs k))
  val : ∀ k, k < n → OwnTexts (gs k) (gs k + 1) w (some ⟨gs k, 0, none⟩) 3 (xs k).vs
  ne_g : ∀ k, k < n → gs k ≠ g
  ne_v : ∀ i j, i < n → j < n → i ≠ j → gs i ≠ gs j
theorem OwnNodes.later {lo hi B n off : Nat} {w w' : World} {g : Nat} {xs : Nat → Nd} {gs cs : Nat → Nat} (h : OwnNodes lo hi w g off n xs gs cs) (hb : Below B w w') (hB : hi ≤ B) : OwnNodes lo hi w' g off n xs gs cs :=
  ⟨Nat.le_trans h.hi_le hb.size, h.at_g, h.at_v, h.row.later hb (by have := h.at_g; omega), fun k hk => (h.val k hk).later hb (by have := h.at_v k hk; omega), h.ne_g, h.ne_v⟩
theorem OwnNodes.aside {lo hi l r n off : Nat} {w w' : World} {g : Nat} {xs : Nat → Nd} {gs cs : Nat → Nat} (h : OwnNodes lo hi w g off n xs gs cs) (hb : Aside l r w w') (hB : hi ≤ l ∨ r ≤ lo) : OwnNodes lo hi w' g off n xs gs cs :=
  ⟨Nat.le_trans h.hi_le hb.size, h.at_g, h.at_v, h.row.aside hb (by have := h.at_g; omega), fun k hk => (h.val k hk).aside hb (by have := h.at_v k hk; omega), h.ne_g, h.ne_v⟩
theorem OwnNodes.nodes {lo hi n off : Nat} {w : World} {g : Nat} {xs : Nat → Nd} {gs cs : Nat → Nat} (h : OwnNodes lo hi w g off n xs gs cs) : Nodes lo hi w (some ⟨g, off, none⟩) n xs gs cs :=
  ⟨⟨h.hi_le, fun hn => by
      obtain ⟨b, off, e, h1, h2, h3⟩ := h.row.reads.2 hn
      have := h.at_g
      exact ⟨b, off, e, by omega, by omega, h3⟩⟩,
   fun k hk => ⟨(h.val k hk).1, h.hi_le, fun _ => by
      obtain ⟨b, off, e, h1, h2, h3⟩ := (h.val k hk).2.reads.2 (by omega)
      have := h.at_v k hk
      exact ⟨b, off, e, by omega, by omega, h3⟩⟩⟩

set_option maxHeartbeats 1600000 in
theorem eqNodeS_same (a a' : Option Addr) (n c c' : Nat) (xs : Nat → Nd) (gs cs gs' cs' : Nat → Nat) (w : World) {lo hi lo' hi' : Nat} (h : Nodes lo hi w a n xs gs cs) (h' : Nodes lo' hi' w a' n xs gs' cs') (hn : n ≤ 1048576) :
    Calls Try.prog 35 #[.slice a n c, .slice a' n c'] w fun o w' => o = .returned (.bool true) ∧ Below w.heap.size w w' := by
  have HX := hide h
  have HX' := hide h'
  have hsz := h.row.1
  have hsz' := h'.row.1
  clear h h'
  go_enter Try.func35, Try.ntmps35
  go_wp2_with fail
  go_loopw [5] (fun i wr => ∃ k : Nat, k ≤ n ∧ i = .int .i64 k ∧ Below w.heap.size w wr) (fun i _ => n - (intOf i).toNat)
  case atStart => exact ⟨0, Nat.zero_le _, rfl, Below.refl _ _⟩
  case round =>
    obtain ⟨k, hk, rfl, hbel⟩ := hrel
    by_cases hlt : k < n
    · have hX := HX.out.later hbel hsz
      have hX' := HX'.out.later hbel hsz'
      obtain ⟨b, off, rfl, _, hb, hc⟩ := hX.row.2 (by omega)
      obtain ⟨b', off', rfl, _, hb', hc'⟩ := hX'.row.2 (by omega)
      have HT := hide (hX.val k hlt)
      have HT' := hide (hX'.val k hlt)
      obtain ⟨c0, c1, c2, c3, c4, c5, c6, c7, c8, c9, c10⟩ := nd_row hc hlt
      obtain ⟨d0, d1, d2, d3, d4, d5, d6, d7, d8, d9, d10⟩ := nd_row hc' hlt
      have HBB := hide hbel
      clear hc hc' hbel hX hX'
      generalize xs k = y at *
      obtain ⟨e, l, r, bb, f, wt, s, ts, p1, p2, p3⟩ := y
      dsimp only at *
      have HCC : ∀ w2, Hid (Below wr.heap.size wr w2 → Calls Try.prog 71 #[.agg #[.int .i64 e, .bool l, .bool r, .bool bb, .bool f, .bool wt, .int .i64 s, .slice (some ⟨gs k, 0, none⟩) 3 (cs k), .int .i64 p1, .int .i64 p2, .string p3], .agg #[.int .i64 e, .bool l, .bool r, .bool bb, .bool f, .bool wt, .int .i64 s, .slice (some ⟨gs' k, 0, none⟩) 3 (cs' k), .int .i64 p1, .int .i64 p2, .string p3]] w2 fun o w' => o = .returned (.bool true) ∧ Below w2.heap.size w2 w') := fun w2 hb2 =>
        eqNode_same e l r bb f wt s ts p1 p2 p3 _ _ _ _ _ _ w2 (HT.out.later hb2 HT.out.2.1) (HT'.out.later hb2 HT'.out.2.1) (by omega) (by omega)
      generalize gs k = u at c7 HCC
      generalize gs' k = u' at d7 HCC
      generalize cs k = cp at c7 HCC
      generalize cs' k = cp' at d7 HCC
      clear HT HT'
      go_wp2_with fail
      go_region_with (go_at_call 71; refine ((HCC _).out (Below.refl _ wr).drew).mono ?_; rintro o w1 ⟨rfl, b1⟩; have HB1 := hide (below_here (show Below w.heap.size w wr.drew from HBB.out.drew) b1); clear b1)
      all_goals go_wp2_with fail
      all_goals exact ⟨⟨k + 1, by omega, by go_num, HB1.out⟩, by simp [intOf]; omega⟩
    · go_wp2_with fail
      go_ret
      exact ⟨rfl, hbel⟩

/-- A Node as marks from s on. -/
def markNd (s : Nat) : Nd := ⟨s, ((s : Int) + 1) % 3 == 0, ((s : Int) + 1 + 1) % 3 == 0, ((s : Int) + 1 + 1 + 1) % 3 == 0, ((s : Int) + 1 + 1 + 1 + 1) % 3 == 0, ((s : Int) + 1 + 1 + 1 + 1 + 1) % 3 == 0, (s : Int) + 1 + 1 + 1 + 1 + 1 + 1, marksT (s + 7) 3, ((s : Int) + 7 + 3, (s : Int) + 7 + 3 + 1, markT (s + 12))⟩
def mixN (m : Nat) (xs : Nat → Nd) (k : Nat) (i : Nat) : Nd := if i < k then markNd (m + 13 * i) else xs i
/-- Which cells of Node k are marks already: the first j. -/
def mixC (m : Nat) (xs : Nat → Nd) (vs : Nat → Value) (k j i : Nat) : Value := if i / 11 < k ∨ (i / 11 = k ∧ i % 11 < j) then ndJ (markNd (m + 13 * (i / 11))) (vs (i / 11)) (i % 11) else ndC xs vs i
theorem mixC_start (m : Nat) (xs : Nat → Nd) (vs : Nat → Value) (k i : Nat) : ndC (mixN m xs k) vs i = mixC m xs vs k 0 i := by
  unfold mixC ndC mixN
  by_cases h : i / 11 < k
  · simp [h]
  · simp [h]
theorem mixC_end (m : Nat) (xs : Nat → Nd) (vs : Nat → Value) (k i : Nat) : mixC m xs vs k 11 i = ndC (mixN m xs (k + 1)) vs i := by
  unfold mixC ndC mixN
  have := Nat.mod_lt i (show 11 > 0 by omega)
  by_cases h : i / 11 < k
  · simp [h, show i / 11 < k + 1 by omega]
  · by_cases h2 : i / 11 = k
    · simp [h2, this]
    · simp [h, h2, show ¬ i / 11 < k + 1 by omega]
theorem mixC_step (m : Nat) (xs : Nat → Nd) (vs : Nat → Value) (k j i : Nat) (hj : j < 11) (v : Value) (hv : v = ndJ (markNd (m + 13 * k)) (vs k) j) : (if i = k * 11 + j then v else mixC m xs vs k j i) = mixC m xs vs k (j + 1) i := by
  subst hv
  by_cases h : i = k * 11 + j
  · subst h
    unfold mixC
    rw [if_pos rfl, show (k * 11 + j) / 11 = k by omega, show (k * 11 + j) % 11 = j by omega]
    simp
  · rw [if_neg h]
    unfold mixC
    have h1 := Nat.mod_lt i (show 11 > 0 by omega)
    have h2 := Nat.div_add_mod i 11
    by_cases h3 : i / 11 < k ∨ (i / 11 = k ∧ i % 11 < j)
    · rw [if_pos h3, if_pos (by omega)]
    · rw [if_neg h3, if_neg (by
        intro h4
        rcases h4 with h4 | ⟨h4, h5⟩
        · exact h3 (.inl h4)
        · have : i % 11 = j := by
            rcases Nat.lt_or_ge (i % 11) j with h6 | h6
            · exact absurd (.inr ⟨h4, h6⟩) h3
            · omega
          exact h (by omega))]
theorem mixC_skip (m : Nat) (xs : Nat → Nd) (vs : Nat → Value) (k i : Nat) : mixC m xs vs k 7 i = mixC m xs vs k 8 i := by
  have := mixC_step m xs vs k 7 i (by omega) (vs k) rfl
  rw [← this]
  by_cases h : i = k * 11 + 7
  · subst h
    unfold mixC ndC
    rw [if_pos rfl, show (k * 11 + 7) / 11 = k by omega, show (k * 11 + 7) % 11 = 7 by omega]
    simp [ndJ]
  · rw [if_neg h]
theorem mixC_seven (m : Nat) (xs : Nat → Nd) (vs : Nat → Value) (k j : Nat) : mixC m xs vs k j (k * 11 + 7) = vs k := by
  unfold mixC ndC
  rw [show (k * 11 + 7) / 11 = k by omega, show (k * 11 + 7) % 11 = 7 by omega]
  split <;> rfl
theorem mixN_old (m : Nat) (xs : Nat → Nd) (k : Nat) : mixN m xs k k = xs k := by simp [mixN]
theorem mixN_new (m : Nat) (xs : Nat → Nd) (k : Nat) : mixN m xs (k + 1) k = markNd (m + 13 * k) := by simp [mixN]
theorem mixN_off (m : Nat) (xs : Nat → Nd) (k i : Nat) (h : i ≠ k) : mixN m xs (k + 1) i = mixN m xs k i := by
  unfold mixN
  by_cases h1 : i < k
  · rw [if_pos h1, if_pos (by omega)]
  · rw [if_neg h1, if_neg (by omega)]
/-- Only the row and the Values' blocks are written. -/
def KeptN (g n : Nat) (gs : Nat → Nat) (w w' : World) : Prop := ∀ b, b < w.heap.size → b ≠ g → (∀ k, k < n → b ≠ gs k) → w'.heap[b]? = w.heap[b]?
set_option maxHeartbeats 6400000 in
theorem markNodeS_to (g off n c : Nat) (xs : Nat → Nd) (gs cs : Nat → Nat) (m : Nat) (w : World) {lo hi : Nat} (h : OwnNodes lo hi w g off n xs gs cs) (hn : n ≤ 2000) (m0 : 1 ≤ m) (m1 : m ≤ 1000) :
    Calls Try.prog 41 #[.slice (some ⟨g, off, none⟩) n c, .int .i64 (m : Int)] w fun o w' => o = .returned (.int .i64 ((m + 13 * n : Nat) : Int)) ∧ OwnNodes lo hi w' g off n (mixN m xs n) gs cs ∧ Aside lo hi w w' ∧ KeptN g n gs w w' := by
  have HX := hide h
  clear h
  go_enter Try.func41, Try.ntmps41
  go_wp2_with fail
  go_loopw [1, 5] (fun t i wr => ∃ k : Nat, k ≤ n ∧ i = .int .i64 (k : Int) ∧ t = .int .i64 ((m + 13 * k : Nat) : Int) ∧ OwnNodes lo hi wr g off n (mixN m xs k) gs cs ∧ Aside lo hi w wr ∧ KeptN g n gs w wr) (fun _ i _ => n - (intOf i).toNat)
  case atStart => exact ⟨0, Nat.zero_le _, rfl, by simp, HX.out, Aside.refl _ _ _, fun _ _ _ _ => rfl⟩
  case round =>
    obtain ⟨k, hk, rfl, rfl, hrow, hasd, hkep⟩ := hrel
    clear HX
    have HKP := hide hkep
    clear hkep
    by_cases hlt : k < n
    · have HOW := hide hrow
      have HAD := hide hasd
      have hA0 := Aside.refl g (g + 1) wr
      have hR0 := hrow.row.congr (g := mixC m xs (fun k => .slice (some ⟨gs k, 0, none⟩) 3 (cs k)) k 0) (fun i _ => mixC_start m xs _ k i)
      have HV := hide (hrow.val k hlt)
      have hg1 := hrow.at_g.1
      have hg2 := hrow.at_g.2
      clear hrow hasd
      have hoo : k * 11 + 11 ≤ n * 11 := by omega
      obtain ⟨s, hs⟩ : ∃ s, s = m + 13 * k := ⟨_, rfl⟩
      rw [← hs]
      have hs9 : s + 13 ≤ 1048577 := by omega
      have HSS := hide hs
      clear hs
      obtain ⟨w1, hw1⟩ : ∃ w1, w1 = wr.setCell ⟨g, off + k * 11, none⟩ (.int .i64 (s : Int)) := ⟨_, rfl⟩
      have hR1 : Owned g (g + 1) w1 (some ⟨g, off, none⟩) (n * 11) (mixC m xs (fun k => .slice (some ⟨gs k, 0, none⟩) 3 (cs k)) k 1) := by
        rw [hw1]
        have hh := (hR0.set (show k * 11 + 0 < n * 11 by omega) (.int .i64 (s : Int))).congr (fun i _ => mixC_step m xs _ k 0 i (by omega) _ (by rw [← HSS.out]; rfl))
        simpa only [← Nat.add_assoc, Nat.add_zero] using hh
      have hA1 : Aside g (g + 1) wr w1 := by rw [hw1]; exact hA0.setCell (p := ⟨g, off + k * 11, none⟩) (Nat.le_refl _) (Nat.lt_succ_self _) _
      have HH1 := hide (And.intro hR1 hA1)
      obtain ⟨x0, y0, -, -⟩ := hR0.place (show k * 11 + 0 < n * 11 by omega)
      rw [show k * 11 + 0 = k * 11 from rfl] at x0 y0
      clear hR0 hA0 hR1 hA1
      go_upto_region 5 with fail
      rw [← hw1]
      clear x0 y0 hw1
      obtain ⟨hR1, hA1⟩ := HH1.out
      obtain ⟨w2, hw2⟩ : ∃ w2, w2 = w1.setCell ⟨g, off + k * 11 + 1, none⟩ (.bool (((s : Int) + 1) % 3 == 0)) := ⟨_, rfl⟩
      have hR2 : Owned g (g + 1) w2 (some ⟨g, off, none⟩) (n * 11) (mixC m xs (fun k => .slice (some ⟨gs k, 0, none⟩) 3 (cs k)) k 2) := by
        rw [hw2]
        have hh := (hR1.set (show k * 11 + 1 < n * 11 by omega) (.bool (((s : Int) + 1) % 3 == 0))).congr (fun i _ => mixC_step m xs _ k 1 i (by omega) _ (by rw [← HSS.out]; rfl))
        simpa only [← Nat.add_assoc, Nat.add_zero] using hh
      have hA2 : Aside g (g + 1) wr w2 := by rw [hw2]; exact hA1.setCell (p := ⟨g, off + k * 11 + 1, none⟩) (Nat.le_refl _) (Nat.lt_succ_self _) _
      have HH2 := hide (And.intro hR2 hA2)
      obtain ⟨x1, y1, -, -⟩ := hR1.place (show k * 11 + 1 < n * 11 by omega)
      rw [← Nat.add_assoc] at x1 y1
      clear hR1 hA1 hR2 hA2
      go_upto_region 7 with fail
      rw [← hw2]
      clear x1 y1 hw2
      obtain ⟨hR2, hA2⟩ := HH2.out
      obtain ⟨w3, hw3⟩ : ∃ w3, w3 = w2.setCell ⟨g, off + k * 11 + 2, none⟩ (.bool (((s : Int) + 1 + 1) % 3 == 0)) := ⟨_, rfl⟩
      have hR3 : Owned g (g + 1) w3 (some ⟨g, off, none⟩) (n * 11) (mixC m xs (fun k => .slice (some ⟨gs k, 0, none⟩) 3 (cs k)) k 3) := by
        rw [hw3]
        have hh := (hR2.set (show k * 11 + 2 < n * 11 by omega) (.bool (((s : Int) + 1 + 1) % 3 == 0))).congr (fun i _ => mixC_step m xs _ k 2 i (by omega) _ (by rw [← HSS.out]; rfl))
        simpa only [← Nat.add_assoc, Nat.add_zero] using hh
      have hA3 : Aside g (g + 1) wr w3 := by rw [hw3]; exact hA2.setCell (p := ⟨g, off + k * 11 + 2, none⟩) (Nat.le_refl _) (Nat.lt_succ_self _) _
      have HH3 := hide (And.intro hR3 hA3)
      obtain ⟨x2, y2, -, -⟩ := hR2.place (show k * 11 + 2 < n * 11 by omega)
      rw [← Nat.add_assoc] at x2 y2
      clear hR2 hA2 hR3 hA3
      go_upto_region 9 with fail
      rw [← hw3]
      clear x2 y2 hw3
      obtain ⟨hR3, hA3⟩ := HH3.out
      obtain ⟨w4, hw4⟩ : ∃ w4, w4 = w3.setCell ⟨g, off + k * 11 + 3, none⟩ (.bool (((s : Int) + 1 + 1 + 1) % 3 == 0)) := ⟨_, rfl⟩
      have hR4 : Owned g (g + 1) w4 (some ⟨g, off, none⟩) (n * 11) (mixC m xs (fun k => .slice (some ⟨gs k, 0, none⟩) 3 (cs k)) k 4) := by
        rw [hw4]
        have hh := (hR3.set (show k * 11 + 3 < n * 11 by omega) (.bool (((s : Int) + 1 + 1 + 1) % 3 == 0))).congr (fun i _ => mixC_step m xs _ k 3 i (by omega) _ (by rw [← HSS.out]; rfl))
        simpa only [← Nat.add_assoc, Nat.add_zero] using hh
      have hA4 : Aside g (g + 1) wr w4 := by rw [hw4]; exact hA3.setCell (p := ⟨g, off + k * 11 + 3, none⟩) (Nat.le_refl _) (Nat.lt_succ_self _) _
      have HH4 := hide (And.intro hR4 hA4)
      obtain ⟨x3, y3, -, -⟩ := hR3.place (show k * 11 + 3 < n * 11 by omega)
      rw [← Nat.add_assoc] at x3 y3
      clear hR3 hA3 hR4 hA4
      go_upto_region 11 with fail
      rw [← hw4]
      clear x3 y3 hw4
      obtain ⟨hR4, hA4⟩ := HH4.out
      obtain ⟨w5, hw5⟩ : ∃ w5, w5 = w4.setCell ⟨g, off + k * 11 + 4, none⟩ (.bool (((s : Int) + 1 + 1 + 1 + 1) % 3 == 0)) := ⟨_, rfl⟩
      have hR5 : Owned g (g + 1) w5 (some ⟨g, off, none⟩) (n * 11) (mixC m xs (fun k => .slice (some ⟨gs k, 0, none⟩) 3 (cs k)) k 5) := by
        rw [hw5]
        have hh := (hR4.set (show k * 11 + 4 < n * 11 by omega) (.bool (((s : Int) + 1 + 1 + 1 + 1) % 3 == 0))).congr (fun i _ => mixC_step m xs _ k 4 i (by omega) _ (by rw [← HSS.out]; rfl))
        simpa only [← Nat.add_assoc, Nat.add_zero] using hh
      have hA5 : Aside g (g + 1) wr w5 := by rw [hw5]; exact hA4.setCell (p := ⟨g, off + k * 11 + 4, none⟩) (Nat.le_refl _) (Nat.lt_succ_self _) _
      have HH5 := hide (And.intro hR5 hA5)
      obtain ⟨x4, y4, -, -⟩ := hR4.place (show k * 11 + 4 < n * 11 by omega)
      rw [← Nat.add_assoc] at x4 y4
      clear hR4 hA4 hR5 hA5
      go_upto_region 13 with fail
      rw [← hw5]
      clear x4 y4 hw5
      obtain ⟨hR5, hA5⟩ := HH5.out
      obtain ⟨w6, hw6⟩ : ∃ w6, w6 = w5.setCell ⟨g, off + k * 11 + 5, none⟩ (.bool (((s : Int) + 1 + 1 + 1 + 1 + 1) % 3 == 0)) := ⟨_, rfl⟩
      have hR6 : Owned g (g + 1) w6 (some ⟨g, off, none⟩) (n * 11) (mixC m xs (fun k => .slice (some ⟨gs k, 0, none⟩) 3 (cs k)) k 6) := by
        rw [hw6]
        have hh := (hR5.set (show k * 11 + 5 < n * 11 by omega) (.bool (((s : Int) + 1 + 1 + 1 + 1 + 1) % 3 == 0))).congr (fun i _ => mixC_step m xs _ k 5 i (by omega) _ (by rw [← HSS.out]; rfl))
        simpa only [← Nat.add_assoc, Nat.add_zero] using hh
      have hA6 : Aside g (g + 1) wr w6 := by rw [hw6]; exact hA5.setCell (p := ⟨g, off + k * 11 + 5, none⟩) (Nat.le_refl _) (Nat.lt_succ_self _) _
      have HH6 := hide (And.intro hR6 hA6)
      obtain ⟨x5, y5, -, -⟩ := hR5.place (show k * 11 + 5 < n * 11 by omega)
      rw [← Nat.add_assoc] at x5 y5
      clear hR5 hA5 hR6 hA6
      go_upto_region 15 with fail
      rw [← hw6]
      clear x5 y5 hw6
      obtain ⟨hR6, hA6⟩ := HH6.out
      obtain ⟨w7, hw7⟩ : ∃ w7, w7 = w6.setCell ⟨g, off + k * 11 + 6, none⟩ (.int .i64 ((s : Int) + 1 + 1 + 1 + 1 + 1 + 1)) := ⟨_, rfl⟩
      have hR7 : Owned g (g + 1) w7 (some ⟨g, off, none⟩) (n * 11) (mixC m xs (fun k => .slice (some ⟨gs k, 0, none⟩) 3 (cs k)) k 7) := by
        rw [hw7]
        have hh := (hR6.set (show k * 11 + 6 < n * 11 by omega) (.int .i64 ((s : Int) + 1 + 1 + 1 + 1 + 1 + 1))).congr (fun i _ => mixC_step m xs _ k 6 i (by omega) _ (by rw [← HSS.out]; rfl))
        simpa only [← Nat.add_assoc, Nat.add_zero] using hh
      have hA7 : Aside g (g + 1) wr w7 := by rw [hw7]; exact hA6.setCell (p := ⟨g, off + k * 11 + 6, none⟩) (Nat.le_refl _) (Nat.lt_succ_self _) _
      have HH7 := hide (And.intro hR7 hA7)
      obtain ⟨x6, y6, -, -⟩ := hR6.place (show k * 11 + 6 < n * 11 by omega)
      rw [← Nat.add_assoc] at x6 y6
      clear hR6 hA6 hR7 hA7
      go_upto_region 17 with fail
      rw [← hw7]
      clear x6 y6 hw7
      obtain ⟨hR7, hA7⟩ := HH7.out
      obtain ⟨c7, -, -, -⟩ := hR7.place (show k * 11 + 7 < n * 11 by omega)
      rw [mixC_seven, ← Nat.add_assoc] at c7
      have hne := HOW.out.ne_g k hlt
      have HVV := hide (HV.out.aside hA7 (by omega))
      have hVV : OwnTexts (gs k) (gs k + 1) w7 (some ⟨gs k, 0, none⟩) 3 (mixN m xs k k).vs := HVV.out
      have HH7 := hide (And.intro hR7 hA7)
      clear hR7 hA7 hne HV
      go_wp2_with fail
      refine (markTS_any _ 3 (cs k) _ (s + 7) w7 hVV (by omega) (by omega) (by omega)).mono ?_
      rintro o w8 ⟨rfl, ho, ha⟩
      have hne := HOW.out.ne_g k hlt
      have hR8 := (HH7.out.1.aside ha (by omega)).congr (fun i _ => mixC_skip m xs _ k i)
      have hA8 := Aside.refl g (g + 1) w8
      have HM := hide ho
      have HA8 := hide ha
      clear hVV hne c7 ho ha
      obtain ⟨w9, hw9⟩ : ∃ w9, w9 = w8.setCell ⟨g, off + k * 11 + 8, none⟩ (.int .i64 ((s : Int) + 7 + 3)) := ⟨_, rfl⟩
      have hR9 : Owned g (g + 1) w9 (some ⟨g, off, none⟩) (n * 11) (mixC m xs (fun k => .slice (some ⟨gs k, 0, none⟩) 3 (cs k)) k 9) := by
        rw [hw9]
        have hh := (hR8.set (show k * 11 + 8 < n * 11 by omega) (.int .i64 ((s : Int) + 7 + 3))).congr (fun i _ => mixC_step m xs _ k 8 i (by omega) _ (by rw [← HSS.out]; rfl))
        simpa only [← Nat.add_assoc, Nat.add_zero] using hh
      have hA9 : Aside g (g + 1) w8 w9 := by rw [hw9]; exact hA8.setCell (p := ⟨g, off + k * 11 + 8, none⟩) (Nat.le_refl _) (Nat.lt_succ_self _) _
      have HH9 := hide (And.intro hR9 hA9)
      obtain ⟨x8, y8, -, -⟩ := hR8.place (show k * 11 + 8 < n * 11 by omega)
      rw [← Nat.add_assoc] at x8 y8
      clear hR8 hA8 hR9 hA9
      go_upto_region 20 with fail
      rw [← hw9]
      clear x8 y8 hw9
      obtain ⟨hR9, hA9⟩ := HH9.out
      obtain ⟨w10, hw10⟩ : ∃ w10, w10 = w9.setCell ⟨g, off + k * 11 + 9, none⟩ (.int .i64 ((s : Int) + 7 + 3 + 1)) := ⟨_, rfl⟩
      have hR10 : Owned g (g + 1) w10 (some ⟨g, off, none⟩) (n * 11) (mixC m xs (fun k => .slice (some ⟨gs k, 0, none⟩) 3 (cs k)) k 10) := by
        rw [hw10]
        have hh := (hR9.set (show k * 11 + 9 < n * 11 by omega) (.int .i64 ((s : Int) + 7 + 3 + 1))).congr (fun i _ => mixC_step m xs _ k 9 i (by omega) _ (by rw [← HSS.out]; rfl))
        simpa only [← Nat.add_assoc, Nat.add_zero] using hh
      have hA10 : Aside g (g + 1) w8 w10 := by rw [hw10]; exact hA9.setCell (p := ⟨g, off + k * 11 + 9, none⟩) (Nat.le_refl _) (Nat.lt_succ_self _) _
      have HH10 := hide (And.intro hR10 hA10)
      obtain ⟨x9, y9, -, -⟩ := hR9.place (show k * 11 + 9 < n * 11 by omega)
      rw [← Nat.add_assoc] at x9 y9
      clear hR9 hA9 hR10 hA10
      go_upto_region 22 with fail
      rw [← hw10]
      clear x9 y9 hw10
      obtain ⟨hR10, hA10⟩ := HH10.out
      have HH10 := hide (And.intro hR10 hA10)
      clear hR10 hA10
      go_wp2_with fail
      refine (markText_to (s + 12) _ (by omega) (by omega) (by omega) _).mono ?_
      rintro e w11 ⟨rfl, b2⟩
      obtain ⟨hR10, hA10⟩ := HH10.out
      have hR11 := hR10.later b2 hR10.1
      have hA11 := hA10.trans (aside_new b2)
      obtain ⟨x11, y11, -, -⟩ := hR11.place (show k * 11 + 10 < n * 11 by omega)
      rw [← Nat.add_assoc] at x11 y11
      have hgs := HOW.out.at_v k hlt
      have hfin : OwnNodes lo hi (w11.setCell ⟨g, off + k * 11 + 10, none⟩ (.string (markT (s + 12)))) g off n (mixN m xs (k + 1)) gs cs ∧ Aside lo hi w (w11.setCell ⟨g, off + k * 11 + 10, none⟩ (.string (markT (s + 12)))) ∧ KeptN g n gs w (w11.setCell ⟨g, off + k * 11 + 10, none⟩ (.string (markT (s + 12)))) := by
        have hR := (hR11.set (show k * 11 + 10 < n * 11 by omega) (.string (markT (s + 12)))).congr (fun i _ => (mixC_step m xs _ k 10 i (by omega) _ (by rw [← HSS.out]; rfl)).trans (mixC_end m xs _ k i))
        rw [← Nat.add_assoc] at hR
        have hA := hA11.setCell (p := ⟨g, off + k * 11 + 10, none⟩) (Nat.le_refl _) (Nat.lt_succ_self _) (.string (markT (s + 12)))
        have hh7 := HH7.out.2
        have ha8 := HA8.out
        have hO := HOW.out
        have hAll : Aside lo hi wr (w11.setCell ⟨g, off + k * 11 + 10, none⟩ (.string (markT (s + 12)))) :=
          ((aside_wideQ hh7 hg1 (by omega)).trans (aside_wideQ ha8 hgs.1 (by omega))).trans (aside_wideQ hA hg1 (by omega))
        refine ⟨⟨Nat.le_trans hO.hi_le hAll.size, hO.at_g, hO.at_v, hR, fun j hj => ?_, hO.ne_g, hO.ne_v⟩, HAD.out.trans hAll, fun b h1 h2 h3 => ?_⟩
        rotate_left
        · have hz := HAD.out.size
          have h4 := h3 k hlt
          exact (hA.block b (by have := ha8.size; have := hh7.size; omega) (by omega)).trans ((ha8.block b (by have := hh7.size; omega) (by omega)).trans ((hh7.block b (by omega) (by omega)).trans (HKP.out b h1 h2 h3)))
        have hnj := hO.ne_g j hj
        by_cases hjk : j = k
        · subst hjk
          rw [mixN_new]
          rw [← HSS.out]
          exact HM.out.aside hA (by omega)
        · rw [mixN_off m xs k j hjk]
          have hnv := hO.ne_v j k hj hlt hjk
          exact (((hO.val j hj).aside hh7 (by omega)).aside ha8 (by omega)).aside hA (by omega)
      have HFIN := hide hfin
      clear hfin hR10 hA10 hR11 hA11 HH10 HM HA8 HH7 HOW b2
      go_wp2_with fail
      exact ⟨⟨k + 1, by omega, by go_num, by have := HSS.out; go_num, HFIN.out.1, HFIN.out.2.1, HFIN.out.2.2⟩, by simp [intOf]; omega⟩
    · obtain rfl : k = n := by omega
      go_wp2_with fail
      go_ret
      exact ⟨rfl, hrow, hasd, HKP.out⟩

set_option maxHeartbeats 6400000 in
theorem heldNodeS_any (a : Option Addr) (n c : Nat) (xs : Nat → Nd) (gs cs : Nat → Nat) (m : Nat) (w : World) {lo hi : Nat} (h : Nodes lo hi w a n (mixN m xs n) gs cs) (hn : n ≤ 2000) (m0 : 1 ≤ m) (m1 : m ≤ 1000) :
    Calls Try.prog 45 #[.slice a n c, .int .i64 (m : Int)] w fun o w' => o = .returned (.int .i64 ((m + 13 * n : Nat) : Int)) ∧ Below w.heap.size w w' := by
  have HX := hide h
  have hsz := h.row.1
  clear h
  go_enter Try.func45, Try.ntmps45
  go_wp2_with fail
  go_loopw [1, 5] (fun t i wr => ∃ k : Nat, k ≤ n ∧ i = .int .i64 (k : Int) ∧ t = .int .i64 ((m + 13 * k : Nat) : Int) ∧ Below w.heap.size w wr) (fun _ i _ => n - (intOf i).toNat)
  case atStart => exact ⟨0, Nat.zero_le _, rfl, by simp, Below.refl _ _⟩
  case round =>
    obtain ⟨k, hk, rfl, rfl, hbel⟩ := hrel
    by_cases hlt : k < n
    · have hX := HX.out.later hbel hsz
      obtain ⟨b, off, rfl, _, hb, hc⟩ := hX.row.2 (by omega)
      obtain ⟨c0, c1, c2, c3, c4, c5, c6, c7, c8, c9, c10⟩ := nd_row hc hlt
      have hV := hX.val k hlt
      have hmn : mixN m xs n k = markNd (m + 13 * k) := by unfold mixN; rw [if_pos hlt]
      rw [hmn] at c0 c1 c2 c3 c4 c5 c6 c8 c9 c10 hV
      unfold markNd at c0 c1 c2 c3 c4 c5 c6 c8 c9 c10 hV
      dsimp only at c0 c1 c2 c3 c4 c5 c6 c8 c9 c10 hV
      have HT := hide hV
      have HBL := hide hbel
      have hbb : b < wr.heap.size := by have := hX.row.1; omega
      have HBB := hide hbb
      clear hc hX hbel hV hmn hbb
      obtain ⟨s, hs⟩ : ∃ s, s = m + 13 * k := ⟨_, rfl⟩
      have hs9 : s + 13 ≤ 1048577 := by omega
      have hs1 : 1 ≤ s := by omega
      rw [← hs] at c0 c1 c2 c3 c4 c5 c6 c8 c9 c10 HT
      rw [← hs]
      have HSS := hide hs
      clear hs
      have e1 : (((s : Int) + 1) % 3 == 0) = (((s : Int) + 1) % 3 == 0) := rfl
      generalize hq1 : (((s : Int) + 1) % 3 == 0) = q1 at c1
      generalize hq2 : (((s : Int) + 1 + 1) % 3 == 0) = q2 at c2
      generalize hq3 : (((s : Int) + 1 + 1 + 1) % 3 == 0) = q3 at c3
      generalize hq4 : (((s : Int) + 1 + 1 + 1 + 1) % 3 == 0) = q4 at c4
      generalize hq5 : (((s : Int) + 1 + 1 + 1 + 1 + 1) % 3 == 0) = q5 at c5
      have e1 : (q1 != q1) = false := by simp
      have e2 : (q2 != q2) = false := by simp
      have e3 : (q3 != q3) = false := by simp
      have e4 : (q4 != q4) = false := by simp
      have e5 : (q5 != q5) = false := by simp
      go_wp2_with fail
      refine (heldTS_any _ 3 (cs k) (s + 7) _ HT.out (by omega) (by omega) (by omega)).mono ?_
      rintro o w8 ⟨rfl, b2⟩
      have d8 := (b2.cell (p := ⟨b, off + k * 11 + 8, none⟩) HBB.out).trans c8
      have d9 := (b2.cell (p := ⟨b, off + k * 11 + 9, none⟩) HBB.out).trans c9
      have d10 := (b2.cell (p := ⟨b, off + k * 11 + 10, none⟩) HBB.out).trans c10
      have HB8 := hide (below_here HBL.out b2)
      have HS8 := hide b2.size
      clear c0 c1 c2 c3 c4 c5 c6 c7 c8 c9 c10 b2
      have e0 := text_same (markT (s + 12))
      have hlt2 : (k : Int) < (n : Int) := by omega
      have dd : ∀ w', Below w8.heap.size w8 w' → w'.cell? ⟨b, off + k * 11 + 10, none⟩ = some (.string (markT (s + 12))) := fun w' h' => (h'.cell (p := ⟨b, off + k * 11 + 10, none⟩) (show b < w8.heap.size by have h1 := HBB.out; have h2 := HS8.out; omega)).trans d10
      have HD := hide dd
      clear dd
      go_wp2_with fail
      go_region_with (go_at_call 77; refine (markText_to (s + 12) _ (by omega) (by omega) (by omega) _).mono ?_; rintro e w2 ⟨rfl, b2⟩; have d9 := HD.out w2 (below_here (Below.refl w8.heap.size w8).drew b2); have HB2 := hide (below_here (show Below w.heap.size w w8.drew from HB8.out.drew) b2); clear b2)
      all_goals go_wp2_with fail
      all_goals exact ⟨⟨k + 1, by omega, by go_num, by have := HSS.out; go_num, HB2.out⟩, by simp [intOf]; omega⟩
    · obtain rfl : k = n := by omega
      go_wp2_with fail
      go_ret
      exact ⟨rfl, hbel⟩
end Go.Proofs.Ytdaemaefkikheaa
