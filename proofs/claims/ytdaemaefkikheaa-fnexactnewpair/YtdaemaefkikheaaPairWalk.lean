/- A new Pair, as the laws walk over it: alike, marked, held. -/
import Derived.Test.YtdaemaefkikheaaPairNew
import Derived.Test.YtdaemaefkikheaaPutOwn
namespace Go.Proofs.Ytdaemaefkikheaa
open Go.RowKit
set_option linter.unusedVariables false
set_option linter.unusedSimpArgs false
set_option maxRecDepth 20000

set_option maxHeartbeats 800000 in
theorem eqNoteS_none (w : World) : Calls Try.prog 37 #[.slice none 0 0, .slice none 0 0] w fun o w' => o = .returned (.bool true) ∧ w = w' := by
  go_enter Try.func37, Try.ntmps37
  go_wp2_with fail
  go_loop [5] (fun i => i = .int .i64 0) (fun _ => 0)
  case atStart => rfl
  case round =>
    obtain rfl := hrel
    go_wp2_with fail
    go_ret
    exact ⟨rfl, rfl⟩
set_option maxHeartbeats 800000 in
theorem markNoteS_none (m : Int) (w : World) : Calls Try.prog 43 #[.slice none 0 0, .int .i64 m] w fun o w' => o = .returned (.int .i64 m) ∧ w = w' := by
  go_enter Try.func43, Try.ntmps43
  go_wp2_with fail
  go_loop [1, 5] (fun t i => t = .int .i64 m ∧ i = .int .i64 0) (fun _ _ => 0)
  case atStart => exact ⟨rfl, rfl⟩
  case round =>
    obtain ⟨rfl, rfl⟩ := hrel
    go_wp2_with fail
    go_ret
    exact ⟨rfl, rfl⟩
set_option maxHeartbeats 800000 in
theorem heldNoteS_none (m : Int) (w : World) : Calls Try.prog 47 #[.slice none 0 0, .int .i64 m] w fun o w' => o = .returned (.int .i64 m) ∧ w = w' := by
  go_enter Try.func47, Try.ntmps47
  go_wp2_with fail
  go_loop [1, 5] (fun t i => t = .int .i64 m ∧ i = .int .i64 0) (fun _ _ => 0)
  case atStart => exact ⟨rfl, rfl⟩
  case round =>
    obtain ⟨rfl, rfl⟩ := hrel
    go_wp2_with fail
    go_ret
    exact ⟨rfl, rfl⟩
abbrev npV (g c gw cw : Nat) : Value := .agg #[.slice (some ⟨g, 0, none⟩) 2 c, .int .i64 0, .int .i64 (-1), .slice (some ⟨gw, 0, none⟩) 2 cw, .slice none 0 0, .slice none 0 0]
set_option maxHeartbeats 1600000 in
theorem eqPair_new (g c gw cw g' c' gw' cw' : Nat) (gs cs gs' cs' : Nat → Nat) (w : World) {lo hi lo' hi' : Nat} (h : NpAt lo hi w g gs cs gw) (h' : NpAt lo' hi' w g' gs' cs' gw') :
    Calls Try.prog 10 #[npV g c gw cw, npV g' c' gw' cw'] w fun o w' => o = .returned (.bool true) ∧ Below w.heap.size w w' := by
  obtain ⟨w1, hw1⟩ : ∃ w1, w1 = (w.alloc (.cells #[.slice (some ⟨g, 0, none⟩) 2 c, .int .i64 0, .int .i64 (-1), .slice (some ⟨gw, 0, none⟩) 2 cw, .slice none 0 0, .slice none 0 0] 37)).alloc (.cells #[.slice (some ⟨g', 0, none⟩) 2 c', .int .i64 0, .int .i64 (-1), .slice (some ⟨gw', 0, none⟩) 2 cw', .slice none 0 0, .slice none 0 0] 37) := ⟨_, rfl⟩
  have HB1 : Hid (Below w.heap.size w w1) := by rw [hw1]; exact ((Below.refl _ _).alloc (Nat.le_refl _) _).alloc (by simp) _
  have HA1 : Hid (w1.heap[w.heap.size]? = some (.cells #[.slice (some ⟨g, 0, none⟩) 2 c, .int .i64 0, .int .i64 (-1), .slice (some ⟨gw, 0, none⟩) 2 cw, .slice none 0 0, .slice none 0 0] 37)) := by rw [hw1]; exact heap_old (heap_new _ _)
  have HR1 : Hid (w1.heap[w.heap.size + 1]? = some (.cells #[.slice (some ⟨g', 0, none⟩) 2 c', .int .i64 0, .int .i64 (-1), .slice (some ⟨gw', 0, none⟩) 2 cw', .slice none 0 0, .slice none 0 0] 37)) := by rw [hw1]; exact heap_at (by simp)
  have hh1 := h.nodes.hi_le
  have hh2 := h'.nodes.hi_le
  have HN := hide (h.later HB1.out hh1)
  have HN' := hide (h'.later HB1.out hh2)
  clear h h' hh1 hh2
  obtain ⟨a0, a1, a2, a3, a4, a5⟩ := pr_cells HA1.out
  obtain ⟨b0, b1, b2, b3, b4, b5⟩ := pr_cells HR1.out
  go_enter Try.func10, Try.ntmps10
  go_upto_region 1 with fail
  rw [← hw1]
  clear hw1
  go_wp2_with fail
  refine (eqNodeS_same _ _ 2 c c' _ _ _ _ _ w1 HN.out.nodes.nodes HN'.out.nodes.nodes (by omega)).mono ?_
  rintro o w2 ⟨rfl, hb⟩
  have HA2 := hide (block_on HA1.out hb)
  have HR2 := hide (block_on HR1.out hb)
  have HN2 := hide (HN.out.later hb HN.out.nodes.hi_le)
  have HN2' := hide (HN'.out.later hb HN'.out.nodes.hi_le)
  have HB2 := hide (below_here HB1.out hb)
  clear a0 a1 a2 a3 a4 a5 b0 b1 b2 b3 b4 b5 hb HA1 HR1 HN HN' HB1
  obtain ⟨a0, a1, a2, a3, a4, a5⟩ := pr_cells HA2.out
  obtain ⟨b0, b1, b2, b3, b4, b5⟩ := pr_cells HR2.out
  go_wp2_with fail
  refine (eqWitness_any newW newW (some ⟨gw, 0, none⟩) 2 cw (some ⟨gw', 0, none⟩) 2 cw' w2 HN2.out.flags.bools HN2'.out.flags.bools HN2.out.flags.2.1 HN2'.out.flags.2.1 (by omega) (by omega)).mono ?_
  rintro o w3 ⟨rfl, hb⟩
  have HA3 := hide (block_on HA2.out hb)
  have HR3 := hide (block_on HR2.out hb)
  have HB3 := hide (below_here HB2.out hb)
  clear a0 a1 a2 a3 a4 a5 b0 b1 b2 b3 b4 b5 hb HA2 HR2 HN2 HN2' HB2
  obtain ⟨a0, a1, a2, a3, a4, a5⟩ := pr_cells HA3.out
  obtain ⟨b0, b1, b2, b3, b4, b5⟩ := pr_cells HR3.out
  simp only [decide_true, Bool.and_self]
  go_wp2_with fail
  refine (eqNoteS_none w3).mono ?_
  rintro o w4 ⟨rfl, rfl⟩
  go_wp2_with fail
  refine (eqPutS_same none none 0 0 0 [] w3 (lo := 0) (lo' := 0) (jl_own oj_none) (jl_own oj_none) (by omega)).mono ?_
  rintro o w4 ⟨rfl, hb⟩
  have HB4 := hide (below_here HB3.out hb)
  clear a0 a1 a2 a3 a4 a5 b0 b1 b2 b3 b4 b5 hb HA3 HR3 HB3
  go_wp2_with fail
  go_ret
  exact ⟨rfl, HB4.out⟩
theorem own_off {lo hi g off n gw : Nat} {w w' : World} {xs : Nat → Nd} {gs cs : Nat → Nat} (h : OwnNodes lo hi w g off n xs gs cs) (ha : Aside gw (gw + 1) w w') (h1 : gw ≠ g) (h2 : ∀ k, k < n → gw ≠ gs k) : OwnNodes lo hi w' g off n xs gs cs :=
  ⟨Nat.le_trans h.hi_le ha.size, h.at_g, h.at_v, h.row.aside ha (by omega), fun k hk => (h.val k hk).aside ha (by have := h2 k hk; omega), h.ne_g, h.ne_v⟩
/-- A new Pair that is marked. -/
structure NpMarked (lo hi : Nat) (w : World) (g : Nat) (gs cs : Nat → Nat) (gw : Nat) : Prop where
  nodes : OwnNodes lo hi w g 0 2 (mixN 1 (fun _ => nd0) 2) gs cs
  flags : Owned gw (gw + 1) w (some ⟨gw, 0, none⟩) 2 (flagM 27)
  gw_at : lo ≤ gw ∧ gw < hi
theorem NpMarked.later {lo hi B : Nat} {w w' : World} {g : Nat} {gs cs : Nat → Nat} {gw : Nat} (h : NpMarked lo hi w g gs cs gw) (hb : Below B w w') (hB : hi ≤ B) : NpMarked lo hi w' g gs cs gw :=
  ⟨h.nodes.later hb hB, h.flags.later hb (by have := h.gw_at; omega), h.gw_at⟩
set_option maxHeartbeats 1600000 in
theorem markPair_new (g c gw cw : Nat) (gs cs : Nat → Nat) (w : World) {lo hi : Nat} (h : NpAt lo hi w g gs cs gw) :
    Calls Try.prog 13 #[npV g c gw cw, .int .i64 1] w fun o w' => o = .returned (.int .i64 29) ∧ NpMarked lo hi w' g gs cs gw ∧ Aside lo hi w w' := by
  obtain ⟨w1, hw1⟩ : ∃ w1, w1 = w.alloc (.cells #[.slice (some ⟨g, 0, none⟩) 2 c, .int .i64 0, .int .i64 (-1), .slice (some ⟨gw, 0, none⟩) 2 cw, .slice none 0 0, .slice none 0 0] 37) := ⟨_, rfl⟩
  have hb1 : Below w.heap.size w w1 := by rw [hw1]; exact (Below.refl _ _).alloc (Nat.le_refl _) _
  have HA : Hid (Aside lo hi w w1) := aside_new hb1
  have HA1 : Hid (w1.heap[w.heap.size]? = some (.cells #[.slice (some ⟨g, 0, none⟩) 2 c, .int .i64 0, .int .i64 (-1), .slice (some ⟨gw, 0, none⟩) 2 cw, .slice none 0 0, .slice none 0 0] 37)) := by rw [hw1]; exact heap_new _ _
  have HHI := hide h.nodes.hi_le
  have HN := hide (h.later hb1 HHI.out)
  clear h hb1
  obtain ⟨a0, a1, a2, a3, a4, a5⟩ := pr_cells HA1.out
  go_enter Try.func13, Try.ntmps13
  go_upto_region 1 with fail
  rw [← hw1]
  clear hw1
  go_wp2_with fail
  refine (markNodeS_to g 0 2 c _ gs cs 1 w1 HN.out.nodes (by omega) (by omega) (by omega)).mono ?_
  rintro o w2 ⟨rfl, hn, ha, hk⟩
  have hgw := HN.out.gw_at
  have hlt1 := HN.out.nodes.hi_le
  have hfb : w2.heap[gw]? = w1.heap[gw]? := hk gw (by omega) HN.out.gw_g HN.out.gw_v
  have hf2 : Owned gw (gw + 1) w2 (some ⟨gw, 0, none⟩) 2 (fun i => cellO [true, true] i) := HN.out.flags.2.of ha.size (fun q h1 h2 => (show q = gw by omega) ▸ hfb)
  have HF2 := hide hf2
  have HO2 := hide hn
  have hz1 : hi ≤ w.heap.size := HHI.out
  have HA2 := hide (HA.out.trans ha)
  have HC2 := hide ((ha.block w.heap.size (Array.getElem?_eq_some_iff.1 HA1.out).1 (.inr hz1)).trans HA1.out)
  clear a0 a1 a2 a3 a4 a5 hn hf2 hfb hk hgw hlt1 hz1 ha HA1 HA
  obtain ⟨a0, a1, a2, a3, a4, a5⟩ := pr_cells HC2.out
  simp only [show ((1 + 13 * 2 : Nat) : Int) = 27 from rfl]
  go_wp2_with fail
  refine (markWitness_any newW (some ⟨gw, 0, none⟩) 2 cw _ 27 w2 HF2.out HF2.out.1 (by omega) (by omega) (by omega)).mono ?_
  rintro o w3 ⟨rfl, ho, ha⟩
  have hgw := HN.out.gw_at
  have hg1 := HN.out.gw_g
  have hgv := HN.out.gw_v
  have HM : Hid (NpMarked lo hi w3 g gs cs gw) := ⟨own_off HO2.out ha hg1 hgv, ho, hgw⟩
  have HA3 := hide (HA2.out.trans (aside_wideQ ha hgw.1 (by omega)))
  have HC3 := hide ((ha.block w.heap.size (Array.getElem?_eq_some_iff.1 HC2.out).1 (.inr (by have := HHI.out; omega))).trans HC2.out)
  clear a0 a1 a2 a3 a4 a5 ho ha hgw hg1 hgv HC2 HA2
  obtain ⟨a0, a1, a2, a3, a4, a5⟩ := pr_cells HC3.out
  simp only [show (27 : Int) + ((2 : Nat) : Int) = 29 from rfl]
  go_wp2_with fail
  refine (markNoteS_none 29 w3).mono ?_
  rintro o w4 ⟨rfl, rfl⟩
  go_wp2_with fail
  refine (markPutS_to none 0 0 [] 29 w3 (lo := w3.heap.size) (hi := w3.heap.size) oj_none (by omega) (by omega) (by omega)).mono ?_
  rintro o w4 ⟨rfl, -, ha⟩
  have HM4 := hide (HM.out.later (ha.below (B := w3.heap.size) (Nat.le_refl _) (Nat.le_refl _)) HM.out.nodes.hi_le)
  have HA4 := hide (HA3.out.trans (aside_new (ha.below (B := w3.heap.size) (Nat.le_refl _) (Nat.le_refl _))))
  clear ha HM HA3 a0 a1 a2 a3 a4 a5
  go_wp2_with fail
  go_ret
  exact ⟨rfl, HM4.out, HA4.out⟩
set_option maxHeartbeats 1600000 in
theorem heldPair_new (g c gw cw : Nat) (gs cs : Nat → Nat) (w : World) {lo hi : Nat} (h : NpMarked lo hi w g gs cs gw) :
    Calls Try.prog 14 #[npV g c gw cw, .int .i64 1] w fun o w' => o = .returned (.int .i64 29) ∧ Below w.heap.size w w' := by
  obtain ⟨w1, hw1⟩ : ∃ w1, w1 = w.alloc (.cells #[.slice (some ⟨g, 0, none⟩) 2 c, .int .i64 0, .int .i64 (-1), .slice (some ⟨gw, 0, none⟩) 2 cw, .slice none 0 0, .slice none 0 0] 37) := ⟨_, rfl⟩
  have hb1 : Below w.heap.size w w1 := by rw [hw1]; exact (Below.refl _ _).alloc (Nat.le_refl _) _
  have HB1 := hide hb1
  have HA1 : Hid (w1.heap[w.heap.size]? = some (.cells #[.slice (some ⟨g, 0, none⟩) 2 c, .int .i64 0, .int .i64 (-1), .slice (some ⟨gw, 0, none⟩) 2 cw, .slice none 0 0, .slice none 0 0] 37)) := by rw [hw1]; exact heap_new _ _
  have HN := hide (h.later hb1 h.nodes.hi_le)
  clear h hb1
  obtain ⟨a0, a1, a2, a3, a4, a5⟩ := pr_cells HA1.out
  go_enter Try.func14, Try.ntmps14
  go_upto_region 1 with fail
  rw [← hw1]
  clear hw1
  go_wp2_with fail
  refine (heldNodeS_any _ 2 c _ gs cs 1 w1 HN.out.nodes.nodes (by omega) (by omega) (by omega)).mono ?_
  rintro o w2 ⟨rfl, hb⟩
  have HN2 := hide (HN.out.later hb HN.out.nodes.hi_le)
  have HB2 := hide (below_here HB1.out hb)
  have HC2 := hide (block_on HA1.out hb)
  clear a0 a1 a2 a3 a4 a5 hb HN HB1 HA1
  obtain ⟨a0, a1, a2, a3, a4, a5⟩ := pr_cells HC2.out
  simp only [show ((1 + 13 * 2 : Nat) : Int) = 27 from rfl]
  go_wp2_with fail
  refine (heldWitness_any newW (some ⟨gw, 0, none⟩) 2 cw 27 w2 HN2.out.flags.reads HN2.out.flags.1 (by omega) (by omega) (by omega)).mono ?_
  rintro o w3 ⟨rfl, hb⟩
  have HB3 := hide (below_here HB2.out hb)
  have HC3 := hide (block_on HC2.out hb)
  clear a0 a1 a2 a3 a4 a5 hb HN2 HB2 HC2
  obtain ⟨a0, a1, a2, a3, a4, a5⟩ := pr_cells HC3.out
  simp only [show (27 : Int) + ((2 : Nat) : Int) = 29 from rfl]
  go_wp2_with fail
  refine (heldNoteS_none 29 w3).mono ?_
  rintro o w4 ⟨rfl, rfl⟩
  go_wp2_with fail
  refine (heldPutS_any none 0 0 29 w3 (lo := w3.heap.size) (hi := w3.heap.size) (jl_own oj_none) (Nat.le_refl _) (by omega) (by omega) (by omega)).mono ?_
  rintro o w4 ⟨rfl, hb⟩
  have HB4 := hide (below_here HB3.out hb)
  clear a0 a1 a2 a3 a4 a5 hb HB3 HC3
  go_wp2_with fail
  go_ret
  exact ⟨rfl, HB4.out⟩
theorem np_aside {lo hi l r g gw : Nat} {w w' : World} {gs cs : Nat → Nat} (h : NpAt lo hi w g gs cs gw) (ha : Aside l r w w') (hB : hi ≤ l ∨ r ≤ lo) : NpAt lo hi w' g gs cs gw :=
  ⟨h.nodes.aside ha hB, ⟨h.flags.1, h.flags.2.aside ha (by have := h.gw_at; omega)⟩, h.gw_at, h.gw_g, h.gw_v⟩
end Go.Proofs.Ytdaemaefkikheaa
