/- Several texts in one: PlaceWalk, FtlWalk. -/
import Derived.Test.YtfabojbkhicpmaaGreatDoorXChipOwn2
import Derived.Deep.RegionWith
section
namespace Go.Proofs.YtfabojbkhicpmaaGreatDoor
open Go.RowKit
set_option linter.unusedVariables false
set_option maxRecDepth 20000

theorem Tryz.infoPl : (Tryz.prog.info? 48).map (fun i => (i.zero, i.size, i.bytes)) = some (some (.agg #[.int .i64 0, .int .i64 0]), 2, 16) := by kernel_rfl
set_option maxHeartbeats 400000 in
theorem szPlaceS_any (a : Option Addr) (n cap : Nat) (L : Int) (w : World) (hn : n ≤ maxLen) (hL0 : 0 ≤ L) (hL1 : L ≤ 1048576) :
    Calls Tryz.prog 144 #[.slice a n cap, .int .i64 L] w fun e w' => Left L n e ∧ w = w' := by
  unfold maxLen at hn
  by_cases hb : (n : Int) ≤ L
  · have g : decide (L - (n : Int) < 0) = false := by simp; omega
    go_enter Tryz.func144, Tryz.ntmps144
    go_wp2_with fail
    go_ret
    exact ⟨⟨L - (n : Int), rfl, by omega, by omega, fun _ => rfl⟩, rfl⟩
  · have g : decide (L - (n : Int) < 0) = true := by simp; omega
    go_enter Tryz.func144, Tryz.ntmps144
    go_wp2_with fail
    go_ret
    exact ⟨⟨-1, rfl, by omega, by omega, by omega⟩, rfl⟩
theorem toPlace_any (p q : Int) (w : World) :
    Calls Tryz.prog 207 #[.agg #[.int .i64 p, .int .i64 q]] w fun e w' => e = .returned (.agg #[.int .i64 p, .int .i64 q]) ∧ Below w.heap.size w w' := by
  go_enter Tryz.func207, Tryz.ntmps207
  go_wp2_with fail
  refine bodyPost_ret (results_cell rfl rfl (run_loadVar_row _ _ _ _ _ _ _ (heap_old (heap_at (by simp))) Tryz.underlying48 rfl (by kernel_rfl))) rfl ⟨rfl, ?_⟩
  exact (((Below.refl w.heap.size w).alloc (Nat.le_refl _) _).alloc (by simp) _).alloc (by simp; omega) _

set_option maxHeartbeats 1600000 in
theorem toPlaceS_any (a : Option Addr) (n cap : Nat) (ps : List Pl) (w : World) {lo hi : Nat} (h : Places lo hi w a n ps) (hn : n ≤ 1048576) :
    Calls Tryz.prog 146 #[.slice a n cap] w fun e w' => ∃ a', e = .returned (.slice a' n n) ∧ OwnPlaces w.heap.size (w.heap.size + 1) w' a' n ps ∧ Below w.heap.size w w' := by
  obtain ⟨hl, hx⟩ := h
  have HL := hide hl
  have HX := hide hx
  have hsz := hx.1
  clear hl hx
  have hmk := make2 (P := Tryz.prog) 27 48 (.int .i64 0) (.int .i64 0) 16 Tryz.underlying27 Tryz.infoPl n (by omega) (by omega) w
  have HM := hide (madeP w n 48)
  go_enter Tryz.func146, Tryz.ntmps146
  go_wp2_with fail
  go_loopw [4] (fun i wr => ∃ k : Nat, k ≤ n ∧ i = .int .i64 (k : Int) ∧
    Owned w.heap.size (w.heap.size + 1) wr (some ⟨w.heap.size, 0, none⟩) (2 * n) (fun j => if j < 2 * k then cellP ps j else .int .i64 0) ∧ Below w.heap.size w wr) (fun i _ => n - (intOf i).toNat)
  case atStart => exact ⟨0, Nat.zero_le _, rfl, HM.out.congr (fun j _ => by simp), (Below.refl _ _).alloc (Nat.le_refl _) _⟩
  case round =>
    obtain ⟨k, hk, rfl, hrow, hbel⟩ := hrel
    clear HM
    by_cases hlt : k < n
    · obtain ⟨b, off, rfl, _, hb1, hc⟩ := HX.out.2 (by omega)
      have hbw : b < w.heap.size := by omega
      obtain ⟨c0, c1⟩ := pl_cells hc hbel hbw hlt
      have HRW := hide hrow
      have HBB := hide hbel
      have HK3 := rowP_step ps k
      clear hrow hc hbel
      generalize hy : plAt ps k = y at *
      obtain ⟨p, q⟩ := y
      have HST := hide HK3
      clear hy HK3
      go_wp2_with fail
      refine (toPlace_any p q wr).mono ?_
      rintro e w2 ⟨rfl, b2⟩
      have hgs := HRW.out.1
      have hro := HRW.out.later b2 hgs
      obtain ⟨d0, f0, _, _⟩ := hro.at0 (show k * 2 < 2 * n by omega)
      obtain ⟨d1, f1, _, _⟩ := hro.at0 (show k * 2 + 1 < 2 * n by omega)
      have HAS := hide (((Aside.refl w.heap.size (w.heap.size + 1) w2).setCell (p := ⟨w.heap.size, k * 2, none⟩) (Nat.le_refl _) (Nat.lt_succ_self _) (.int .i64 p)).setCell (p := ⟨w.heap.size, k * 2 + 1, none⟩) (Nat.le_refl _) (Nat.lt_succ_self _) (.int .i64 q))
      have HNR := hide (((hro.set0 (show k * 2 < 2 * n by omega) (.int .i64 p)).set0 (show k * 2 + 1 < 2 * n by omega) (.int .i64 q)).congr (fun j _ => HST.out j))
      have hs2 := b2.size
      have HB2 := hide (below_here HBB.out b2)
      clear b2 hro c0 c1 HRW HST
      go_wp2_with fail
      exact ⟨⟨k + 1, by omega, by go_num, HNR.out, HB2.out.trans (HAS.out.below (Nat.le_refl _) (by omega))⟩, by simp [intOf]; omega⟩
    · obtain rfl : k = n := by omega
      go_wp2_with fail
      go_ret
      exact ⟨_, rfl, ⟨HL.out, hrow.congr (fun j hj => if_pos hj)⟩, hbel⟩

theorem eqPlace_same (p q : Int) (w : World) :
    Calls Tryz.prog 209 #[.agg #[.int .i64 p, .int .i64 q], .agg #[.int .i64 p, .int .i64 q]] w fun e w' => e = .returned (.bool true) ∧ Below w.heap.size w w' := by
  go_enter Tryz.func209, Tryz.ntmps209
  go_wp2_with fail
  go_ret
  exact ⟨rfl, ((Below.refl w.heap.size w).alloc (Nat.le_refl _) _).alloc (by simp) _⟩

set_option maxHeartbeats 1600000 in
theorem eqPlaceS_same (a a' : Option Addr) (n cap cap' : Nat) (ps : List Pl) (w : World) {lo hi lo' hi' : Nat} (h : Places lo hi w a n ps) (h' : Places lo' hi' w a' n ps) (hn : n ≤ 1048576) :
    Calls Tryz.prog 148 #[.slice a n cap, .slice a' n cap'] w fun e w' => e = .returned (.bool true) ∧ Below w.heap.size w w' := by
  obtain ⟨hl, hx⟩ := h
  obtain ⟨hl', hx'⟩ := h'
  have HX := hide hx
  have HX' := hide hx'
  have hsz := hx.1
  have hsz' := hx'.1
  clear hl hl' hx hx'
  go_enter Tryz.func148, Tryz.ntmps148
  go_wp2_with fail
  go_loopw [5] (fun i wr => ∃ k : Nat, k ≤ n ∧ i = .int .i64 k ∧ Below w.heap.size w wr) (fun i _ => n - (intOf i).toNat)
  case atStart => exact ⟨0, Nat.zero_le _, rfl, Below.refl _ _⟩
  case round =>
    obtain ⟨k, hk, rfl, hbel⟩ := hrel
    by_cases hlt : k < n
    · obtain ⟨b, off, rfl, _, hb, hc⟩ := HX.out.2 (by omega)
      obtain ⟨b', off', rfl, _, hb', hc'⟩ := HX'.out.2 (by omega)
      obtain ⟨c0, c1⟩ := pl_cells hc hbel (show b < w.heap.size by omega) hlt
      obtain ⟨d0, d1⟩ := pl_cells hc' hbel (show b' < w.heap.size by omega) hlt
      have HBB := hide hbel
      clear hc hc' hbel
      generalize plAt ps k = y at *
      obtain ⟨p, q⟩ := y
      go_wp2_with fail
      go_region_with (go_at_call 209; refine (eqPlace_same p q _).mono ?_; rintro e w1 ⟨rfl, b1⟩; have HB1 := hide (below_here (show Below w.heap.size w wr.drew from HBB.out.drew) b1); clear b1)
      all_goals go_wp2_with fail
      all_goals exact ⟨⟨k + 1, by omega, by go_num, HB1.out⟩, by simp [intOf]; omega⟩
    · go_wp2_with fail
      go_ret
      exact ⟨rfl, hbel⟩

end Go.Proofs.YtfabojbkhicpmaaGreatDoor
end

section
namespace Go.Proofs.YtfabojbkhicpmaaGreatDoor
open Go.RowKit
set_option linter.unusedVariables false
set_option maxRecDepth 20000

theorem five_cells {W : World} {b : Nat} {c0 c1 c2 c3 c4 : Value} {t : TypeId} {fr : Nat × Nat} (h : W.heap[b]? = some (.cells #[c0, c1, c2, c3, c4] t fr)) :
    W.cell? ⟨b, 0, none⟩ = some c0 ∧ W.cell? ⟨b, 1, none⟩ = some c1 ∧ W.cell? ⟨b, 2, none⟩ = some c2 ∧ W.cell? ⟨b, 3, none⟩ = some c3 ∧ W.cell? ⟨b, 4, none⟩ = some c4 := by
  simp [World.cell?, h]

set_option maxHeartbeats 800000 in
theorem szFtl_any (z : Int) (a : Option Addr) (n cap : Nat) (qs : List Sq) (am : Option Addr) (m cm : Nat) (op st L : Int) (w : World) {lo hi : Nat} (h : Squares lo hi w a n qs) (hhi : hi ≤ w.heap.size) (hn : n ≤ maxLen) (hfit : ∀ x ∈ qs, sqFits x) (hm : m ≤ maxLen) (hL0 : 0 ≤ L) (hL1 : L ≤ 1048576) :
    Calls Tryz.prog 66 #[.agg #[.int .i64 z, .slice a n cap, .slice am m cm, .int .i64 op, .int .i64 st], .int .i64 L] w fun e w' => Left L (n + weight qs + m) e ∧ Below w.heap.size w w' := by
  obtain ⟨wA, hwA⟩ : ∃ wA, wA = w.alloc (.cells #[.int .i64 z, .slice a n cap, .slice am m cm, .int .i64 op, .int .i64 st] 93) := ⟨_, rfl⟩
  have hzA : wA.heap.size = w.heap.size + 1 := by rw [hwA]; simp
  have HBA : Hid (Below w.heap.size w wA) := by rw [hwA]; exact (Below.refl _ _).alloc (Nat.le_refl _) _
  have H1 : Hid (wA.heap[w.heap.size]? = some (.cells #[.int .i64 z, .slice a n cap, .slice am m cm, .int .i64 op, .int .i64 st] 93)) := by rw [hwA]; exact heap_new _ _
  have HS := hide (h.later HBA.out hhi)
  have HF := hide hfit
  clear h hfit
  obtain ⟨c0, c1, c2, c3, c4⟩ := five_cells H1.out
  go_enter Tryz.func66, Tryz.ntmps66
  go_wp2_with fail
  rw [← hwA]
  clear hwA
  refine (szChip_any z a n cap qs L wA HS.out (by omega) hn HF.out hL0 hL1).mono ?_
  rintro e w1 ⟨⟨r, rfl, h1, h2, h3⟩, b1⟩
  have H3 := hide h3
  have HB1 := hide (below_here HBA.out b1)
  have K1 := hide (block_on H1.out b1)
  clear h3 b1 c0 c1 c2 c3 c4
  obtain ⟨c0, c1, c2, c3, c4⟩ := five_cells K1.out
  by_cases h0 : r < 0
  · go_wp2_with fail
    go_ret
    exact ⟨⟨-1, rfl, by omega, by omega, by omega⟩, HB1.out⟩
  · have g0 : decide (r < 0) = false := by simpa using h0
    go_wp2_with fail
    refine (szPlaceS_any am m cm r w1 hm (by omega) (by omega)).mono ?_
    rintro e w2 ⟨⟨r', rfl, h1', h2', h3'⟩, rfl⟩
    have H3' := hide h3'
    clear h3'
    by_cases h0' : r' < 0
    · go_wp2_with fail
      go_ret
      exact ⟨⟨-1, rfl, by omega, by omega, by omega⟩, HB1.out⟩
    · have g1 : decide (r' < 0) = false := by simpa using h0'
      go_wp2_with fail
      go_ret
      exact ⟨⟨r', rfl, h1', by omega, fun hh => by have e1 := H3.out (by omega); have e2 := H3'.out hh; omega⟩, HB1.out⟩

theorem five_set {W : World} {b : Nat} {c0 c1 c2 c3 c4 : Value} {t : TypeId} {fr : Nat × Nat} (h : W.heap[b]? = some (.cells #[c0, c1, c2, c3, c4] t fr)) (v0 v1 v2 v3 v4 : Value) :
    (((((W.setCell ⟨b, 0, none⟩ v0).setCell ⟨b, 1, none⟩ v1).setCell ⟨b, 2, none⟩ v2).setCell ⟨b, 3, none⟩ v3).setCell ⟨b, 4, none⟩ v4).heap[b]? = some (.cells #[v0, v1, v2, v3, v4] t fr) :=
  set_block (set_block (set_block (set_block (set_block h 0 v0 (by simp)) 1 v1 (by simp)) 2 v2 (by simp)) 3 v3 (by simp)) 4 v4 (by simp)
theorem five_aside {lo hi b : Nat} {a w : World} (h : Aside lo hi a w) (h1 : lo ≤ b) (h2 : b < hi) (v0 v1 v2 v3 v4 : Value) :
    Aside lo hi a (((((w.setCell ⟨b, 0, none⟩ v0).setCell ⟨b, 1, none⟩ v1).setCell ⟨b, 2, none⟩ v2).setCell ⟨b, 3, none⟩ v3).setCell ⟨b, 4, none⟩ v4) :=
  ((((h.setCell (p := ⟨b, 0, none⟩) h1 h2 v0).setCell (p := ⟨b, 1, none⟩) h1 h2 v1).setCell (p := ⟨b, 2, none⟩) h1 h2 v2).setCell (p := ⟨b, 3, none⟩) h1 h2 v3).setCell (p := ⟨b, 4, none⟩) h1 h2 v4

theorem Places.mk_of {lo hi n : Nat} {w w' : World} {a : Option Addr} {ps : List Pl} (h : Places lo hi w a n ps) {l r : Nat} (hb : Aside l r w w') (hB : hi ≤ l ∨ r ≤ lo) : Places lo hi w' a n ps := ⟨h.1, h.2.aside hb hB⟩
set_option maxHeartbeats 1600000 in
theorem toFtl_any (z : Int) (a : Option Addr) (n cap : Nat) (qs : List Sq) (am : Option Addr) (m cm : Nat) (ps : List Pl) (op st : Int) (w : World) {lo hi lo' hi' : Nat} (h : Squares lo hi w a n qs) (hhi : hi ≤ w.heap.size) (hfit : n + weight qs ≤ 1048576) (hp : Places lo' hi' w am m ps) (hhi' : hi' ≤ w.heap.size) (hm : m ≤ 1048576) :
    Calls Tryz.prog 67 #[.agg #[.int .i64 z, .slice a n cap, .slice am m cm, .int .i64 op, .int .i64 st]] w fun e w' => ∃ a' am' mid, e = .returned (.agg #[.int .i64 z, .slice a' n n, .slice am' m m, .int .i64 op, .int .i64 st]) ∧ w.heap.size ≤ mid ∧ mid ≤ w'.heap.size ∧ OwnSquares w.heap.size mid w' a' n qs ∧ OwnPlaces mid w'.heap.size w' am' m ps ∧ Below w.heap.size w w' := by
  obtain ⟨wA, hwA⟩ : ∃ wA, wA = ((w.alloc (.cells #[.int .i64 z, .slice a n cap, .slice am m cm, .int .i64 op, .int .i64 st] 93)).alloc (.cells #[.int .i64 0, .slice none 0 0, .slice none 0 0, .int .i64 0, .int .i64 0] 29)).alloc (.cells #[.int .i64 0, .slice none 0 0, .slice none 0 0, .int .i64 0, .int .i64 0] 29) := ⟨_, rfl⟩
  have hzA : wA.heap.size = w.heap.size + 1 + 1 + 1 := by rw [hwA]; simp
  have HBA : Hid (Below w.heap.size w wA) := by rw [hwA]; exact ((((Below.refl _ _).alloc (Nat.le_refl _) _).alloc (by simp) _).alloc (by simp; omega) _)
  have H0 : Hid (wA.heap[w.heap.size]? = some (.cells #[.int .i64 z, .slice a n cap, .slice am m cm, .int .i64 op, .int .i64 st] 93)) := by rw [hwA]; exact heap_old (heap_old (heap_new _ _))
  have H1 : Hid (wA.heap[w.heap.size + 1]? = some (.cells #[.int .i64 0, .slice none 0 0, .slice none 0 0, .int .i64 0, .int .i64 0] 29)) := by rw [hwA]; exact heap_old (heap_at (by simp))
  have H2 : Hid (wA.heap[w.heap.size + 1 + 1]? = some (.cells #[.int .i64 0, .slice none 0 0, .slice none 0 0, .int .i64 0, .int .i64 0] 29)) := by rw [hwA]; exact heap_at (by simp)
  have HTA := hide (h.later HBA.out hhi)
  have HPA := hide (hp.later HBA.out hhi')
  clear h hp
  obtain ⟨c0, c1, c2, c3, c4⟩ := five_cells H0.out
  go_enter Tryz.func67, Tryz.ntmps67
  go_wp2_with fail
  rw [← hwA]
  clear hwA
  refine (toChip_any z a n cap qs wA HTA.out (by omega) hfit).mono ?_
  rintro e w1 ⟨p, rfl, hown, b1⟩
  have K0 := hide (block_on H0.out b1)
  have K1 := hide (block_on H1.out b1)
  have K2 := hide (block_on H2.out b1)
  have hs1 := b1.size
  have HB1 := hide (below_here HBA.out b1)
  have HP1 := hide (HPA.out.later b1 (by omega))
  have HOW := hide hown
  clear hown b1 H0 H1 H2 HTA HPA c0 c1 c2 c3 c4
  obtain ⟨wB, hwB⟩ : ∃ wB, wB = (w1.setCell ⟨w.heap.size + 1 + 1, 0, none⟩ (.int .i64 z)).setCell ⟨w.heap.size + 1 + 1, 1, none⟩ (.slice p n n) := ⟨_, rfl⟩
  have HAB : Hid (Aside (w.heap.size + 2) (w.heap.size + 3) w1 wB) := by rw [hwB]; exact two_aside (Aside.refl _ _ w1) (by omega) (by omega) _ _
  have hzB : wB.heap.size = w1.heap.size := by rw [hwB, Go.Deep.nblk_setCell, Go.Deep.nblk_setCell]
  have B0 : Hid (wB.heap[w.heap.size]? = some (.cells #[.int .i64 z, .slice a n cap, .slice am m cm, .int .i64 op, .int .i64 st] 93)) := (HAB.out.block _ (by omega) (.inl (by omega))).trans K0.out
  have B1 : Hid (wB.heap[w.heap.size + 1]? = some (.cells #[.int .i64 0, .slice none 0 0, .slice none 0 0, .int .i64 0, .int .i64 0] 29)) := (HAB.out.block _ (by omega) (.inl (by omega))).trans K1.out
  have B2 : Hid (wB.heap[w.heap.size + 1 + 1]? = some (.cells #[.int .i64 z, .slice p n n, .slice none 0 0, .int .i64 0, .int .i64 0] 29)) := by rw [hwB]; exact set_block (set_block K2.out 0 (.int .i64 z) (by simp)) 1 (.slice p n n) (by simp)
  have HPB := hide (Places.mk_of HP1.out HAB.out (.inl (by omega)))
  have HOB := hide (HOW.out.aside HAB.out (.inl (by omega)))
  have HBB := hide (HB1.out.trans (HAB.out.below (B := w.heap.size) (by omega) (by omega)))
  obtain ⟨c0, c1, c2, c3, c4⟩ := five_cells B0.out
  obtain ⟨d0, d1, d2, d3, d4⟩ := five_cells K2.out
  have f0 := four_frozen K2.out 0
  have f1 := four_frozen K2.out 1
  rw [hwB] at c2
  go_wp2_with fail
  rw [← hwB]
  clear hwB c0 c1 c2 c3 c4 d0 d1 d2 d3 d4 f0 f1 K0 K1 K2
  refine (toPlaceS_any am m cm ps wB HPB.out hm).mono ?_
  rintro e w2 ⟨pm, rfl, hpo, b2⟩
  have E0 := hide (block_on B0.out b2)
  have E1 := hide (block_on B1.out b2)
  have E2 := hide (block_on B2.out b2)
  have hs2 := b2.size
  have HB2 := hide (below_here HBB.out b2)
  have HO2 := hide (HOB.out.later b2 (by omega))
  have HP2 := hide hpo
  have hp2 := hpo.2.1
  clear b2 hpo B0 B1 B2 HBB HOB HPB HAB HOW HP1 HB1
  obtain ⟨c0, c1, c2, c3, c4⟩ := five_cells E0.out
  obtain ⟨d0, d1, d2, d3, d4⟩ := five_cells E1.out
  obtain ⟨e0, e1, e2, e3, e4⟩ := five_cells E2.out
  have f0 := four_frozen E1.out 0
  have f1 := four_frozen E1.out 1
  have f2 := four_frozen E1.out 2
  have f3 := four_frozen E1.out 3
  have f4 := four_frozen E1.out 4
  have g2 := four_frozen E2.out 2
  have g3 := four_frozen E2.out 3
  have g4 := four_frozen E2.out 4
  have HA1 := hide ((((Aside.refl (w.heap.size + 1) (w.heap.size + 3) w2).setCell (p := ⟨w.heap.size + 1 + 1, 2, none⟩) (by simp <;> omega) (by simp) (.slice pm m m)).setCell (p := ⟨w.heap.size + 1 + 1, 3, none⟩) (by simp <;> omega) (by simp) (.int .i64 op)).setCell (p := ⟨w.heap.size + 1 + 1, 4, none⟩) (by simp <;> omega) (by simp) (.int .i64 st))
  have HAS := hide (five_aside (b := w.heap.size + 1) HA1.out (by omega) (by omega) (.int .i64 z) (.slice p n n) (.slice pm m m) (.int .i64 op) (.int .i64 st))
  have HRS := hide (five_set (set_other (o := 4) (set_other (o := 3) (set_other (o := 2) E1.out (show w.heap.size + 1 + 1 ≠ w.heap.size + 1 by omega) (.slice pm m m)) (show w.heap.size + 1 + 1 ≠ w.heap.size + 1 by omega) (.int .i64 op)) (show w.heap.size + 1 + 1 ≠ w.heap.size + 1 by omega) (.int .i64 st)) (.int .i64 z) (.slice p n n) (.slice pm m m) (.int .i64 op) (.int .i64 st))
  go_wp2_with fail
  have hsz := HAS.out.size
  refine bodyPost_ret (results_cell rfl rfl (run_loadVar_row _ _ _ _ _ _ _ HRS.out Tryz.underlying29 rfl (by kernel_rfl))) rfl ⟨p, pm, wB.heap.size, rfl, by omega, by omega, (HO2.out.aside HAS.out (.inl (by omega))).wide (by omega) (by omega) (by omega), ?_, HB2.out.trans (HAS.out.below (by omega) (by omega))⟩
  have h9 := HP2.out.aside HAS.out (.inr (by omega))
  exact ⟨h9.1, by omega, fun hn9 => by obtain ⟨b, off, x1, x2, x3, x4⟩ := h9.2.2 hn9; exact ⟨b, off, x1, x2, by omega, x4⟩⟩

set_option maxHeartbeats 1600000 in
theorem eqFtl_same (z : Int) (a b : Option Addr) (n ca cb : Nat) (qs : List Sq) (am bm : Option Addr) (m cam cbm : Nat) (ps : List Pl) (op st : Int) (w : World) {lo hi lo' hi' lp rp lp' rp' : Nat} (h : Squares lo hi w a n qs) (h' : Squares lo' hi' w b n qs) (hhi : hi ≤ w.heap.size) (hhi' : hi' ≤ w.heap.size) (hfit : n + weight qs ≤ 1048576) (hp : Places lp rp w am m ps) (hp' : Places lp' rp' w bm m ps) (hrp : rp ≤ w.heap.size) (hrp' : rp' ≤ w.heap.size) (hm : m ≤ 1048576) :
    Calls Tryz.prog 68 #[.agg #[.int .i64 z, .slice a n ca, .slice am m cam, .int .i64 op, .int .i64 st], .agg #[.int .i64 z, .slice b n cb, .slice bm m cbm, .int .i64 op, .int .i64 st]] w fun e w' => e = .returned (.bool true) ∧ Below w.heap.size w w' := by
  obtain ⟨wA, hwA⟩ : ∃ wA, wA = (w.alloc (.cells #[.int .i64 z, .slice a n ca, .slice am m cam, .int .i64 op, .int .i64 st] 29)).alloc (.cells #[.int .i64 z, .slice b n cb, .slice bm m cbm, .int .i64 op, .int .i64 st] 29) := ⟨_, rfl⟩
  have hzA : wA.heap.size = w.heap.size + 1 + 1 := by rw [hwA]; simp
  have HBA : Hid (Below w.heap.size w wA) := by rw [hwA]; exact ((Below.refl _ _).alloc (Nat.le_refl _) _).alloc (by simp) _
  have H0 : Hid (wA.heap[w.heap.size]? = some (.cells #[.int .i64 z, .slice a n ca, .slice am m cam, .int .i64 op, .int .i64 st] 29)) := by rw [hwA]; exact heap_old (heap_new _ _)
  have H1 : Hid (wA.heap[w.heap.size + 1]? = some (.cells #[.int .i64 z, .slice b n cb, .slice bm m cbm, .int .i64 op, .int .i64 st] 29)) := by rw [hwA]; exact heap_at (by simp)
  have HS := hide (h.later HBA.out hhi)
  have HS' := hide (h'.later HBA.out hhi')
  have HP := hide (hp.later HBA.out hrp)
  have HP' := hide (hp'.later HBA.out hrp')
  clear h h' hp hp'
  obtain ⟨c0, c1, c2, c3, c4⟩ := five_cells H0.out
  obtain ⟨d0, d1, d2, d3, d4⟩ := five_cells H1.out
  go_enter Tryz.func68, Tryz.ntmps68
  go_wp2_with fail
  rw [← hwA]
  clear hwA
  refine (eqChip_same z a b n ca cb qs wA HS.out HS'.out (by omega) (by omega) hfit).mono ?_
  rintro e w1 ⟨rfl, b1⟩
  have K0 := hide (block_on H0.out b1)
  have K1 := hide (block_on H1.out b1)
  have Q0 := hide (HP.out.later b1 (by omega))
  have Q1 := hide (HP'.out.later b1 (by omega))
  have HB1 := hide (below_here HBA.out b1)
  clear b1 c0 c1 c2 c3 c4 d0 d1 d2 d3 d4 H0 H1
  obtain ⟨c0, c1, c2, c3, c4⟩ := five_cells K0.out
  obtain ⟨d0, d1, d2, d3, d4⟩ := five_cells K1.out
  go_wp2_with fail
  refine (eqPlaceS_same am bm m cam cbm ps w1 Q0.out Q1.out hm).mono ?_
  rintro e w2 ⟨rfl, b2⟩
  have E0 := hide (block_on K0.out b2)
  have E1 := hide (block_on K1.out b2)
  have HB2 := hide (below_here HB1.out b2)
  clear b2 c0 c1 c2 c3 c4 d0 d1 d2 d3 d4 K0 K1
  obtain ⟨c0, c1, c2, c3, c4⟩ := five_cells E0.out
  obtain ⟨d0, d1, d2, d3, d4⟩ := five_cells E1.out
  go_wp2_with fail
  go_ret
  exact ⟨rfl, HB2.out⟩
end Go.Proofs.YtfabojbkhicpmaaGreatDoor
end

