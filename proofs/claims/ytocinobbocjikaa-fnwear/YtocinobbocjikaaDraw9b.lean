/- Chapter 9's draws: a chip, a map and a number. -/
import Derived.Test.YtocinobbocjikaaDraw9
import Derived.Test.YtocinobbocjikaaJDraw8g
import Derived.Test.YtocinobbocjikaaJLawBase
import Derived.Deep.RegionWith
import Derived.Deep.RegionHeld3
namespace Go.Proofs.Ytocinobbocjikaa
open Go.RowKit
set_option linter.unusedVariables false
set_option linter.unusedSimpArgs false
set_option maxRecDepth 20000

/-- A chip drawn of a code. -/
def ChipOf (w : World) (e : Ending) (w' : World) : Prop := ∃ (z : Int) (a : Option Addr) (n c : Nat) (qs : List Sq), e = .returned (.agg #[.int .i64 z, .slice a n c]) ∧ n ≤ 13 ∧ n ≤ c ∧ (∀ x ∈ qs, sqFits x) ∧ (∀ x ∈ qs, x.1.length ≤ 9) ∧ Squares w.heap.size w'.heap.size w' a n qs ∧ Below w.heap.size w w'
theorem Squares.wideLo {lo lo' hi n : Nat} {w : World} {a : Option Addr} {qs : List Sq} (h : Squares lo hi w a n qs) (h1 : lo' ≤ lo) (h2 : hi ≤ w.heap.size) : Squares lo' w.heap.size w a n qs := by
  obtain ⟨hl, A, C, hx, ht⟩ := h
  exact ⟨hl, A, C, reads_wide hx h1 h2 (Nat.le_refl _), fun i hi => ⟨(ht i hi).1, reads_wide (ht i hi).2 h1 h2 (Nat.le_refl _)⟩⟩

set_option maxHeartbeats 1600000 in
theorem drawChipOk_any (hd : JobDraws) (a : Option Addr) (n cap : Nat) (l : List UInt8) (w : World) {lo hi : Nat} (hB : Bytes lo hi w a n l) (hhi : hi ≤ w.heap.size) (hn : n ≤ 4096) :
    Calls Try.prog 29 #[.slice a n cap] w (ChipOf w) := by
  obtain ⟨wA, hwA⟩ : ∃ wA, wA = w.alloc (.cells #[.int .i64 0, .slice none 0 0] 26) := ⟨_, rfl⟩
  have hzA : wA.heap.size = w.heap.size + 1 := by rw [hwA]; simp
  have HBA : Hid (Below w.heap.size w wA) := by rw [hwA]; exact (Below.refl _ _).alloc (Nat.le_refl _) _
  have H1 : Hid (wA.heap[w.heap.size]? = some (.cells #[.int .i64 0, .slice none 0 0] 26)) := by rw [hwA]; exact heap_new _ _
  have HB := hide (hB.later HBA.out hhi)
  clear hB
  go_enter Try.func29, Try.ntmps29
  go_wp2_with fail
  rw [← hwA]
  clear hwA
  refine (l1New_any a n cap l wA HB.out hn).mono ?_
  rintro e w1 ⟨p, rfl, hp, c1, b1⟩
  have h1 := hide (block_on H1.out b1)
  have HB1 := hide (below_here HBA.out b1)
  have hs1 := b1.size
  have hpl := c1.lt
  clear b1 H1 HBA HB
  go_wp2_with fail
  refine (l8DrawAny_any hd p w1 c1).mono ?_
  rintro e w2 ⟨z, a2, n2, c2, qs, rfl, hn2, hc2, hf, hl, hsq, hcu, has⟩
  have h2 := hide (has.block w.heap.size (by omega) (.inl (by omega)) |>.trans h1.out)
  have HSQ := hide hsq
  have HB2 := hide (HB1.out.trans (has.below (B := w.heap.size) (by omega) (by omega)))
  have hs2 := has.size
  clear has hcu hsq h1 HB1
  obtain ⟨k0, k1⟩ := two_cells h2.out
  have f0 := four_frozen h2.out 0
  have f1 := four_frozen h2.out 1
  have HS3 := hide (two_set h2.out (.int .i64 z) (.slice a2 n2 c2))
  have HA3 := hide (two_aside (b := w.heap.size) (Aside.refl w.heap.size (w.heap.size + 1) w2) (Nat.le_refl _) (Nat.lt_succ_self _) (.int .i64 z) (.slice a2 n2 c2))
  go_wp2_with fail
  refine bodyPost_ret (results_cell rfl rfl (run_loadVar_row _ _ _ _ _ _ _ HS3.out Try.underlying26 rfl (by kernel_rfl))) rfl ⟨z, a2, n2, c2, qs, rfl, hn2, hc2, hf, hl, ?_, HB2.out.trans (HA3.out.below (Nat.le_refl _) (by omega))⟩
  have hz3 : ((w2.setCell ⟨w.heap.size, 0, none⟩ (.int .i64 z)).setCell ⟨w.heap.size, 1, none⟩ (.slice a2 n2 c2)).heap.size = w2.heap.size := by rw [Go.Deep.nblk_setCell, Go.Deep.nblk_setCell]
  exact (HSQ.out.aside HA3.out (.inr (by omega))).wideLo (by omega) (by rw [hz3]; exact Nat.le_refl _)
set_option maxHeartbeats 1600000 in
theorem drawEmpty_any (hd : JobDraws) (a : Option Addr) (n cap : Nat) (l : List UInt8) (w : World) {lo hi : Nat} (hB : Bytes lo hi w a n l) (hhi : hi ≤ w.heap.size) (hn : n ≤ 4096) :
    Calls Try.prog 8 #[.slice a n cap] w (ChipOf w) := by
  obtain ⟨wA, hwA⟩ : ∃ wA, wA = w.alloc (.cells #[.int .i64 0, .slice none 0 0] 26) := ⟨_, rfl⟩
  have hzA : wA.heap.size = w.heap.size + 1 := by rw [hwA]; simp
  have HBA : Hid (Below w.heap.size w wA) := by rw [hwA]; exact (Below.refl _ _).alloc (Nat.le_refl _) _
  have H1 : Hid (wA.heap[w.heap.size]? = some (.cells #[.int .i64 0, .slice none 0 0] 26)) := by rw [hwA]; exact heap_new _ _
  have HB := hide (hB.later HBA.out hhi)
  clear hB
  go_enter Try.func8, Try.ntmps8
  go_wp2_with fail
  rw [← hwA]
  clear hwA
  refine (drawChipOk_any hd a n cap l wA HB.out (by omega) hn).mono ?_
  rintro e w2 ⟨z, a2, n2, c2, qs, rfl, hn2, hc2, hf, hl, hsq, b2⟩
  have h2 := hide (block_on H1.out b2)
  have HSQ := hide hsq
  have HB2 := hide (below_here HBA.out b2)
  have hs2 := b2.size
  clear b2 hsq H1 HBA
  obtain ⟨k0, k1⟩ := two_cells h2.out
  have f0 := four_frozen h2.out 0
  have f1 := four_frozen h2.out 1
  have HS3 := hide (two_set h2.out (.int .i64 z) (.slice a2 n2 c2))
  have HA3 := hide (two_aside (b := w.heap.size) (Aside.refl w.heap.size (w.heap.size + 1) w2) (Nat.le_refl _) (Nat.lt_succ_self _) (.int .i64 z) (.slice a2 n2 c2))
  go_wp2_with fail
  refine bodyPost_ret (results_cell rfl rfl (run_loadVar_row _ _ _ _ _ _ _ HS3.out Try.underlying26 rfl (by kernel_rfl))) rfl ⟨z, a2, n2, c2, qs, rfl, hn2, hc2, hf, hl, ?_, HB2.out.trans (HA3.out.below (Nat.le_refl _) (by omega))⟩
  have hz3 : ((w2.setCell ⟨w.heap.size, 0, none⟩ (.int .i64 z)).setCell ⟨w.heap.size, 1, none⟩ (.slice a2 n2 c2)).heap.size = w2.heap.size := by rw [Go.Deep.nblk_setCell, Go.Deep.nblk_setCell]
  exact (HSQ.out.aside HA3.out (.inr (by omega))).wideLo (by omega) (by rw [hz3]; exact Nat.le_refl _)

/-- What was drawn: a chip, a map. -/
structure Drawn9 (B : Nat) (w : World) (a : Option Addr) (n c : Nat) (qs : List Sq) (am : Option Addr) (m cm : Nat) (ps : List Pl) : Prop where
  n13 : n ≤ 13
  nc : n ≤ c
  fits : ∀ x ∈ qs, sqFits x
  len9 : ∀ x ∈ qs, x.1.length ≤ 9
  sq : Squares B w.heap.size w a n qs
  m200 : m ≤ 200
  mc : m ≤ cm
  pl : Places B w.heap.size w am m ps
theorem Places.asideP {lo hi n : Nat} {w w' : World} {a : Option Addr} {ps : List Pl} (h : Places lo hi w a n ps) {l r : Nat} (hb : Aside l r w w') (hB : hi ≤ l ∨ r ≤ lo) : Places lo hi w' a n ps := ⟨h.1, h.2.aside hb hB⟩
theorem Places.wide2 {lo lo' hi n : Nat} {w : World} {a : Option Addr} {ps : List Pl} (h : Places lo hi w a n ps) (h1 : lo' ≤ lo) (h2 : hi ≤ w.heap.size) : Places lo' w.heap.size w a n ps := ⟨h.1, reads_wide h.2 h1 h2 (Nat.le_refl _)⟩
theorem Drawn9.set {B : Nat} {w w' : World} {a : Option Addr} {n c : Nat} {qs : List Sq} {am : Option Addr} {m cm : Nat} {ps : List Pl} (h : Drawn9 B w a n c qs am m cm ps) {l r B' : Nat} (hb : Aside l r w w') (hr : r ≤ B) (h1 : B' ≤ B) : Drawn9 B' w' a n c qs am m cm ps :=
  ⟨h.n13, h.nc, h.fits, h.len9, (h.sq.aside hb (.inr hr)).wideLo h1 hb.size, h.m200, h.mc, (h.pl.asideP hb (.inr hr)).wide2 h1 hb.size⟩
theorem Drawn9.later {B : Nat} {w w' : World} {a : Option Addr} {n c : Nat} {qs : List Sq} {am : Option Addr} {m cm : Nat} {ps : List Pl} (h : Drawn9 B w a n c qs am m cm ps) (hb : Below w.heap.size w w') : Drawn9 B w' a n c qs am m cm ps :=
  ⟨h.n13, h.nc, h.fits, h.len9, (h.sq.later hb (Nat.le_refl _)).wideLo (Nat.le_refl _) hb.size, h.m200, h.mc, (h.pl.later hb (Nat.le_refl _)).wide2 (Nat.le_refl _) hb.size⟩

set_option maxHeartbeats 3200000 in
theorem drawMapOk_any (hd : JobDraws) (a : Option Addr) (n cap : Nat) (l : List UInt8) (w : World) {lo hi : Nat} (hB : Bytes lo hi w a n l) (hhi : hi ≤ w.heap.size) (hn : n ≤ 4096) :
    Calls Try.prog 32 #[.slice a n cap] w fun e w' => ∃ (z : Int) (a2 : Option Addr) (n2 c2 : Nat) (qs : List Sq) (am : Option Addr) (m cm : Nat) (ps : List Pl), e = .returned (.tuple #[.agg #[.int .i64 z, .slice a2 n2 c2], .slice am m cm]) ∧ Drawn9 w.heap.size w' a2 n2 c2 qs am m cm ps ∧ Below w.heap.size w w' := by
  obtain ⟨wA, hwA⟩ : ∃ wA, wA = w.alloc (.cells #[.int .i64 0, .slice none 0 0] 26) := ⟨_, rfl⟩
  have hzA : wA.heap.size = w.heap.size + 1 := by rw [hwA]; simp
  have HBA : Hid (Below w.heap.size w wA) := by rw [hwA]; exact (Below.refl _ _).alloc (Nat.le_refl _) _
  have H1 : Hid (wA.heap[w.heap.size]? = some (.cells #[.int .i64 0, .slice none 0 0] 26)) := by rw [hwA]; exact heap_new _ _
  have HB := hide (hB.later HBA.out hhi)
  clear hB
  go_enter Try.func32, Try.ntmps32
  go_wp2_with fail
  rw [← hwA]
  clear hwA
  refine (l1New_any a n cap l wA HB.out hn).mono ?_
  rintro e w1 ⟨p, rfl, hp, c1, b1⟩
  have h1 := hide (block_on H1.out b1)
  have HB1 := hide (below_here HBA.out b1)
  have hs1 := b1.size
  have hpl := c1.lt
  clear b1 H1 HBA HB
  go_wp2_with fail
  refine (l8DrawAny_any hd p w1 c1).mono ?_
  rintro e w2 ⟨z, a2, n2, c2, qs, rfl, hn2, hc2, hf, hl, hsq, hcu, has⟩
  have hs2 := has.size
  have h2 := hide ((has.block w.heap.size (by omega) (.inl (by omega))).trans h1.out)
  have HB2 := hide (HB1.out.trans (has.below (B := w.heap.size) (by omega) (by omega)))
  obtain ⟨wB, hwB⟩ : ∃ wB, wB = w2.alloc (.cells #[.int .i64 z, .slice a2 n2 c2] 26) := ⟨_, rfl⟩
  have hzB : wB.heap.size = w2.heap.size + 1 := by rw [hwB]; simp
  have HSB : Hid (Squares w1.heap.size w2.heap.size wB a2 n2 qs) := by rw [hwB]; exact hsq.later ((Below.refl _ _).alloc (Nat.le_refl _) _) (Nat.le_refl _)
  have HKB : Hid (wB.heap[w2.heap.size]? = some (.cells #[.int .i64 z, .slice a2 n2 c2] 26)) := by rw [hwB]; exact heap_new _ _
  have HRB : Hid (wB.heap[w.heap.size]? = some (.cells #[.int .i64 0, .slice none 0 0] 26)) := by rw [hwB]; exact heap_old h2.out
  have HCB : Hid (Cur wB p) := by rw [hwB]; exact hcu.alloc _
  have HBB : Hid (Below w.heap.size w wB) := by rw [hwB]; exact HB2.out.alloc (by omega) _
  have HF := hide hf
  have HL9 := hide hl
  clear has hcu hsq h1 h2 HB1 HB2 c1 hf hl
  obtain ⟨k0, k1⟩ := two_cells HKB.out
  go_upto_region 3 with fail
  rw [← hwB]
  clear hwB
  have HCd : Hid (Cur wB.drew p) := HCB.out
  have HSd : Hid (Squares w1.heap.size w2.heap.size wB.drew a2 n2 qs) := HSB.out
  go_region_with (first
    | (go_at_call 60; refine (l9DrawMap_any p z a2 n2 c2 qs _ (by exact HCd.out) (by exact HSd.out) hpl (by show w2.heap.size ≤ wB.heap.size; omega) hn2 HL9.out).mono ?_; rintro e w8 ⟨am, m, cm, ps, rfl, hmc, hm2, hpp, hc8, s8⟩; have s9 : Aside p (p + 1) wB w8 := ⟨s8.os, s8.tape, s8.output, s8.size, s8.block⟩; have HK8 := hide (aside_block s9 HKB.out (by omega)); have HR8 := hide ((s9.block w.heap.size (by omega) (.inl (by omega))).trans HRB.out); have hP8 : Places wB.heap.size w8.heap.size w8 am m ps := hpp; have HPP := hide hP8; have hs8 := s9.size; have HS8 := hide (HSB.out.aside s9 (.inr (by omega))); have HB8 := hide (HBB.out.trans (s9.below (B := w.heap.size) (by omega) (by omega))); clear s8 s9 hpp hP8 hc8; obtain ⟨e0, e1⟩ := two_cells HK8.out; obtain ⟨z0, z1⟩ := two_cells HR8.out; have f0 := four_frozen HR8.out 0; have f1 := four_frozen HR8.out 1))
  all_goals
    have HS9 := hide (two_set HR8.out (.int .i64 z) (.slice a2 n2 c2))
    have HA9 := hide (two_aside (b := w.heap.size) (Aside.refl w.heap.size (w.heap.size + 1) w8) (Nat.le_refl _) (Nat.lt_succ_self _) (.int .i64 z) (.slice a2 n2 c2))
    have HD8 : Hid (Drawn9 (w.heap.size + 1) w8 a2 n2 c2 qs am m cm ps) := ⟨hn2, hc2, HF.out, HL9.out, HS8.out.wideLo (by omega) (by omega), hm2, hmc, HPP.out.wide2 (by omega) (Nat.le_refl _)⟩
    go_wp2_with fail
    refine bodyPost_ret (results_ct rfl rfl (run_loadVar_row _ _ _ _ _ _ _ HS9.out Try.underlying26 rfl (by kernel_rfl))) rfl ⟨z, a2, n2, c2, qs, am, m, cm, ps, rfl, HD8.out.set HA9.out (Nat.le_refl _) (by omega), HB8.out.trans (HA9.out.below (Nat.le_refl _) (by omega))⟩

/-- A chip, a map and a number, drawn of a code. -/
def LiveOf (w : World) (e : Ending) (w' : World) : Prop := ∃ (z : Int) (a2 : Option Addr) (n2 c2 : Nat) (qs : List Sq) (am : Option Addr) (m cm : Nat) (ps : List Pl) (x : Int), e = .returned (.tuple #[.agg #[.int .i64 z, .slice a2 n2 c2], .slice am m cm, .int .i64 x]) ∧ Drawn9 w.heap.size w' a2 n2 c2 qs am m cm ps ∧ Below w.heap.size w w'

set_option maxHeartbeats 3200000 in
theorem drawLive_any (hd : JobDraws) (a : Option Addr) (n cap : Nat) (l : List UInt8) (w : World) {lo hi : Nat} (hB : Bytes lo hi w a n l) (hhi : hi ≤ w.heap.size) (hn : n ≤ 4096) :
    Calls Try.prog 10 #[.slice a n cap] w (LiveOf w) := by
  obtain ⟨wA, hwA⟩ : ∃ wA, wA = w.alloc (.cells #[.int .i64 0, .slice none 0 0] 26) := ⟨_, rfl⟩
  have hzA : wA.heap.size = w.heap.size + 1 := by rw [hwA]; simp
  have HBA : Hid (Below w.heap.size w wA) := by rw [hwA]; exact (Below.refl _ _).alloc (Nat.le_refl _) _
  have H1 : Hid (wA.heap[w.heap.size]? = some (.cells #[.int .i64 0, .slice none 0 0] 26)) := by rw [hwA]; exact heap_new _ _
  have HB := hide (hB.later HBA.out hhi)
  clear hB
  go_enter Try.func10, Try.ntmps10
  go_wp2_with fail
  rw [← hwA]
  clear hwA
  refine (l1New_any a n cap l wA HB.out hn).mono ?_
  rintro e w1 ⟨p, rfl, hp, c1, b1⟩
  have h1 := hide (block_on H1.out b1)
  have HB1 := hide (below_here HBA.out b1)
  have HBy := hide (HB.out.later b1 (by omega))
  have hs1 := b1.size
  have hpl := c1.lt
  clear b1 H1 HBA HB
  go_wp2_with fail
  refine (drawMapOk_any hd a n cap l w1 HBy.out (by omega) hn).mono ?_
  rintro e w2 ⟨z, a2, n2, c2, qs, am, m, cm, ps, rfl, hD, b2⟩
  have h2 := hide (block_on h1.out b2)
  have hs2 := b2.size
  obtain ⟨wB, hwB⟩ : ∃ wB, wB = w2.alloc (.cells #[.int .i64 z, .slice a2 n2 c2] 26) := ⟨_, rfl⟩
  have hzB : wB.heap.size = w2.heap.size + 1 := by rw [hwB]; simp
  have HDB : Hid (Drawn9 w1.heap.size wB a2 n2 c2 qs am m cm ps) := by rw [hwB]; exact hD.later ((Below.refl _ _).alloc (Nat.le_refl _) _)
  have HKB : Hid (wB.heap[w2.heap.size]? = some (.cells #[.int .i64 z, .slice a2 n2 c2] 26)) := by rw [hwB]; exact heap_new _ _
  have HRB : Hid (wB.heap[w.heap.size]? = some (.cells #[.int .i64 0, .slice none 0 0] 26)) := by rw [hwB]; exact heap_old h2.out
  have HCB : Hid (Cur wB p) := by rw [hwB]; exact (c1.below b2 c1.lt).alloc _
  have HBB : Hid (Below w.heap.size w wB) := by rw [hwB]; exact (below_here HB1.out b2).alloc (by omega) _
  clear hD b2 h1 h2 HB1 c1 HBy
  obtain ⟨k0, k1⟩ := two_cells HKB.out
  go_upto_region 3 with fail
  rw [← hwB]
  clear hwB
  have HCd : Hid (Cur wB.drew p) := HCB.out
  go_region_with (first
    | (go_at_call 33; refine (l1From_any p (-1) 6 _ (by exact HCd.out) (by omega) (by omega) (by omega) (by omega)).mono ?_; rintro e w8 ⟨x, rfl, _, _, hc8, s8⟩; have s9 : Aside p (p + 1) wB w8 := ⟨s8.os, s8.tape, s8.output, s8.size, s8.block⟩; have HK8 := hide (aside_block s9 HKB.out (by omega)); have HR8 := hide ((s9.block w.heap.size (by omega) (.inl (by omega))).trans HRB.out); have hs8 := s9.size; have HD8 := hide (HDB.out.set s9 (by omega) (show w.heap.size + 1 ≤ w1.heap.size by omega)); have HB8 := hide (HBB.out.trans (s9.below (B := w.heap.size) (by omega) (by omega))); clear s8 s9 hc8; obtain ⟨e0, e1⟩ := two_cells HK8.out; obtain ⟨z0, z1⟩ := two_cells HR8.out; have f0 := four_frozen HR8.out 0; have f1 := four_frozen HR8.out 1))
  all_goals
    have HS9 := hide (two_set HR8.out (.int .i64 z) (.slice a2 n2 c2))
    have HA9 := hide (two_aside (b := w.heap.size) (Aside.refl w.heap.size (w.heap.size + 1) w8) (Nat.le_refl _) (Nat.lt_succ_self _) (.int .i64 z) (.slice a2 n2 c2))
    go_wp2_with fail
    refine bodyPost_ret (results_ctt rfl rfl (run_loadVar_row _ _ _ _ _ _ _ HS9.out Try.underlying26 rfl (by kernel_rfl))) rfl ⟨z, a2, n2, c2, qs, am, m, cm, ps, x, rfl, HD8.out.set HA9.out (Nat.le_refl _) (by omega), HB8.out.trans (HA9.out.below (Nat.le_refl _) (by omega))⟩

set_option maxHeartbeats 1600000 in
theorem drawVictim_any (hd : JobDraws) (a : Option Addr) (n cap : Nat) (l : List UInt8) (w : World) {lo hi : Nat} (hB : Bytes lo hi w a n l) (hhi : hi ≤ w.heap.size) (hn : n ≤ 4096) :
    Calls Try.prog 6 #[.slice a n cap] w (LiveOf w) := by
  obtain ⟨wA, hwA⟩ : ∃ wA, wA = w.alloc (.cells #[.int .i64 0, .slice none 0 0] 26) := ⟨_, rfl⟩
  have hzA : wA.heap.size = w.heap.size + 1 := by rw [hwA]; simp
  have HBA : Hid (Below w.heap.size w wA) := by rw [hwA]; exact (Below.refl _ _).alloc (Nat.le_refl _) _
  have H1 : Hid (wA.heap[w.heap.size]? = some (.cells #[.int .i64 0, .slice none 0 0] 26)) := by rw [hwA]; exact heap_new _ _
  have HB := hide (hB.later HBA.out hhi)
  clear hB
  go_enter Try.func6, Try.ntmps6
  go_wp2_with fail
  rw [← hwA]
  clear hwA
  refine (drawLive_any hd a n cap l wA HB.out (by omega) hn).mono ?_
  rintro e w2 ⟨z, a2, n2, c2, qs, am, m, cm, ps, x, rfl, hD, b2⟩
  have h2 := hide (block_on H1.out b2)
  have HD2 := hide hD
  have HB2 := hide (below_here HBA.out b2)
  have hs2 := b2.size
  clear b2 hD H1 HBA
  obtain ⟨k0, k1⟩ := two_cells h2.out
  have f0 := four_frozen h2.out 0
  have f1 := four_frozen h2.out 1
  have HS3 := hide (two_set h2.out (.int .i64 z) (.slice a2 n2 c2))
  have HA3 := hide (two_aside (b := w.heap.size) (Aside.refl w.heap.size (w.heap.size + 1) w2) (Nat.le_refl _) (Nat.lt_succ_self _) (.int .i64 z) (.slice a2 n2 c2))
  go_wp2_with fail
  refine bodyPost_ret (results_ctt rfl rfl (run_loadVar_row _ _ _ _ _ _ _ HS3.out Try.underlying26 rfl (by kernel_rfl))) rfl ⟨z, a2, n2, c2, qs, am, m, cm, ps, x, rfl, HD2.out.set HA3.out (by omega) (by omega), HB2.out.trans (HA3.out.below (Nat.le_refl _) (by omega))⟩
end Go.Proofs.Ytocinobbocjikaa
