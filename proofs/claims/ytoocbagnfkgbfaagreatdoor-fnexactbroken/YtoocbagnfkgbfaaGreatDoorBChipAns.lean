/- Several texts in one: ChipAns, FtlMark, ChipLaw, ChipDidS. -/
import Derived.Test.YtoocbagnfkgbfaaGreatDoorBChipOwn2
import Derived.Test.YtoocbagnfkgbfaaGreatDoorBChipImplB
import Derived.Test.YtoocbagnfkgbfaaGreatDoorBChipGrow
import Derived.Test.YtoocbagnfkgbfaaGreatDoorBChipOkS
section
namespace Go.Proofs.YtoocbagnfkgbfaaGreatDoor
open Go.RowKit
set_option linter.unusedVariables false
set_option maxRecDepth 20000

def AnsQ (lo hi : Nat) (w : World) (a : Option Addr) (n : Nat) (qs : List Sq) : Prop := hi ≤ w.heap.size ∧ ((n = 0 ∧ qs = []) ∨ OwnSquares lo hi w a n qs)
section
variable {lo hi n : Nat} {w w' : World} {a : Option Addr} {qs : List Sq}
theorem AnsQ.squares (h : AnsQ lo hi w a n qs) : Squares lo hi w a n qs := by
  obtain ⟨h1, ⟨rfl, rfl⟩ | h2⟩ := h
  · exact ⟨rfl, fun _ => none, fun _ => 0, ⟨h1, fun h => absurd h (by omega)⟩, fun i hi => absurd hi (by omega)⟩
  · exact h2.squares
theorem AnsQ.later (h : AnsQ lo hi w a n qs) {B : Nat} (hb : Below B w w') (hB : hi ≤ B) : AnsQ lo hi w' a n qs :=
  ⟨Nat.le_trans h.1 hb.size, h.2.elim .inl (fun h => .inr (h.later hb hB))⟩
theorem AnsQ.aside (h : AnsQ lo hi w a n qs) {l r : Nat} (hb : Aside l r w w') (hB : r ≤ lo ∨ hi ≤ l) : AnsQ lo hi w' a n qs :=
  ⟨Nat.le_trans h.1 hb.size, h.2.elim .inl (fun h => .inr (h.aside hb hB))⟩
theorem AnsQ.wide (h : AnsQ lo hi w a n qs) {lo' hi' : Nat} (h1 : lo' ≤ lo) (h2 : hi ≤ hi') (h3 : hi' ≤ w.heap.size) : AnsQ lo' hi' w a n qs :=
  ⟨h3, h.2.elim .inl (fun h => .inr (h.wide h1 h2 h3))⟩
end
/-- A Chip answered: its value, where it lies, and that nothing else was written. -/
def ChipAns (w : World) (z : Int) (qs : List Sq) (v : Value) (w' : World) : Prop := ∃ a c, v = .agg #[.int .i64 z, .slice a qs.length c] ∧ AnsQ w.heap.size w'.heap.size w' a qs.length qs ∧ Below w.heap.size w w'

set_option maxHeartbeats 400000 in
theorem markSquareS_nil (a : Option Addr) (cap : Nat) (w : World) : Calls Tryz.prog 118 #[.slice a 0 cap, .int .i64 1] w fun e w' => e = .returned (.int .i64 1) ∧ w = w' := by
  go_enter Tryz.func118, Tryz.ntmps118
  go_wp2_with fail
  go_loopw [1, 5] (fun q i wr => q = .int .i64 1 ∧ i = .int .i64 0 ∧ w = wr) (fun _ _ _ => 0)
  case atStart => exact ⟨rfl, rfl, rfl⟩
  case round =>
    obtain ⟨rfl, rfl, rfl⟩ := hrel
    go_wp2_with fail
    go_ret
    exact ⟨rfl, rfl⟩
theorem markChip_nil (z : Int) (a : Option Addr) (cap : Nat) (w : World) : Calls Tryz.prog 50 #[.agg #[.int .i64 z, .slice a 0 cap], .int .i64 1] w fun e w' => e = .returned (.int .i64 1) ∧ Below w.heap.size w w' := by
  obtain ⟨wA, hwA⟩ : ∃ wA, wA = w.alloc (.cells #[.int .i64 z, .slice a 0 cap] 26) := ⟨_, rfl⟩
  have HBA : Hid (Below w.heap.size w wA) := by rw [hwA]; exact (Below.refl _ _).alloc (Nat.le_refl _) _
  go_enter Tryz.func50, Tryz.ntmps50
  go_wp2_with fail
  rw [← hwA]
  clear hwA
  refine (markSquareS_nil a cap wA).mono ?_
  rintro e w1 ⟨rfl, rfl⟩
  go_wp2_with fail
  go_ret
  exact ⟨rfl, HBA.out⟩
theorem markChip_ans (z : Int) (a : Option Addr) (n cap : Nat) (qs : List Sq) (w : World) {lo hi : Nat} (h : AnsQ lo hi w a n qs) (hfit : n + weight qs ≤ 1048576) :
    Calls Tryz.prog 50 #[.agg #[.int .i64 z, .slice a n cap], .int .i64 1] w fun e w' => e = .returned (.int .i64 ((1 + lens qs + 2 * n : Nat) : Int)) ∧ AnsQ lo hi w' a n (sqMark qs 1) ∧ Aside lo hi w w' := by
  obtain ⟨h1, ⟨rfl, rfl⟩ | ⟨g, off, A, C, P, h2⟩⟩ := h
  · refine (markChip_nil z a cap w).mono ?_
    rintro e w1 ⟨rfl, b1⟩
    exact ⟨rfl, ⟨Nat.le_trans h1 b1.size, .inl ⟨rfl, rfl⟩⟩, aside_new b1⟩
  · refine (markChip_any z a n cap qs w h2 hfit).mono ?_
    rintro e w1 ⟨rfl, h3, h4⟩
    exact ⟨rfl, ⟨Nat.le_trans h1 h4.size, .inr ⟨g, off, A, C, P, h3⟩⟩, h4⟩

end Go.Proofs.YtoocbagnfkgbfaaGreatDoor
end

section
namespace Go.Proofs.YtoocbagnfkgbfaaGreatDoor
open Go.RowKit
set_option linter.unusedVariables false
set_option maxRecDepth 20000

/-- Places that are marked from k on. -/
def plMark (k m : Nat) : List Pl := (List.range m).map fun i : Nat => (((k + 2 * i : Nat) : Int), ((k + 2 * i + 1 : Nat) : Int))
theorem plMark_length (k m : Nat) : (plMark k m).length = m := by simp [plMark]
theorem plMark_at (k m i : Nat) (h : i < m) : plAt (plMark k m) i = (((k + 2 * i : Nat) : Int), ((k + 2 * i + 1 : Nat) : Int)) := by
  unfold plAt plMark
  rw [List.getD_eq_getElem?_getD, List.getElem?_map, List.getElem?_range h]; rfl
def mixP (k m : Nat) (ps : List Pl) (i j : Nat) : Value := if j < 2 * i then cellP (plMark k m) j else cellP ps j
theorem mixP_step (k m : Nat) (ps : List Pl) (i j : Nat) (h : i < m) : (if j = i * 2 + 1 then Value.int .i64 ((k + 2 * i + 1 : Nat) : Int) else if j = i * 2 then .int .i64 ((k + 2 * i : Nat) : Int) else mixP k m ps i j) = mixP k m ps (i + 1) j := by
  unfold mixP
  by_cases e1 : j = i * 2 + 1
  · subst e1
    rw [if_pos rfl, if_pos (by omega), show i * 2 + 1 = 2 * i + 1 by omega, cellP1, plMark_at k m i h]
  · rw [if_neg e1]
    by_cases e0 : j = i * 2
    · subst e0
      rw [if_pos rfl, if_pos (by omega), show i * 2 = 2 * i by omega, cellP0, plMark_at k m i h]
    · rw [if_neg e0]
      by_cases hl : j < 2 * i
      · rw [if_pos hl, if_pos (by omega)]
      · rw [if_neg hl, if_neg (by omega)]

set_option maxHeartbeats 1600000 in
theorem markPlaceS_any (a : Option Addr) (m cap : Nat) (ps : List Pl) (k : Nat) (w : World) {lo hi : Nat} (h : OwnPlaces lo hi w a m ps) (hm : m ≤ 1048576) (k1 : k ≤ 4194304) :
    Calls Tryz.prog 119 #[.slice a m cap, .int .i64 (k : Int)] w fun e w' => e = .returned (.int .i64 ((k + 2 * m : Nat) : Int)) ∧ OwnPlaces lo hi w' a m (plMark k m) ∧ Aside lo hi w w' := by
  obtain ⟨hl, hx⟩ := h
  have HX := hide hx
  clear hx hl
  go_enter Tryz.func119, Tryz.ntmps119
  go_wp2_with fail
  go_loopw [1, 5] (fun t i wr => ∃ j : Nat, j ≤ m ∧ i = .int .i64 (j : Int) ∧ t = .int .i64 ((k + 2 * j : Nat) : Int) ∧ Owned lo hi wr a (2 * m) (mixP k m ps j) ∧ Aside lo hi w wr) (fun _ i _ => m - (intOf i).toNat)
  case atStart => exact ⟨0, Nat.zero_le _, rfl, rfl, HX.out.congr (fun j _ => by unfold mixP; rw [if_neg (by omega)]), Aside.refl _ _ _⟩
  case round =>
    obtain ⟨j, hj, rfl, rfl, hrow, hasd⟩ := hrel
    have HRW := hide hrow
    have HAS := hide hasd
    by_cases hlt : j < m
    · obtain ⟨b, off, rfl, hb1, hb2, hc⟩ := hrow.2 (by omega)
      obtain ⟨c0, f0⟩ := hc (j * 2) (by omega)
      obtain ⟨c1, f1⟩ := hc (j * 2 + 1) (by omega)
      rw [← Nat.add_assoc] at c1 f1
      have hlt2 : (j : Int) < (m : Int) := by omega
      have HNR := hide (((HRW.out.set (show j * 2 < 2 * m by omega) (.int .i64 ((k + 2 * j : Nat) : Int))).set (show j * 2 + 1 < 2 * m by omega) (.int .i64 ((k + 2 * j + 1 : Nat) : Int))).congr (fun i _ => mixP_step k m ps j i hlt))
      have HNA := hide ((HAS.out.setCell (p := ⟨b, off + j * 2, none⟩) hb1 hb2 (.int .i64 ((k + 2 * j : Nat) : Int))).setCell (p := ⟨b, off + j * 2 + 1, none⟩) hb1 hb2 (.int .i64 ((k + 2 * j + 1 : Nat) : Int)))
      rw [← Nat.add_assoc] at HNR
      have e2 : k + 2 * (j + 1) = k + 2 * j + 1 + 1 := by omega
      have hqb : k + 2 * j ≤ 8388608 := by omega
      clear hc hrow hasd
      generalize k + 2 * j = q at *
      rw [show ((q + 1 : Nat) : Int) = (q : Int) + 1 by omega] at HNR HNA
      have HE2 := hide e2
      clear e2
      go_wp2_with fail
      go_roundw
      case rel => exact ⟨j + 1, by omega, by go_num, by rw [HE2.out]; go_num, HNR.out, HNA.out⟩
      case measure => simp [intOf]; omega
    · obtain rfl : j = m := by omega
      clear hrow hasd
      go_wp2_with fail
      go_ret
      exact ⟨rfl, ⟨plMark_length k j, HRW.out.congr (fun i hi => by unfold mixP; rw [if_pos hi])⟩, HAS.out⟩

/-! ### An Ftl of one's own -/
theorem own_sqs_apart {lo hi n g off gm : Nat} {w w' : World} {a : Option Addr} {qs : List Sq} {A : Nat → Option Addr} {C P : Nat → Nat} (h : OwnSqs lo hi w a n qs g off A C P) (hA : Aside gm (gm + 1) w w') (hg : gm ≠ g) (hP : ∀ i, i < n → 0 < (sqAt qs i).1.length → gm ≠ P i) : OwnSqs lo hi w' a n qs g off A C P :=
  ⟨h.len, h.row.aside hA (by omega), h.addr, fun i hi => texts_aside (h.pages i hi) hA (fun h0 => by have := hP i hi h0; omega), h.room, h.atG, h.atP, h.apartG, h.apartP, Nat.le_trans h.top hA.size⟩
/-- Squares and Places in blocks of their own, apart. -/
def FtlOwn (lo hi : Nat) (w : World) (a am : Option Addr) (qs : List Sq) (ps : List Pl) : Prop :=
  hi ≤ w.heap.size ∧ ((qs = [] ∧ ps = []) ∨ ∃ g off A C P gm, OwnSqs lo hi w a qs.length qs g off A C P ∧ OwnPlaces gm (gm + 1) w am ps.length ps ∧ lo ≤ gm ∧ gm < hi ∧ gm ≠ g ∧ ∀ i, i < qs.length → 0 < (sqAt qs i).1.length → gm ≠ P i)
section
variable {lo hi : Nat} {w w' : World} {a am : Option Addr} {qs : List Sq} {ps : List Pl}
theorem FtlOwn.squares (h : FtlOwn lo hi w a am qs ps) : Squares lo hi w a qs.length qs := by
  obtain ⟨h1, ⟨rfl, rfl⟩ | ⟨g, off, A, C, P, gm, h2, _⟩⟩ := h
  · exact (AnsQ.squares ⟨h1, .inl ⟨rfl, rfl⟩⟩)
  · exact AnsQ.squares ⟨h1, .inr ⟨g, off, A, C, P, h2⟩⟩
theorem FtlOwn.places (h : FtlOwn lo hi w a am qs ps) : Places lo hi w am ps.length ps := by
  obtain ⟨h1, ⟨rfl, rfl⟩ | ⟨g, off, A, C, P, gm, _, h2, h3, h4, _⟩⟩ := h
  · exact ⟨rfl, h1, fun h => absurd h (by simp)⟩
  · exact ⟨rfl, h1, fun hn => by obtain ⟨b, off, e, h5, h6, h7⟩ := h2.2.reads.2 hn; exact ⟨b, off, e, by omega, by omega, h7⟩⟩
theorem FtlOwn.later (h : FtlOwn lo hi w a am qs ps) {B : Nat} (hb : Below B w w') (hB : hi ≤ B) : FtlOwn lo hi w' a am qs ps := by
  obtain ⟨h1, h2 | ⟨g, off, A, C, P, gm, h2, h3, h4, h5, h6⟩⟩ := h
  · exact ⟨Nat.le_trans h1 hb.size, .inl h2⟩
  · exact ⟨Nat.le_trans h1 hb.size, .inr ⟨g, off, A, C, P, gm, h2.later hb hB, h3.later hb (by omega), h4, h5, h6⟩⟩
theorem FtlOwn.aside (h : FtlOwn lo hi w a am qs ps) {l r : Nat} (hb : Aside l r w w') (hB : r ≤ lo ∨ hi ≤ l) : FtlOwn lo hi w' a am qs ps := by
  obtain ⟨h1, h2 | ⟨g, off, A, C, P, gm, h2, h3, h4, h5, h6⟩⟩ := h
  · exact ⟨Nat.le_trans h1 hb.size, .inl h2⟩
  · exact ⟨Nat.le_trans h1 hb.size, .inr ⟨g, off, A, C, P, gm, h2.aside hb hB, h3.aside hb (by omega), h4, h5, h6⟩⟩
theorem FtlOwn.wide (h : FtlOwn lo hi w a am qs ps) {lo' hi' : Nat} (h1' : lo' ≤ lo) (h2' : hi ≤ hi') (h3' : hi' ≤ w.heap.size) : FtlOwn lo' hi' w a am qs ps := by
  obtain ⟨h1, h2 | ⟨g, off, A, C, P, gm, h2, h3, h4, h5, h6⟩⟩ := h
  · exact ⟨h3', .inl h2⟩
  · exact ⟨h3', .inr ⟨g, off, A, C, P, gm, h2.wide h1' h2' h3', h3, by omega, by omega, h6⟩⟩
end
set_option maxHeartbeats 1600000 in
theorem markFtl_own (z : Int) (a : Option Addr) (n cap : Nat) (qs : List Sq) (am : Option Addr) (m cm : Nat) (ps : List Pl) (op st : Int) (w : World) {lo hi : Nat} (h : FtlOwn lo hi w a am qs ps) (hn : qs.length = n) (hm : ps.length = m) (hfit : n + weight qs ≤ 1048576) (hm2 : m ≤ 1048576) :
    Calls Tryz.prog 51 #[.agg #[.int .i64 z, .slice a n cap, .slice am m cm, .int .i64 op, .int .i64 st], .int .i64 1] w fun e w' => e = .returned (.int .i64 ((1 + lens qs + 2 * n + 2 * m : Nat) : Int)) ∧ FtlOwn lo hi w' a am (sqMark qs 1) (plMark (1 + lens qs + 2 * n) m) ∧ Aside lo hi w w' := by
  obtain ⟨wA, hwA⟩ : ∃ wA, wA = w.alloc (.cells #[.int .i64 z, .slice a n cap, .slice am m cm, .int .i64 op, .int .i64 st] 29) := ⟨_, rfl⟩
  have hzA : wA.heap.size = w.heap.size + 1 := by rw [hwA]; simp
  have HBA : Hid (Below w.heap.size w wA) := by rw [hwA]; exact (Below.refl _ _).alloc (Nat.le_refl _) _
  have H1 : Hid (wA.heap[w.heap.size]? = some (.cells #[.int .i64 z, .slice a n cap, .slice am m cm, .int .i64 op, .int .i64 st] 29)) := by rw [hwA]; exact heap_new _ _
  have hhi := h.1
  have HA := hide (h.later HBA.out h.1)
  have hle := lens_weight qs
  clear h
  obtain ⟨c0, c1, c2, c3, c4⟩ := five_cells H1.out
  have HCM : Hid (Calls Tryz.prog 50 #[.agg #[.int .i64 z, .slice a n cap], .int .i64 1] wA fun e w' => e = .returned (.int .i64 ((1 + lens qs + 2 * n : Nat) : Int)) ∧ Aside lo hi wA w' ∧ ((sqMark qs 1 = [] ∧ ps = []) ∨ ∃ g off A C P gm, OwnSqs lo hi w' a n (sqMark qs 1) g off A C P ∧ OwnPlaces gm (gm + 1) w' am m ps ∧ lo ≤ gm ∧ gm < hi ∧ gm ≠ g ∧ ∀ i, i < n → 0 < (sqAt qs i).1.length → gm ≠ P i)) := by
    obtain ⟨h1, ⟨rfl, rfl⟩ | ⟨g, off, A, C, P, gm, h2, h3, h4, h5, h6, h7⟩⟩ := HA.out
    · subst hn
      refine (markChip_nil z a cap wA).mono ?_
      rintro e w1 ⟨rfl, b1⟩
      exact ⟨rfl, aside_new b1, .inl ⟨rfl, rfl⟩⟩
    · rw [hn] at h2 h7
      rw [hm] at h3
      refine (markChip_fine z a n cap qs wA h2 hfit).mono ?_
      rintro e w1 ⟨rfl, k1, k2, k3⟩
      refine ⟨rfl, k2, .inr ⟨g, off, A, C, P, gm, k1, ?_, h4, h5, h6, h7⟩⟩
      exact ⟨h3.1, h3.2.of k2.size (fun j j1 j2 => by
        have e : j = gm := by omega
        subst e
        exact k3 j (by omega) h6 h7)⟩
  go_enter Tryz.func51, Tryz.ntmps51
  go_wp2_with fail
  rw [← hwA]
  clear hwA
  refine HCM.out.mono ?_
  rintro e w1 ⟨rfl, hA, hor⟩
  have K1 : Hid (w1.heap[w.heap.size]? = some (.cells #[.int .i64 z, .slice a n cap, .slice am m cm, .int .i64 op, .int .i64 st] 29)) := (hA.block _ (by omega) (by omega)).trans H1.out
  have HA1 := hide ((aside_new HBA.out (lo := lo) (hi := hi)).trans hA)
  have HOR := hide hor
  have hs1 := hA.size
  clear hA hor c0 c1 c2 c3 c4 HCM
  obtain ⟨c0, c1, c2, c3, c4⟩ := five_cells K1.out
  obtain ⟨t, ht⟩ : ∃ t, t = 1 + lens qs + 2 * n := ⟨_, rfl⟩
  have HT := hide ht
  have ht9 : t ≤ 4194304 := by omega
  rw [← ht]
  clear ht
  have HPM : Hid (Calls Tryz.prog 119 #[.slice am m cm, .int .i64 (t : Int)] w1 fun e w' => e = .returned (.int .i64 ((t + 2 * m : Nat) : Int)) ∧ FtlOwn lo hi w' a am (sqMark qs 1) (plMark t m) ∧ Aside lo hi w w') := by
    rcases HOR.out with ⟨e1, e2⟩ | ⟨g, off, A, C, P, gm, k1, k2, k3, k4, k5, k6⟩
    · have hm0 : m = 0 := by rw [← hm, e2]; rfl
      subst hm0
      refine (markPlaceS_any (lo := 0) (hi := 0) am 0 cm [] t w1 ⟨rfl, Nat.zero_le _, fun h => absurd h (by omega)⟩ (by omega) ht9).mono ?_
      rintro e w2 ⟨rfl, _, hA2⟩
      have hA3 : Aside lo hi w1 w2 := ⟨hA2.os, hA2.tape, hA2.output, hA2.size, fun k hk _ => hA2.block k hk (by omega)⟩
      exact ⟨rfl, ⟨Nat.le_trans hhi (by have := hA2.size; omega), .inl ⟨e1, rfl⟩⟩, HA1.out.trans hA3⟩
    · refine (markPlaceS_any am m cm ps t w1 k2 hm2 ht9).mono ?_
      rintro e w2 ⟨rfl, k7, hA2⟩
      have hA3 : Aside lo hi w1 w2 := aside_wideQ hA2 k3 k4
      refine ⟨rfl, ⟨Nat.le_trans hhi (by have := hA2.size; omega), .inr ⟨g, off, A, C, P, gm, ?_, ?_, k3, k4, k5, fun i hi' h0 => ?_⟩⟩, HA1.out.trans hA3⟩
      · rw [sqMark_length, hn]
        exact own_sqs_apart k1 hA2 k5 (fun i hi' h0 => k6 i hi' (by rw [← sqMark_len qs 1 i (by omega)]; exact h0))
      · rw [plMark_length]; exact k7
      · rw [sqMark_length] at hi'
        exact k6 i (by omega) (by rw [← sqMark_len qs 1 i hi']; exact h0)
  go_wp2_with fail
  refine HPM.out.mono ?_
  rintro e w2 ⟨rfl, hF, hA2⟩
  have HF := hide hF
  have HA2 := hide hA2
  clear hF hA2 HPM
  have HTT := HT.out
  obtain ⟨u, hu⟩ : ∃ u, u = t + 2 * m := ⟨_, rfl⟩
  have HU := hide hu
  rw [← hu]
  clear hu
  go_wp2_with fail
  go_ret
  exact ⟨by rw [← HT.out, ← HU.out]; rfl, by rw [← HT.out]; exact HF.out, HA2.out⟩

end Go.Proofs.YtoocbagnfkgbfaaGreatDoor
end

section
namespace Go.Proofs.YtoocbagnfkgbfaaGreatDoor
open Go.RowKit
set_option linter.unusedVariables false

/-- A variable's zero Chip. -/
abbrev zC : Obj := .cells #[.int .i64 0, .slice none 0 0] 26
/-- A Chip in a variable: it lies in block b, its Squares in blocks from lo to below hi, all made behind s. -/
structure VarC (s b lo hi : Nat) (z : Int) (qs : List Sq) (a : Option Addr) (c : Nat) (w : World) : Prop where
  var : w.heap[b]? = some (.cells #[.int .i64 z, .slice a qs.length c] 26)
  ans : AnsQ lo hi w a qs.length qs
  apart : b < lo ∨ hi ≤ b
  atB : s ≤ b
  atL : s ≤ lo
section
variable {s b lo hi c : Nat} {z : Int} {qs : List Sq} {a : Option Addr} {w w' : World}
theorem VarC.lt (h : VarC s b lo hi z qs a c w) : b < w.heap.size := (Array.getElem?_eq_some_iff.1 h.var).1
theorem VarC.on (h : VarC s b lo hi z qs a c w) (hb : Below w.heap.size w w') : VarC s b lo hi z qs a c w' := ⟨block_on h.var hb, h.ans.later hb h.ans.1, h.apart, h.atB, h.atL⟩
theorem VarC.aside (h : VarC s b lo hi z qs a c w) {l r : Nat} (hb : Aside l r w w') (h1 : b < l ∨ r ≤ b) (h2 : r ≤ lo ∨ hi ≤ l) : VarC s b lo hi z qs a c w' :=
  ⟨(hb.block b h.lt h1).trans h.var, h.ans.aside hb h2, h.apart, h.atB, h.atL⟩
theorem VarC.cells (h : VarC s b lo hi z qs a c w) : w.cell? ⟨b, 0, none⟩ = some (.int .i64 z) ∧ w.cell? ⟨b, 1, none⟩ = some (.slice a qs.length c) := two_cells h.var
theorem VarC.squares (h : VarC s b lo hi z qs a c w) : Squares lo hi w a qs.length qs := h.ans.squares
theorem VarC.hi_le (h : VarC s b lo hi z qs a c w) : hi ≤ w.heap.size := h.ans.1
/-- A Chip that was answered in w1 and laid into a variable that had been made before. -/
theorem varC_store {w1 : World} {z : Int} {qs : List Sq} {a : Option Addr} {c : Nat} (hv : w'.heap[b]? = some zC) (hq : AnsQ w1.heap.size w'.heap.size w' a qs.length qs) (hs : s ≤ b) (hb : b < w1.heap.size) (hl : s ≤ w1.heap.size) :
    VarC s b w1.heap.size w'.heap.size z qs a c ((w'.setCell ⟨b, 0, none⟩ (.int .i64 z)).setCell ⟨b, 1, none⟩ (.slice a qs.length c)) :=
  ⟨two_set hv _ _, hq.aside (two_aside (b := b) (Aside.refl b (b + 1) w') (Nat.le_refl _) (Nat.lt_succ_self _) _ _) (.inl (by omega)), .inl hb, hs, hl⟩
theorem varC_new {w1 : World} {z : Int} {qs : List Sq} {a : Option Addr} {c : Nat} (hq : AnsQ w1.heap.size w'.heap.size w' a qs.length qs) (hs : s ≤ w1.heap.size) (h1 : w1.heap.size ≤ w'.heap.size) :
    VarC s w'.heap.size w1.heap.size w'.heap.size z qs a c (w'.alloc (.cells #[.int .i64 z, .slice a qs.length c] 26)) :=
  ⟨heap_new _ _, hq.later ((Below.refl w'.heap.size w').alloc (Nat.le_refl _) _) (Nat.le_refl _), .inr (Nat.le_refl _), Nat.le_trans hs h1, hs⟩
/-- A Chip answered and laid into a variable, wherever among the calls the variable was made. -/
theorem store_below {B b : Nat} {w w' : World} (h : Below B w w') (hb : B ≤ b) (u v : Value) : Below B w ((w'.setCell ⟨b, 0, none⟩ u).setCell ⟨b, 1, none⟩ v) := (h.setCell (p := ⟨b, 0, none⟩) hb u).setCell (p := ⟨b, 1, none⟩) hb v
end
end Go.Proofs.YtoocbagnfkgbfaaGreatDoor
end

section
namespace Go.Proofs.YtoocbagnfkgbfaaGreatDoor
open Go.RowKit
set_option linter.unusedVariables false
set_option maxRecDepth 20000

def didZ (z : Int) (qs : List Sq) : Int := if chipOk z qs then z else 0
/-- A Chip of one's own in a result's cells. -/
theorem ans_of_grow {B n g c : Nat} {w w' : World} {z : Int} {qs : List Sq} {A : Nat → Option Addr} {C : Nat → Nat} (h : GrowSqs B w' n qs g A C) (hB : w.heap.size ≤ B) (hb : Below w.heap.size w w') : ChipAns w z qs (.agg #[.int .i64 z, .slice (some ⟨g, 0, none⟩) n c]) w' := by
  have hl := h.len
  subst hl
  exact ⟨_, c, rfl, ⟨Nat.le_refl _, .inr (h.ownS.wide hB (Nat.le_refl _) (Nat.le_refl _))⟩, hb⟩

/-! ### All Jobs in order -/
def allQ (z : Int) : List Sq → List Jb → Option (List Sq)
  | qs, [] => some qs
  | qs, j :: js => if canJ z qs j then allQ z (doJ z qs j) js else none
theorem allQ_append (z : Int) (js ks : List Jb) : ∀ qs, allQ z qs (js ++ ks) = (allQ z qs js).bind (fun q => allQ z q ks) := by
  induction js with
  | nil => intro qs; rfl
  | cons j js ih =>
    intro qs
    show (if canJ z qs j then allQ z (doJ z qs j) (js ++ ks) else none) = (if canJ z qs j then allQ z (doJ z qs j) js else none).bind _
    split
    · exact ih _
    · rfl
theorem jb_take {js : List Jb} {k : Nat} (h : k < js.length) : js.take (k + 1) = js.take k ++ [jbAt js k] := by
  rw [List.take_succ_eq_append_getElem h]
  unfold jbAt
  rw [List.getD_eq_getElem?_getD, List.getElem?_eq_getElem h]
  rfl
theorem allQ_step {z : Int} {qs qk : List Sq} {js : List Jb} {k : Nat} (h : k < js.length) (hk : allQ z qs (js.take k) = some qk) (hc : canJ z qk (jbAt js k) = true) : allQ z qs (js.take (k + 1)) = some (doJ z qk (jbAt js k)) := by
  rw [jb_take h, allQ_append, hk]
  show (if canJ z qk (jbAt js k) then some (doJ z qk (jbAt js k)) else none) = _
  rw [hc]; rfl
theorem allQ_fall {z : Int} {qs qk : List Sq} {js : List Jb} {k : Nat} (h : k < js.length) (hk : allQ z qs (js.take k) = some qk) (hc : canJ z qk (jbAt js k) = false) : allQ z qs js = none := by
  have e : allQ z qs (js.take (k + 1)) = none := by
    rw [jb_take h, allQ_append, hk]
    show (if canJ z qk (jbAt js k) then some (doJ z qk (jbAt js k)) else none) = _
    rw [hc]; rfl
  rw [← List.take_append_drop (k + 1) js, allQ_append, e]; rfl
theorem allQ_ok {z : Int} {js : List Jb} : ∀ {qs q : List Sq}, chipOk z qs = true → allQ z qs js = some q → chipOk z q = true := by
  induction js with
  | nil => intro qs q h e; simp only [allQ, Option.some.injEq] at e; subst e; exact h
  | cons j js ih =>
    intro qs q h e
    unfold allQ at e
    split at e
    · exact ih (doJ_ok h) e
    · cases e
def allB (z : Int) (qs : List Sq) (js : List Jb) : Bool := chipOk z qs && (allQ z qs js).isSome
def allZ (z : Int) (qs : List Sq) (js : List Jb) : Int := if allB z qs js then z else 0
def allS (z : Int) (qs : List Sq) (js : List Jb) : List Sq := if chipOk z qs then (allQ z qs js).getD [] else []

end Go.Proofs.YtoocbagnfkgbfaaGreatDoor
end

