/- Several texts in one: ChipAns, FtlMark, CacheMark, ChipLaw. -/
import Derived.Test.YtkbhcdkfjniafaaGreatDoorFChipOwn2
import Derived.Test.YtkbhcdkfjniafaaGreatDoorFChipImplB
import Derived.Test.YtkbhcdkfjniafaaGreatDoorFChipGrow
section
namespace Go.Proofs.YtkbhcdkfjniafaaGreatDoor
open Go.RowKit
set_option linter.unusedVariables false
set_option maxRecDepth 20000
def AnsQ (lo hi : Nat) (w : World) (a : Option Addr) (n : Nat) (qs : List Sq) : Prop := hi <= w.heap.size ∧ ((n = 0 ∧ qs = []) ∨ OwnSquares lo hi w a n qs)
section
variable {lo hi n : Nat} {w w' : World} {a : Option Addr} {qs : List Sq}
theorem AnsQ.squares (h : AnsQ lo hi w a n qs) : Squares lo hi w a n qs := by
 obtain ⟨h1, ⟨rfl, rfl⟩ | h2⟩ := h
 ·exact ⟨rfl, fun _ => none, fun _ => 0, ⟨h1, fun h => absurd h (by omega)⟩, fun i hi => absurd hi (by omega)⟩
 ·exact h2.squares
theorem AnsQ.later (h : AnsQ lo hi w a n qs) {B : Nat} (hb : Below B w w') (hB : hi <= B) : AnsQ lo hi w' a n qs :=
 ⟨Nat.le_trans h.1 hb.size, h.2.elim .inl (fun h => .inr (h.later hb hB))⟩
theorem AnsQ.aside (h : AnsQ lo hi w a n qs) {l r : Nat} (hb : Aside l r w w') (hB : r <= lo ∨ hi <= l) : AnsQ lo hi w' a n qs :=
 ⟨Nat.le_trans h.1 hb.size, h.2.elim .inl (fun h => .inr (h.aside hb hB))⟩
theorem AnsQ.wide (h : AnsQ lo hi w a n qs) {lo' hi' : Nat} (h1 : lo' <= lo) (h2 : hi <= hi') (h3 : hi' <= w.heap.size) : AnsQ lo' hi' w a n qs :=
 ⟨h3, h.2.elim .inl (fun h => .inr (h.wide h1 h2 h3))⟩
end
end Go.Proofs.YtkbhcdkfjniafaaGreatDoor
end

section
namespace Go.Proofs.YtkbhcdkfjniafaaGreatDoor
open Go.RowKit
set_option linter.unusedVariables false
set_option maxRecDepth 20000
def plMark (k m : Nat) : List Pl := (List.range m).map fun i : Nat => (((k + 2 * i : Nat) : Int), ((k + 2 * i + 1 : Nat) : Int))
theorem plMark_length (k m : Nat) : (plMark k m).length = m := by simp [plMark]
theorem plMark_at (k m i : Nat) (h : i < m) : plAt (plMark k m) i = (((k + 2 * i : Nat) : Int), ((k + 2 * i + 1 : Nat) : Int)) := by
 unfold plAt plMark
 rw [List.getD_eq_getElem?_getD, List.getElem?_map, List.getElem?_range h]; rfl
def mixP (k m : Nat) (ps : List Pl) (i j : Nat) : Value := if j < 2 * i then cellP (plMark k m) j else cellP ps j
theorem mixP_step (k m : Nat) (ps : List Pl) (i j : Nat) (h : i < m) : (if j = i * 2 + 1 then Value.int .i64 ((k + 2 * i + 1 : Nat) : Int) else if j = i * 2 then .int .i64 ((k + 2 * i : Nat) : Int) else mixP k m ps i j) = mixP k m ps (i + 1) j := by
 unfold mixP
 by_cases e1 : j = i * 2 + 1
 ·subst e1
  rw [if_pos rfl, if_pos (by omega), show i * 2 + 1 = 2 * i + 1 by omega, cellP1, plMark_at k m i h]
 ·rw [if_neg e1]
  by_cases e0 : j = i * 2
  ·subst e0
   rw [if_pos rfl, if_pos (by omega), show i * 2 = 2 * i by omega, cellP0, plMark_at k m i h]
  ·rw [if_neg e0]
   by_cases hl : j < 2 * i
   ·rw [if_pos hl, if_pos (by omega)]
   ·rw [if_neg hl, if_neg (by omega)]
set_option maxHeartbeats 1600000 in
theorem markPlaceS_any (a : Option Addr) (m cap : Nat) (ps : List Pl) (k : Nat) (w : World) {lo hi : Nat} (h : OwnPlaces lo hi w a m ps) (hm : m <= 1048576) (k1 : k <= 4194304) :
  Calls Tryz.prog 196 #[.slice a m cap, .int .i64 (k : Int)] w fun e w' => e = .returned (.int .i64 ((k + 2 * m : Nat) : Int)) ∧ OwnPlaces lo hi w' a m (plMark k m) ∧ Aside lo hi w w' := by
 obtain ⟨hl, hx⟩ := h
 have HX := hide hx
 clear hx hl
 go_enter Tryz.func196, Tryz.ntmps196
 go_wp2_with fail
 go_loopw [1, 5] (fun t i wr => ∃ j : Nat, j <= m ∧ i = .int .i64 (j : Int) ∧ t = .int .i64 ((k + 2 * j : Nat) : Int) ∧ Owned lo hi wr a (2 * m) (mixP k m ps j) ∧ Aside lo hi w wr) (fun _ i _ => m - (intOf i).toNat)
 case atStart => exact ⟨0, Nat.zero_le _, rfl, rfl, HX.out.congr (fun j _ => by unfold mixP; rw [if_neg (by omega)]), Aside.refl _ _ _⟩
 case round =>
  obtain ⟨j, hj, rfl, rfl, hrow, hasd⟩ := hrel
  have HRW := hide hrow
  have HAS := hide hasd
  by_cases hlt : j < m
  ·obtain ⟨b, off, rfl, hb1, hb2, hc⟩ := hrow.2 (by omega)
   obtain ⟨c0, f0⟩ := hc (j * 2) (by omega)
   obtain ⟨c1, f1⟩ := hc (j * 2 + 1) (by omega)
   rw [<- Nat.add_assoc] at c1 f1
   have hlt2 : (j : Int) < (m : Int) := by omega
   have HNR := hide (((HRW.out.set (show j * 2 < 2 * m by omega) (.int .i64 ((k + 2 * j : Nat) : Int))).set (show j * 2 + 1 < 2 * m by omega) (.int .i64 ((k + 2 * j + 1 : Nat) : Int))).congr (fun i _ => mixP_step k m ps j i hlt))
   have HNA := hide ((HAS.out.setCell (p := ⟨b, off + j * 2, none⟩) hb1 hb2 (.int .i64 ((k + 2 * j : Nat) : Int))).setCell (p := ⟨b, off + j * 2 + 1, none⟩) hb1 hb2 (.int .i64 ((k + 2 * j + 1 : Nat) : Int)))
   rw [<- Nat.add_assoc] at HNR
   have e2 : k + 2 * (j + 1) = k + 2 * j + 1 + 1 := by omega
   have hqb : k + 2 * j <= 8388608 := by omega
   clear hc hrow hasd
   generalize k + 2 * j = q at *
   rw [show ((q + 1 : Nat) : Int) = (q : Int) + 1 by omega] at HNR HNA
   have HE2 := hide e2
   clear e2
   go_wp2_with fail
   go_roundw
   case rel => exact ⟨j + 1, by omega, by go_num, by rw [HE2.out]; go_num, HNR.out, HNA.out⟩
   case measure => simp [intOf]; omega
  ·obtain rfl : j = m := by omega
   clear hrow hasd
   go_wp2_with fail
   go_ret
   exact ⟨rfl, ⟨plMark_length k j, HRW.out.congr (fun i hi => by unfold mixP; rw [if_pos hi])⟩, HAS.out⟩
set_option maxHeartbeats 1600000 in
theorem heldPlaceS_any (a : Option Addr) (m cap : Nat) (k : Nat) (w : World) {lo hi : Nat} (h : Places lo hi w a m (plMark k m)) (hm : m <= 1048576) (k1 : k <= 4194304) :
  Calls Tryz.prog 198 #[.slice a m cap, .int .i64 (k : Int)] w fun e w' => e = .returned (.int .i64 ((k + 2 * m : Nat) : Int)) ∧ w = w' := by
 obtain ⟨hl, hx⟩ := h
 have HX := hide hx
 clear hx hl
 go_enter Tryz.func198, Tryz.ntmps198
 go_wp2_with fail
 go_loopw [1, 5] (fun t i wr => ∃ j : Nat, j <= m ∧ i = .int .i64 (j : Int) ∧ t = .int .i64 ((k + 2 * j : Nat) : Int) ∧ w = wr) (fun _ i _ => m - (intOf i).toNat)
 case atStart => exact ⟨0, Nat.zero_le _, rfl, rfl, rfl⟩
 case round =>
  obtain ⟨j, hj, rfl, rfl, rfl⟩ := hrel
  by_cases hlt : j < m
  ·obtain ⟨b, off, rfl, hb1, hb2, hc⟩ := HX.out.2 (by omega)
   have c0 := hc (j * 2) (by omega)
   have c1 := hc (j * 2 + 1) (by omega)
   rw [show j * 2 = 2 * j by omega, cellP0, plMark_at k m j hlt] at c0
   rw [show j * 2 = 2 * j by omega, cellP1, plMark_at k m j hlt, <- Nat.add_assoc] at c1
   rw [show 2 * j = j * 2 by omega] at c0 c1
   dsimp only at c0 c1
   have hlt2 : (j : Int) < (m : Int) := by omega
   have e2 : k + 2 * (j + 1) = k + j * 2 + 1 + 1 := by omega
   have HE2 := hide e2
   have hqb : k + j * 2 <= 8388608 := by omega
   clear hc e2
   rw [show k + 2 * j = k + j * 2 by omega]
   generalize k + j * 2 = q at *
   rw [show ((q + 1 : Nat) : Int) = (q : Int) + 1 by omega] at c1
   go_wp2_with fail
   exact ⟨⟨j + 1, by omega, by go_num, by rw [HE2.out]; go_num, trivial⟩, by simp [intOf]; omega⟩
  ·obtain rfl : j = m := by omega
   go_wp2_with fail
   go_ret
   exact ⟨rfl, rfl⟩
theorem own_sqs_apart {lo hi n g off gm : Nat} {w w' : World} {a : Option Addr} {qs : List Sq} {A : Nat -> Option Addr} {C P : Nat -> Nat} (h : OwnSqs lo hi w a n qs g off A C P) (hA : Aside gm (gm + 1) w w') (hg : gm ≠ g) (hP : ∀ i, i < n -> 0 < (sqAt qs i).1.length -> gm ≠ P i) : OwnSqs lo hi w' a n qs g off A C P :=
 ⟨h.len, h.row.aside hA (by omega), h.addr, fun i hi => texts_aside (h.pages i hi) hA (fun h0 => by have := hP i hi h0; omega), h.room, h.atG, h.atP, h.apartG, h.apartP, Nat.le_trans h.top hA.size⟩
def FtlOwn (lo hi : Nat) (w : World) (a am : Option Addr) (qs : List Sq) (ps : List Pl) : Prop :=
 hi <= w.heap.size ∧ ((qs = [] ∧ ps = []) ∨ ∃ g off A C P gm, OwnSqs lo hi w a qs.length qs g off A C P ∧ OwnPlaces gm (gm + 1) w am ps.length ps ∧ lo <= gm ∧ gm < hi ∧ gm ≠ g ∧ ∀ i, i < qs.length -> 0 < (sqAt qs i).1.length -> gm ≠ P i)
section
variable {lo hi : Nat} {w w' : World} {a am : Option Addr} {qs : List Sq} {ps : List Pl}
theorem FtlOwn.squares (h : FtlOwn lo hi w a am qs ps) : Squares lo hi w a qs.length qs := by
 obtain ⟨h1, ⟨rfl, rfl⟩ | ⟨g, off, A, C, P, gm, h2, _⟩⟩ := h
 ·exact (AnsQ.squares ⟨h1, .inl ⟨rfl, rfl⟩⟩)
 ·exact AnsQ.squares ⟨h1, .inr ⟨g, off, A, C, P, h2⟩⟩
theorem FtlOwn.places (h : FtlOwn lo hi w a am qs ps) : Places lo hi w am ps.length ps := by
 obtain ⟨h1, ⟨rfl, rfl⟩ | ⟨g, off, A, C, P, gm, _, h2, h3, h4, _⟩⟩ := h
 ·exact ⟨rfl, h1, fun h => absurd h (by simp)⟩
 ·exact ⟨rfl, h1, fun hn => by obtain ⟨b, off, e, h5, h6, h7⟩ := h2.2.reads.2 hn; exact ⟨b, off, e, by omega, by omega, h7⟩⟩
theorem FtlOwn.later (h : FtlOwn lo hi w a am qs ps) {B : Nat} (hb : Below B w w') (hB : hi <= B) : FtlOwn lo hi w' a am qs ps := by
 obtain ⟨h1, h2 | ⟨g, off, A, C, P, gm, h2, h3, h4, h5, h6⟩⟩ := h
 ·exact ⟨Nat.le_trans h1 hb.size, .inl h2⟩
 ·exact ⟨Nat.le_trans h1 hb.size, .inr ⟨g, off, A, C, P, gm, h2.later hb hB, h3.later hb (by omega), h4, h5, h6⟩⟩
theorem FtlOwn.aside (h : FtlOwn lo hi w a am qs ps) {l r : Nat} (hb : Aside l r w w') (hB : r <= lo ∨ hi <= l) : FtlOwn lo hi w' a am qs ps := by
 obtain ⟨h1, h2 | ⟨g, off, A, C, P, gm, h2, h3, h4, h5, h6⟩⟩ := h
 ·exact ⟨Nat.le_trans h1 hb.size, .inl h2⟩
 ·exact ⟨Nat.le_trans h1 hb.size, .inr ⟨g, off, A, C, P, gm, h2.aside hb hB, h3.aside hb (by omega), h4, h5, h6⟩⟩
theorem FtlOwn.wide (h : FtlOwn lo hi w a am qs ps) {lo' hi' : Nat} (h1' : lo' <= lo) (h2' : hi <= hi') (h3' : hi' <= w.heap.size) : FtlOwn lo' hi' w a am qs ps := by
 obtain ⟨h1, h2 | ⟨g, off, A, C, P, gm, h2, h3, h4, h5, h6⟩⟩ := h
 ·exact ⟨h3', .inl h2⟩
 ·exact ⟨h3', .inr ⟨g, off, A, C, P, gm, h2.wide h1' h2' h3', h3, by omega, by omega, h6⟩⟩
end
structure Fv where
 z : Int
 qs : List Sq
 ps : List Pl
 op : Int
 st : Int
def fvV (f : Fv) (a : Option Addr) (c : Nat) (am : Option Addr) (cm : Nat) : Value := .agg #[.int .i64 f.z, .slice a f.qs.length c, .slice am f.ps.length cm, .int .i64 f.op, .int .i64 f.st]
def FtlAns (w : World) (f : Fv) (v : Value) (w' : World) : Prop := ∃ a c am cm, v = fvV f a c am cm ∧ FtlOwn w.heap.size w'.heap.size w' a am f.qs f.ps ∧ Below w.heap.size w w' ∧ f.ps.length <= cm
end Go.Proofs.YtkbhcdkfjniafaaGreatDoor
end

section
namespace Go.Proofs.YtkbhcdkfjniafaaGreatDoor
open Go.RowKit
set_option linter.unusedVariables false
set_option maxRecDepth 20000
theorem markChip_at (z : Int) (a : Option Addr) (n cap : Nat) (qs : List Sq) (m : Nat) (w : World) {lo hi g off : Nat} {A : Nat -> Option Addr} {C P : Nat -> Nat} (h : OwnSqs lo hi w a n qs g off A C P) (hfit : n + weight qs <= 1048576) (m0 : 1 <= m) (m1 : m + 3 * (n + weight qs) <= 4194304) :
  Calls Tryz.prog 195 #[.agg #[.int .i64 z, .slice a n cap], .int .i64 (m : Int)] w fun e w' => e = .returned (.int .i64 ((m + lens qs + 2 * n : Nat) : Int)) ∧ OwnSqs lo hi w' a n (sqMark qs m) g off A C P ∧ Aside lo hi w w' ∧ Bare g n P qs w w' := by
 obtain ⟨wA, hwA⟩ : ∃ wA, wA = w.alloc (.cells #[.int .i64 z, .slice a n cap] 26) := ⟨_, rfl⟩
 have HBA : Hid (Below w.heap.size w wA) := by rw [hwA]; exact (Below.refl _ _).alloc (Nat.le_refl _) _
 have HTA := hide (h.later HBA.out h.top)
 clear h
 go_enter Tryz.func195, Tryz.ntmps195
 go_wp2_with fail
 rw [<- hwA]
 clear hwA
 refine (markSquareS_fine a n cap qs m wA HTA.out hfit m0 m1).mono ?_
 rintro e w1 ⟨rfl, h1, h2, h3⟩
 have H1 := hide h1
 have H2 := hide ((aside_new HBA.out (lo := lo) (hi := hi)).trans h2)
 have H3 : Hid (Bare g n P qs w w1) := fun k hk hg hP => (h3 k (Nat.lt_of_lt_of_le hk HBA.out.size) hg hP).trans (HBA.out.block k hk)
 clear h1 h2 h3 HTA
 obtain ⟨t, ht⟩ : ∃ t, t = m + lens qs + 2 * n := ⟨_, rfl⟩
 rw [<- ht]
 have HT := hide ht
 clear ht
 go_wp2_with fail
 go_ret
 exact ⟨by rw [<- HT.out]; rfl, H1.out, H2.out, H3.out⟩
set_option maxHeartbeats 400000 in
theorem markSquareS_nilat (a : Option Addr) (cap : Nat) (m : Nat) (w : World) : Calls Tryz.prog 241 #[.slice a 0 cap, .int .i64 (m : Int)] w fun e w' => e = .returned (.int .i64 (m : Int)) ∧ w = w' := by
 go_enter Tryz.func241, Tryz.ntmps241
 go_wp2_with fail
 go_loopw [1, 5] (fun q i wr => q = .int .i64 (m : Int) ∧ i = .int .i64 0 ∧ w = wr) (fun _ _ _ => 0)
 case atStart => exact ⟨rfl, rfl, rfl⟩
 case round =>
  obtain ⟨rfl, rfl, rfl⟩ := hrel
  go_wp2_with fail
  go_ret
  exact ⟨rfl, rfl⟩
theorem markChip_nilat (z : Int) (a : Option Addr) (cap : Nat) (m : Nat) (w : World) : Calls Tryz.prog 195 #[.agg #[.int .i64 z, .slice a 0 cap], .int .i64 (m : Int)] w fun e w' => e = .returned (.int .i64 (m : Int)) ∧ Below w.heap.size w w' := by
 obtain ⟨wA, hwA⟩ : ∃ wA, wA = w.alloc (.cells #[.int .i64 z, .slice a 0 cap] 26) := ⟨_, rfl⟩
 have HBA : Hid (Below w.heap.size w wA) := by rw [hwA]; exact (Below.refl _ _).alloc (Nat.le_refl _) _
 go_enter Tryz.func195, Tryz.ntmps195
 go_wp2_with fail
 rw [<- hwA]
 clear hwA
 refine (markSquareS_nilat a cap m wA).mono ?_
 rintro e w1 ⟨rfl, rfl⟩
 go_wp2_with fail
 go_ret
 exact ⟨rfl, HBA.out⟩
theorem heldChip_at (z : Int) (a : Option Addr) (n cap : Nat) (qs : List Sq) (m : Nat) (w : World) {lo hi : Nat} (h : Squares lo hi w a n (sqMark qs m)) (hhi : hi <= w.heap.size) (hfit : n + weight qs <= 1048576) (m0 : 1 <= m) (m1 : m + 3 * (n + weight qs) <= 4194304) :
  Calls Tryz.prog 197 #[.agg #[.int .i64 z, .slice a n cap], .int .i64 (m : Int)] w fun e w' => e = .returned (.int .i64 ((m + lens qs + 2 * n : Nat) : Int)) ∧ Below w.heap.size w w' := by
 obtain ⟨wA, hwA⟩ : ∃ wA, wA = w.alloc (.cells #[.int .i64 z, .slice a n cap] 26) := ⟨_, rfl⟩
 have HBA : Hid (Below w.heap.size w wA) := by rw [hwA]; exact (Below.refl _ _).alloc (Nat.le_refl _) _
 have HTA := hide (h.later HBA.out hhi)
 have hle := lens_weight qs
 clear h
 go_enter Tryz.func197, Tryz.ntmps197
 go_wp2_with fail
 rw [<- hwA]
 clear hwA
 refine (heldSquareS_any a n cap qs m wA HTA.out hfit m0 m1).mono ?_
 rintro e w1 ⟨rfl, h2⟩
 have H2 := hide (below_here HBA.out h2)
 clear h2 HTA
 obtain ⟨t, ht⟩ : ∃ t, t = m + lens qs + 2 * n := ⟨_, rfl⟩
 rw [<- ht]
 have ht9 : t <= 4194304 := by omega
 have HT := hide ht
 clear ht
 go_wp2_with fail
 go_ret
 exact ⟨by rw [<- HT.out]; rfl, H2.out⟩
set_option maxHeartbeats 1600000 in
theorem markFtl_at (z : Int) (a : Option Addr) (n cap : Nat) (qs : List Sq) (am : Option Addr) (m cm : Nat) (ps : List Pl) (op st : Int) (k0 : Nat) (w : World) {lo hi : Nat} (h : FtlOwn lo hi w a am qs ps) (hn : qs.length = n) (hm : ps.length = m) (hfit : n + weight qs <= 1048576) (hm2 : m <= 1048576) (m0 : 1 <= k0) (m1 : k0 + 3 * (n + weight qs) <= 4194304) :
  Calls Tryz.prog 134 #[.agg #[.int .i64 z, .slice a n cap, .slice am m cm, .int .i64 op, .int .i64 st], .int .i64 (k0 : Int)] w fun e w' => e = .returned (.int .i64 ((k0 + lens qs + 2 * n + 2 * m : Nat) : Int)) ∧ FtlOwn lo hi w' a am (sqMark qs k0) (plMark (k0 + lens qs + 2 * n) m) ∧ Aside lo hi w w' := by
 obtain ⟨wA, hwA⟩ : ∃ wA, wA = w.alloc (.cells #[.int .i64 z, .slice a n cap, .slice am m cm, .int .i64 op, .int .i64 st] 29) := ⟨_, rfl⟩
 have hzA : wA.heap.size = w.heap.size + 1 := by rw [hwA]; simp
 have HBA : Hid (Below w.heap.size w wA) := by rw [hwA]; exact (Below.refl _ _).alloc (Nat.le_refl _) _
 have H1 : Hid (wA.heap[w.heap.size]? = some (.cells #[.int .i64 z, .slice a n cap, .slice am m cm, .int .i64 op, .int .i64 st] 29)) := by rw [hwA]; exact heap_new _ _
 have hhi := h.1
 have HA := hide (h.later HBA.out h.1)
 have hle := lens_weight qs
 clear h
 obtain ⟨c0, c1, c2, c3, c4⟩ := five_cells H1.out
 have HCM : Hid (Calls Tryz.prog 195 #[.agg #[.int .i64 z, .slice a n cap], .int .i64 (k0 : Int)] wA fun e w' => e = .returned (.int .i64 ((k0 + lens qs + 2 * n : Nat) : Int)) ∧ Aside lo hi wA w' ∧ ((sqMark qs k0 = [] ∧ ps = []) ∨ ∃ g off A C P gm, OwnSqs lo hi w' a n (sqMark qs k0) g off A C P ∧ OwnPlaces gm (gm + 1) w' am m ps ∧ lo <= gm ∧ gm < hi ∧ gm ≠ g ∧ ∀ i, i < n -> 0 < (sqAt qs i).1.length -> gm ≠ P i)) := by
  obtain ⟨h1, ⟨rfl, rfl⟩ | ⟨g, off, A, C, P, gm, h2, h3, h4, h5, h6, h7⟩⟩ := HA.out
  ·subst hn
   refine (markChip_nilat z a cap k0 wA).mono ?_
   rintro e w1 ⟨rfl, b1⟩
   exact ⟨by simp [lens], aside_new b1, .inl ⟨rfl, rfl⟩⟩
  ·rw [hn] at h2 h7
   rw [hm] at h3
   refine (markChip_at z a n cap qs k0 wA h2 hfit m0 m1).mono ?_
   rintro e w1 ⟨rfl, k1, k2, k3⟩
   refine ⟨rfl, k2, .inr ⟨g, off, A, C, P, gm, k1, ?_, h4, h5, h6, h7⟩⟩
   exact ⟨h3.1, h3.2.of k2.size (fun j j1 j2 => by
    have e : j = gm := by omega
    subst e
    exact k3 j (by omega) h6 h7)⟩
 go_enter Tryz.func134, Tryz.ntmps134
 go_wp2_with fail
 rw [<- hwA]
 clear hwA
 refine HCM.out.mono ?_
 rintro e w1 ⟨rfl, hA, hor⟩
 have K1 : Hid (w1.heap[w.heap.size]? = some (.cells #[.int .i64 z, .slice a n cap, .slice am m cm, .int .i64 op, .int .i64 st] 29)) := (hA.block _ (by omega) (by omega)).trans H1.out
 have HA1 := hide ((aside_new HBA.out (lo := lo) (hi := hi)).trans hA)
 have HOR := hide hor
 have hs1 := hA.size
 clear hA hor c0 c1 c2 c3 c4 HCM
 obtain ⟨c0, c1, c2, c3, c4⟩ := five_cells K1.out
 obtain ⟨t, ht⟩ : ∃ t, t = k0 + lens qs + 2 * n := ⟨_, rfl⟩
 have HT := hide ht
 have ht9 : t <= 4194304 := by omega
 rw [<- ht]
 clear ht
 have HPM : Hid (Calls Tryz.prog 196 #[.slice am m cm, .int .i64 (t : Int)] w1 fun e w' => e = .returned (.int .i64 ((t + 2 * m : Nat) : Int)) ∧ FtlOwn lo hi w' a am (sqMark qs k0) (plMark t m) ∧ Aside lo hi w w') := by
  rcases HOR.out with ⟨e1, e2⟩ | ⟨g, off, A, C, P, gm, k1, k2, k3, k4, k5, k6⟩
  ·have hm0 : m = 0 := by rw [<- hm, e2]; rfl
   subst hm0
   refine (markPlaceS_any (lo := 0) (hi := 0) am 0 cm [] t w1 ⟨rfl, Nat.zero_le _, fun h => absurd h (by omega)⟩ (by omega) ht9).mono ?_
   rintro e w2 ⟨rfl, _, hA2⟩
   have hA3 : Aside lo hi w1 w2 := ⟨hA2.os, hA2.tape, hA2.output, hA2.size, fun k hk _ => hA2.block k hk (by omega)⟩
   exact ⟨rfl, ⟨Nat.le_trans hhi (by have := hA2.size; omega), .inl ⟨e1, rfl⟩⟩, HA1.out.trans hA3⟩
  ·refine (markPlaceS_any am m cm ps t w1 k2 hm2 ht9).mono ?_
   rintro e w2 ⟨rfl, k7, hA2⟩
   have hA3 : Aside lo hi w1 w2 := aside_wideQ hA2 k3 k4
   refine ⟨rfl, ⟨Nat.le_trans hhi (by have := hA2.size; omega), .inr ⟨g, off, A, C, P, gm, ?_, ?_, k3, k4, k5, fun i hi' h0 => ?_⟩⟩, HA1.out.trans hA3⟩
   ·rw [sqMark_length, hn]
    exact own_sqs_apart k1 hA2 k5 (fun i hi' h0 => k6 i hi' (by rw [<- sqMark_len qs k0 i (by omega)]; exact h0))
   ·rw [plMark_length]; exact k7
   ·rw [sqMark_length] at hi'
    exact k6 i (by omega) (by rw [<- sqMark_len qs k0 i hi']; exact h0)
 go_wp2_with fail
 refine HPM.out.mono ?_
 rintro e w2 ⟨rfl, hF, hA2⟩
 have HF := hide hF
 have HA2 := hide hA2
 clear hF hA2 HPM
 have HTT := HT.out
 obtain ⟨u, hu⟩ : ∃ u, u = t + 2 * m := ⟨_, rfl⟩
 have HU := hide hu
 rw [<- hu]
 clear hu
 go_wp2_with fail
 go_ret
 exact ⟨by rw [<- HT.out, <- HU.out]; rfl, by rw [<- HT.out]; exact HF.out, HA2.out⟩
set_option maxHeartbeats 1600000 in
theorem heldFtl_at (z : Int) (a : Option Addr) (n cap : Nat) (qs : List Sq) (am : Option Addr) (m cm : Nat) (op st : Int) (k0 : Nat) (w : World) {lo hi lo' hi' : Nat} (h : Squares lo hi w a n (sqMark qs k0)) (hhi : hi <= w.heap.size) (hp : Places lo' hi' w am m (plMark (k0 + lens qs + 2 * n) m)) (hhi' : hi' <= w.heap.size) (hfit : n + weight qs <= 1048576) (hm2 : m <= 1048576) (m0 : 1 <= k0) (m1 : k0 + 3 * (n + weight qs) <= 4194304) :
  Calls Tryz.prog 136 #[.agg #[.int .i64 z, .slice a n cap, .slice am m cm, .int .i64 op, .int .i64 st], .int .i64 (k0 : Int)] w fun e w' => e = .returned (.int .i64 ((k0 + lens qs + 2 * n + 2 * m : Nat) : Int)) ∧ Below w.heap.size w w' := by
 obtain ⟨wA, hwA⟩ : ∃ wA, wA = w.alloc (.cells #[.int .i64 z, .slice a n cap, .slice am m cm, .int .i64 op, .int .i64 st] 29) := ⟨_, rfl⟩
 have hzA : wA.heap.size = w.heap.size + 1 := by rw [hwA]; simp
 have HBA : Hid (Below w.heap.size w wA) := by rw [hwA]; exact (Below.refl _ _).alloc (Nat.le_refl _) _
 have H1 : Hid (wA.heap[w.heap.size]? = some (.cells #[.int .i64 z, .slice a n cap, .slice am m cm, .int .i64 op, .int .i64 st] 29)) := by rw [hwA]; exact heap_new _ _
 have HS := hide (h.later HBA.out hhi)
 have HP := hide (hp.later HBA.out hhi')
 have hle := lens_weight qs
 have hqn : qs.length = n := by have := h.1; rw [sqMark_length] at this; exact this
 clear h hp
 obtain ⟨c0, c1, c2, c3, c4⟩ := five_cells H1.out
 go_enter Tryz.func136, Tryz.ntmps136
 go_wp2_with fail
 rw [<- hwA]
 clear hwA
 refine (heldChip_at z a n cap qs k0 wA HS.out (by omega) hfit m0 m1).mono ?_
 rintro e w1 ⟨rfl, b1⟩
 have K1 := hide (block_on H1.out b1)
 have HP1 := hide (HP.out.later b1 (by omega))
 have HB1 := hide (below_here HBA.out b1)
 clear b1 c0 c1 c2 c3 c4
 obtain ⟨c0, c1, c2, c3, c4⟩ := five_cells K1.out
 obtain ⟨t, ht⟩ : ∃ t, t = k0 + lens qs + 2 * n := ⟨_, rfl⟩
 have HT := hide ht
 have ht9 : t <= 4194304 := by omega
 rw [<- ht] at HP1
 rw [<- ht]
 clear ht
 have g0 : decide ((t : Int) < 0) = false := by simp
 go_wp2_with fail
 refine (heldPlaceS_any am m cm t w1 HP1.out hm2 ht9).mono ?_
 rintro e w2 ⟨rfl, rfl⟩
 obtain ⟨u, hu⟩ : ∃ u, u = t + 2 * m := ⟨_, rfl⟩
 have HU := hide hu
 rw [<- hu]
 clear hu
 have g1 : decide ((u : Int) < 0) = false := by simp
 go_wp2_with fail
 go_ret
 exact ⟨by rw [<- HT.out, <- HU.out]; rfl, HB1.out⟩
end Go.Proofs.YtkbhcdkfjniafaaGreatDoor
end

section
namespace Go.Proofs.YtkbhcdkfjniafaaGreatDoor
open Go.RowKit
set_option linter.unusedVariables false
structure VarC (s b lo hi : Nat) (z : Int) (qs : List Sq) (a : Option Addr) (c : Nat) (w : World) : Prop where
 var : w.heap[b]? = some (.cells #[.int .i64 z, .slice a qs.length c] 26)
 ans : AnsQ lo hi w a qs.length qs
 apart : b < lo ∨ hi <= b
 atB : s <= b
 atL : s <= lo
section
variable {s b lo hi c : Nat} {z : Int} {qs : List Sq} {a : Option Addr} {w w' : World}
theorem VarC.lt (h : VarC s b lo hi z qs a c w) : b < w.heap.size := (Array.getElem?_eq_some_iff.1 h.var).1
theorem VarC.on (h : VarC s b lo hi z qs a c w) (hb : Below w.heap.size w w') : VarC s b lo hi z qs a c w' := ⟨block_on h.var hb, h.ans.later hb h.ans.1, h.apart, h.atB, h.atL⟩
theorem VarC.aside (h : VarC s b lo hi z qs a c w) {l r : Nat} (hb : Aside l r w w') (h1 : b < l ∨ r <= b) (h2 : r <= lo ∨ hi <= l) : VarC s b lo hi z qs a c w' :=
 ⟨(hb.block b h.lt h1).trans h.var, h.ans.aside hb h2, h.apart, h.atB, h.atL⟩
theorem VarC.cells (h : VarC s b lo hi z qs a c w) : w.cell? ⟨b, 0, none⟩ = some (.int .i64 z) ∧ w.cell? ⟨b, 1, none⟩ = some (.slice a qs.length c) := two_cells h.var
theorem VarC.squares (h : VarC s b lo hi z qs a c w) : Squares lo hi w a qs.length qs := h.ans.squares
theorem VarC.hi_le (h : VarC s b lo hi z qs a c w) : hi <= w.heap.size := h.ans.1
end
end Go.Proofs.YtkbhcdkfjniafaaGreatDoor
end

