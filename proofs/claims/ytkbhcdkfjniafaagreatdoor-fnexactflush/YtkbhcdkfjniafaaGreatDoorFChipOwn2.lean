/- Several texts in one: ChipOwn2, ChipOwn3, ChipMark, PlaceBase, FtlBase, ChipJob, ChipJob2, ChipJobSz, HeldBase, ChipHeld, JobMark, HeldWalk, ChipEq, PlaceWalk, FtlWalk. -/
import Derived.Test.YtkbhcdkfjniafaaGreatDoorFTextWalk
import Derived.Test.YtkbhcdkfjniafaaGreatDoorFCopyBase
import Derived.Deep.RegionWith
section
namespace Go.Proofs.YtkbhcdkfjniafaaGreatDoor
open Go.RowKit
set_option linter.unusedVariables false
set_option maxRecDepth 20000
theorem make3 {P : Program} (t e : TypeId) (z0 z1 z2 : Value) (bytes : Nat) (ht : P.underlying t = some (.slice e)) (hinfo : (P.info? e).map (fun i => (i.zero, i.size, i.bytes)) = some (some (.agg #[z0, z1, z2]), 3, bytes))
  (n : Nat) (hb : bytes * n <= 281474976710656) (h63 : n <= 9223372036854775807) (w : World) :
  (Instr.makeSlice t (.int .i64 (n : Int)) (.int .i64 (n : Int))).run P w = .ok (.slice (some ⟨w.heap.size, 0, none⟩) n n) (w.alloc (.cells (madeCells #[z0, z1, z2] (n * 3)) e)) := by
 obtain ⟨i, hi, hzz⟩ := Option.map_eq_some_iff.1 hinfo
 simp only [Prod.mk.injEq] at hzz
 obtain ⟨hz, hs, hb'⟩ := hzz
 have h := run_make (P := P) w t e i (.agg #[z0, z1, z2]) ht hi hz .i64 .i64 (n : Int) (n : Int) (by omega) (by omega) (by rw [hb', <- Int.natCast_mul]; generalize bytes * n = q at hb ⊢; omega) (by omega)
 rw [h, hs]
 rfl
def zero3 (j : Nat) : Value := if j % 3 = 0 then .slice none 0 0 else if j % 3 = 1 then .int .i64 0 else .bool false
theorem made3 (w : World) (n : Nat) (e : TypeId) : Owned w.heap.size (w.heap.size + 1) (w.alloc (.cells (madeCells #[.slice none 0 0, .int .i64 0, .bool false] (n * 3)) e)) (some ⟨w.heap.size, 0, none⟩) (3 * n) zero3 := by
 refine ⟨by simp, fun _ => ⟨w.heap.size, 0, rfl, Nat.le_refl _, Nat.lt_succ_self _, fun j hj => ⟨?_, ?_⟩⟩⟩
 ·rw [World.cell?_alloc_new, Nat.zero_add]
  have hj' : j < n * 3 := by omega
  have h3 : j % 3 = 0 ∨ j % 3 = 1 ∨ j % 3 = 2 := by omega
  rcases h3 with h | h | h <;> simp [madeCells, hj', zero3, h]
 ·exact four_frozen (heap_new w _) _
theorem Tryz.infoSq : (Tryz.prog.info? 42).map (fun i => (i.zero, i.size, i.bytes)) = some (some (.agg #[.slice none 0 0, .int .i64 0, .bool false]), 3, 40) := by kernel_rfl
theorem len_weight {qs : List Sq} {k : Nat} (h : k < qs.length) : (sqAt qs k).1.length <= weight qs := by
 have h1 := weight_take qs k h
 have h2 : weight (qs.take (k + 1)) <= weight qs := by
  unfold weight
  conv => rhs; rw [<- List.take_append_drop (k + 1) qs, List.map_append, List.sum_append]
  omega
 omega
theorem row3_step (A : Nat -> Option Addr) (C : Nat -> Nat) (qs : List Sq) (k : Nat) (p : Option Addr) (j : Nat) :
  (if j = k * 3 + 2 then Value.bool (sqAt qs k).2.2 else if j = k * 3 + 1 then .int .i64 (sqAt qs k).2.1 else if j = k * 3 then .slice p (sqAt qs k).1.length (C k) else if j < 3 * k then cellQ A C qs j else zero3 j) = (if j < 3 * (k + 1) then cellQ (fun i => if i = k then p else A i) C qs j else zero3 j) := by
 by_cases e2 : j = k * 3 + 2
 ·rw [if_pos e2, if_pos (by omega), e2, show k * 3 + 2 = 3 * k + 2 by omega, cellQ2]
 ·rw [if_neg e2]
  by_cases e1 : j = k * 3 + 1
  ·rw [if_pos e1, if_pos (by omega), e1, show k * 3 + 1 = 3 * k + 1 by omega, cellQ1]
  ·rw [if_neg e1]
   by_cases e0 : j = k * 3
   ·rw [if_pos e0, if_pos (by omega), e0, show k * 3 = 3 * k by omega, cellQ0]; simp
   ·rw [if_neg e0]
    by_cases h : j < 3 * k
    ·rw [if_pos h, if_pos (by omega)]
     unfold cellQ
     dsimp only
     rw [if_neg (show ¬ j / 3 = k by omega)]
    ·rw [if_neg h, if_neg (by omega)]
set_option maxHeartbeats 1600000 in
theorem toSquareS_any (a : Option Addr) (n cap : Nat) (qs : List Sq) (w : World) {lo hi : Nat} (h : Squares lo hi w a n qs) (hhi : hi <= w.heap.size) (hfit : n + weight qs <= 1048576) :
  Calls Tryz.prog 237 #[.slice a n cap] w fun e w' => ∃ a', e = .returned (.slice a' n n) ∧ OwnSquares w.heap.size w'.heap.size w' a' n qs ∧ Below w.heap.size w w' := by
 obtain ⟨hl, A0, C0, hx, ht⟩ := h
 have HL := hide hl
 have HX := hide hx
 have HT := hide ht
 clear hl hx ht
 have hmk := make3 (P := Tryz.prog) 24 42 (.slice none 0 0) (.int .i64 0) (.bool false) 40 Tryz.underlying24 Tryz.infoSq n (by omega) (by omega) w
 have HM := hide (made3 w n 42)
 go_enter Tryz.func237, Tryz.ntmps237
 go_wp2_with fail
 go_loopw [4] (fun i wr => ∃ (k : Nat) (A : Nat -> Option Addr) (P : Nat -> Nat), k <= n ∧ i = .int .i64 (k : Int) ∧
  Owned w.heap.size (w.heap.size + 1) wr (some ⟨w.heap.size, 0, none⟩) (3 * n) (fun j => if j < 3 * k then cellQ A (fun i => (sqAt qs i).1.length) qs j else zero3 j) ∧
  (∀ i, i < k -> OwnTexts (P i) (P i + 1) wr (A i) (sqAt qs i).1.length (sqAt qs i).1 ∧ w.heap.size < P i ∧ P i < wr.heap.size) ∧ (∀ i j, i < k -> j < k -> i ≠ j -> P i ≠ P j) ∧ Below w.heap.size w wr) (fun i _ => n - (intOf i).toNat)
 case atStart => exact ⟨0, fun _ => none, fun _ => 0, Nat.zero_le _, rfl, HM.out.congr (fun j _ => by simp), fun i hi => absurd hi (by omega), fun i j hi => absurd hi (by omega), (Below.refl _ _).alloc (Nat.le_refl _) _⟩
 case round =>
  obtain ⟨k, A, P, hk, rfl, hrow, hpg, hap, hbel⟩ := hrel
  clear HM
  by_cases hlt : k < n
  ·obtain ⟨b, off, rfl, _, hb1, hc⟩ := HX.out.2 (by omega)
   have hbw : b < w.heap.size := by omega
   obtain ⟨c0, c1, c2⟩ := sq_cells hc hbel hbw hlt
   have HTX := hide ((HT.out k hlt).later hbel hhi)
   have hl9 : (sqAt qs k).1.length <= 1048576 := by have := len_weight (show k < qs.length by rw [HL.out]; exact hlt); omega
   have HRW := hide hrow
   have HPG := hide hpg
   have HAP := hide hap
   have HBB := hide hbel
   have HK3 := row3_step A (fun i => (sqAt qs i).1.length) qs k
   clear hrow hpg hap hc
   generalize hy : sqAt qs k = y at *
   obtain ⟨ts, z, bd⟩ := y
   have HY := hide hy
   have HST := hide HK3
   clear hy HK3
   go_wp2_with fail
   refine (toSquare_any (A0 k) ts.length (C0 k) ts z bd wr HTX.out (Nat.le_trans hhi hbel.size) hl9).mono ?_
   rintro e w2 ⟨p, P', rfl, hot, hP1, hP2, b2⟩
   have hgs := HRW.out.1
   have hro := HRW.out.later b2 hgs
   obtain ⟨d0, f0, _, _⟩ := hro.at0 (show k * 3 < 3 * n by omega)
   obtain ⟨d1, f1, _, _⟩ := hro.at0 (show k * 3 + 1 < 3 * n by omega)
   obtain ⟨d2, f2, _, _⟩ := hro.at0 (show k * 3 + 2 < 3 * n by omega)
   have HAS := hide ((((Aside.refl w.heap.size (w.heap.size + 1) w2).setCell (p := ⟨w.heap.size, k * 3, none⟩) (Nat.le_refl _) (Nat.lt_succ_self _) (.slice p ts.length ts.length)).setCell (p := ⟨w.heap.size, k * 3 + 1, none⟩) (Nat.le_refl _) (Nat.lt_succ_self _) (.int .i64 z)).setCell (p := ⟨w.heap.size, k * 3 + 2, none⟩) (Nat.le_refl _) (Nat.lt_succ_self _) (.bool bd))
   have HNR := hide ((((hro.set0 (show k * 3 < 3 * n by omega) (.slice p ts.length ts.length)).set0 (show k * 3 + 1 < 3 * n by omega) (.int .i64 z)).set0 (show k * 3 + 2 < 3 * n by omega) (.bool bd)).congr (fun j _ => HST.out p j))
   have HB2 := hide (below_here HBB.out b2)
   have HOT := hide hot
   have B2 := hide b2
   clear hot b2 hro hbel c0 c1 c2 HRW HST
   go_wp2_with fail
   have hsz := HAS.out.size
   refine ⟨⟨k + 1, fun i => if i = k then p else A i, fun i => if i = k then P' else P i, by omega, by simp, HNR.out, fun i hi => ?_, fun i j hi hj hne => ?_, HB2.out.trans (HAS.out.below (Nat.le_refl _) (by omega))⟩, by simp only [intOf]; omega⟩
   ·by_cases e : i = k
    ·subst e
     simp only [if_true]
     rw [HY.out]
     exact ⟨texts_aside HOT.out HAS.out (fun _ => by omega), by omega, by omega⟩
    ·simp only [if_neg e]
     obtain ⟨q1, q2, q3⟩ := HPG.out i (by omega)
     exact ⟨texts_aside (q1.later B2.out (by omega)) HAS.out (fun _ => by omega), q2, by omega⟩
   ·by_cases ei : i = k
    ·subst ei
     have := (HPG.out j (by omega)).2.2
     simp only [if_true, if_neg (Ne.symm hne)]
     omega
    ·by_cases ej : j = k
     ·subst ej
      have := (HPG.out i (by omega)).2.2
      simp only [if_true, if_neg ei]
      omega
     ·simp only [if_neg ei, if_neg ej]
      exact HAP.out i j (by omega) (by omega) hne
  ·obtain rfl : k = n := by omega
   have hs := hrow.1
   go_wp2_with fail
   go_ret
   refine ⟨_, rfl, ⟨w.heap.size, 0, A, fun i => (sqAt qs i).1.length, P, ⟨HL.out, hrow.congr (fun j hj => if_pos hj), fun _ => rfl, fun i hi => (hpg i hi).1, fun i _ => Nat.le_refl _, ⟨Nat.le_refl _, by omega⟩, fun i hi => ⟨by have := (hpg i hi).2.1; omega, (hpg i hi).2.2⟩, fun i hi _ => by have := (hpg i hi).2.1; omega, fun i j hi hj hne _ _ => hap i j hi hj hne, Nat.le_refl _⟩⟩, hbel⟩
end Go.Proofs.YtkbhcdkfjniafaaGreatDoor
end

section
namespace Go.Proofs.YtkbhcdkfjniafaaGreatDoor
open Go.RowKit
set_option linter.unusedVariables false
set_option maxRecDepth 20000
theorem OwnSqs.aside {lo hi n g off l r : Nat} {w w' : World} {a : Option Addr} {qs : List Sq} {A : Nat -> Option Addr} {C P : Nat -> Nat} (h : OwnSqs lo hi w a n qs g off A C P) (hb : Aside l r w w') (hr : r <= lo ∨ hi <= l) : OwnSqs lo hi w' a n qs g off A C P :=
 ⟨h.len, h.row.aside hb (by have := h.atG; omega), h.addr, fun i hi => (h.pages i hi).aside hb (by have := h.atP i hi; omega), h.room, h.atG, h.atP, h.apartG, h.apartP, Nat.le_trans h.top hb.size⟩
theorem OwnSqs.wide {lo hi lo' hi' n g off : Nat} {w : World} {a : Option Addr} {qs : List Sq} {A : Nat -> Option Addr} {C P : Nat -> Nat} (h : OwnSqs lo hi w a n qs g off A C P) (h1 : lo' <= lo) (h2 : hi <= hi') (h3 : hi' <= w.heap.size) : OwnSqs lo' hi' w a n qs g off A C P :=
 ⟨h.len, h.row, h.addr, h.pages, h.room, by have := h.atG; omega, fun i hi => by have := h.atP i hi; omega, h.apartG, h.apartP, h3⟩
theorem OwnSquares.aside {lo hi n l r : Nat} {w w' : World} {a : Option Addr} {qs : List Sq} (h : OwnSquares lo hi w a n qs) (hb : Aside l r w w') (hr : r <= lo ∨ hi <= l) : OwnSquares lo hi w' a n qs := by
 obtain ⟨g, off, A, C, P, h⟩ := h
 exact ⟨g, off, A, C, P, h.aside hb hr⟩
theorem OwnSquares.wide {lo hi lo' hi' n : Nat} {w : World} {a : Option Addr} {qs : List Sq} (h : OwnSquares lo hi w a n qs) (h1 : lo' <= lo) (h2 : hi <= hi') (h3 : hi' <= w.heap.size) : OwnSquares lo' hi' w a n qs := by
 obtain ⟨g, off, A, C, P, h⟩ := h
 exact ⟨g, off, A, C, P, h.wide h1 h2 h3⟩
theorem two_cells {W : World} {b : Nat} {c0 c1 : Value} {t : TypeId} {fr : Nat × Nat} (h : W.heap[b]? = some (.cells #[c0, c1] t fr)) :
  W.cell? ⟨b, 0, none⟩ = some c0 ∧ W.cell? ⟨b, 1, none⟩ = some c1 := by
 simp [World.cell?, h]
theorem two_set {W : World} {b : Nat} {c0 c1 : Value} {t : TypeId} {fr : Nat × Nat} (h : W.heap[b]? = some (.cells #[c0, c1] t fr)) (v0 v1 : Value) :
  ((W.setCell ⟨b, 0, none⟩ v0).setCell ⟨b, 1, none⟩ v1).heap[b]? = some (.cells #[v0, v1] t fr) :=
 set_block (set_block h 0 v0 (by simp)) 1 v1 (by simp)
theorem two_other {W : World} {b k : Nat} {x : Option Obj} (h : W.heap[b]? = x) (hne : k ≠ b) (v0 v1 : Value) : ((W.setCell ⟨k, 0, none⟩ v0).setCell ⟨k, 1, none⟩ v1).heap[b]? = x :=
 set_other (set_other h hne v0) hne v1
theorem two_aside {lo hi : Nat} {w W : World} {b : Nat} (h : Aside lo hi w W) (h1 : lo <= b) (h2 : b < hi) (v0 v1 : Value) : Aside lo hi w ((W.setCell ⟨b, 0, none⟩ v0).setCell ⟨b, 1, none⟩ v1) :=
 (h.setCell (p := ⟨b, 0, none⟩) h1 h2 v0).setCell (p := ⟨b, 1, none⟩) h1 h2 v1
set_option maxHeartbeats 800000 in
theorem toChip_any (z : Int) (a : Option Addr) (n cap : Nat) (qs : List Sq) (w : World) {lo hi : Nat} (h : Squares lo hi w a n qs) (hhi : hi <= w.heap.size) (hfit : n + weight qs <= 1048576) :
  Calls Tryz.prog 189 #[.agg #[.int .i64 z, .slice a n cap]] w fun e w' => ∃ a', e = .returned (.agg #[.int .i64 z, .slice a' n n]) ∧ OwnSquares w.heap.size w'.heap.size w' a' n qs ∧ Below w.heap.size w w' := by
 obtain ⟨wA, hwA⟩ : ∃ wA, wA = ((w.alloc (.cells #[.int .i64 z, .slice a n cap] 88)).alloc (.cells #[.int .i64 0, .slice none 0 0] 26)).alloc (.cells #[.int .i64 z, .slice none 0 0] 26) := ⟨_, rfl⟩
 have hzA : wA.heap.size = w.heap.size + 1 + 1 + 1 := by rw [hwA]; simp
 have HBA : Hid (Below w.heap.size w wA) := by rw [hwA]; exact ((((Below.refl _ _).alloc (Nat.le_refl _) _).alloc (by simp) _).alloc (by simp; omega) _)
 have H1 : Hid (wA.heap[w.heap.size + 1]? = some (.cells #[.int .i64 0, .slice none 0 0] 26)) := by rw [hwA]; exact heap_old (heap_at (by simp))
 have H2 : Hid (wA.heap[w.heap.size + 1 + 1]? = some (.cells #[.int .i64 z, .slice none 0 0] 26)) := by rw [hwA]; exact heap_at (by simp)
 have HTA := hide (h.later HBA.out hhi)
 clear h
 go_enter Tryz.func189, Tryz.ntmps189
 go_wp2_with fail
 rw [<- hwA]
 clear hwA
 refine (toSquareS_any a n cap qs wA HTA.out (by omega) hfit).mono ?_
 rintro e w1 ⟨p, rfl, hown, b1⟩
 have K1 := hide (block_on H1.out b1)
 have K2 := hide (block_on H2.out b1)
 have hs1 := b1.size
 have HB1 := hide (below_here HBA.out b1)
 obtain ⟨d0, d1⟩ := two_cells K1.out
 obtain ⟨e0, e1⟩ := two_cells K2.out
 have f0 := four_frozen K1.out 0
 have f1 := four_frozen K1.out 1
 have g0 := four_frozen K2.out 0
 have g1 := four_frozen K2.out 1
 have HOW := hide hown
 clear hown b1 H1 H2 HTA
 have HAS := hide (two_aside (b := w.heap.size + 1) ((Aside.refl w.heap.size (w.heap.size + 3) w1).setCell (p := ⟨w.heap.size + 1 + 1, 1, none⟩) (by simp; omega) (by simp) (.slice p n n)) (by omega) (by omega) (.int .i64 z) (.slice p n n))
 have HRS := hide (two_set (set_other K1.out (show w.heap.size + 1 + 1 ≠ w.heap.size + 1 by omega) (o := 1) (.slice p n n)) (.int .i64 z) (.slice p n n))
 clear K1 K2
 go_wp2_with fail
 have hsz := HAS.out.size
 refine bodyPost_ret (results_cell rfl rfl (run_loadVar_row _ _ _ _ _ _ _ HRS.out Tryz.underlying26 rfl (by kernel_rfl))) rfl ⟨p, rfl, (HOW.out.aside HAS.out (.inl (by omega))).wide (by omega) hsz (Nat.le_refl _), HB1.out.trans (HAS.out.below (Nat.le_refl _) (by omega))⟩
end Go.Proofs.YtkbhcdkfjniafaaGreatDoor
end

section
namespace Go.Proofs.YtkbhcdkfjniafaaGreatDoor
open Go.RowKit
set_option linter.unusedVariables false
set_option maxRecDepth 20000
set_option maxHeartbeats 400000 in
theorem markTL_any (a : Option Addr) (n cap : Nat) (xs : List ByteArray) (m : Nat) (w : World) {lo hi : Nat} (h : OwnTexts lo hi w a n xs) (hn : n <= 1048576) (m0 : 1 <= m) (m1 : m + n <= 4194304) :
  Calls Tryz.prog 267 #[.slice a n cap, .int .i64 (m : Int)] w fun e w' => e = .returned (.int .i64 ((m + n : Nat) : Int)) ∧ OwnTexts lo hi w' a n (marksT m n) ∧ Aside lo hi w w' := by
 obtain ⟨hl, hx⟩ := h
 have HL : Hid (xs.length = n) := hl
 clear hl
 go_enter Tryz.func267, Tryz.ntmps267
 go_wp2_with fail
 go_loopw [1, 5] (fun t i wr => ∃ k : Nat, k <= n ∧ i = .int .i64 k ∧ t = .int .i64 ((m + k : Nat) : Int) ∧ Owned lo hi wr a n (fun i => if i < k then .string (markT (m + i)) else cellT xs i) ∧ Aside lo hi w wr) (fun _ i _ => n - (intOf i).toNat)
 case atStart => exact ⟨0, Nat.zero_le _, rfl, by simp, hx.congr (fun _ _ => by simp), Aside.refl _ _ _⟩
 case round =>
  obtain ⟨k, hk, rfl, rfl, hrow, hasd⟩ := hrel
  have hhi := hrow.1
  have HX := hide hx
  clear hx
  by_cases hlt : k < n
  ·have HR0 := hide hrow
   have HA0 := hide hasd
   clear hrow hasd
   go_wp2_with fail
   refine (markText_to (m + k) _ (by omega) (by omega) (by omega) wr).mono ?_
   rintro e w2 ⟨rfl, b2⟩
   have hrow := HR0.out.later b2 hhi
   have hasd := HA0.out.trans (aside_new b2)
   obtain ⟨b, off, rfl, hb1, hb2, hc⟩ := hrow.2 (by omega)
   obtain ⟨hco, hfo⟩ := hc k hlt
   simp only [Nat.lt_irrefl, if_false, cellT] at hco
   have HR := hide ((hrow.set hlt (.string (markT (m + k)))).congr (g := fun i => if i < k + 1 then .string (markT (m + i)) else cellT xs i) (fun j hj => markT_step xs m k j))
   have HB := hide (hasd.setCell (p := ⟨b, off + k, none⟩) hb1 hb2 (.string (markT (m + k))))
   clear hrow hasd hc HR0 HA0 b2
   go_wp2_with fail
   go_roundw
   case rel => exact ⟨k + 1, by omega, by go_num, by go_num, HR.out, HB.out⟩
   case measure => simp [intOf]; omega
  ·obtain rfl : k = n := by omega
   go_wp2_with fail
   go_ret
   exact ⟨rfl, ⟨marksT_length m k, hrow.congr (fun i hi => by rw [if_pos hi, marksT_at m k i hi])⟩, hasd⟩
theorem markTP_any (a : Option Addr) (n cap : Nat) (xs : List ByteArray) (m : Nat) (w : World) {P : Nat} (h : OwnTexts P (P + 1) w a n xs) (hn : n <= 1048576) (m0 : 1 <= m) (m1 : m + n <= 4194304) :
  Calls Tryz.prog 267 #[.slice a n cap, .int .i64 (m : Int)] w fun e w' => e = .returned (.int .i64 ((m + n : Nat) : Int)) ∧ OwnTexts P (P + 1) w' a n (marksT m n) ∧ ∃ l r, Aside l r w w' ∧ (l = r ∨ 0 < n ∧ l = P ∧ r = P + 1) := by
 by_cases h0 : 0 < n
 ·exact (markTL_any a n cap xs m w h hn m0 m1).mono fun e w' ⟨h1, h2, h3⟩ => ⟨h1, h2, P, P + 1, h3, .inr ⟨h0, rfl, rfl⟩⟩
 ·exact (markTL_any a n cap xs m w (lo := 0) (hi := 0) ⟨h.1, Nat.zero_le _, fun h' => absurd h' h0⟩ hn m0 m1).mono fun e w' ⟨h1, h2, h3⟩ => ⟨h1, ⟨h2.1, Nat.le_trans h.2.1 h3.size, fun h' => absurd h' h0⟩, 0, 0, h3, .inl rfl⟩
def lens (qs : List Sq) : Nat := (qs.map fun q => q.1.length).sum
theorem lens_take (qs : List Sq) (k : Nat) (h : k < qs.length) : lens (qs.take (k + 1)) = lens (qs.take k) + (sqAt qs k).1.length := by
 unfold lens sqAt
 rw [List.take_succ_eq_append_getElem h, List.map_append, List.sum_append, List.getD_eq_getElem?_getD, List.getElem?_eq_getElem h]
 simp
theorem lens_whole (qs : List Sq) (k : Nat) : lens (qs.take k) <= lens qs := by
 unfold lens
 conv => rhs; rw [<- List.take_append_drop k qs, List.map_append, List.sum_append]
 omega
theorem lens_weight (qs : List Sq) : lens qs <= weight qs := by
 unfold lens weight
 induction qs with
 | nil => simp
 | cons q qs ih => simp only [List.map_cons, List.sum_cons]; omega
def markS (qs : List Sq) (m i : Nat) : Nat := m + lens (qs.take i) + 2 * i
def sqMark (qs : List Sq) (m : Nat) : List Sq := (List.range qs.length).map fun i => (marksT (markS qs m i) (sqAt qs i).1.length, ((markS qs m i + (sqAt qs i).1.length : Nat) : Int), decide ((markS qs m i + (sqAt qs i).1.length + 1) % 3 = 0))
theorem sqMark_length (qs : List Sq) (m : Nat) : (sqMark qs m).length = qs.length := by simp [sqMark]
theorem sqMark_at (qs : List Sq) (m i : Nat) (h : i < qs.length) : sqAt (sqMark qs m) i = (marksT (markS qs m i) (sqAt qs i).1.length, ((markS qs m i + (sqAt qs i).1.length : Nat) : Int), decide ((markS qs m i + (sqAt qs i).1.length + 1) % 3 = 0)) := by
 show (sqMark qs m).getD i ([], 0, false) = _
 unfold sqMark
 rw [List.getD_eq_getElem?_getD, List.getElem?_map, List.getElem?_range h]; rfl
theorem sqMark_len (qs : List Sq) (m i : Nat) (h : i < qs.length) : (sqAt (sqMark qs m) i).1.length = (sqAt qs i).1.length := by
 rw [sqMark_at qs m i h]; exact marksT_length _ _
theorem markQ_step (A : Nat -> Option Addr) (C : Nat -> Nat) (qs : List Sq) (m k j : Nat) (h : k < qs.length) :
  (if j = k * 3 + 2 then Value.bool (decide ((markS qs m k + (sqAt qs k).1.length + 1) % 3 = 0)) else if j = k * 3 + 1 then .int .i64 ((markS qs m k + (sqAt qs k).1.length : Nat) : Int) else if j < 3 * k then cellQ A C (sqMark qs m) j else cellQ A C qs j) = (if j < 3 * (k + 1) then cellQ A C (sqMark qs m) j else cellQ A C qs j) := by
 by_cases e2 : j = k * 3 + 2
 ·rw [if_pos e2, if_pos (by omega), e2, show k * 3 + 2 = 3 * k + 2 by omega, cellQ2, sqMark_at qs m k h]
 ·rw [if_neg e2]
  by_cases e1 : j = k * 3 + 1
  ·rw [if_pos e1, if_pos (by omega), e1, show k * 3 + 1 = 3 * k + 1 by omega, cellQ1, sqMark_at qs m k h]
  ·rw [if_neg e1]
   by_cases e0 : j = k * 3
   ·rw [if_neg (by omega), if_pos (by omega), e0, show k * 3 = 3 * k by omega, cellQ0, cellQ0, sqMark_len qs m k h]
   ·by_cases h' : j < 3 * k
    ·rw [if_pos h', if_pos (by omega)]
    ·rw [if_neg h', if_neg (by omega)]
theorem Owned.place {lo hi n i : Nat} {w : World} {b off : Nat} {f : Nat -> Value} (h : Owned lo hi w (some ⟨b, off, none⟩) n f) (hi' : i < n) : w.cell? ⟨b, off + i, none⟩ = some (f i) ∧ w.frozen? ⟨b, off + i, none⟩ = false ∧ lo <= b ∧ b < hi := by
 obtain ⟨b', off', e, h1, h2, h3⟩ := h.2 (by omega)
 simp at e
 obtain ⟨rfl, rfl⟩ := e
 exact ⟨(h3 i hi').1, (h3 i hi').2, h1, h2⟩
theorem aside_wideQ {lo hi lo' hi' : Nat} {w w' : World} (h : Aside lo hi w w') (h1 : lo' <= lo) (h2 : hi <= hi') : Aside lo' hi' w w' := ⟨h.os, h.tape, h.output, h.size, fun k hk h' => h.block k hk (by omega)⟩
def Bare (g n : Nat) (P : Nat -> Nat) (qs : List Sq) (w w' : World) : Prop := ∀ k, k < w.heap.size -> k ≠ g -> (∀ i, i < n -> 0 < (sqAt qs i).1.length -> k ≠ P i) -> w'.heap[k]? = w.heap[k]?
set_option maxHeartbeats 1600000 in
theorem markSquareS_fine (a : Option Addr) (n cap : Nat) (qs : List Sq) (m : Nat) (w : World) {lo hi g off : Nat} {A : Nat -> Option Addr} {C P : Nat -> Nat} (h : OwnSqs lo hi w a n qs g off A C P) (hfit : n + weight qs <= 1048576) (m0 : 1 <= m) (m1 : m + 3 * (n + weight qs) <= 4194304) :
  Calls Tryz.prog 241 #[.slice a n cap, .int .i64 (m : Int)] w fun e w' => e = .returned (.int .i64 ((m + lens qs + 2 * n : Nat) : Int)) ∧ OwnSqs lo hi w' a n (sqMark qs m) g off A C P ∧ Aside lo hi w w' ∧ Bare g n P qs w w' := by
 have HH := hide h
 have hle := lens_weight qs
 clear h
 go_enter Tryz.func241, Tryz.ntmps241
 go_wp2_with fail
 go_loopw [1, 5] (fun t i wr => ∃ k : Nat, k <= n ∧ i = .int .i64 (k : Int) ∧ t = .int .i64 ((markS qs m k : Nat) : Int) ∧
  Owned g (g + 1) wr a (3 * n) (fun j => if j < 3 * k then cellQ A C (sqMark qs m) j else cellQ A C qs j) ∧
  (∀ i, i < k -> OwnTexts (P i) (P i + 1) wr (A i) (sqAt qs i).1.length (marksT (markS qs m i) (sqAt qs i).1.length)) ∧
  (∀ i, k <= i -> i < n -> OwnTexts (P i) (P i + 1) wr (A i) (sqAt qs i).1.length (sqAt qs i).1) ∧ Aside lo hi w wr ∧ Bare g n P qs w wr) (fun _ i _ => n - (intOf i).toNat)
 case atStart => exact ⟨0, Nat.zero_le _, rfl, by simp [markS, lens], HH.out.row.congr (fun j _ => by simp), fun i hi => absurd hi (by omega), fun i _ hi => HH.out.pages i hi, Aside.refl _ _ _, fun _ _ _ _ => rfl⟩
 case round =>
  obtain ⟨k, hk, rfl, rfl, hrow, hdone, hleft, hasd, hbar⟩ := hrel
  have HBR := hide hbar
  clear hbar
  by_cases hlt : k < n
  ·have hql : k < qs.length := by rw [HH.out.len]; exact hlt
   obtain rfl := HH.out.addr (by omega)
   have hlw := lens_whole qs (k + 1)
   have HLT := hide (lens_take qs k hql)
   rw [HLT.out] at hlw
   have hatG := HH.out.atG
   have hatP := HH.out.atP k hlt
   have HRW := hide hrow
   have HDN := hide hdone
   have HLF := hide hleft
   have HAS := hide hasd
   have HTK := hide (hleft k (Nat.le_refl _) hlt)
   have c0 := (hrow.place (show 3 * k < 3 * n by omega)).1
   rw [if_neg (by omega), cellQ0, show off + 3 * k = off + k * 3 by omega] at c0
   clear hrow hdone hleft hasd
   obtain ⟨s, hs⟩ : ∃ s, s = markS qs m k := ⟨_, rfl⟩
   have HS := hide hs
   have hsb : s + (sqAt qs k).1.length + 2 <= 4194304 := by rw [hs]; unfold markS; omega
   have hs0 : 1 <= s := by rw [hs]; unfold markS; omega
   have hl9 : (sqAt qs k).1.length <= 1048576 := by omega
   obtain ⟨z, hz⟩ : ∃ z, z = (sqAt qs k).1.length := ⟨_, rfl⟩
   have HZ := hide hz
   rw [<- hs]
   rw [<- hz] at c0 hsb hl9 HTK
   clear hs hz
   go_wp2_with fail
   refine (markTP_any (A k) z (C k) _ s wr HTK.out hl9 hs0 (by omega)).mono ?_
   rintro e w2 ⟨rfl, hot, l, r, hA, hlr⟩
   have hrow := HRW.out.aside hA (by have := HH.out.apartG k hlt; rw [<- HZ.out] at this; omega)
   obtain ⟨c1, f1, _, _⟩ := hrow.place (show k * 3 + 1 < 3 * n by omega)
   obtain ⟨c2, f2, _, _⟩ := hrow.place (show k * 3 + 2 < 3 * n by omega)
   have HRW2 := hide hrow
   have HOT := hide hot
   have HA2 := hide hA
   clear hot hA hrow c0
   rw [<- Nat.add_assoc] at c1 f1 c2 f2
   generalize hq : s + z = q at *
   go_wp2_with fail
   have hms : markS qs m (k + 1) = q + 2 := by
    unfold markS
    rw [HLT.out, <- hq, HS.out, HZ.out]
    unfold markS
    omega
   have hqe : markS qs m k + (sqAt qs k).1.length = q := by rw [<- hq, HS.out, HZ.out]
   have hbe : (((q : Int) + 1) % 3 == 0) = decide ((q + 1) % 3 = 0) := by
    by_cases e : (q + 1) % 3 = 0
    ·rw [decide_eq_true e, beq_iff_eq]; omega
    ·rw [decide_eq_false e, beq_eq_false_iff_ne]; omega
   have HST := hide (fun j => markQ_step A C qs m k j hql)
   rw [hqe] at HST
   rw [hbe]
   have HNR := hide (((HRW2.out.set (show k * 3 + 1 < 3 * n by omega) (.int .i64 (q : Int))).set (show k * 3 + 2 < 3 * n by omega) (.bool (decide ((q + 1) % 3 = 0)))).congr (fun j _ => HST.out j))
   have HAG := hide (((Aside.refl g (g + 1) w2).setCell (p := ⟨g, off + k * 3 + 1, none⟩) (Nat.le_refl _) (Nat.lt_succ_self _) (.int .i64 (q : Int))).setCell (p := ⟨g, off + k * 3 + 2, none⟩) (Nat.le_refl _) (Nat.lt_succ_self _) (.bool (decide ((q + 1) % 3 = 0))))
   have hkeep : ∀ (i : Nat) (xs : List ByteArray), i < n -> i ≠ k -> OwnTexts (P i) (P i + 1) wr (A i) (sqAt qs i).1.length xs -> OwnTexts (P i) (P i + 1) ((w2.setCell ⟨g, off + k * 3 + 1, none⟩ (.int .i64 (q : Int))).setCell ⟨g, off + k * 3 + 2, none⟩ (.bool (decide ((q + 1) % 3 = 0)))) (A i) (sqAt qs i).1.length xs := fun i xs hi hne hx =>
    texts_aside (texts_aside hx HA2.out (fun h0 => by
     have := fun hz => HH.out.apartP i k hi hlt hne h0 hz
     rw [<- HZ.out] at this
     omega)) HAG.out (fun h0 => by have := HH.out.apartG i hi h0; omega)
   refine ⟨⟨k + 1, by omega, by go_num, by rw [hms]; go_num, HNR.out, fun i hi => ?_, fun i h1 h2 => hkeep i _ h2 (by omega) (HLF.out i (by omega) h2), ?_, fun j hj hg hP => ?_⟩, by simp [intOf]; omega⟩
   ·by_cases e : i = k
    ·subst e
     rw [<- HZ.out, <- HS.out]
     exact texts_aside HOT.out HAG.out (fun h0 => by have := HH.out.apartG i hlt; rw [<- HZ.out] at this; omega)
    ·exact hkeep i _ (by omega) e (HDN.out i (by omega))
   ·refine (HAS.out.trans ?_).trans (aside_wideQ HAG.out (by omega) (by omega))
    rcases hlr with rfl | ⟨_, rfl, rfl⟩
    ·exact ⟨HA2.out.os, HA2.out.tape, HA2.out.output, HA2.out.size, fun j hj _ => HA2.out.block j hj (by omega)⟩
    ·exact aside_wideQ HA2.out (by omega) (by omega)
   ·have hj1 : j < wr.heap.size := Nat.lt_of_lt_of_le hj HAS.out.size
    have hj2 : j < w2.heap.size := Nat.lt_of_lt_of_le hj1 HA2.out.size
    have hjp : 0 < z -> j ≠ P k := fun h0 => hP k hlt (by rw [<- HZ.out]; exact h0)
    exact (HAG.out.block j hj2 (by omega)).trans ((HA2.out.block j hj1 (by omega)).trans (HBR.out j hj hg hP))
  ·obtain rfl : k = n := by omega
   have HRW := hide hrow
   have HDN := hide hdone
   have HAS := hide hasd
   clear hrow hdone hleft hasd
   obtain ⟨s, hs⟩ : ∃ s, s = markS qs m k := ⟨_, rfl⟩
   have HS := hide hs
   rw [<- hs]
   clear hs
   go_wp2_with fail
   go_ret
   have hq := HH.out.len
   refine ⟨ret_i64 (by rw [HS.out]; unfold markS; rw [List.take_of_length_le (by omega)]), ⟨(sqMark_length qs m).trans hq, HRW.out.congr (fun j hj => if_pos hj), HH.out.addr, fun i hi => ?_, fun i hi => by rw [sqMark_len qs m i (by omega)]; exact HH.out.room i hi, HH.out.atG, HH.out.atP, fun i hi => by rw [sqMark_len qs m i (by omega)]; exact HH.out.apartG i hi, fun i j hi hj => by rw [sqMark_len qs m i (by omega), sqMark_len qs m j (by omega)]; exact HH.out.apartP i j hi hj, Nat.le_trans HH.out.top HAS.out.size⟩, HAS.out, HBR.out⟩
   rw [sqMark_len qs m i (by omega), sqMark_at qs m i (by omega)]
   exact HDN.out i hi
end Go.Proofs.YtkbhcdkfjniafaaGreatDoor
end

section
namespace Go.Proofs.YtkbhcdkfjniafaaGreatDoor
open Go.RowKit Go.ChangeShapes Go.WideShapes Go.ChangeAt Go.Deep
set_option linter.unusedVariables false
abbrev Pl := Int × Int
def plAt (ps : List Pl) (i : Nat) : Pl := ps.getD i (0, 0)
def cellP (ps : List Pl) (j : Nat) : Value := if j % 2 = 0 then .int .i64 (plAt ps (j / 2)).1 else .int .i64 (plAt ps (j / 2)).2
theorem cellP0 (ps : List Pl) (i : Nat) : cellP ps (2 * i) = .int .i64 (plAt ps i).1 := by
 unfold cellP; rw [if_pos (by omega), show 2 * i / 2 = i by omega]
theorem cellP1 (ps : List Pl) (i : Nat) : cellP ps (2 * i + 1) = .int .i64 (plAt ps i).2 := by
 unfold cellP; rw [if_neg (by omega), show (2 * i + 1) / 2 = i by omega]
def Places (lo hi : Nat) (w : World) (a : Option Addr) (n : Nat) (ps : List Pl) : Prop := ps.length = n ∧ Reads lo hi w a (2 * n) (cellP ps)
def OwnPlaces (lo hi : Nat) (w : World) (a : Option Addr) (n : Nat) (ps : List Pl) : Prop := ps.length = n ∧ Owned lo hi w a (2 * n) (cellP ps)
section
variable {lo hi n : Nat} {w w' : World} {a : Option Addr} {ps : List Pl}
theorem OwnPlaces.places (h : OwnPlaces lo hi w a n ps) : Places lo hi w a n ps := ⟨h.1, h.2.reads⟩
theorem Places.later (h : Places lo hi w a n ps) {B : Nat} (hb : Below B w w') (hB : hi <= B) : Places lo hi w' a n ps := ⟨h.1, h.2.later hb hB⟩
theorem OwnPlaces.later (h : OwnPlaces lo hi w a n ps) {B : Nat} (hb : Below B w w') (hB : hi <= B) : OwnPlaces lo hi w' a n ps := ⟨h.1, h.2.later hb hB⟩
theorem OwnPlaces.aside (h : OwnPlaces lo hi w a n ps) {l r : Nat} (hb : Aside l r w w') (hB : hi <= l ∨ r <= lo) : OwnPlaces lo hi w' a n ps := ⟨h.1, h.2.aside hb hB⟩
end
theorem pl_cells {n B : Nat} {w w' : World} {ps : List Pl} {b off k : Nat} (hc : ∀ i, i < 2 * n -> w.cell? ⟨b, off + i, none⟩ = some (cellP ps i)) (hbel : Below B w w') (hb : b < B) (hk : k < n) :
  w'.cell? ⟨b, off + k * 2, none⟩ = some (.int .i64 (plAt ps k).1) ∧ w'.cell? ⟨b, off + k * 2 + 1, none⟩ = some (.int .i64 (plAt ps k).2) := by
 refine ⟨?_, ?_⟩
 ·rw [hbel.cell (p := ⟨b, off + k * 2, none⟩) hb, show off + k * 2 = off + 2 * k by omega, hc _ (by omega), cellP0]
 ·rw [hbel.cell (p := ⟨b, off + k * 2 + 1, none⟩) hb, show off + k * 2 + 1 = off + (2 * k + 1) by omega, hc _ (by omega), cellP1]
def plFits (p : Pl) : Prop := (Lit.int .i64 p.1).wf = true ∧ (Lit.int .i64 p.2).wf = true
theorem places_read {H : Type} {enc : TypeId × Value -> H} {P : Program} {W : World} {t e : TypeId} {f0 f1 : Field} {a : Option Addr} {len cap : Nat} {d : DataW H} {ps : List MemPlace}
  (ht : P.underlying t = some (.slice e)) (he : P.underlying e = some (.struct #[f0, f1])) (ce : P.cellsOf e = 2) (hone : oneCellFields P #[f0, f1] = true)
  (h0 : P.underlying f0.type = some (.int .i64)) (h1 : P.underlying f1.type = some (.int .i64))
  (h : DataW.Trod enc P W 0 (fun _ => true) true t (.slice a len cap) d ps) :
  ∃ js, Places 0 W.heap.size W a len js ∧ (∀ x ∈ js, plFits x) ∧ len <= maxLen := by
 obtain ⟨fuel, hh⟩ := h
 rcases open_slice ht hh with ⟨hcs, _⟩ | ⟨x, l, c, m, k, D, Pl, hcs, _, hl, hm, hmm, _, hr⟩
 ·simp [Value.cells] at hcs
  obtain ⟨rfl, rfl, rfl⟩ := hcs
  exact ⟨[], ⟨rfl, Nat.le_refl _, fun h => absurd h (by omega)⟩, by simp, Nat.zero_le _⟩
 ·simp [Value.cells] at hcs
  obtain ⟨rfl, rfl, rfl⟩ := hcs
  simp only [if_true] at hmm
  obtain ⟨o0, k0⟩ := hone_of hone 0 f0 rfl
  obtain ⟨o1, k1⟩ := hone_of hone 1 f1 rfl
  obtain ⟨f, hf⟩ := pick_below (α := Int × Int) (p := fun i z => W.cell? (x.add (2 * i)) = some (.int .i64 z.1) ∧ W.cell? (x.add (2 * i + 1)) = some (.int .i64 z.2) ∧ plFits z) (n := len) (0, 0) (fun i hi => by
   obtain ⟨cs', hc, hd⟩ := hr i (by omega)
   rw [ce] at hc
   obtain ⟨_, hlen, hcell⟩ := World.cells?_some hc
   obtain ⟨y0, y1, n', _, _, g0, g1⟩ := trod_struct2 he hd
   match cs', hlen with
   | [v0, v1], _ =>
    simp [o0, o1, k0, k1] at g0 g1
    obtain ⟨z, e0, _, w0⟩ := DataW.trod_int h0 g0
    obtain ⟨y, e1, _, w1⟩ := DataW.trod_int h1 g1
    simp only [List.cons.injEq, and_true] at e0 e1
    subst e0; subst e1
    have hadd : ∀ j, j < 2 -> (x.add (i * 2)).add j = x.add (2 * i + j) := fun j _ => by rw [add_add, Nat.mul_comm]
    have c0 := hcell 0 (by omega)
    have c1 := hcell 1 (by omega)
    rw [hadd 0 (by omega)] at c0
    rw [hadd 1 (by omega)] at c1
    simp at c0 c1
    exact ⟨(z, y), c0, c1, w0, w1⟩)
  have hg : ∀ i, i < len -> plAt ((List.range len).map f) i = f i := fun i hi => by
   unfold plAt
   rw [List.getD_eq_getElem?_getD, List.getElem?_map, List.getElem?_range hi]; rfl
  refine ⟨(List.range len).map f, ⟨by simp, reads_of fun j hj => ?_⟩, ?_, by omega⟩
  ·have e : j = 2 * (j / 2) ∨ j = 2 * (j / 2) + 1 := by omega
   have hq := hf (j / 2) (by omega)
   rcases e with e | e
   ·rw [e, cellP0, hg _ (by omega)]; exact hq.1
   ·rw [e, cellP1, hg _ (by omega)]; exact hq.2.1
  ·intro y hy
   obtain ⟨i, hi, rfl⟩ := List.mem_map.1 hy
   exact (hf i (List.mem_range.1 hi)).2.2
theorem make2 {P : Program} (t e : TypeId) (z0 z1 : Value) (bytes : Nat) (ht : P.underlying t = some (.slice e)) (hinfo : (P.info? e).map (fun i => (i.zero, i.size, i.bytes)) = some (some (.agg #[z0, z1]), 2, bytes))
  (n : Nat) (hb : bytes * n <= 281474976710656) (h63 : n <= 9223372036854775807) (w : World) :
  (Instr.makeSlice t (.int .i64 (n : Int)) (.int .i64 (n : Int))).run P w = .ok (.slice (some ⟨w.heap.size, 0, none⟩) n n) (w.alloc (.cells (madeCells #[z0, z1] (n * 2)) e)) := by
 obtain ⟨i, hi, hzz⟩ := Option.map_eq_some_iff.1 hinfo
 simp only [Prod.mk.injEq] at hzz
 obtain ⟨hz, hs, hb'⟩ := hzz
 have h := run_make (P := P) w t e i (.agg #[z0, z1]) ht hi hz .i64 .i64 (n : Int) (n : Int) (by omega) (by omega) (by rw [hb', <- Int.natCast_mul]; generalize bytes * n = q at hb ⊢; omega) (by omega)
 rw [h, hs]
 rfl
theorem madeP (w : World) (n : Nat) (e : TypeId) : Owned w.heap.size (w.heap.size + 1) (w.alloc (.cells (madeCells #[.int .i64 0, .int .i64 0] (n * 2)) e)) (some ⟨w.heap.size, 0, none⟩) (2 * n) (fun _ => .int .i64 0) := by
 refine ⟨by simp, fun _ => ⟨w.heap.size, 0, rfl, Nat.le_refl _, Nat.lt_succ_self _, fun j hj => ⟨?_, ?_⟩⟩⟩
 ·rw [World.cell?_alloc_new, Nat.zero_add]
  have hj' : j < n * 2 := by omega
  have h3 : j % 2 = 0 ∨ j % 2 = 1 := by omega
  rcases h3 with h | h <;> simp [madeCells, hj', h]
 ·exact four_frozen (heap_new w _) _
theorem rowP_step (ps : List Pl) (k j : Nat) :
  (if j = k * 2 + 1 then Value.int .i64 (plAt ps k).2 else if j = k * 2 then .int .i64 (plAt ps k).1 else if j < 2 * k then cellP ps j else .int .i64 0) = (if j < 2 * (k + 1) then cellP ps j else .int .i64 0) := by
 by_cases e1 : j = k * 2 + 1
 ·rw [if_pos e1, if_pos (by omega), e1, show k * 2 + 1 = 2 * k + 1 by omega, cellP1]
 ·rw [if_neg e1]
  by_cases e0 : j = k * 2
  ·rw [if_pos e0, if_pos (by omega), e0, show k * 2 = 2 * k by omega, cellP0]
  ·rw [if_neg e0]
   by_cases h : j < 2 * k
   ·rw [if_pos h, if_pos (by omega)]
   ·rw [if_neg h, if_neg (by omega)]
end Go.Proofs.YtkbhcdkfjniafaaGreatDoor
end

section
namespace Go.Proofs.YtkbhcdkfjniafaaGreatDoor
open Go.RowKit Go.ChangeShapes Go.WideShapes Go.ChangeAt Go.Deep
set_option linter.unusedVariables false
theorem array5 {α : Type} {cs : Array α} (h : cs.size = 5) : ∃ c0 c1 c2 c3 c4, cs = #[c0, c1, c2, c3, c4] := by
 obtain ⟨l⟩ := cs
 match l, h with
 | [c0, c1, c2, c3, c4], _ => exact ⟨c0, c1, c2, c3, c4, rfl⟩
theorem ftl_read {H : Type} {enc : TypeId × Value -> H} {P : Program} {W : World} {r : Reach} {b0 : Nat} {T e s pe : TypeId} {h0 h1 h2 h3 g0 g1 f0 f1 f2 p0 p1 : Field} {v : Value} {d : DataW H} {ps : List MemPlace}
  (hT : P.underlying T = some (.struct #[h0, h1, h2, h3])) (hC : P.cellsOf T = 5) (offs : (h0.offset, h1.offset, h2.offset, h3.offset) = (0, 2, 3, 4)) (szs : (P.cellsOf h0.type, P.cellsOf h1.type, P.cellsOf h2.type, P.cellsOf h3.type) = (2, 1, 1, 1))
  (hc : P.underlying h0.type = some (.struct #[g0, g1])) (honeT : oneCellFields P #[g0, g1] = true) (hg0 : P.underlying g0.type = some (.int .i64))
  (ht : P.underlying g1.type = some (.slice e)) (he : P.underlying e = some (.struct #[f0, f1, f2])) (ce : P.cellsOf e = 3) (hone : oneCellFields P #[f0, f1, f2] = true)
  (k0 : P.underlying f0.type = some (.slice s)) (hs : P.underlying s = some .string) (cs1 : P.cellsOf s = 1) (k1 : P.underlying f1.type = some (.int .i64)) (k2 : P.underlying f2.type = some .bool)
  (hp : P.underlying h1.type = some (.slice pe)) (hpe : P.underlying pe = some (.struct #[p0, p1])) (cpe : P.cellsOf pe = 2) (honep : oneCellFields P #[p0, p1] = true)
  (hp0 : P.underlying p0.type = some (.int .i64)) (hp1 : P.underlying p1.type = some (.int .i64)) (ho : P.underlying h2.type = some (.int .i64)) (hst : P.underlying h3.type = some (.int .i64))
  (hv : Value.okWide P W r b0 T v) (h : DataW.Trod enc P W 0 (fun _ => true) true T v d ps) :
  ∃ (z : Int) (a : Option Addr) (len cap : Nat) (qs : List Sq) (am : Option Addr) (m cm : Nat) (pl : List Pl) (op st : Int), v = .agg #[.int .i64 z, .slice a len cap, .slice am m cm, .int .i64 op, .int .i64 st] ∧ (Lit.int .i64 z).wf = true ∧ Squares 0 W.heap.size W a len qs ∧ (∀ x ∈ qs, sqFits x) ∧ len <= maxLen ∧
   Places 0 W.heap.size W am m pl ∧ (∀ x ∈ pl, plFits x) ∧ m <= maxLen ∧ (Lit.int .i64 op).wf = true ∧ (Lit.int .i64 st).wf = true := by
 simp only [Prod.mk.injEq] at offs szs
 obtain ⟨o0, o1, o2, o3⟩ := offs
 obtain ⟨c0, c1, c2, c3⟩ := szs
 obtain ⟨cs, rfl, hsz⟩ := Go.WideShapes.okWide_struct hT hv
 obtain ⟨x0, x1, x2, x3, x4, rfl⟩ := array5 (hsz.trans hC)
 obtain ⟨fuel, hf⟩ := h
 obtain ⟨y0, y1, y2, y3, n, _, _, t0, t1, t2, t3⟩ := Go.Joins.trod_struct4 hT hf
 rw [o0, c0] at t0
 rw [o1, c1] at t1
 rw [o2, c2] at t2
 rw [o3, c3] at t3
 simp [Value.cells] at t0 t1 t2 t3
 obtain ⟨u0, u1, n', _, _, s0, s1⟩ := trod_struct2 hc t0
 obtain ⟨q0, r0⟩ := hone_of honeT 0 g0 rfl
 obtain ⟨q1, r1⟩ := hone_of honeT 1 g1 rfl
 simp [q0, r0, q1, r1] at s0 s1
 obtain ⟨z, e0, _, kz⟩ := DataW.trod_int hg0 s0
 obtain ⟨a, len, cap, e1⟩ := Go.Joins.slice_form ht s1
 obtain ⟨am, m, cm, e2⟩ := Go.Joins.slice_form hp t1
 obtain ⟨op, e3, _, ko⟩ := DataW.trod_int ho t2
 obtain ⟨st, e4, _, ks⟩ := DataW.trod_int hst t3
 simp only [List.cons.injEq, and_true] at e0 e1 e2 e3 e4
 subst e0; subst e1; subst e2; subst e3; subst e4
 obtain ⟨qs, g3, g4, g5⟩ := squares_read ht he ce hone k0 hs cs1 k1 k2 (show DataW.trod enc P W 0 (fun _ => true) true n' g1.type [.slice a len cap] = some (u1.1, u1.2) from s1)
 obtain ⟨pl, g6, g7, g8⟩ := places_read (d := y1.1) (ps := y1.2) hp hpe cpe honep hp0 hp1 ⟨n, by simpa [Value.cells] using t1⟩
 exact ⟨z, a, len, cap, qs, am, m, cm, pl, op, st, rfl, kz, g3, g4, g5, g6, g7, g8, ko, ks⟩
end Go.Proofs.YtkbhcdkfjniafaaGreatDoor
end

section
namespace Go.Proofs.YtkbhcdkfjniafaaGreatDoor
open Go.RowKit
set_option linter.unusedVariables false
set_option maxRecDepth 20000
end Go.Proofs.YtkbhcdkfjniafaaGreatDoor
end

section
namespace Go.Proofs.YtkbhcdkfjniafaaGreatDoor
open Go.RowKit
set_option linter.unusedVariables false
set_option maxRecDepth 20000
end Go.Proofs.YtkbhcdkfjniafaaGreatDoor
end

section
namespace Go.Proofs.YtkbhcdkfjniafaaGreatDoor
open Go.RowKit
set_option linter.unusedVariables false
set_option maxRecDepth 20000
end Go.Proofs.YtkbhcdkfjniafaaGreatDoor
end

section
namespace Go.Proofs.YtkbhcdkfjniafaaGreatDoor
open Go.RowKit Go.ChangeShapes Go.WideShapes Go.ChangeAt Go.Deep
set_option linter.unusedVariables false
abbrev Hd := Int × ByteArray × Bool
def hdAt (hs : List Hd) (i : Nat) : Hd := hs.getD i (0, ByteArray.empty, false)
def cellH (hs : List Hd) (j : Nat) : Value :=
 if j % 3 = 0 then .int .i64 (hdAt hs (j / 3)).1 else if j % 3 = 1 then .string (hdAt hs (j / 3)).2.1 else .bool (hdAt hs (j / 3)).2.2
theorem cellH0 (hs : List Hd) (i : Nat) : cellH hs (3 * i) = .int .i64 (hdAt hs i).1 := by
 unfold cellH; rw [if_pos (by omega), show 3 * i / 3 = i by omega]
theorem cellH1 (hs : List Hd) (i : Nat) : cellH hs (3 * i + 1) = .string (hdAt hs i).2.1 := by
 unfold cellH; rw [if_neg (by omega), if_pos (by omega), show (3 * i + 1) / 3 = i by omega]
theorem cellH2 (hs : List Hd) (i : Nat) : cellH hs (3 * i + 2) = .bool (hdAt hs i).2.2 := by
 unfold cellH; rw [if_neg (by omega), if_neg (by omega), show (3 * i + 2) / 3 = i by omega]
def Helds (lo hi : Nat) (w : World) (a : Option Addr) (n : Nat) (hs : List Hd) : Prop := hs.length = n ∧ Reads lo hi w a (3 * n) (cellH hs)
def OwnHelds (lo hi : Nat) (w : World) (a : Option Addr) (n : Nat) (hs : List Hd) : Prop := hs.length = n ∧ Owned lo hi w a (3 * n) (cellH hs)
def hdFits (h : Hd) : Prop := (Lit.int .i64 h.1).wf = true ∧ h.2.1.size <= maxLen
section
variable {lo hi n : Nat} {w w' : World} {a : Option Addr} {hs : List Hd}
theorem OwnHelds.helds (h : OwnHelds lo hi w a n hs) : Helds lo hi w a n hs := ⟨h.1, h.2.reads⟩
theorem Helds.later (h : Helds lo hi w a n hs) {B : Nat} (hb : Below B w w') (hB : hi <= B) : Helds lo hi w' a n hs := ⟨h.1, h.2.later hb hB⟩
theorem Helds.aside (h : Helds lo hi w a n hs) {l r : Nat} (hb : Aside l r w w') (hB : hi <= l ∨ r <= lo) : Helds lo hi w' a n hs := ⟨h.1, h.2.aside hb hB⟩
theorem OwnHelds.later (h : OwnHelds lo hi w a n hs) {B : Nat} (hb : Below B w w') (hB : hi <= B) : OwnHelds lo hi w' a n hs := ⟨h.1, h.2.later hb hB⟩
theorem OwnHelds.aside (h : OwnHelds lo hi w a n hs) {l r : Nat} (hb : Aside l r w w') (hB : hi <= l ∨ r <= lo) : OwnHelds lo hi w' a n hs := ⟨h.1, h.2.aside hb hB⟩
end
theorem hd_cells {n B : Nat} {w w' : World} {hs : List Hd} {b off k : Nat} (hc : ∀ i, i < 3 * n -> w.cell? ⟨b, off + i, none⟩ = some (cellH hs i)) (hbel : Below B w w') (hb : b < B) (hk : k < n) :
  w'.cell? ⟨b, off + k * 3, none⟩ = some (.int .i64 (hdAt hs k).1) ∧ w'.cell? ⟨b, off + k * 3 + 1, none⟩ = some (.string (hdAt hs k).2.1) ∧ w'.cell? ⟨b, off + k * 3 + 2, none⟩ = some (.bool (hdAt hs k).2.2) := by
 refine ⟨?_, ?_, ?_⟩
 ·rw [hbel.cell (p := ⟨b, off + k * 3, none⟩) hb, show off + k * 3 = off + 3 * k by omega, hc _ (by omega), cellH0]
 ·rw [hbel.cell (p := ⟨b, off + k * 3 + 1, none⟩) hb, show off + k * 3 + 1 = off + (3 * k + 1) by omega, hc _ (by omega), cellH1]
 ·rw [hbel.cell (p := ⟨b, off + k * 3 + 2, none⟩) hb, show off + k * 3 + 2 = off + (3 * k + 2) by omega, hc _ (by omega), cellH2]
theorem helds_read {H : Type} {enc : TypeId × Value -> H} {P : Program} {W : World} {t e : TypeId} {f0 f1 f2 : Field} {a : Option Addr} {len cap : Nat} {d : DataW H} {ps : List MemPlace}
  (ht : P.underlying t = some (.slice e)) (he : P.underlying e = some (.struct #[f0, f1, f2])) (ce : P.cellsOf e = 3) (hone : oneCellFields P #[f0, f1, f2] = true)
  (h0 : P.underlying f0.type = some (.int .i64)) (h1 : P.underlying f1.type = some .string) (h2 : P.underlying f2.type = some .bool)
  (h : DataW.Trod enc P W 0 (fun _ => true) true t (.slice a len cap) d ps) :
  ∃ hs, Helds 0 W.heap.size W a len hs ∧ (∀ x ∈ hs, hdFits x) ∧ len <= maxLen := by
 obtain ⟨fuel, hh⟩ := h
 rcases open_slice ht hh with ⟨hcs, _⟩ | ⟨x, l, c, m, k, D, Pl, hcs, _, hl, hm, hmm, _, hr⟩
 ·simp [Value.cells] at hcs
  obtain ⟨rfl, rfl, rfl⟩ := hcs
  exact ⟨[], ⟨rfl, Nat.le_refl _, fun h => absurd h (by omega)⟩, by simp, Nat.zero_le _⟩
 ·simp [Value.cells] at hcs
  obtain ⟨rfl, rfl, rfl⟩ := hcs
  simp only [if_true] at hmm
  obtain ⟨o0, k0⟩ := hone_of hone 0 f0 rfl
  obtain ⟨o1, k1⟩ := hone_of hone 1 f1 rfl
  obtain ⟨o2, k2⟩ := hone_of hone 2 f2 rfl
  obtain ⟨f, hf⟩ := pick_below (α := Hd) (p := fun i z => W.cell? (x.add (3 * i)) = some (.int .i64 z.1) ∧ W.cell? (x.add (3 * i + 1)) = some (.string z.2.1) ∧ W.cell? (x.add (3 * i + 2)) = some (.bool z.2.2) ∧ hdFits z) (n := len) (0, ByteArray.empty, false) (fun i hi => by
   obtain ⟨cs', hc, hd⟩ := hr i (by omega)
   rw [ce] at hc
   obtain ⟨_, hlen, hcell⟩ := World.cells?_some hc
   obtain ⟨y0, y1, y2, n', _, _, g0, g1, g2⟩ := trod_struct3 he hd
   match cs', hlen with
   | [v0, v1, v2], _ =>
    simp [o0, o1, o2, k0, k1, k2] at g0 g1 g2
    obtain ⟨z, e0, _, w0⟩ := DataW.trod_int h0 g0
    obtain ⟨u, e1, _, w1⟩ := DataW.trod_string h1 g1
    obtain ⟨b, e2⟩ : ∃ b, v2 = .bool b := bool_form h2 g2
    simp only [List.cons.injEq, and_true] at e0 e1
    subst e0; subst e1; subst e2
    have hadd : ∀ j, j < 3 -> (x.add (i * 3)).add j = x.add (3 * i + j) := fun j _ => by rw [add_add, Nat.mul_comm]
    have c0 := hcell 0 (by omega)
    have c1 := hcell 1 (by omega)
    have c2 := hcell 2 (by omega)
    rw [hadd 0 (by omega)] at c0
    rw [hadd 1 (by omega)] at c1
    rw [hadd 2 (by omega)] at c2
    simp at c0 c1 c2
    exact ⟨(z, u, b), c0, c1, c2, w0, w1⟩)
  have hg : ∀ i, i < len -> hdAt ((List.range len).map f) i = f i := fun i hi => by
   unfold hdAt
   rw [List.getD_eq_getElem?_getD, List.getElem?_map, List.getElem?_range hi]; rfl
  refine ⟨(List.range len).map f, ⟨by simp, reads_of fun j hj => ?_⟩, ?_, by omega⟩
  ·have e : j = 3 * (j / 3) ∨ j = 3 * (j / 3) + 1 ∨ j = 3 * (j / 3) + 2 := by omega
   have hq := hf (j / 3) (by omega)
   rcases e with e | e | e
   ·rw [e, cellH0, hg _ (by omega)]; exact hq.1
   ·rw [e, cellH1, hg _ (by omega)]; exact hq.2.1
   ·rw [e, cellH2, hg _ (by omega)]; exact hq.2.2.1
  ·intro y hy
   obtain ⟨i, hi, rfl⟩ := List.mem_map.1 hy
   exact (hf i (List.mem_range.1 hi)).2.2.2
theorem array7 {α : Type} {cs : Array α} (h : cs.size = 7) : ∃ c0 c1 c2 c3 c4 c5 c6, cs = #[c0, c1, c2, c3, c4, c5, c6] := by
 obtain ⟨l⟩ := cs
 match l, h with
 | [c0, c1, c2, c3, c4, c5, c6], _ => exact ⟨c0, c1, c2, c3, c4, c5, c6, rfl⟩
theorem cache_read {H : Type} {enc : TypeId × Value -> H} {P : Program} {W : World} {r : Reach} {b0 : Nat} {TC he' e s pe : TypeId} {j0 j1 j2 d0 d1 d2 h0 h1 h2 h3 g0 g1 f0 f1 f2 p0 p1 : Field} {v : Value} {d : DataW H} {ps : List MemPlace}
  (hTC : P.underlying TC = some (.struct #[j0, j1, j2])) (hCC : P.cellsOf TC = 7) (offsC : (j0.offset, j1.offset, j2.offset) = (0, 1, 2)) (szsC : (P.cellsOf j0.type, P.cellsOf j1.type, P.cellsOf j2.type) = (1, 1, 5)) (hj0 : P.underlying j0.type = some (.int .i64))
  (hj1 : P.underlying j1.type = some (.slice he')) (hhe : P.underlying he' = some (.struct #[d0, d1, d2])) (che : P.cellsOf he' = 3) (honeh : oneCellFields P #[d0, d1, d2] = true)
  (hd0 : P.underlying d0.type = some (.int .i64)) (hd1 : P.underlying d1.type = some .string) (hd2 : P.underlying d2.type = some .bool)
  (hT : P.underlying j2.type = some (.struct #[h0, h1, h2, h3])) (offs : (h0.offset, h1.offset, h2.offset, h3.offset) = (0, 2, 3, 4)) (szs : (P.cellsOf h0.type, P.cellsOf h1.type, P.cellsOf h2.type, P.cellsOf h3.type) = (2, 1, 1, 1))
  (hc : P.underlying h0.type = some (.struct #[g0, g1])) (honeT : oneCellFields P #[g0, g1] = true) (hg0 : P.underlying g0.type = some (.int .i64))
  (ht : P.underlying g1.type = some (.slice e)) (he : P.underlying e = some (.struct #[f0, f1, f2])) (ce : P.cellsOf e = 3) (hone : oneCellFields P #[f0, f1, f2] = true)
  (k0 : P.underlying f0.type = some (.slice s)) (hs : P.underlying s = some .string) (cs1 : P.cellsOf s = 1) (k1 : P.underlying f1.type = some (.int .i64)) (k2 : P.underlying f2.type = some .bool)
  (hp : P.underlying h1.type = some (.slice pe)) (hpe : P.underlying pe = some (.struct #[p0, p1])) (cpe : P.cellsOf pe = 2) (honep : oneCellFields P #[p0, p1] = true)
  (hp0 : P.underlying p0.type = some (.int .i64)) (hp1 : P.underlying p1.type = some (.int .i64)) (ho : P.underlying h2.type = some (.int .i64)) (hst : P.underlying h3.type = some (.int .i64))
  (hv : Value.okWide P W r b0 TC v) (h : DataW.Trod enc P W 0 (fun _ => true) true TC v d ps) :
  ∃ (rm : Int) (ai : Option Addr) (ni ci : Nat) (hs : List Hd) (z : Int) (a : Option Addr) (len cap : Nat) (qs : List Sq) (am : Option Addr) (m cm : Nat) (pl : List Pl) (op st : Int), v = .agg #[.int .i64 rm, .slice ai ni ci, .int .i64 z, .slice a len cap, .slice am m cm, .int .i64 op, .int .i64 st] ∧ (Lit.int .i64 rm).wf = true ∧ Helds 0 W.heap.size W ai ni hs ∧ (∀ x ∈ hs, hdFits x) ∧ ni <= maxLen ∧ (Lit.int .i64 z).wf = true ∧ Squares 0 W.heap.size W a len qs ∧ (∀ x ∈ qs, sqFits x) ∧ len <= maxLen ∧
   Places 0 W.heap.size W am m pl ∧ (∀ x ∈ pl, plFits x) ∧ m <= maxLen ∧ (Lit.int .i64 op).wf = true ∧ (Lit.int .i64 st).wf = true := by
 simp only [Prod.mk.injEq] at offs szs offsC szsC
 obtain ⟨o0, o1, o2, o3⟩ := offs
 obtain ⟨c0, c1, c2, c3⟩ := szs
 obtain ⟨oC0, oC1, oC2⟩ := offsC
 obtain ⟨cC0, cC1, cC2⟩ := szsC
 obtain ⟨cs, rfl, hsz⟩ := Go.WideShapes.okWide_struct hTC hv
 obtain ⟨xr, xi, x0, x1, x2, x3, x4, rfl⟩ := array7 (hsz.trans hCC)
 obtain ⟨fuel, hf⟩ := h
 obtain ⟨yC0, yC1, yC2, nC, _, _, tC0, tC1, tC2⟩ := trod_struct3 hTC hf
 rw [oC0, cC0] at tC0
 rw [oC1, cC1] at tC1
 rw [oC2, cC2] at tC2
 simp [Value.cells] at tC0 tC1 tC2
 obtain ⟨rm, eR, _, kR⟩ := DataW.trod_int hj0 tC0
 obtain ⟨ai, ni, ci, eI⟩ := Go.Joins.slice_form hj1 tC1
 obtain ⟨y0, y1, y2, y3, n, _, _, t0, t1, t2, t3⟩ := Go.Joins.trod_struct4 hT tC2
 rw [o0, c0] at t0
 rw [o1, c1] at t1
 rw [o2, c2] at t2
 rw [o3, c3] at t3
 simp at t0 t1 t2 t3
 obtain ⟨u0, u1, n', _, _, s0, s1⟩ := trod_struct2 hc t0
 obtain ⟨q0, r0⟩ := hone_of honeT 0 g0 rfl
 obtain ⟨q1, r1⟩ := hone_of honeT 1 g1 rfl
 simp [q0, r0, q1, r1] at s0 s1
 obtain ⟨z, e0, _, kz⟩ := DataW.trod_int hg0 s0
 obtain ⟨a, len, cap, e1⟩ := Go.Joins.slice_form ht s1
 obtain ⟨am, m, cm, e2⟩ := Go.Joins.slice_form hp t1
 obtain ⟨op, e3, _, ko⟩ := DataW.trod_int ho t2
 obtain ⟨st, e4, _, ks⟩ := DataW.trod_int hst t3
 simp only [List.cons.injEq, and_true] at e0 e1 e2 e3 e4 eR eI
 subst e0; subst e1; subst e2; subst e3; subst e4; subst eR; subst eI
 obtain ⟨qs, g3, g4, g5⟩ := squares_read ht he ce hone k0 hs cs1 k1 k2 (show DataW.trod enc P W 0 (fun _ => true) true n' g1.type [.slice a len cap] = some (u1.1, u1.2) from s1)
 obtain ⟨pl, g6, g7, g8⟩ := places_read (d := y1.1) (ps := y1.2) hp hpe cpe honep hp0 hp1 ⟨n, by simpa [Value.cells] using t1⟩
 obtain ⟨hl, g9, g10, g11⟩ := helds_read (d := yC1.1) (ps := yC1.2) hj1 hhe che honeh hd0 hd1 hd2 ⟨nC, by simpa [Value.cells] using tC1⟩
 exact ⟨rm, ai, ni, ci, hl, z, a, len, cap, qs, am, m, cm, pl, op, st, rfl, kR, g9, g10, g11, kz, g3, g4, g5, g6, g7, g8, ko, ks⟩
end Go.Proofs.YtkbhcdkfjniafaaGreatDoor
end

section
namespace Go.Proofs.YtkbhcdkfjniafaaGreatDoor
open Go.RowKit
set_option linter.unusedVariables false
set_option maxRecDepth 20000
set_option maxHeartbeats 400000 in
theorem heldTL_any (a : Option Addr) (n cap : Nat) (m : Nat) (w : World) {lo hi : Nat} (h : Texts lo hi w a n (marksT m n)) (hn : n <= 1048576) (m0 : 1 <= m) (m1 : m + n <= 4194304) :
  Calls Tryz.prog 268 #[.slice a n cap, .int .i64 (m : Int)] w fun e w' => e = .returned (.int .i64 ((m + n : Nat) : Int)) ∧ Below w.heap.size w w' := by
 obtain ⟨_, hsz, hx⟩ := h
 go_enter Tryz.func268, Tryz.ntmps268
 go_wp2_with fail
 go_loopw [1, 5] (fun t i wr => ∃ k : Nat, k <= n ∧ i = .int .i64 k ∧ t = .int .i64 ((m + k : Nat) : Int) ∧ Below w.heap.size w wr) (fun _ i _ => n - (intOf i).toNat)
 case atStart => exact ⟨0, Nat.zero_le _, rfl, by simp, Below.refl _ _⟩
 case round =>
  obtain ⟨k, hk, rfl, rfl, hbel⟩ := hrel
  by_cases hlt : k < n
  ·obtain ⟨b, off, rfl, _, hb, hc⟩ := hx (by omega)
   have hck : wr.cell? ⟨b, off + k, none⟩ = some (.string (markT (m + k))) := (hbel.cell (p := ⟨b, off + k, none⟩) (by show b < _; omega)).trans (by rw [hc k hlt, marksT_at m n k hlt])
   have HW : Hid (b < wr.heap.size) := by have := hbel.size; show b < _; omega
   have HBB := hide hbel
   have HCK := hide hck
   clear hc hx hbel
   have e0 := text_same (markT (m + k))
   go_wp2_with fail
   go_region_with (go_at_call 194; refine (markText_to (m + k) _ (by omega) (by omega) (by omega) _).mono ?_; rintro e w2 ⟨rfl, b2⟩; have hck2 := (b2.cell (p := ⟨b, off + k, none⟩) HW.out).trans HCK.out; have HB2 := hide (below_here (show Below w.heap.size w wr.drew from HBB.out.drew) b2); clear b2)
   all_goals go_wp2_with fail
   all_goals exact ⟨⟨k + 1, by omega, by go_num, by go_num, HB2.out⟩, by simp [intOf]; omega⟩
  ·obtain rfl : k = n := by omega
   go_wp2_with fail
   go_ret
   exact ⟨rfl, hbel⟩
set_option maxHeartbeats 1600000 in
theorem heldSquareS_any (a : Option Addr) (n cap : Nat) (qs : List Sq) (m : Nat) (w : World) {lo hi : Nat} (h : Squares lo hi w a n (sqMark qs m)) (hfit : n + weight qs <= 1048576) (m0 : 1 <= m) (m1 : m + 3 * (n + weight qs) <= 4194304) :
  Calls Tryz.prog 242 #[.slice a n cap, .int .i64 (m : Int)] w fun e w' => e = .returned (.int .i64 ((m + lens qs + 2 * n : Nat) : Int)) ∧ Below w.heap.size w w' := by
 obtain ⟨hl, A, C, hx, ht⟩ := h
 rw [sqMark_length] at hl
 have HL := hide hl
 have HX := hide hx
 have HT := hide ht
 have hsz := hx.1
 have hle := lens_weight qs
 clear hl hx ht
 go_enter Tryz.func242, Tryz.ntmps242
 go_wp2_with fail
 go_loopw [1, 5] (fun t i wr => ∃ k : Nat, k <= n ∧ i = .int .i64 (k : Int) ∧ t = .int .i64 ((markS qs m k : Nat) : Int) ∧ Below w.heap.size w wr) (fun _ i _ => n - (intOf i).toNat)
 case atStart => exact ⟨0, Nat.zero_le _, rfl, by simp [markS, lens], Below.refl _ _⟩
 case round =>
  obtain ⟨k, hk, rfl, rfl, hbel⟩ := hrel
  by_cases hlt : k < n
  ·have hql : k < qs.length := by rw [HL.out]; exact hlt
   obtain ⟨b, off, rfl, _, hb, hc⟩ := HX.out.2 (by omega)
   obtain ⟨c0, c1, c2⟩ := sq_cells hc hbel (show b < w.heap.size by omega) hlt
   have hti := (HT.out k hlt).later hbel hsz
   have hbw : b < wr.heap.size := by have := hbel.size; omega
   have hlw := lens_whole qs (k + 1)
   have HLT := hide (lens_take qs k hql)
   rw [HLT.out] at hlw
   rw [sqMark_len qs m k hql] at c0 hti
   rw [sqMark_at qs m k hql] at c1 c2 hti
   dsimp only at c1 c2 hti
   have HBB := hide hbel
   clear hc hbel
   obtain ⟨s, hs⟩ : ∃ s, s = markS qs m k := ⟨_, rfl⟩
   have HS := hide hs
   have hsb : s + (sqAt qs k).1.length + 2 <= 4194304 := by rw [hs]; unfold markS; omega
   have hs0 : 1 <= s := by rw [hs]; unfold markS; omega
   have hl9 : (sqAt qs k).1.length <= 1048576 := by omega
   obtain ⟨z, hz⟩ : ∃ z, z = (sqAt qs k).1.length := ⟨_, rfl⟩
   have HZ := hide hz
   rw [<- hs] at c1 c2 hti ⊢
   rw [<- hz] at c0 c1 c2 hti hsb hl9
   have HTI := hide hti
   clear hs hz hti
   obtain ⟨q, hq⟩ : ∃ q, q = s + z := ⟨_, rfl⟩
   rw [<- hq] at c1 c2
   have HQ := hide hq
   clear hq
   go_wp2_with fail
   refine (heldTL_any (A k) z (C k) s wr HTI.out hl9 hs0 (by omega)).mono ?_
   rintro e w2 ⟨rfl, b2⟩
   have d0 := (b2.cell (p := ⟨b, off + k * 3, none⟩) hbw).trans c0
   have d1 := (b2.cell (p := ⟨b, off + k * 3 + 1, none⟩) hbw).trans c1
   have d2 := (b2.cell (p := ⟨b, off + k * 3 + 2, none⟩) hbw).trans c2
   have HB2 := hide (below_here HBB.out b2)
   clear b2 c0 c1 c2 HTI
   rw [<- HQ.out]
   have hq9 : q + 2 <= 4194304 := by rw [HQ.out]; exact hsb
   have hbe : (((q : Int) + 1) % 3 == 0) = decide ((q + 1) % 3 = 0) := by
    by_cases e : (q + 1) % 3 = 0
    ·rw [decide_eq_true e, beq_iff_eq]; omega
    ·rw [decide_eq_false e, beq_eq_false_iff_ne]; omega
   generalize decide ((q + 1) % 3 = 0) = bd at *
   go_wp2_with fail
   have hms : markS qs m (k + 1) = q + 2 := by
    unfold markS
    rw [HLT.out, HQ.out, HS.out, HZ.out]
    unfold markS
    omega
   exact ⟨⟨k + 1, by omega, by go_num, by rw [hms]; go_num, HB2.out⟩, by simp [intOf]; omega⟩
  ·obtain rfl : k = n := by omega
   obtain ⟨s, hs⟩ : ∃ s, s = markS qs m k := ⟨_, rfl⟩
   have HS := hide hs
   rw [<- hs]
   clear hs
   go_wp2_with fail
   go_ret
   have hq := HL.out
   exact ⟨ret_i64 (by rw [HS.out]; unfold markS; rw [List.take_of_length_le (by omega)]), hbel⟩
end Go.Proofs.YtkbhcdkfjniafaaGreatDoor
end

section
namespace Go.Proofs.YtkbhcdkfjniafaaGreatDoor
open Go.RowKit
set_option linter.unusedVariables false
set_option maxRecDepth 20000
end Go.Proofs.YtkbhcdkfjniafaaGreatDoor
end

section
namespace Go.Proofs.YtkbhcdkfjniafaaGreatDoor
open Go.RowKit
set_option linter.unusedVariables false
set_option maxRecDepth 20000
theorem toHeld_any (k : Int) (x : ByteArray) (d : Bool) (w : World) :
  Calls Tryz.prog 188 #[.agg #[.int .i64 k, .string x, .bool d]] w fun e w' => e = .returned (.agg #[.int .i64 k, .string x, .bool d]) ∧ Below w.heap.size w w' := by
 go_enter Tryz.func188, Tryz.ntmps188
 go_wp2_with fail
 refine bodyPost_ret (results_cell rfl rfl (run_loadVar_row _ _ _ _ _ _ _ (heap_old (heap_at (by simp))) Tryz.underlying83 rfl (by kernel_rfl))) rfl ⟨rfl, ?_⟩
 exact (((Below.refl w.heap.size w).alloc (Nat.le_refl _) _).alloc (by simp) _).alloc (by simp; omega) _
def zeroH (j : Nat) : Value := if j % 3 = 0 then .int .i64 0 else if j % 3 = 1 then .string ByteArray.empty else .bool false
theorem madeH (w : World) (n : Nat) (e : TypeId) : Owned w.heap.size (w.heap.size + 1) (w.alloc (.cells (madeCells #[.int .i64 0, .string ByteArray.empty, .bool false] (n * 3)) e)) (some ⟨w.heap.size, 0, none⟩) (3 * n) zeroH := by
 refine ⟨by simp, fun _ => ⟨w.heap.size, 0, rfl, Nat.le_refl _, Nat.lt_succ_self _, fun j hj => ⟨?_, ?_⟩⟩⟩
 ·rw [World.cell?_alloc_new, Nat.zero_add]
  have hj' : j < n * 3 := by omega
  have h3 : j % 3 = 0 ∨ j % 3 = 1 ∨ j % 3 = 2 := by omega
  rcases h3 with h | h | h <;> simp [madeCells, hj', zeroH, h]
 ·exact four_frozen (heap_new w _) _
theorem Tryz.infoHd : (Tryz.prog.info? 83).map (fun i => (i.zero, i.size, i.bytes)) = some (some (.agg #[.int .i64 0, .string ByteArray.empty, .bool false]), 3, 32) := by kernel_rfl
theorem rowH_step (ys : List Hd) (k j : Nat) :
  (if j = k * 3 + 2 then Value.bool (hdAt ys k).2.2 else if j = k * 3 + 1 then .string (hdAt ys k).2.1 else if j = k * 3 then .int .i64 (hdAt ys k).1 else if j < 3 * k then cellH ys j else zeroH j) = (if j < 3 * (k + 1) then cellH ys j else zeroH j) := by
 by_cases e2 : j = k * 3 + 2
 ·rw [if_pos e2, if_pos (by omega), e2, show k * 3 + 2 = 3 * k + 2 by omega, cellH2]
 ·rw [if_neg e2]
  by_cases e1 : j = k * 3 + 1
  ·rw [if_pos e1, if_pos (by omega), e1, show k * 3 + 1 = 3 * k + 1 by omega, cellH1]
  ·rw [if_neg e1]
   by_cases e0 : j = k * 3
   ·rw [if_pos e0, if_pos (by omega), e0, show k * 3 = 3 * k by omega, cellH0]
   ·rw [if_neg e0]
    by_cases h : j < 3 * k
    ·rw [if_pos h, if_pos (by omega)]
    ·rw [if_neg h, if_neg (by omega)]
set_option maxHeartbeats 1600000 in
theorem toHeldS_any (a : Option Addr) (n cap : Nat) (ys : List Hd) (w : World) {lo hi : Nat} (h : Helds lo hi w a n ys) (hn : n <= 1048576) :
  Calls Tryz.prog 129 #[.slice a n cap] w fun e w' => ∃ a', e = .returned (.slice a' n n) ∧ OwnHelds w.heap.size (w.heap.size + 1) w' a' n ys ∧ Below w.heap.size w w' := by
 obtain ⟨hl, hx⟩ := h
 have HL := hide hl
 have HX := hide hx
 have hsz := hx.1
 clear hl hx
 have hmk := make3 (P := Tryz.prog) 63 83 (.int .i64 0) (.string ByteArray.empty) (.bool false) 32 Tryz.underlying63 Tryz.infoHd n (by omega) (by omega) w
 have HM := hide (madeH w n 83)
 go_enter Tryz.func129, Tryz.ntmps129
 go_wp2_with fail
 go_loopw [4] (fun i wr => ∃ k : Nat, k <= n ∧ i = .int .i64 (k : Int) ∧
  Owned w.heap.size (w.heap.size + 1) wr (some ⟨w.heap.size, 0, none⟩) (3 * n) (fun j => if j < 3 * k then cellH ys j else zeroH j) ∧ Below w.heap.size w wr) (fun i _ => n - (intOf i).toNat)
 case atStart => exact ⟨0, Nat.zero_le _, rfl, HM.out.congr (fun j _ => by simp), (Below.refl _ _).alloc (Nat.le_refl _) _⟩
 case round =>
  obtain ⟨k, hk, rfl, hrow, hbel⟩ := hrel
  clear HM
  by_cases hlt : k < n
  ·obtain ⟨b, off, rfl, _, hb1, hc⟩ := HX.out.2 (by omega)
   have hbw : b < w.heap.size := by omega
   obtain ⟨c0, c1, c2⟩ := hd_cells hc hbel hbw hlt
   have HRW := hide hrow
   have HBB := hide hbel
   have HK3 := rowH_step ys k
   clear hrow hc hbel
   generalize hy : hdAt ys k = y at *
   obtain ⟨kd, sq, tx⟩ := y
   have HST := hide HK3
   clear hy HK3
   go_wp2_with fail
   refine (toHeld_any kd sq tx wr).mono ?_
   rintro e w2 ⟨rfl, b2⟩
   have hgs := HRW.out.1
   have hro := HRW.out.later b2 hgs
   obtain ⟨d0, f0, _, _⟩ := hro.at0 (show k * 3 < 3 * n by omega)
   obtain ⟨d1, f1, _, _⟩ := hro.at0 (show k * 3 + 1 < 3 * n by omega)
   obtain ⟨d2, f2, _, _⟩ := hro.at0 (show k * 3 + 2 < 3 * n by omega)
   have HAS := hide ((((Aside.refl w.heap.size (w.heap.size + 1) w2).setCell (p := ⟨w.heap.size, k * 3, none⟩) (Nat.le_refl _) (Nat.lt_succ_self _) (.int .i64 kd)).setCell (p := ⟨w.heap.size, k * 3 + 1, none⟩) (Nat.le_refl _) (Nat.lt_succ_self _) (.string sq)).setCell (p := ⟨w.heap.size, k * 3 + 2, none⟩) (Nat.le_refl _) (Nat.lt_succ_self _) (.bool tx))
   have HNR := hide ((((hro.set0 (show k * 3 < 3 * n by omega) (.int .i64 kd)).set0 (show k * 3 + 1 < 3 * n by omega) (.string sq)).set0 (show k * 3 + 2 < 3 * n by omega) (.bool tx)).congr (fun j _ => HST.out j))
   have hs2 := b2.size
   have HB2 := hide (below_here HBB.out b2)
   clear b2 hro c0 c1 c2 HRW HST
   go_wp2_with fail
   exact ⟨⟨k + 1, by omega, by go_num, HNR.out, HB2.out.trans (HAS.out.below (Nat.le_refl _) (by omega))⟩, by simp [intOf]; omega⟩
  ·obtain rfl : k = n := by omega
   go_wp2_with fail
   go_ret
   exact ⟨_, rfl, ⟨HL.out, hrow.congr (fun j hj => if_pos hj)⟩, hbel⟩
theorem eqHeld_same (k : Int) (x : ByteArray) (d : Bool) (w : World) :
  Calls Tryz.prog 191 #[.agg #[.int .i64 k, .string x, .bool d], .agg #[.int .i64 k, .string x, .bool d]] w fun e w' => e = .returned (.bool true) ∧ Below w.heap.size w w' := by
 go_enter Tryz.func191, Tryz.ntmps191
 go_wp2_with fail
 all_goals go_ret
 all_goals exact ⟨rfl, ((Below.refl w.heap.size w).alloc (Nat.le_refl _) _).alloc (by simp) _⟩
set_option maxHeartbeats 1600000 in
theorem eqHeldS_same (a a' : Option Addr) (n cap cap' : Nat) (ys : List Hd) (w : World) {lo hi lo' hi' : Nat} (h : Helds lo hi w a n ys) (h' : Helds lo' hi' w a' n ys) (hn : n <= 1048576) :
  Calls Tryz.prog 131 #[.slice a n cap, .slice a' n cap'] w fun e w' => e = .returned (.bool true) ∧ Below w.heap.size w w' := by
 obtain ⟨hl, hx⟩ := h
 obtain ⟨hl', hx'⟩ := h'
 have HX := hide hx
 have HX' := hide hx'
 have hsz := hx.1
 have hsz' := hx'.1
 clear hl hl' hx hx'
 go_enter Tryz.func131, Tryz.ntmps131
 go_wp2_with fail
 go_loopw [5] (fun i wr => ∃ k : Nat, k <= n ∧ i = .int .i64 k ∧ Below w.heap.size w wr) (fun i _ => n - (intOf i).toNat)
 case atStart => exact ⟨0, Nat.zero_le _, rfl, Below.refl _ _⟩
 case round =>
  obtain ⟨k, hk, rfl, hbel⟩ := hrel
  by_cases hlt : k < n
  ·obtain ⟨b, off, rfl, _, hb, hc⟩ := HX.out.2 (by omega)
   obtain ⟨b', off', rfl, _, hb', hc'⟩ := HX'.out.2 (by omega)
   obtain ⟨c0, c1, c2⟩ := hd_cells hc hbel (show b < w.heap.size by omega) hlt
   obtain ⟨d0, d1, d2⟩ := hd_cells hc' hbel (show b' < w.heap.size by omega) hlt
   have HBB := hide hbel
   clear hc hc' hbel
   generalize hdAt ys k = y at *
   obtain ⟨kd, sq, tx⟩ := y
   go_wp2_with fail
   go_region_with (go_at_call 191; refine (eqHeld_same kd sq tx _).mono ?_; rintro e w1 ⟨rfl, b1⟩; have HB1 := hide (below_here (show Below w.heap.size w wr.drew from HBB.out.drew) b1); clear b1)
   all_goals go_wp2_with fail
   all_goals exact ⟨⟨k + 1, by omega, by go_num, HB1.out⟩, by simp [intOf]; omega⟩
  ·go_wp2_with fail
   go_ret
   exact ⟨rfl, hbel⟩
theorem szHeld_any (k : Int) (x : ByteArray) (d : Bool) (L : Int) (w : World) (hx : x.size <= maxLen) (hL0 : 0 <= L) (hL1 : L <= 1048576) :
  Calls Tryz.prog 185 #[.agg #[.int .i64 k, .string x, .bool d], .int .i64 L] w fun e w' => Left L x.size e ∧ Below w.heap.size w w' := by
 unfold maxLen at hx
 by_cases hb : (x.size : Int) <= L
 ·have e1 : decide (L - (x.size : Int) < 0) = false := by simp; omega
  go_enter Tryz.func185, Tryz.ntmps185
  go_wp2_with fail
  go_ret
  exact ⟨⟨L - (x.size : Int), rfl, by omega, by omega, fun _ => rfl⟩, (Below.refl w.heap.size w).alloc (Nat.le_refl _) _⟩
 ·have e1 : decide (L - (x.size : Int) < 0) = true := by simp; omega
  go_enter Tryz.func185, Tryz.ntmps185
  go_wp2_with fail
  go_ret
  exact ⟨⟨-1, rfl, by omega, by omega, fun h => absurd h (by omega)⟩, (Below.refl w.heap.size w).alloc (Nat.le_refl _) _⟩
def weightH (ys : List Hd) : Nat := (ys.map fun j => j.2.1.size).sum
theorem weightH_take (ys : List Hd) (k : Nat) (h : k < ys.length) : weightH (ys.take (k + 1)) = weightH (ys.take k) + (hdAt ys k).2.1.size := by
 unfold weightH hdAt
 rw [List.take_succ_eq_append_getElem h, List.map_append, List.sum_append, List.getD_eq_getElem?_getD, List.getElem?_eq_getElem h]
 simp
theorem hd_fits {ys : List Hd} {k : Nat} (h : ∀ x ∈ ys, hdFits x) (hk : k < ys.length) : hdFits (hdAt ys k) := by
 unfold hdAt
 rw [List.getD_eq_getElem?_getD, List.getElem?_eq_getElem hk]
 exact h _ (List.getElem_mem hk)
set_option maxHeartbeats 1600000 in
theorem szHeldS_any (a : Option Addr) (n cap : Nat) (ys : List Hd) (L : Int) (w : World) {lo hi : Nat} (h : Helds lo hi w a n ys) (hhi : hi <= w.heap.size) (hn : n <= maxLen) (hfit : ∀ x ∈ ys, hdFits x) (hL0 : 0 <= L) (hL1 : L <= 1048576) :
  Calls Tryz.prog 127 #[.slice a n cap, .int .i64 L] w fun e w' => Left L (n + weightH ys) e ∧ Below w.heap.size w w' := by
 obtain ⟨hl, hx⟩ := h
 have HL := hide hl
 have HX := hide hx
 have HF := hide hfit
 unfold maxLen at hn
 clear hl hx hfit
 by_cases hb : (n : Int) <= L
 ·go_enter Tryz.func127, Tryz.ntmps127
  go_wp2_with fail
  go_loopw [1, 5] (fun t i wr => ∃ k : Nat, k <= n ∧ i = .int .i64 (k : Int) ∧ (n : Int) + (weightH (ys.take k) : Int) <= L ∧ t = .int .i64 (L - (n : Int) - (weightH (ys.take k) : Int)) ∧ Below w.heap.size w wr) (fun _ i _ => n - (intOf i).toNat)
  case atStart => exact ⟨0, Nat.zero_le _, rfl, by simp [weightH]; omega, by simp [weightH], Below.refl _ _⟩
  case round =>
   obtain ⟨k, hk, rfl, htot, rfl, hbel⟩ := hrel
   by_cases hlt : k < n
   ·obtain ⟨b, off, rfl, _, hb1, hc⟩ := HX.out.2 (by omega)
    have hbw : b < w.heap.size := by omega
    obtain ⟨c0, c1, c2⟩ := hd_cells hc hbel hbw hlt
    have HFK := hide (hd_fits HF.out (show k < ys.length by rw [HL.out]; exact hlt))
    have HWT := hide (weightH_take ys k (by rw [HL.out]; exact hlt))
    clear hc
    generalize weightH (ys.take k) = q at *
    generalize hdAt ys k = y at *
    obtain ⟨kd, sq, tx⟩ := y
    have hL2 : 0 <= L - (n : Int) - (q : Int) := by omega
    go_wp2_with fail
    refine (szHeld_any kd sq tx (L - (n : Int) - (q : Int)) wr HFK.out.2 hL2 (by omega)).mono ?_
    rintro e w2 ⟨⟨r, rfl, r1, r2, r3⟩, b2⟩
    have HR := hide r3
    have HB2 := hide (below_here hbel b2)
    clear r3 b2 hbel c0 c1 c2
    by_cases h0 : r < 0
    ·go_wp2_with fail
     go_ret
     exact ⟨⟨-1, rfl, by omega, by omega, by omega⟩, HB2.out⟩
    ·have hr : r = L - (n : Int) - (q : Int) - (sq.size : Int) := HR.out (by omega)
     go_wp2_with fail
     go_roundw
     case rel => exact ⟨k + 1, by omega, by go_num, by rw [HWT.out]; omega, by rw [HWT.out]; congr 1; omega, HB2.out⟩
     case measure => simp [intOf]; omega
   ·have HW : Hid (weightH (ys.take k) = weightH ys) := by show _ = _; rw [List.take_of_length_le (by rw [HL.out]; omega)]
    generalize weightH (ys.take k) = q at *
    go_wp2_with fail
    go_ret
    exact ⟨⟨_, rfl, by omega, by omega, fun _ => by have := HW.out; omega⟩, hbel⟩
 ·go_enter Tryz.func127, Tryz.ntmps127
  go_wp2_with fail
  go_ret
  exact ⟨⟨-1, rfl, by omega, by omega, by omega⟩, Below.refl _ _⟩
def hdMark (m n : Nat) : List Hd := (List.range n).map fun i : Nat => (((m + 3 * i : Nat) : Int), markT (m + 3 * i + 1), decide ((m + 3 * i + 2) % 3 = 0))
theorem hdMark_length (m n : Nat) : (hdMark m n).length = n := by simp [hdMark]
theorem hdMark_at (m n i : Nat) (h : i < n) : hdAt (hdMark m n) i = (((m + 3 * i : Nat) : Int), markT (m + 3 * i + 1), decide ((m + 3 * i + 2) % 3 = 0)) := by
 unfold hdAt hdMark
 rw [List.getD_eq_getElem?_getD, List.getElem?_map, List.getElem?_range h]; rfl
def mixH (m n : Nat) (ys : List Hd) (k j : Nat) : Value := if j < 3 * k then cellH (hdMark m n) j else cellH ys j
theorem mixH_step (m n : Nat) (ys : List Hd) (k j : Nat) (h : k < n) : (if j = k * 3 + 2 then Value.bool (decide ((m + 3 * k + 2) % 3 = 0)) else if j = k * 3 + 1 then .string (markT (m + 3 * k + 1)) else if j = k * 3 then .int .i64 ((m + 3 * k : Nat) : Int) else mixH m n ys k j) = mixH m n ys (k + 1) j := by
 unfold mixH
 by_cases e2 : j = k * 3 + 2
 ·subst e2
  rw [if_pos rfl, if_pos (by omega), show k * 3 + 2 = 3 * k + 2 by omega, cellH2, hdMark_at m n k h]
 ·rw [if_neg e2]
  by_cases e1 : j = k * 3 + 1
  ·subst e1
   rw [if_pos rfl, if_pos (by omega), show k * 3 + 1 = 3 * k + 1 by omega, cellH1, hdMark_at m n k h]
  ·rw [if_neg e1]
   by_cases e0 : j = k * 3
   ·subst e0
    rw [if_pos rfl, if_pos (by omega), show k * 3 = 3 * k by omega, cellH0, hdMark_at m n k h]
   ·rw [if_neg e0]
    by_cases hl : j < 3 * k
    ·rw [if_pos hl, if_pos (by omega)]
    ·rw [if_neg hl, if_neg (by omega)]
set_option maxHeartbeats 1600000 in
theorem markHeldS_to (a : Option Addr) (n cap : Nat) (ys : List Hd) (m : Nat) (w : World) {lo hi : Nat} (h : OwnHelds lo hi w a n ys) (hn : n <= 1048576) (m0 : 1 <= m) (m1 : m + 3 * n <= 4194304) :
  Calls Tryz.prog 133 #[.slice a n cap, .int .i64 (m : Int)] w fun e w' => e = .returned (.int .i64 ((m + 3 * n : Nat) : Int)) ∧ OwnHelds lo hi w' a n (hdMark m n) ∧ Aside lo hi w w' := by
 obtain ⟨hl, hx⟩ := h
 have HX := hide hx
 clear hl hx
 go_enter Tryz.func133, Tryz.ntmps133
 go_wp2_with fail
 go_loopw [1, 5] (fun t i wr => ∃ k : Nat, k <= n ∧ i = .int .i64 (k : Int) ∧ t = .int .i64 ((m + 3 * k : Nat) : Int) ∧ Owned lo hi wr a (3 * n) (mixH m n ys k) ∧ Aside lo hi w wr) (fun _ i _ => n - (intOf i).toNat)
 case atStart => exact ⟨0, Nat.zero_le _, rfl, by simp, HX.out.congr (fun j _ => by unfold mixH; rw [if_neg (by omega)]), Aside.refl _ _ _⟩
 case round =>
  obtain ⟨k, hk, rfl, rfl, hrow, hasd⟩ := hrel
  clear HX
  by_cases hlt : k < n
  ·obtain ⟨b, off, rfl, hb1, hb2, hc⟩ := hrow.2 (by omega)
   obtain ⟨c0, f0, _, _⟩ := hrow.place (show k * 3 < 3 * n by omega)
   have HRW := hide hrow
   have HAS := hide hasd
   clear hrow hasd hc
   obtain ⟨s, hs⟩ : ∃ s, s = m + 3 * k := ⟨_, rfl⟩
   rw [<- hs]
   have HN1 := hide (HRW.out.set (show k * 3 < 3 * n by omega) (.int .i64 (s : Int)))
   have HA1 := hide (HAS.out.setCell (p := ⟨b, off + k * 3, none⟩) hb1 hb2 (.int .i64 (s : Int)))
   have hs9 : s + 3 <= 4194304 := by omega
   have HS := hide hs
   clear HRW HAS hs
   go_wp2_with fail
   refine (markText_to (s + 1) _ (by omega) (by omega) (by omega) _).mono ?_
   rintro e w2 ⟨rfl, b2⟩
   have hro := HN1.out.later b2 HN1.out.1
   obtain ⟨c1, f1, _, _⟩ := hro.place (show k * 3 + 1 < 3 * n by omega)
   obtain ⟨c2, f2, _, _⟩ := hro.place (show k * 3 + 2 < 3 * n by omega)
   rw [<- Nat.add_assoc] at c1 f1 c2 f2
   have hbe : (((s : Int) + 1 + 1) % 3 == 0) = decide ((s + 2) % 3 = 0) := by
    by_cases e : (s + 2) % 3 = 0
    ·rw [decide_eq_true e, beq_iff_eq]; omega
    ·rw [decide_eq_false e, beq_eq_false_iff_ne]; omega
   have HN2 := hide (((hro.set (show k * 3 + 1 < 3 * n by omega) (.string (markT (s + 1)))).set (show k * 3 + 2 < 3 * n by omega) (.bool (decide ((s + 2) % 3 = 0)))).congr (g := mixH m n ys (k + 1)) (fun j _ => by
    have := mixH_step m n ys k j hlt
    rw [<- HS.out] at this
    rw [<- this]))
   have HA2 := hide (((HA1.out.trans (aside_new b2)).setCell (p := ⟨b, off + k * 3 + 1, none⟩) hb1 hb2 (.string (markT (s + 1)))).setCell (p := ⟨b, off + k * 3 + 2, none⟩) hb1 hb2 (.bool (decide ((s + 2) % 3 = 0))))
   clear hro b2 HN1 HA1 c0
   go_wp2_with fail
   exact ⟨⟨k + 1, by omega, by go_num, by have := HS.out; go_num, HN2.out, HA2.out⟩, by simp [intOf]; omega⟩
  ·obtain rfl : k = n := by omega
   go_wp2_with fail
   go_ret
   exact ⟨rfl, ⟨hdMark_length m k, hrow.congr (fun i hi => by unfold mixH; rw [if_pos hi])⟩, hasd⟩
set_option maxHeartbeats 1600000 in
theorem heldHeldS_any (a : Option Addr) (n cap : Nat) (m : Nat) (w : World) {lo hi : Nat} (h : Helds lo hi w a n (hdMark m n)) (hhi : hi <= w.heap.size) (hn : n <= 1048576) (m0 : 1 <= m) (m1 : m + 3 * n <= 4194304) :
  Calls Tryz.prog 135 #[.slice a n cap, .int .i64 (m : Int)] w fun e w' => e = .returned (.int .i64 ((m + 3 * n : Nat) : Int)) ∧ Below w.heap.size w w' := by
 obtain ⟨hl, hx⟩ := h
 have HX := hide hx
 clear hx hl
 go_enter Tryz.func135, Tryz.ntmps135
 go_wp2_with fail
 go_loopw [1, 5] (fun t i wr => ∃ k : Nat, k <= n ∧ i = .int .i64 (k : Int) ∧ t = .int .i64 ((m + 3 * k : Nat) : Int) ∧ Below w.heap.size w wr) (fun _ i _ => n - (intOf i).toNat)
 case atStart => exact ⟨0, Nat.zero_le _, rfl, by simp, Below.refl _ _⟩
 case round =>
  obtain ⟨k, hk, rfl, rfl, hbel⟩ := hrel
  by_cases hlt : k < n
  ·obtain ⟨b, off, rfl, hb1, hb2, hc⟩ := (HX.out.later hbel hhi).2 (by omega)
   have c0 := hc (k * 3) (by omega)
   have c1 := hc (k * 3 + 1) (by omega)
   have c2 := hc (k * 3 + 2) (by omega)
   rw [show k * 3 = 3 * k by omega, cellH0, hdMark_at m n k hlt] at c0
   rw [show k * 3 = 3 * k by omega, cellH1, hdMark_at m n k hlt, <- Nat.add_assoc] at c1
   rw [show k * 3 = 3 * k by omega, cellH2, hdMark_at m n k hlt, <- Nat.add_assoc] at c2
   rw [show 3 * k = k * 3 by omega] at c0 c1 c2
   dsimp only at c0 c1 c2
   have hlt2 : (k : Int) < (n : Int) := by omega
   have e2 : m + 3 * (k + 1) = m + k * 3 + 1 + 1 + 1 := by omega
   have HE2 := hide e2
   have hqb : m + k * 3 + 3 <= 4194304 := by omega
   have hq1 : 1 <= m + k * 3 := by omega
   have hbb : b < wr.heap.size := by have := hbel.size; omega
   have HBL := hide hbel
   clear hc e2 hbel
   rw [show m + 3 * k = m + k * 3 by omega]
   generalize m + k * 3 = q at *
   have e0 := text_same (markT (q + 1))
   have hbe : (((q : Int) + 1 + 1) % 3 == 0) = decide ((q + 2) % 3 = 0) := by
    by_cases e : (q + 2) % 3 = 0
    ·rw [decide_eq_true e, beq_iff_eq]; omega
    ·rw [decide_eq_false e, beq_eq_false_iff_ne]; omega
   generalize decide ((q + 2) % 3 = 0) = bd at *
   have d1 : ∀ w', Below wr.heap.size wr w' -> w'.cell? ⟨b, off + k * 3 + 1, none⟩ = some (.string (markT (q + 1))) := fun w' h' => (h'.cell (p := ⟨b, off + k * 3 + 1, none⟩) hbb).trans c1
   have d2 : ∀ w', Below wr.heap.size wr w' -> w'.cell? ⟨b, off + k * 3 + 2, none⟩ = some (.bool bd) := fun w' h' => (h'.cell (p := ⟨b, off + k * 3 + 2, none⟩) hbb).trans c2
   have HD1 := hide d1
   have HD2 := hide d2
   clear d1 d2
   go_wp2_with fail
   go_region_with (go_at_call 194; refine (markText_to (q + 1) _ (by omega) (by omega) (by omega) _).mono ?_; rintro e w2 ⟨rfl, b2⟩; have d9 := HD1.out w2 (below_here (Below.refl wr.heap.size wr).drew b2); have d8 := HD2.out w2 (below_here (Below.refl wr.heap.size wr).drew b2); have HB2 := hide (below_here (show Below w.heap.size w wr.drew from HBL.out.drew) b2); clear b2)
   all_goals go_wp2_with fail
   all_goals exact ⟨⟨k + 1, by omega, by go_num, by rw [HE2.out]; go_num, HB2.out⟩, by simp [intOf]; omega⟩
  ·obtain rfl : k = n := by omega
   go_wp2_with fail
   go_ret
   exact ⟨rfl, hbel⟩
end Go.Proofs.YtkbhcdkfjniafaaGreatDoor
end

section
namespace Go.Proofs.YtkbhcdkfjniafaaGreatDoor
open Go.RowKit
set_option linter.unusedVariables false
set_option maxRecDepth 20000
set_option maxHeartbeats 800000 in
theorem eqSquare_same (a a' : Option Addr) (n cap n' cap' : Nat) (ts : List ByteArray) (z : Int) (b : Bool) (w : World) {lo hi lo' hi' : Nat} (h : Texts lo hi w a n ts) (h' : Texts lo' hi' w a' n' ts) (hn : n <= 1048576) (hn' : n' <= 1048576) :
  Calls Tryz.prog 266 #[.agg #[.slice a n cap, .int .i64 z, .bool b], .agg #[.slice a' n' cap', .int .i64 z, .bool b]] w fun e w' => e = .returned (.bool true) ∧ Below w.heap.size w w' := by
 obtain ⟨wA, hwA⟩ : ∃ wA, wA = (w.alloc (.cells #[.slice a n cap, .int .i64 z, .bool b] 42)).alloc (.cells #[.slice a' n' cap', .int .i64 z, .bool b] 42) := ⟨_, rfl⟩
 have hzA : wA.heap.size = w.heap.size + 1 + 1 := by rw [hwA]; simp
 have HBA : Hid (Below w.heap.size w wA) := by rw [hwA]; exact (((Below.refl _ _).alloc (Nat.le_refl _) _).alloc (by simp) _)
 have H1 : Hid (wA.heap[w.heap.size]? = some (.cells #[.slice a n cap, .int .i64 z, .bool b] 42)) := by rw [hwA]; exact heap_old (heap_new _ _)
 have H2 : Hid (wA.heap[w.heap.size + 1]? = some (.cells #[.slice a' n' cap', .int .i64 z, .bool b] 42)) := by rw [hwA]; exact heap_at (by simp)
 have HTA := hide (h.later HBA.out h.2.1)
 have HTB := hide (h'.later HBA.out h'.2.1)
 clear h h'
 go_enter Tryz.func266, Tryz.ntmps266
 go_wp2_with fail
 rw [<- hwA]
 clear hwA
 refine (eqT_any a n cap ts a' n' cap' ts wA HTA.out HTB.out hn hn').mono ?_
 rintro e w1 ⟨rfl, b1⟩
 have HB1 := hide (below_here HBA.out b1)
 obtain ⟨c0, c1, c2⟩ := three_cells (block_on H1.out b1)
 obtain ⟨d0, d1, d2⟩ := three_cells (block_on H2.out b1)
 have e0 : decide (ts = ts) = true := by simp
 rw [e0]
 clear b1 H1 H2 HTA HTB e0
 go_wp2_with fail
 go_ret
 exact ⟨rfl, HB1.out⟩
set_option maxHeartbeats 1600000 in
theorem eqSquareS_same (a a' : Option Addr) (n cap cap' : Nat) (qs : List Sq) (w : World) {lo hi lo' hi' : Nat} (h : Squares lo hi w a n qs) (h' : Squares lo' hi' w a' n qs) (hfit : n + weight qs <= 1048576) :
  Calls Tryz.prog 239 #[.slice a n cap, .slice a' n cap'] w fun e w' => e = .returned (.bool true) ∧ Below w.heap.size w w' := by
 obtain ⟨hl, A, C, hx, ht⟩ := h
 obtain ⟨hl', A', C', hx', ht'⟩ := h'
 have HL := hide hl
 have HX := hide hx
 have HX' := hide hx'
 have HT := hide ht
 have HT' := hide ht'
 have hsz := hx.1
 have hsz' := hx'.1
 clear hl hl' hx hx' ht ht'
 go_enter Tryz.func239, Tryz.ntmps239
 go_wp2_with fail
 go_loopw [5] (fun i wr => ∃ k : Nat, k <= n ∧ i = .int .i64 k ∧ Below w.heap.size w wr) (fun i _ => n - (intOf i).toNat)
 case atStart => exact ⟨0, Nat.zero_le _, rfl, Below.refl _ _⟩
 case round =>
  obtain ⟨k, hk, rfl, hbel⟩ := hrel
  by_cases hlt : k < n
  ·obtain ⟨b, off, rfl, _, hb, hc⟩ := HX.out.2 (by omega)
   obtain ⟨b', off', rfl, _, hb', hc'⟩ := HX'.out.2 (by omega)
   obtain ⟨c0, c1, c2⟩ := sq_cells hc hbel (show b < w.heap.size by omega) hlt
   obtain ⟨d0, d1, d2⟩ := sq_cells hc' hbel (show b' < w.heap.size by omega) hlt
   have HI := hide ((HT.out k hlt).later hbel hsz)
   have HI' := hide ((HT'.out k hlt).later hbel hsz')
   have hl9 : (sqAt qs k).1.length <= 1048576 := by have := len_weight (show k < qs.length by rw [HL.out]; exact hlt); omega
   have HBB := hide hbel
   clear hc hc' hbel
   generalize sqAt qs k = y at *
   obtain ⟨ts, z, bd⟩ := y
   have HCC : ∀ w2, Hid (Below wr.heap.size wr w2 -> Calls Tryz.prog 266 #[.agg #[.slice (A k) ts.length (C k), .int .i64 z, .bool bd], .agg #[.slice (A' k) ts.length (C' k), .int .i64 z, .bool bd]] w2 fun e w' => e = .returned (.bool true) ∧ Below w2.heap.size w2 w') := fun w2 hb2 =>
    eqSquare_same _ _ _ _ _ _ ts z bd w2 (HI.out.later hb2 (by have := HI.out.2.1; omega)) (HI'.out.later hb2 (by have := HI'.out.2.1; omega)) hl9 hl9
   generalize A k = p at c0 HCC
   generalize A' k = p' at d0 HCC
   generalize C k = cp at c0 HCC
   generalize C' k = cp' at d0 HCC
   clear HI HI'
   go_wp2_with fail
   go_region_with (go_at_call 266; refine ((HCC _).out (Below.refl _ wr).drew).mono ?_; rintro e w1 ⟨rfl, b1⟩; have HB1 := hide (below_here (show Below w.heap.size w wr.drew from HBB.out.drew) b1); clear b1)
   all_goals go_wp2_with fail
   all_goals exact ⟨⟨k + 1, by omega, by go_num, HB1.out⟩, by simp [intOf]; omega⟩
  ·go_wp2_with fail
   go_ret
   exact ⟨rfl, hbel⟩
set_option maxHeartbeats 800000 in
theorem eqChip_same (z : Int) (a a' : Option Addr) (n cap cap' : Nat) (qs : List Sq) (w : World) {lo hi lo' hi' : Nat} (h : Squares lo hi w a n qs) (h' : Squares lo' hi' w a' n qs) (hhi : hi <= w.heap.size) (hhi' : hi' <= w.heap.size) (hfit : n + weight qs <= 1048576) :
  Calls Tryz.prog 192 #[.agg #[.int .i64 z, .slice a n cap], .agg #[.int .i64 z, .slice a' n cap']] w fun e w' => e = .returned (.bool true) ∧ Below w.heap.size w w' := by
 obtain ⟨wA, hwA⟩ : ∃ wA, wA = (w.alloc (.cells #[.int .i64 z, .slice a n cap] 26)).alloc (.cells #[.int .i64 z, .slice a' n cap'] 26) := ⟨_, rfl⟩
 have HBA : Hid (Below w.heap.size w wA) := by rw [hwA]; exact (((Below.refl _ _).alloc (Nat.le_refl _) _).alloc (by simp) _)
 have HTA := hide (h.later HBA.out hhi)
 have HTB := hide (h'.later HBA.out hhi')
 clear h h'
 go_enter Tryz.func192, Tryz.ntmps192
 go_wp2_with fail
 rw [<- hwA]
 clear hwA
 refine (eqSquareS_same a a' n cap cap' qs wA HTA.out HTB.out hfit).mono ?_
 rintro e w1 ⟨rfl, b1⟩
 have HB1 := hide (below_here HBA.out b1)
 clear b1 HTA HTB
 go_wp2_with fail
 go_ret
 exact ⟨rfl, HB1.out⟩
end Go.Proofs.YtkbhcdkfjniafaaGreatDoor
end

section
namespace Go.Proofs.YtkbhcdkfjniafaaGreatDoor
open Go.RowKit
set_option linter.unusedVariables false
set_option maxRecDepth 20000
theorem Tryz.infoPl : (Tryz.prog.info? 39).map (fun i => (i.zero, i.size, i.bytes)) = some (some (.agg #[.int .i64 0, .int .i64 0]), 2, 16) := by kernel_rfl
set_option maxHeartbeats 400000 in
theorem szPlaceS_any (a : Option Addr) (n cap : Nat) (L : Int) (w : World) (hn : n <= maxLen) (hL0 : 0 <= L) (hL1 : L <= 1048576) :
  Calls Tryz.prog 187 #[.slice a n cap, .int .i64 L] w fun e w' => Left L n e ∧ w = w' := by
 unfold maxLen at hn
 by_cases hb : (n : Int) <= L
 ·have g : decide (L - (n : Int) < 0) = false := by simp; omega
  go_enter Tryz.func187, Tryz.ntmps187
  go_wp2_with fail
  go_ret
  exact ⟨⟨L - (n : Int), rfl, by omega, by omega, fun _ => rfl⟩, rfl⟩
 ·have g : decide (L - (n : Int) < 0) = true := by simp; omega
  go_enter Tryz.func187, Tryz.ntmps187
  go_wp2_with fail
  go_ret
  exact ⟨⟨-1, rfl, by omega, by omega, by omega⟩, rfl⟩
theorem toPlace_any (p q : Int) (w : World) :
  Calls Tryz.prog 238 #[.agg #[.int .i64 p, .int .i64 q]] w fun e w' => e = .returned (.agg #[.int .i64 p, .int .i64 q]) ∧ Below w.heap.size w w' := by
 go_enter Tryz.func238, Tryz.ntmps238
 go_wp2_with fail
 refine bodyPost_ret (results_cell rfl rfl (run_loadVar_row _ _ _ _ _ _ _ (heap_old (heap_at (by simp))) Tryz.underlying39 rfl (by kernel_rfl))) rfl ⟨rfl, ?_⟩
 exact (((Below.refl w.heap.size w).alloc (Nat.le_refl _) _).alloc (by simp) _).alloc (by simp; omega) _
set_option maxHeartbeats 1600000 in
theorem toPlaceS_any (a : Option Addr) (n cap : Nat) (ps : List Pl) (w : World) {lo hi : Nat} (h : Places lo hi w a n ps) (hn : n <= 1048576) :
  Calls Tryz.prog 190 #[.slice a n cap] w fun e w' => ∃ a', e = .returned (.slice a' n n) ∧ OwnPlaces w.heap.size (w.heap.size + 1) w' a' n ps ∧ Below w.heap.size w w' := by
 obtain ⟨hl, hx⟩ := h
 have HL := hide hl
 have HX := hide hx
 have hsz := hx.1
 clear hl hx
 have hmk := make2 (P := Tryz.prog) 27 39 (.int .i64 0) (.int .i64 0) 16 Tryz.underlying27 Tryz.infoPl n (by omega) (by omega) w
 have HM := hide (madeP w n 39)
 go_enter Tryz.func190, Tryz.ntmps190
 go_wp2_with fail
 go_loopw [4] (fun i wr => ∃ k : Nat, k <= n ∧ i = .int .i64 (k : Int) ∧
  Owned w.heap.size (w.heap.size + 1) wr (some ⟨w.heap.size, 0, none⟩) (2 * n) (fun j => if j < 2 * k then cellP ps j else .int .i64 0) ∧ Below w.heap.size w wr) (fun i _ => n - (intOf i).toNat)
 case atStart => exact ⟨0, Nat.zero_le _, rfl, HM.out.congr (fun j _ => by simp), (Below.refl _ _).alloc (Nat.le_refl _) _⟩
 case round =>
  obtain ⟨k, hk, rfl, hrow, hbel⟩ := hrel
  clear HM
  by_cases hlt : k < n
  ·obtain ⟨b, off, rfl, _, hb1, hc⟩ := HX.out.2 (by omega)
   have hbw : b < w.heap.size := by omega
   obtain ⟨c0, c1⟩ := pl_cells hc hbel hbw hlt
   have HRW := hide hrow
   have HBB := hide hbel
   have HK3 := rowP_step ps k
   clear hrow hc hbel
   generalize hy : plAt ps k = y at *
   obtain ⟨p, q⟩ := y
   have HST := hide HK3
   clear hy HK3
   go_wp2_with fail
   refine (toPlace_any p q wr).mono ?_
   rintro e w2 ⟨rfl, b2⟩
   have hgs := HRW.out.1
   have hro := HRW.out.later b2 hgs
   obtain ⟨d0, f0, _, _⟩ := hro.at0 (show k * 2 < 2 * n by omega)
   obtain ⟨d1, f1, _, _⟩ := hro.at0 (show k * 2 + 1 < 2 * n by omega)
   have HAS := hide (((Aside.refl w.heap.size (w.heap.size + 1) w2).setCell (p := ⟨w.heap.size, k * 2, none⟩) (Nat.le_refl _) (Nat.lt_succ_self _) (.int .i64 p)).setCell (p := ⟨w.heap.size, k * 2 + 1, none⟩) (Nat.le_refl _) (Nat.lt_succ_self _) (.int .i64 q))
   have HNR := hide (((hro.set0 (show k * 2 < 2 * n by omega) (.int .i64 p)).set0 (show k * 2 + 1 < 2 * n by omega) (.int .i64 q)).congr (fun j _ => HST.out j))
   have hs2 := b2.size
   have HB2 := hide (below_here HBB.out b2)
   clear b2 hro c0 c1 HRW HST
   go_wp2_with fail
   exact ⟨⟨k + 1, by omega, by go_num, HNR.out, HB2.out.trans (HAS.out.below (Nat.le_refl _) (by omega))⟩, by simp [intOf]; omega⟩
  ·obtain rfl : k = n := by omega
   go_wp2_with fail
   go_ret
   exact ⟨_, rfl, ⟨HL.out, hrow.congr (fun j hj => if_pos hj)⟩, hbel⟩
theorem eqPlace_same (p q : Int) (w : World) :
  Calls Tryz.prog 240 #[.agg #[.int .i64 p, .int .i64 q], .agg #[.int .i64 p, .int .i64 q]] w fun e w' => e = .returned (.bool true) ∧ Below w.heap.size w w' := by
 go_enter Tryz.func240, Tryz.ntmps240
 go_wp2_with fail
 go_ret
 exact ⟨rfl, ((Below.refl w.heap.size w).alloc (Nat.le_refl _) _).alloc (by simp) _⟩
set_option maxHeartbeats 1600000 in
theorem eqPlaceS_same (a a' : Option Addr) (n cap cap' : Nat) (ps : List Pl) (w : World) {lo hi lo' hi' : Nat} (h : Places lo hi w a n ps) (h' : Places lo' hi' w a' n ps) (hn : n <= 1048576) :
  Calls Tryz.prog 193 #[.slice a n cap, .slice a' n cap'] w fun e w' => e = .returned (.bool true) ∧ Below w.heap.size w w' := by
 obtain ⟨hl, hx⟩ := h
 obtain ⟨hl', hx'⟩ := h'
 have HX := hide hx
 have HX' := hide hx'
 have hsz := hx.1
 have hsz' := hx'.1
 clear hl hl' hx hx'
 go_enter Tryz.func193, Tryz.ntmps193
 go_wp2_with fail
 go_loopw [5] (fun i wr => ∃ k : Nat, k <= n ∧ i = .int .i64 k ∧ Below w.heap.size w wr) (fun i _ => n - (intOf i).toNat)
 case atStart => exact ⟨0, Nat.zero_le _, rfl, Below.refl _ _⟩
 case round =>
  obtain ⟨k, hk, rfl, hbel⟩ := hrel
  by_cases hlt : k < n
  ·obtain ⟨b, off, rfl, _, hb, hc⟩ := HX.out.2 (by omega)
   obtain ⟨b', off', rfl, _, hb', hc'⟩ := HX'.out.2 (by omega)
   obtain ⟨c0, c1⟩ := pl_cells hc hbel (show b < w.heap.size by omega) hlt
   obtain ⟨d0, d1⟩ := pl_cells hc' hbel (show b' < w.heap.size by omega) hlt
   have HBB := hide hbel
   clear hc hc' hbel
   generalize plAt ps k = y at *
   obtain ⟨p, q⟩ := y
   go_wp2_with fail
   go_region_with (go_at_call 240; refine (eqPlace_same p q _).mono ?_; rintro e w1 ⟨rfl, b1⟩; have HB1 := hide (below_here (show Below w.heap.size w wr.drew from HBB.out.drew) b1); clear b1)
   all_goals go_wp2_with fail
   all_goals exact ⟨⟨k + 1, by omega, by go_num, HB1.out⟩, by simp [intOf]; omega⟩
  ·go_wp2_with fail
   go_ret
   exact ⟨rfl, hbel⟩
end Go.Proofs.YtkbhcdkfjniafaaGreatDoor
end

section
namespace Go.Proofs.YtkbhcdkfjniafaaGreatDoor
open Go.RowKit
set_option linter.unusedVariables false
set_option maxRecDepth 20000
theorem five_cells {W : World} {b : Nat} {c0 c1 c2 c3 c4 : Value} {t : TypeId} {fr : Nat × Nat} (h : W.heap[b]? = some (.cells #[c0, c1, c2, c3, c4] t fr)) :
  W.cell? ⟨b, 0, none⟩ = some c0 ∧ W.cell? ⟨b, 1, none⟩ = some c1 ∧ W.cell? ⟨b, 2, none⟩ = some c2 ∧ W.cell? ⟨b, 3, none⟩ = some c3 ∧ W.cell? ⟨b, 4, none⟩ = some c4 := by
 simp [World.cell?, h]
set_option maxHeartbeats 800000 in
theorem szFtl_any (z : Int) (a : Option Addr) (n cap : Nat) (qs : List Sq) (am : Option Addr) (m cm : Nat) (op st L : Int) (w : World) {lo hi : Nat} (h : Squares lo hi w a n qs) (hhi : hi <= w.heap.size) (hn : n <= maxLen) (hfit : ∀ x ∈ qs, sqFits x) (hm : m <= maxLen) (hL0 : 0 <= L) (hL1 : L <= 1048576) :
  Calls Tryz.prog 128 #[.agg #[.int .i64 z, .slice a n cap, .slice am m cm, .int .i64 op, .int .i64 st], .int .i64 L] w fun e w' => Left L (n + weight qs + m) e ∧ Below w.heap.size w w' := by
 obtain ⟨wA, hwA⟩ : ∃ wA, wA = w.alloc (.cells #[.int .i64 z, .slice a n cap, .slice am m cm, .int .i64 op, .int .i64 st] 91) := ⟨_, rfl⟩
 have hzA : wA.heap.size = w.heap.size + 1 := by rw [hwA]; simp
 have HBA : Hid (Below w.heap.size w wA) := by rw [hwA]; exact (Below.refl _ _).alloc (Nat.le_refl _) _
 have H1 : Hid (wA.heap[w.heap.size]? = some (.cells #[.int .i64 z, .slice a n cap, .slice am m cm, .int .i64 op, .int .i64 st] 91)) := by rw [hwA]; exact heap_new _ _
 have HS := hide (h.later HBA.out hhi)
 have HF := hide hfit
 clear h hfit
 obtain ⟨c0, c1, c2, c3, c4⟩ := five_cells H1.out
 go_enter Tryz.func128, Tryz.ntmps128
 go_wp2_with fail
 rw [<- hwA]
 clear hwA
 refine (szChip_any z a n cap qs L wA HS.out (by omega) hn HF.out hL0 hL1).mono ?_
 rintro e w1 ⟨⟨r, rfl, h1, h2, h3⟩, b1⟩
 have H3 := hide h3
 have HB1 := hide (below_here HBA.out b1)
 have K1 := hide (block_on H1.out b1)
 clear h3 b1 c0 c1 c2 c3 c4
 obtain ⟨c0, c1, c2, c3, c4⟩ := five_cells K1.out
 by_cases h0 : r < 0
 ·go_wp2_with fail
  go_ret
  exact ⟨⟨-1, rfl, by omega, by omega, by omega⟩, HB1.out⟩
 ·have g0 : decide (r < 0) = false := by simpa using h0
  go_wp2_with fail
  refine (szPlaceS_any am m cm r w1 hm (by omega) (by omega)).mono ?_
  rintro e w2 ⟨⟨r', rfl, h1', h2', h3'⟩, rfl⟩
  have H3' := hide h3'
  clear h3'
  by_cases h0' : r' < 0
  ·go_wp2_with fail
   go_ret
   exact ⟨⟨-1, rfl, by omega, by omega, by omega⟩, HB1.out⟩
  ·have g1 : decide (r' < 0) = false := by simpa using h0'
   go_wp2_with fail
   go_ret
   exact ⟨⟨r', rfl, h1', by omega, fun hh => by have e1 := H3.out (by omega); have e2 := H3'.out hh; omega⟩, HB1.out⟩
theorem five_set {W : World} {b : Nat} {c0 c1 c2 c3 c4 : Value} {t : TypeId} {fr : Nat × Nat} (h : W.heap[b]? = some (.cells #[c0, c1, c2, c3, c4] t fr)) (v0 v1 v2 v3 v4 : Value) :
  (((((W.setCell ⟨b, 0, none⟩ v0).setCell ⟨b, 1, none⟩ v1).setCell ⟨b, 2, none⟩ v2).setCell ⟨b, 3, none⟩ v3).setCell ⟨b, 4, none⟩ v4).heap[b]? = some (.cells #[v0, v1, v2, v3, v4] t fr) :=
 set_block (set_block (set_block (set_block (set_block h 0 v0 (by simp)) 1 v1 (by simp)) 2 v2 (by simp)) 3 v3 (by simp)) 4 v4 (by simp)
theorem five_aside {lo hi b : Nat} {a w : World} (h : Aside lo hi a w) (h1 : lo <= b) (h2 : b < hi) (v0 v1 v2 v3 v4 : Value) :
  Aside lo hi a (((((w.setCell ⟨b, 0, none⟩ v0).setCell ⟨b, 1, none⟩ v1).setCell ⟨b, 2, none⟩ v2).setCell ⟨b, 3, none⟩ v3).setCell ⟨b, 4, none⟩ v4) :=
 ((((h.setCell (p := ⟨b, 0, none⟩) h1 h2 v0).setCell (p := ⟨b, 1, none⟩) h1 h2 v1).setCell (p := ⟨b, 2, none⟩) h1 h2 v2).setCell (p := ⟨b, 3, none⟩) h1 h2 v3).setCell (p := ⟨b, 4, none⟩) h1 h2 v4
theorem Places.mk_of {lo hi n : Nat} {w w' : World} {a : Option Addr} {ps : List Pl} (h : Places lo hi w a n ps) {l r : Nat} (hb : Aside l r w w') (hB : hi <= l ∨ r <= lo) : Places lo hi w' a n ps := ⟨h.1, h.2.aside hb hB⟩
set_option maxHeartbeats 1600000 in
theorem toFtl_any (z : Int) (a : Option Addr) (n cap : Nat) (qs : List Sq) (am : Option Addr) (m cm : Nat) (ps : List Pl) (op st : Int) (w : World) {lo hi lo' hi' : Nat} (h : Squares lo hi w a n qs) (hhi : hi <= w.heap.size) (hfit : n + weight qs <= 1048576) (hp : Places lo' hi' w am m ps) (hhi' : hi' <= w.heap.size) (hm : m <= 1048576) :
  Calls Tryz.prog 130 #[.agg #[.int .i64 z, .slice a n cap, .slice am m cm, .int .i64 op, .int .i64 st]] w fun e w' => ∃ a' am' mid, e = .returned (.agg #[.int .i64 z, .slice a' n n, .slice am' m m, .int .i64 op, .int .i64 st]) ∧ w.heap.size <= mid ∧ mid <= w'.heap.size ∧ OwnSquares w.heap.size mid w' a' n qs ∧ OwnPlaces mid w'.heap.size w' am' m ps ∧ Below w.heap.size w w' := by
 obtain ⟨wA, hwA⟩ : ∃ wA, wA = ((w.alloc (.cells #[.int .i64 z, .slice a n cap, .slice am m cm, .int .i64 op, .int .i64 st] 91)).alloc (.cells #[.int .i64 0, .slice none 0 0, .slice none 0 0, .int .i64 0, .int .i64 0] 29)).alloc (.cells #[.int .i64 0, .slice none 0 0, .slice none 0 0, .int .i64 0, .int .i64 0] 29) := ⟨_, rfl⟩
 have hzA : wA.heap.size = w.heap.size + 1 + 1 + 1 := by rw [hwA]; simp
 have HBA : Hid (Below w.heap.size w wA) := by rw [hwA]; exact ((((Below.refl _ _).alloc (Nat.le_refl _) _).alloc (by simp) _).alloc (by simp; omega) _)
 have H0 : Hid (wA.heap[w.heap.size]? = some (.cells #[.int .i64 z, .slice a n cap, .slice am m cm, .int .i64 op, .int .i64 st] 91)) := by rw [hwA]; exact heap_old (heap_old (heap_new _ _))
 have H1 : Hid (wA.heap[w.heap.size + 1]? = some (.cells #[.int .i64 0, .slice none 0 0, .slice none 0 0, .int .i64 0, .int .i64 0] 29)) := by rw [hwA]; exact heap_old (heap_at (by simp))
 have H2 : Hid (wA.heap[w.heap.size + 1 + 1]? = some (.cells #[.int .i64 0, .slice none 0 0, .slice none 0 0, .int .i64 0, .int .i64 0] 29)) := by rw [hwA]; exact heap_at (by simp)
 have HTA := hide (h.later HBA.out hhi)
 have HPA := hide (hp.later HBA.out hhi')
 clear h hp
 obtain ⟨c0, c1, c2, c3, c4⟩ := five_cells H0.out
 go_enter Tryz.func130, Tryz.ntmps130
 go_wp2_with fail
 rw [<- hwA]
 clear hwA
 refine (toChip_any z a n cap qs wA HTA.out (by omega) hfit).mono ?_
 rintro e w1 ⟨p, rfl, hown, b1⟩
 have K0 := hide (block_on H0.out b1)
 have K1 := hide (block_on H1.out b1)
 have K2 := hide (block_on H2.out b1)
 have hs1 := b1.size
 have HB1 := hide (below_here HBA.out b1)
 have HP1 := hide (HPA.out.later b1 (by omega))
 have HOW := hide hown
 clear hown b1 H0 H1 H2 HTA HPA c0 c1 c2 c3 c4
 obtain ⟨wB, hwB⟩ : ∃ wB, wB = (w1.setCell ⟨w.heap.size + 1 + 1, 0, none⟩ (.int .i64 z)).setCell ⟨w.heap.size + 1 + 1, 1, none⟩ (.slice p n n) := ⟨_, rfl⟩
 have HAB : Hid (Aside (w.heap.size + 2) (w.heap.size + 3) w1 wB) := by rw [hwB]; exact two_aside (Aside.refl _ _ w1) (by omega) (by omega) _ _
 have hzB : wB.heap.size = w1.heap.size := by rw [hwB, Go.Deep.nblk_setCell, Go.Deep.nblk_setCell]
 have B0 : Hid (wB.heap[w.heap.size]? = some (.cells #[.int .i64 z, .slice a n cap, .slice am m cm, .int .i64 op, .int .i64 st] 91)) := (HAB.out.block _ (by omega) (.inl (by omega))).trans K0.out
 have B1 : Hid (wB.heap[w.heap.size + 1]? = some (.cells #[.int .i64 0, .slice none 0 0, .slice none 0 0, .int .i64 0, .int .i64 0] 29)) := (HAB.out.block _ (by omega) (.inl (by omega))).trans K1.out
 have B2 : Hid (wB.heap[w.heap.size + 1 + 1]? = some (.cells #[.int .i64 z, .slice p n n, .slice none 0 0, .int .i64 0, .int .i64 0] 29)) := by rw [hwB]; exact set_block (set_block K2.out 0 (.int .i64 z) (by simp)) 1 (.slice p n n) (by simp)
 have HPB := hide (Places.mk_of HP1.out HAB.out (.inl (by omega)))
 have HOB := hide (HOW.out.aside HAB.out (.inl (by omega)))
 have HBB := hide (HB1.out.trans (HAB.out.below (B := w.heap.size) (by omega) (by omega)))
 obtain ⟨c0, c1, c2, c3, c4⟩ := five_cells B0.out
 obtain ⟨d0, d1, d2, d3, d4⟩ := five_cells K2.out
 have f0 := four_frozen K2.out 0
 have f1 := four_frozen K2.out 1
 rw [hwB] at c2
 go_wp2_with fail
 rw [<- hwB]
 clear hwB c0 c1 c2 c3 c4 d0 d1 d2 d3 d4 f0 f1 K0 K1 K2
 refine (toPlaceS_any am m cm ps wB HPB.out hm).mono ?_
 rintro e w2 ⟨pm, rfl, hpo, b2⟩
 have E0 := hide (block_on B0.out b2)
 have E1 := hide (block_on B1.out b2)
 have E2 := hide (block_on B2.out b2)
 have hs2 := b2.size
 have HB2 := hide (below_here HBB.out b2)
 have HO2 := hide (HOB.out.later b2 (by omega))
 have HP2 := hide hpo
 have hp2 := hpo.2.1
 clear b2 hpo B0 B1 B2 HBB HOB HPB HAB HOW HP1 HB1
 obtain ⟨c0, c1, c2, c3, c4⟩ := five_cells E0.out
 obtain ⟨d0, d1, d2, d3, d4⟩ := five_cells E1.out
 obtain ⟨e0, e1, e2, e3, e4⟩ := five_cells E2.out
 have f0 := four_frozen E1.out 0
 have f1 := four_frozen E1.out 1
 have f2 := four_frozen E1.out 2
 have f3 := four_frozen E1.out 3
 have f4 := four_frozen E1.out 4
 have g2 := four_frozen E2.out 2
 have g3 := four_frozen E2.out 3
 have g4 := four_frozen E2.out 4
 have HA1 := hide ((((Aside.refl (w.heap.size + 1) (w.heap.size + 3) w2).setCell (p := ⟨w.heap.size + 1 + 1, 2, none⟩) (by simp <;> omega) (by simp) (.slice pm m m)).setCell (p := ⟨w.heap.size + 1 + 1, 3, none⟩) (by simp <;> omega) (by simp) (.int .i64 op)).setCell (p := ⟨w.heap.size + 1 + 1, 4, none⟩) (by simp <;> omega) (by simp) (.int .i64 st))
 have HAS := hide (five_aside (b := w.heap.size + 1) HA1.out (by omega) (by omega) (.int .i64 z) (.slice p n n) (.slice pm m m) (.int .i64 op) (.int .i64 st))
 have HRS := hide (five_set (set_other (o := 4) (set_other (o := 3) (set_other (o := 2) E1.out (show w.heap.size + 1 + 1 ≠ w.heap.size + 1 by omega) (.slice pm m m)) (show w.heap.size + 1 + 1 ≠ w.heap.size + 1 by omega) (.int .i64 op)) (show w.heap.size + 1 + 1 ≠ w.heap.size + 1 by omega) (.int .i64 st)) (.int .i64 z) (.slice p n n) (.slice pm m m) (.int .i64 op) (.int .i64 st))
 go_wp2_with fail
 have hsz := HAS.out.size
 refine bodyPost_ret (results_cell rfl rfl (run_loadVar_row _ _ _ _ _ _ _ HRS.out Tryz.underlying29 rfl (by kernel_rfl))) rfl ⟨p, pm, wB.heap.size, rfl, by omega, by omega, (HO2.out.aside HAS.out (.inl (by omega))).wide (by omega) (by omega) (by omega), ?_, HB2.out.trans (HAS.out.below (by omega) (by omega))⟩
 have h9 := HP2.out.aside HAS.out (.inr (by omega))
 exact ⟨h9.1, by omega, fun hn9 => by obtain ⟨b, off, x1, x2, x3, x4⟩ := h9.2.2 hn9; exact ⟨b, off, x1, x2, by omega, x4⟩⟩
set_option maxHeartbeats 1600000 in
theorem eqFtl_same (z : Int) (a b : Option Addr) (n ca cb : Nat) (qs : List Sq) (am bm : Option Addr) (m cam cbm : Nat) (ps : List Pl) (op st : Int) (w : World) {lo hi lo' hi' lp rp lp' rp' : Nat} (h : Squares lo hi w a n qs) (h' : Squares lo' hi' w b n qs) (hhi : hi <= w.heap.size) (hhi' : hi' <= w.heap.size) (hfit : n + weight qs <= 1048576) (hp : Places lp rp w am m ps) (hp' : Places lp' rp' w bm m ps) (hrp : rp <= w.heap.size) (hrp' : rp' <= w.heap.size) (hm : m <= 1048576) :
  Calls Tryz.prog 132 #[.agg #[.int .i64 z, .slice a n ca, .slice am m cam, .int .i64 op, .int .i64 st], .agg #[.int .i64 z, .slice b n cb, .slice bm m cbm, .int .i64 op, .int .i64 st]] w fun e w' => e = .returned (.bool true) ∧ Below w.heap.size w w' := by
 obtain ⟨wA, hwA⟩ : ∃ wA, wA = (w.alloc (.cells #[.int .i64 z, .slice a n ca, .slice am m cam, .int .i64 op, .int .i64 st] 29)).alloc (.cells #[.int .i64 z, .slice b n cb, .slice bm m cbm, .int .i64 op, .int .i64 st] 29) := ⟨_, rfl⟩
 have hzA : wA.heap.size = w.heap.size + 1 + 1 := by rw [hwA]; simp
 have HBA : Hid (Below w.heap.size w wA) := by rw [hwA]; exact ((Below.refl _ _).alloc (Nat.le_refl _) _).alloc (by simp) _
 have H0 : Hid (wA.heap[w.heap.size]? = some (.cells #[.int .i64 z, .slice a n ca, .slice am m cam, .int .i64 op, .int .i64 st] 29)) := by rw [hwA]; exact heap_old (heap_new _ _)
 have H1 : Hid (wA.heap[w.heap.size + 1]? = some (.cells #[.int .i64 z, .slice b n cb, .slice bm m cbm, .int .i64 op, .int .i64 st] 29)) := by rw [hwA]; exact heap_at (by simp)
 have HS := hide (h.later HBA.out hhi)
 have HS' := hide (h'.later HBA.out hhi')
 have HP := hide (hp.later HBA.out hrp)
 have HP' := hide (hp'.later HBA.out hrp')
 clear h h' hp hp'
 obtain ⟨c0, c1, c2, c3, c4⟩ := five_cells H0.out
 obtain ⟨d0, d1, d2, d3, d4⟩ := five_cells H1.out
 go_enter Tryz.func132, Tryz.ntmps132
 go_wp2_with fail
 rw [<- hwA]
 clear hwA
 refine (eqChip_same z a b n ca cb qs wA HS.out HS'.out (by omega) (by omega) hfit).mono ?_
 rintro e w1 ⟨rfl, b1⟩
 have K0 := hide (block_on H0.out b1)
 have K1 := hide (block_on H1.out b1)
 have Q0 := hide (HP.out.later b1 (by omega))
 have Q1 := hide (HP'.out.later b1 (by omega))
 have HB1 := hide (below_here HBA.out b1)
 clear b1 c0 c1 c2 c3 c4 d0 d1 d2 d3 d4 H0 H1
 obtain ⟨c0, c1, c2, c3, c4⟩ := five_cells K0.out
 obtain ⟨d0, d1, d2, d3, d4⟩ := five_cells K1.out
 go_wp2_with fail
 refine (eqPlaceS_same am bm m cam cbm ps w1 Q0.out Q1.out hm).mono ?_
 rintro e w2 ⟨rfl, b2⟩
 have E0 := hide (block_on K0.out b2)
 have E1 := hide (block_on K1.out b2)
 have HB2 := hide (below_here HB1.out b2)
 clear b2 c0 c1 c2 c3 c4 d0 d1 d2 d3 d4 K0 K1
 obtain ⟨c0, c1, c2, c3, c4⟩ := five_cells E0.out
 obtain ⟨d0, d1, d2, d3, d4⟩ := five_cells E1.out
 go_wp2_with fail
 go_ret
 exact ⟨rfl, HB2.out⟩
end Go.Proofs.YtkbhcdkfjniafaaGreatDoor
end

