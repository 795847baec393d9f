/- Squares copied into new memory. -/
import Derived.Test.YtceidhlcbbikcamChipOwn
import Derived.Test.YtceidhlcbbikcamCopyBase
namespace Go.Proofs.Ytceidhlcbbikcam
open Go.RowKit
set_option linter.unusedVariables false
set_option maxRecDepth 20000

/-! ### Squares in new memory -/
theorem make3 {P : Program} (t e : TypeId) (z0 z1 z2 : Value) (bytes : Nat) (ht : P.underlying t = some (.slice e)) (hinfo : (P.info? e).map (fun i => (i.zero, i.size, i.bytes)) = some (some (.agg #[z0, z1, z2]), 3, bytes))
    (n : Nat) (hb : bytes * n ≤ 281474976710656) (h63 : n ≤ 9223372036854775807) (w : World) :
    (Instr.makeSlice t (.int .i64 (n : Int)) (.int .i64 (n : Int))).run P w = .ok (.slice (some ⟨w.heap.size, 0, none⟩) n n) (w.alloc (.cells (madeCells #[z0, z1, z2] (n * 3)) e)) := by
  obtain ⟨i, hi, hzz⟩ := Option.map_eq_some_iff.1 hinfo
  simp only [Prod.mk.injEq] at hzz
  obtain ⟨hz, hs, hb'⟩ := hzz
  have h := run_make (P := P) w t e i (.agg #[z0, z1, z2]) ht hi hz .i64 .i64 (n : Int) (n : Int) (by omega) (by omega) (by rw [hb', ← Int.natCast_mul]; generalize bytes * n = q at hb ⊢; omega) (by omega)
  rw [h, hs]
  rfl
def zero3 (j : Nat) : Value := if j % 3 = 0 then .slice none 0 0 else if j % 3 = 1 then .int .i64 0 else .bool false
theorem made3 (w : World) (n : Nat) (e : TypeId) : Owned w.heap.size (w.heap.size + 1) (w.alloc (.cells (madeCells #[.slice none 0 0, .int .i64 0, .bool false] (n * 3)) e)) (some ⟨w.heap.size, 0, none⟩) (3 * n) zero3 := by
  refine ⟨by simp, fun _ => ⟨w.heap.size, 0, rfl, Nat.le_refl _, Nat.lt_succ_self _, fun j hj => ⟨?_, ?_⟩⟩⟩
  · rw [World.cell?_alloc_new, Nat.zero_add]
    have hj' : j < n * 3 := by omega
    have h3 : j % 3 = 0 ∨ j % 3 = 1 ∨ j % 3 = 2 := by omega
    rcases h3 with h | h | h <;> simp [madeCells, hj', zero3, h]
  · exact four_frozen (heap_new w _) _
theorem Try.infoSq : (Try.prog.info? 68).map (fun i => (i.zero, i.size, i.bytes)) = some (some (.agg #[.slice none 0 0, .int .i64 0, .bool false]), 3, 40) := by kernel_rfl
theorem len_weight {qs : List Sq} {k : Nat} (h : k < qs.length) : (sqAt qs k).1.length ≤ weight qs := by
  have h1 := weight_take qs k h
  have h2 : weight (qs.take (k + 1)) ≤ weight qs := by
    unfold weight
    conv => rhs; rw [← List.take_append_drop (k + 1) qs, List.map_append, List.sum_append]
    omega
  omega

theorem row3_step (A : Nat → Option Addr) (C : Nat → Nat) (qs : List Sq) (k : Nat) (p : Option Addr) (j : Nat) :
    (if j = k * 3 + 2 then Value.bool (sqAt qs k).2.2 else if j = k * 3 + 1 then .int .i64 (sqAt qs k).2.1 else if j = k * 3 then .slice p (sqAt qs k).1.length (C k) else if j < 3 * k then cellQ A C qs j else zero3 j) = (if j < 3 * (k + 1) then cellQ (fun i => if i = k then p else A i) C qs j else zero3 j) := by
  by_cases e2 : j = k * 3 + 2
  · rw [if_pos e2, if_pos (by omega), e2, show k * 3 + 2 = 3 * k + 2 by omega, cellQ2]
  · rw [if_neg e2]
    by_cases e1 : j = k * 3 + 1
    · rw [if_pos e1, if_pos (by omega), e1, show k * 3 + 1 = 3 * k + 1 by omega, cellQ1]
    · rw [if_neg e1]
      by_cases e0 : j = k * 3
      · rw [if_pos e0, if_pos (by omega), e0, show k * 3 = 3 * k by omega, cellQ0]; simp
      · rw [if_neg e0]
        by_cases h : j < 3 * k
        · rw [if_pos h, if_pos (by omega)]
          unfold cellQ
          dsimp only
          rw [if_neg (show ¬ j / 3 = k by omega)]
        · rw [if_neg h, if_neg (by omega)]

set_option maxHeartbeats 1600000 in
theorem toSquareS_any (a : Option Addr) (n cap : Nat) (qs : List Sq) (w : World) {lo hi : Nat} (h : Squares lo hi w a n qs) (hhi : hi ≤ w.heap.size) (hfit : n + weight qs ≤ 1048576) :
    Calls Try.prog 38 #[.slice a n cap] w fun e w' => ∃ a', e = .returned (.slice a' n n) ∧ OwnSquares w.heap.size w'.heap.size w' a' n qs ∧ Below w.heap.size w w' := by
  obtain ⟨hl, A0, C0, hx, ht⟩ := h
  have HL := hide hl
  have HX := hide hx
  have HT := hide ht
  clear hl hx ht
  have hmk := make3 (P := Try.prog) 29 68 (.slice none 0 0) (.int .i64 0) (.bool false) 40 Try.underlying29 Try.infoSq n (by omega) (by omega) w
  have HM := hide (made3 w n 68)
  go_enter Try.func38, Try.ntmps38
  go_wp2_with fail
  go_loopw [4] (fun i wr => ∃ (k : Nat) (A : Nat → Option Addr) (P : Nat → Nat), k ≤ n ∧ i = .int .i64 (k : Int) ∧
    Owned w.heap.size (w.heap.size + 1) wr (some ⟨w.heap.size, 0, none⟩) (3 * n) (fun j => if j < 3 * k then cellQ A (fun i => (sqAt qs i).1.length) qs j else zero3 j) ∧
    (∀ i, i < k → OwnTexts (P i) (P i + 1) wr (A i) (sqAt qs i).1.length (sqAt qs i).1 ∧ w.heap.size < P i ∧ P i < wr.heap.size) ∧ (∀ i j, i < k → j < k → i ≠ j → P i ≠ P j) ∧ Below w.heap.size w wr) (fun i _ => n - (intOf i).toNat)
  case atStart => exact ⟨0, fun _ => none, fun _ => 0, Nat.zero_le _, rfl, HM.out.congr (fun j _ => by simp), fun i hi => absurd hi (by omega), fun i j hi => absurd hi (by omega), (Below.refl _ _).alloc (Nat.le_refl _) _⟩
  case round =>
    obtain ⟨k, A, P, hk, rfl, hrow, hpg, hap, hbel⟩ := hrel
    clear HM
    by_cases hlt : k < n
    · obtain ⟨b, off, rfl, _, hb1, hc⟩ := HX.out.2 (by omega)
      have hbw : b < w.heap.size := by omega
      obtain ⟨c0, c1, c2⟩ := sq_cells hc hbel hbw hlt
      have HTX := hide ((HT.out k hlt).later hbel hhi)
      have hl9 : (sqAt qs k).1.length ≤ 1048576 := by have := len_weight (show k < qs.length by rw [HL.out]; exact hlt); omega
      have HRW := hide hrow
      have HPG := hide hpg
      have HAP := hide hap
      have HBB := hide hbel
      have HK3 := row3_step A (fun i => (sqAt qs i).1.length) qs k
      clear hrow hpg hap hc
      generalize hy : sqAt qs k = y at *
      obtain ⟨ts, z, bd⟩ := y
      have HY := hide hy
      have HST := hide HK3
      clear hy HK3
      go_wp2_with fail
      refine (toSquare_any (A0 k) ts.length (C0 k) ts z bd wr HTX.out (Nat.le_trans hhi hbel.size) hl9).mono ?_
      rintro e w2 ⟨p, P', rfl, hot, hP1, hP2, b2⟩
      have hgs := HRW.out.1
      have hro := HRW.out.later b2 hgs
      obtain ⟨d0, f0, _, _⟩ := hro.at0 (show k * 3 < 3 * n by omega)
      obtain ⟨d1, f1, _, _⟩ := hro.at0 (show k * 3 + 1 < 3 * n by omega)
      obtain ⟨d2, f2, _, _⟩ := hro.at0 (show k * 3 + 2 < 3 * n by omega)
      have HAS := hide ((((Aside.refl w.heap.size (w.heap.size + 1) w2).setCell (p := ⟨w.heap.size, k * 3, none⟩) (Nat.le_refl _) (Nat.lt_succ_self _) (.slice p ts.length ts.length)).setCell (p := ⟨w.heap.size, k * 3 + 1, none⟩) (Nat.le_refl _) (Nat.lt_succ_self _) (.int .i64 z)).setCell (p := ⟨w.heap.size, k * 3 + 2, none⟩) (Nat.le_refl _) (Nat.lt_succ_self _) (.bool bd))
      have HNR := hide ((((hro.set0 (show k * 3 < 3 * n by omega) (.slice p ts.length ts.length)).set0 (show k * 3 + 1 < 3 * n by omega) (.int .i64 z)).set0 (show k * 3 + 2 < 3 * n by omega) (.bool bd)).congr (fun j _ => HST.out p j))
      have HB2 := hide (below_here HBB.out b2)
      have HOT := hide hot
      have B2 := hide b2
      clear hot b2 hro hbel c0 c1 c2 HRW HST
      go_wp2_with fail
      have hsz := HAS.out.size
      refine ⟨⟨k + 1, fun i => if i = k then p else A i, fun i => if i = k then P' else P i, by omega, by simp, HNR.out, fun i hi => ?_, fun i j hi hj hne => ?_, HB2.out.trans (HAS.out.below (Nat.le_refl _) (by omega))⟩, by simp only [intOf]; omega⟩
      · by_cases e : i = k
        · subst e
          simp only [if_true]
          rw [HY.out]
          exact ⟨texts_aside HOT.out HAS.out (fun _ => by omega), by omega, by omega⟩
        · simp only [if_neg e]
          obtain ⟨q1, q2, q3⟩ := HPG.out i (by omega)
          exact ⟨texts_aside (q1.later B2.out (by omega)) HAS.out (fun _ => by omega), q2, by omega⟩
      · by_cases ei : i = k
        · subst ei
          have := (HPG.out j (by omega)).2.2
          simp only [if_true, if_neg (Ne.symm hne)]
          omega
        · by_cases ej : j = k
          · subst ej
            have := (HPG.out i (by omega)).2.2
            simp only [if_true, if_neg ei]
            omega
          · simp only [if_neg ei, if_neg ej]
            exact HAP.out i j (by omega) (by omega) hne
    · obtain rfl : k = n := by omega
      have hs := hrow.1
      go_wp2_with fail
      go_ret
      refine ⟨_, rfl, ⟨w.heap.size, 0, A, fun i => (sqAt qs i).1.length, P, ⟨HL.out, hrow.congr (fun j hj => if_pos hj), fun _ => rfl, fun i hi => (hpg i hi).1, fun i _ => Nat.le_refl _, ⟨Nat.le_refl _, by omega⟩, fun i hi => ⟨by have := (hpg i hi).2.1; omega, (hpg i hi).2.2⟩, fun i hi _ => by have := (hpg i hi).2.1; omega, fun i j hi hj hne _ _ => hap i j hi hj hne, Nat.le_refl _⟩⟩, hbel⟩
end Go.Proofs.Ytceidhlcbbikcam
