/- Jobs copied into new memory. -/
import Derived.Test.YtceidhlcbbikcalChipMark
namespace Go.Proofs.Ytceidhlcbbikcal
open Go.RowKit
set_option linter.unusedVariables false
set_option maxRecDepth 20000

theorem toJob_any (k q : Int) (x : ByteArray) (w : World) :
    Calls Try.prog 23 #[.agg #[.int .i64 k, .int .i64 q, .string x]] w fun e w' => e = .returned (.agg #[.int .i64 k, .int .i64 q, .string x]) ∧ Below w.heap.size w w' := by
  go_enter Try.func23, Try.ntmps23
  go_wp2_with fail
  refine bodyPost_ret (results_cell rfl rfl (run_loadVar_row _ _ _ _ _ _ _ (heap_old (heap_at (by simp))) Try.underlying48 rfl (by kernel_rfl))) rfl ⟨rfl, ?_⟩
  exact (((Below.refl w.heap.size w).alloc (Nat.le_refl _) _).alloc (by simp) _).alloc (by simp; omega) _
theorem job_cells {n B : Nat} {w w' : World} {js : List Jb} {b off k : Nat} (hc : ∀ i, i < 3 * n → w.cell? ⟨b, off + i, none⟩ = some (cellJ js i)) (hbel : Below B w w') (hb : b < B) (hk : k < n) :
    w'.cell? ⟨b, off + k * 3, none⟩ = some (.int .i64 (jbAt js k).1) ∧ w'.cell? ⟨b, off + k * 3 + 1, none⟩ = some (.int .i64 (jbAt js k).2.1) ∧ w'.cell? ⟨b, off + k * 3 + 2, none⟩ = some (.string (jbAt js k).2.2) := by
  refine ⟨?_, ?_, ?_⟩
  · rw [hbel.cell (p := ⟨b, off + k * 3, none⟩) hb, show off + k * 3 = off + 3 * k by omega, hc _ (by omega), cellJ0]
  · rw [hbel.cell (p := ⟨b, off + k * 3 + 1, none⟩) hb, show off + k * 3 + 1 = off + (3 * k + 1) by omega, hc _ (by omega), cellJ1]
  · rw [hbel.cell (p := ⟨b, off + k * 3 + 2, none⟩) hb, show off + k * 3 + 2 = off + (3 * k + 2) by omega, hc _ (by omega), cellJ2]
def zeroJ (j : Nat) : Value := if j % 3 = 0 then .int .i64 0 else if j % 3 = 1 then .int .i64 0 else .string ByteArray.empty
theorem madeJ (w : World) (n : Nat) (e : TypeId) : Owned w.heap.size (w.heap.size + 1) (w.alloc (.cells (madeCells #[.int .i64 0, .int .i64 0, .string ByteArray.empty] (n * 3)) e)) (some ⟨w.heap.size, 0, none⟩) (3 * n) zeroJ := by
  refine ⟨by simp, fun _ => ⟨w.heap.size, 0, rfl, Nat.le_refl _, Nat.lt_succ_self _, fun j hj => ⟨?_, ?_⟩⟩⟩
  · rw [World.cell?_alloc_new, Nat.zero_add]
    have hj' : j < n * 3 := by omega
    have h3 : j % 3 = 0 ∨ j % 3 = 1 ∨ j % 3 = 2 := by omega
    rcases h3 with h | h | h <;> simp [madeCells, hj', zeroJ, h]
  · exact four_frozen (heap_new w _) _
theorem Try.infoJb : (Try.prog.info? 48).map (fun i => (i.zero, i.size, i.bytes)) = some (some (.agg #[.int .i64 0, .int .i64 0, .string ByteArray.empty]), 3, 32) := by kernel_rfl
theorem rowJ_step (js : List Jb) (k j : Nat) :
    (if j = k * 3 + 2 then Value.string (jbAt js k).2.2 else if j = k * 3 + 1 then .int .i64 (jbAt js k).2.1 else if j = k * 3 then .int .i64 (jbAt js k).1 else if j < 3 * k then cellJ js j else zeroJ j) = (if j < 3 * (k + 1) then cellJ js j else zeroJ j) := by
  by_cases e2 : j = k * 3 + 2
  · rw [if_pos e2, if_pos (by omega), e2, show k * 3 + 2 = 3 * k + 2 by omega, cellJ2]
  · rw [if_neg e2]
    by_cases e1 : j = k * 3 + 1
    · rw [if_pos e1, if_pos (by omega), e1, show k * 3 + 1 = 3 * k + 1 by omega, cellJ1]
    · rw [if_neg e1]
      by_cases e0 : j = k * 3
      · rw [if_pos e0, if_pos (by omega), e0, show k * 3 = 3 * k by omega, cellJ0]
      · rw [if_neg e0]
        by_cases h : j < 3 * k
        · rw [if_pos h, if_pos (by omega)]
        · rw [if_neg h, if_neg (by omega)]

set_option maxHeartbeats 1600000 in
theorem toJobS_any (a : Option Addr) (n cap : Nat) (js : List Jb) (w : World) {lo hi : Nat} (h : Jobs lo hi w a n js) (hn : n ≤ 1048576) :
    Calls Try.prog 27 #[.slice a n cap] w fun e w' => ∃ a', e = .returned (.slice a' n n) ∧ OwnJobs w.heap.size (w.heap.size + 1) w' a' n js ∧ Below w.heap.size w w' := by
  obtain ⟨hl, hx⟩ := h
  have HL := hide hl
  have HX := hide hx
  have hsz := hx.1
  clear hl hx
  have hmk := make3 (P := Try.prog) 54 48 (.int .i64 0) (.int .i64 0) (.string ByteArray.empty) 32 Try.underlying54 Try.infoJb n (by omega) (by omega) w
  have HM := hide (madeJ w n 48)
  go_enter Try.func27, Try.ntmps27
  go_wp2_with fail
  go_loopw [4] (fun i wr => ∃ k : Nat, k ≤ n ∧ i = .int .i64 (k : Int) ∧
    Owned w.heap.size (w.heap.size + 1) wr (some ⟨w.heap.size, 0, none⟩) (3 * n) (fun j => if j < 3 * k then cellJ js j else zeroJ j) ∧ Below w.heap.size w wr) (fun i _ => n - (intOf i).toNat)
  case atStart => exact ⟨0, Nat.zero_le _, rfl, HM.out.congr (fun j _ => by simp), (Below.refl _ _).alloc (Nat.le_refl _) _⟩
  case round =>
    obtain ⟨k, hk, rfl, hrow, hbel⟩ := hrel
    clear HM
    by_cases hlt : k < n
    · obtain ⟨b, off, rfl, _, hb1, hc⟩ := HX.out.2 (by omega)
      have hbw : b < w.heap.size := by omega
      obtain ⟨c0, c1, c2⟩ := job_cells hc hbel hbw hlt
      have HRW := hide hrow
      have HBB := hide hbel
      have HK3 := rowJ_step js k
      clear hrow hc hbel
      generalize hy : jbAt js k = y at *
      obtain ⟨kd, sq, tx⟩ := y
      have HST := hide HK3
      clear hy HK3
      go_wp2_with fail
      refine (toJob_any kd sq tx wr).mono ?_
      rintro e w2 ⟨rfl, b2⟩
      have hgs := HRW.out.1
      have hro := HRW.out.later b2 hgs
      obtain ⟨d0, f0, _, _⟩ := hro.at0 (show k * 3 < 3 * n by omega)
      obtain ⟨d1, f1, _, _⟩ := hro.at0 (show k * 3 + 1 < 3 * n by omega)
      obtain ⟨d2, f2, _, _⟩ := hro.at0 (show k * 3 + 2 < 3 * n by omega)
      have HAS := hide ((((Aside.refl w.heap.size (w.heap.size + 1) w2).setCell (p := ⟨w.heap.size, k * 3, none⟩) (Nat.le_refl _) (Nat.lt_succ_self _) (.int .i64 kd)).setCell (p := ⟨w.heap.size, k * 3 + 1, none⟩) (Nat.le_refl _) (Nat.lt_succ_self _) (.int .i64 sq)).setCell (p := ⟨w.heap.size, k * 3 + 2, none⟩) (Nat.le_refl _) (Nat.lt_succ_self _) (.string tx))
      have HNR := hide ((((hro.set0 (show k * 3 < 3 * n by omega) (.int .i64 kd)).set0 (show k * 3 + 1 < 3 * n by omega) (.int .i64 sq)).set0 (show k * 3 + 2 < 3 * n by omega) (.string tx)).congr (fun j _ => HST.out j))
      have hs2 := b2.size
      have HB2 := hide (below_here HBB.out b2)
      clear b2 hro c0 c1 c2 HRW HST
      go_wp2_with fail
      exact ⟨⟨k + 1, by omega, by go_num, HNR.out, HB2.out.trans (HAS.out.below (Nat.le_refl _) (by omega))⟩, by simp [intOf]; omega⟩
    · obtain rfl : k = n := by omega
      go_wp2_with fail
      go_ret
      exact ⟨_, rfl, ⟨HL.out, hrow.congr (fun j hj => if_pos hj)⟩, hbel⟩
end Go.Proofs.Ytceidhlcbbikcal
