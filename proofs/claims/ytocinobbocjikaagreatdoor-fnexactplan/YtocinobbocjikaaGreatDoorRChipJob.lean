/- Several texts in one: ChipJob, ChipJob2, JobMark. -/
import Derived.Test.YtocinobbocjikaaGreatDoorRChipOwn2
import Derived.Test.YtocinobbocjikaaGreatDoorRFtlWalk
section
namespace Go.Proofs.YtocinobbocjikaaGreatDoor
open Go.RowKit
set_option linter.unusedVariables false
set_option maxRecDepth 20000

theorem job_cells {n B : Nat} {w w' : World} {js : List Jb} {b off k : Nat} (hc : ∀ i, i < 3 * n → w.cell? ⟨b, off + i, none⟩ = some (cellJ js i)) (hbel : Below B w w') (hb : b < B) (hk : k < n) :
    w'.cell? ⟨b, off + k * 3, none⟩ = some (.int .i64 (jbAt js k).1) ∧ w'.cell? ⟨b, off + k * 3 + 1, none⟩ = some (.int .i64 (jbAt js k).2.1) ∧ w'.cell? ⟨b, off + k * 3 + 2, none⟩ = some (.string (jbAt js k).2.2) := by
  refine ⟨?_, ?_, ?_⟩
  · rw [hbel.cell (p := ⟨b, off + k * 3, none⟩) hb, show off + k * 3 = off + 3 * k by omega, hc _ (by omega), cellJ0]
  · rw [hbel.cell (p := ⟨b, off + k * 3 + 1, none⟩) hb, show off + k * 3 + 1 = off + (3 * k + 1) by omega, hc _ (by omega), cellJ1]
  · rw [hbel.cell (p := ⟨b, off + k * 3 + 2, none⟩) hb, show off + k * 3 + 2 = off + (3 * k + 2) by omega, hc _ (by omega), cellJ2]
def zeroJ (j : Nat) : Value := if j % 3 = 0 then .int .i64 0 else if j % 3 = 1 then .int .i64 0 else .string ByteArray.empty
theorem madeJ (w : World) (n : Nat) (e : TypeId) : Owned w.heap.size (w.heap.size + 1) (w.alloc (.cells (madeCells #[.int .i64 0, .int .i64 0, .string ByteArray.empty] (n * 3)) e)) (some ⟨w.heap.size, 0, none⟩) (3 * n) zeroJ := by
  refine ⟨by simp, fun _ => ⟨w.heap.size, 0, rfl, Nat.le_refl _, Nat.lt_succ_self _, fun j hj => ⟨?_, ?_⟩⟩⟩
  · rw [World.cell?_alloc_new, Nat.zero_add]
    have hj' : j < n * 3 := by omega
    have h3 : j % 3 = 0 ∨ j % 3 = 1 ∨ j % 3 = 2 := by omega
    rcases h3 with h | h | h <;> simp [madeCells, hj', zeroJ, h]
  · exact four_frozen (heap_new w _) _
theorem Tryz.infoJb : (Tryz.prog.info? 106).map (fun i => (i.zero, i.size, i.bytes)) = some (some (.agg #[.int .i64 0, .int .i64 0, .string ByteArray.empty]), 3, 32) := by kernel_rfl
theorem rowJ_step (js : List Jb) (k j : Nat) :
    (if j = k * 3 + 2 then Value.string (jbAt js k).2.2 else if j = k * 3 + 1 then .int .i64 (jbAt js k).2.1 else if j = k * 3 then .int .i64 (jbAt js k).1 else if j < 3 * k then cellJ js j else zeroJ j) = (if j < 3 * (k + 1) then cellJ js j else zeroJ j) := by
  by_cases e2 : j = k * 3 + 2
  · rw [if_pos e2, if_pos (by omega), e2, show k * 3 + 2 = 3 * k + 2 by omega, cellJ2]
  · rw [if_neg e2]
    by_cases e1 : j = k * 3 + 1
    · rw [if_pos e1, if_pos (by omega), e1, show k * 3 + 1 = 3 * k + 1 by omega, cellJ1]
    · rw [if_neg e1]
      by_cases e0 : j = k * 3
      · rw [if_pos e0, if_pos (by omega), e0, show k * 3 = 3 * k by omega, cellJ0]
      · rw [if_neg e0]
        by_cases h : j < 3 * k
        · rw [if_pos h, if_pos (by omega)]
        · rw [if_neg h, if_neg (by omega)]

end Go.Proofs.YtocinobbocjikaaGreatDoor
end

section
namespace Go.Proofs.YtocinobbocjikaaGreatDoor
open Go.RowKit
set_option linter.unusedVariables false
set_option maxRecDepth 20000

theorem eqJob_same (k q : Int) (x : ByteArray) (w : World) :
    Calls Tryz.prog 66 #[.agg #[.int .i64 k, .int .i64 q, .string x], .agg #[.int .i64 k, .int .i64 q, .string x]] w fun e w' => e = .returned (.bool true) ∧ Below w.heap.size w w' := by
  go_enter Tryz.func66, Tryz.ntmps66
  go_wp2_with fail
  all_goals go_ret
  all_goals exact ⟨rfl, ((Below.refl w.heap.size w).alloc (Nat.le_refl _) _).alloc (by simp) _⟩

set_option maxHeartbeats 1600000 in
theorem eqJobS_same (a a' : Option Addr) (n cap cap' : Nat) (js : List Jb) (w : World) {lo hi lo' hi' : Nat} (h : Jobs lo hi w a n js) (h' : Jobs lo' hi' w a' n js) (hn : n ≤ 1048576) :
    Calls Tryz.prog 27 #[.slice a n cap, .slice a' n cap'] w fun e w' => e = .returned (.bool true) ∧ Below w.heap.size w w' := by
  obtain ⟨hl, hx⟩ := h
  obtain ⟨hl', hx'⟩ := h'
  have HX := hide hx
  have HX' := hide hx'
  have hsz := hx.1
  have hsz' := hx'.1
  clear hl hl' hx hx'
  go_enter Tryz.func27, Tryz.ntmps27
  go_wp2_with fail
  go_loopw [5] (fun i wr => ∃ k : Nat, k ≤ n ∧ i = .int .i64 k ∧ Below w.heap.size w wr) (fun i _ => n - (intOf i).toNat)
  case atStart => exact ⟨0, Nat.zero_le _, rfl, Below.refl _ _⟩
  case round =>
    obtain ⟨k, hk, rfl, hbel⟩ := hrel
    by_cases hlt : k < n
    · obtain ⟨b, off, rfl, _, hb, hc⟩ := HX.out.2 (by omega)
      obtain ⟨b', off', rfl, _, hb', hc'⟩ := HX'.out.2 (by omega)
      obtain ⟨c0, c1, c2⟩ := job_cells hc hbel (show b < w.heap.size by omega) hlt
      obtain ⟨d0, d1, d2⟩ := job_cells hc' hbel (show b' < w.heap.size by omega) hlt
      have HBB := hide hbel
      clear hc hc' hbel
      generalize jbAt js k = y at *
      obtain ⟨kd, sq, tx⟩ := y
      go_wp2_with fail
      go_region_with (go_at_call 66; refine (eqJob_same kd sq tx _).mono ?_; rintro e w1 ⟨rfl, b1⟩; have HB1 := hide (below_here (show Below w.heap.size w wr.drew from HBB.out.drew) b1); clear b1)
      all_goals go_wp2_with fail
      all_goals exact ⟨⟨k + 1, by omega, by go_num, HB1.out⟩, by simp [intOf]; omega⟩
    · go_wp2_with fail
      go_ret
      exact ⟨rfl, hbel⟩

set_option maxHeartbeats 1600000 in
/-- Jobs are marked: in their own memory. -/
theorem markJobS_any (a : Option Addr) (n cap : Nat) (js : List Jb) (m : Nat) (w : World) {lo hi : Nat} (h : OwnJobs lo hi w a n js) (hn : n ≤ 1048576) (m0 : 1 ≤ m) (m1 : m + 3 * n ≤ 4194304) :
    Calls Tryz.prog 30 #[.slice a n cap, .int .i64 (m : Int)] w fun e w' => e = .returned (.int .i64 ((m + 3 * n : Nat) : Int)) ∧ Aside lo hi w w' := by
  obtain ⟨hl, hx⟩ := h
  have HX := hide hx
  clear hl hx
  go_enter Tryz.func30, Tryz.ntmps30
  go_wp2_with fail
  go_loopw [1, 5] (fun t i wr => ∃ (k : Nat) (f : Nat → Value), k ≤ n ∧ i = .int .i64 (k : Int) ∧ t = .int .i64 ((m + 3 * k : Nat) : Int) ∧ Owned lo hi wr a (3 * n) f ∧ Aside lo hi w wr) (fun _ i _ => n - (intOf i).toNat)
  case atStart => exact ⟨0, _, Nat.zero_le _, rfl, by simp, HX.out, Aside.refl _ _ _⟩
  case round =>
    obtain ⟨k, f, hk, rfl, rfl, hrow, hasd⟩ := hrel
    clear HX
    by_cases hlt : k < n
    · obtain ⟨b, off, rfl, hb1, hb2, hc⟩ := hrow.2 (by omega)
      obtain ⟨c0, f0, _, _⟩ := hrow.place (show k * 3 < 3 * n by omega)
      obtain ⟨c1, f1, _, _⟩ := hrow.place (show k * 3 + 1 < 3 * n by omega)
      rw [← Nat.add_assoc] at c1 f1
      have HRW := hide hrow
      have HAS := hide hasd
      clear hrow hasd hc
      obtain ⟨s, hs⟩ : ∃ s, s = m + 3 * k := ⟨_, rfl⟩
      rw [← hs]
      have HN1 := hide ((HRW.out.set (show k * 3 < 3 * n by omega) (.int .i64 (s : Int))).set (show k * 3 + 1 < 3 * n by omega) (.int .i64 ((s : Int) + 1)))
      have HA1 := hide ((HAS.out.setCell (p := ⟨b, off + k * 3, none⟩) hb1 hb2 (.int .i64 (s : Int))).setCell (p := ⟨b, off + k * 3 + 1, none⟩) hb1 hb2 (.int .i64 ((s : Int) + 1)))
      have hs9 : s + 3 ≤ 4194304 := by omega
      have HS := hide hs
      clear HRW HAS hs
      go_wp2_with fail
      refine (markText_to (s + 2) _ (by omega) (by omega) (by omega) _).mono ?_
      rintro e w2 ⟨rfl, b2⟩
      have hro := HN1.out.later b2 HN1.out.1
      obtain ⟨c2, f2, _, _⟩ := hro.place (show k * 3 + 2 < 3 * n by omega)
      rw [← Nat.add_assoc] at c2 f2
      have HN2 := hide (hro.set (show k * 3 + 2 < 3 * n by omega) (.string (markT (s + 2))))
      have HA2 := hide ((HA1.out.trans (aside_new b2)).setCell (p := ⟨b, off + k * 3 + 2, none⟩) hb1 hb2 (.string (markT (s + 2))))
      clear hro b2 HN1 HA1 c0 c1
      go_wp2_with fail
      exact ⟨⟨k + 1, _, by omega, by go_num, by have := HS.out; go_num, HN2.out, HA2.out⟩, by simp [intOf]; omega⟩
    · obtain rfl : k = n := by omega
      go_wp2_with fail
      go_ret
      exact ⟨rfl, hasd⟩
end Go.Proofs.YtocinobbocjikaaGreatDoor
end

section
namespace Go.Proofs.YtocinobbocjikaaGreatDoor
open Go.RowKit
set_option linter.unusedVariables false
set_option maxRecDepth 20000

/-- Jobs that are marked from m on. -/
def jbMark (m n : Nat) : List Jb := (List.range n).map fun i : Nat => (((m + 3 * i : Nat) : Int), ((m + 3 * i + 1 : Nat) : Int), markT (m + 3 * i + 2))
theorem jbMark_length (m n : Nat) : (jbMark m n).length = n := by simp [jbMark]
theorem jbMark_at (m n i : Nat) (h : i < n) : jbAt (jbMark m n) i = (((m + 3 * i : Nat) : Int), ((m + 3 * i + 1 : Nat) : Int), markT (m + 3 * i + 2)) := by
  unfold jbAt jbMark
  rw [List.getD_eq_getElem?_getD, List.getElem?_map, List.getElem?_range h]; rfl
def mixJ (m n : Nat) (js : List Jb) (k j : Nat) : Value := if j < 3 * k then cellJ (jbMark m n) j else cellJ js j
theorem mixJ_step (m n : Nat) (js : List Jb) (k j : Nat) (h : k < n) : (if j = k * 3 + 2 then Value.string (markT (m + 3 * k + 2)) else if j = k * 3 + 1 then .int .i64 ((m + 3 * k + 1 : Nat) : Int) else if j = k * 3 then .int .i64 ((m + 3 * k : Nat) : Int) else mixJ m n js k j) = mixJ m n js (k + 1) j := by
  unfold mixJ
  by_cases e2 : j = k * 3 + 2
  · subst e2
    rw [if_pos rfl, if_pos (by omega), show k * 3 + 2 = 3 * k + 2 by omega, cellJ2, jbMark_at m n k h]
  · rw [if_neg e2]
    by_cases e1 : j = k * 3 + 1
    · subst e1
      rw [if_pos rfl, if_pos (by omega), show k * 3 + 1 = 3 * k + 1 by omega, cellJ1, jbMark_at m n k h]
    · rw [if_neg e1]
      by_cases e0 : j = k * 3
      · subst e0
        rw [if_pos rfl, if_pos (by omega), show k * 3 = 3 * k by omega, cellJ0, jbMark_at m n k h]
      · rw [if_neg e0]
        by_cases hl : j < 3 * k
        · rw [if_pos hl, if_pos (by omega)]
        · rw [if_neg hl, if_neg (by omega)]

set_option maxHeartbeats 1600000 in
theorem markJobS_to (a : Option Addr) (n cap : Nat) (js : List Jb) (m : Nat) (w : World) {lo hi : Nat} (h : OwnJobs lo hi w a n js) (hn : n ≤ 1048576) (m0 : 1 ≤ m) (m1 : m + 3 * n ≤ 4194304) :
    Calls Tryz.prog 30 #[.slice a n cap, .int .i64 (m : Int)] w fun e w' => e = .returned (.int .i64 ((m + 3 * n : Nat) : Int)) ∧ OwnJobs lo hi w' a n (jbMark m n) ∧ Aside lo hi w w' := by
  obtain ⟨hl, hx⟩ := h
  have HX := hide hx
  clear hl hx
  go_enter Tryz.func30, Tryz.ntmps30
  go_wp2_with fail
  go_loopw [1, 5] (fun t i wr => ∃ k : Nat, k ≤ n ∧ i = .int .i64 (k : Int) ∧ t = .int .i64 ((m + 3 * k : Nat) : Int) ∧ Owned lo hi wr a (3 * n) (mixJ m n js k) ∧ Aside lo hi w wr) (fun _ i _ => n - (intOf i).toNat)
  case atStart => exact ⟨0, Nat.zero_le _, rfl, by simp, HX.out.congr (fun j _ => by unfold mixJ; rw [if_neg (by omega)]), Aside.refl _ _ _⟩
  case round =>
    obtain ⟨k, hk, rfl, rfl, hrow, hasd⟩ := hrel
    clear HX
    by_cases hlt : k < n
    · obtain ⟨b, off, rfl, hb1, hb2, hc⟩ := hrow.2 (by omega)
      obtain ⟨c0, f0, _, _⟩ := hrow.place (show k * 3 < 3 * n by omega)
      obtain ⟨c1, f1, _, _⟩ := hrow.place (show k * 3 + 1 < 3 * n by omega)
      rw [← Nat.add_assoc] at c1 f1
      have HRW := hide hrow
      have HAS := hide hasd
      clear hrow hasd hc
      obtain ⟨s, hs⟩ : ∃ s, s = m + 3 * k := ⟨_, rfl⟩
      rw [← hs]
      have HN1 := hide ((HRW.out.set (show k * 3 < 3 * n by omega) (.int .i64 (s : Int))).set (show k * 3 + 1 < 3 * n by omega) (.int .i64 ((s : Int) + 1)))
      have HA1 := hide ((HAS.out.setCell (p := ⟨b, off + k * 3, none⟩) hb1 hb2 (.int .i64 (s : Int))).setCell (p := ⟨b, off + k * 3 + 1, none⟩) hb1 hb2 (.int .i64 ((s : Int) + 1)))
      have hs9 : s + 3 ≤ 4194304 := by omega
      have HS := hide hs
      clear HRW HAS hs
      go_wp2_with fail
      refine (markText_to (s + 2) _ (by omega) (by omega) (by omega) _).mono ?_
      rintro e w2 ⟨rfl, b2⟩
      have hro := HN1.out.later b2 HN1.out.1
      obtain ⟨c2, f2, _, _⟩ := hro.place (show k * 3 + 2 < 3 * n by omega)
      rw [← Nat.add_assoc] at c2 f2
      have HN2 := hide ((hro.set (show k * 3 + 2 < 3 * n by omega) (.string (markT (s + 2)))).congr (g := mixJ m n js (k + 1)) (fun j _ => by
        have := mixJ_step m n js k j hlt
        rw [← HS.out] at this
        rw [← this]
        rfl))
      have HA2 := hide ((HA1.out.trans (aside_new b2)).setCell (p := ⟨b, off + k * 3 + 2, none⟩) hb1 hb2 (.string (markT (s + 2))))
      clear hro b2 HN1 HA1 c0 c1
      go_wp2_with fail
      exact ⟨⟨k + 1, by omega, by go_num, by have := HS.out; go_num, HN2.out, HA2.out⟩, by simp [intOf]; omega⟩
    · obtain rfl : k = n := by omega
      go_wp2_with fail
      go_ret
      exact ⟨rfl, ⟨jbMark_length m k, hrow.congr (fun i hi => by unfold mixJ; rw [if_pos hi])⟩, hasd⟩

set_option maxHeartbeats 1600000 in
theorem heldJobS_any (a : Option Addr) (n cap : Nat) (m : Nat) (w : World) {lo hi : Nat} (h : Jobs lo hi w a n (jbMark m n)) (hhi : hi ≤ w.heap.size) (hn : n ≤ 1048576) (m0 : 1 ≤ m) (m1 : m + 3 * n ≤ 4194304) :
    Calls Tryz.prog 31 #[.slice a n cap, .int .i64 (m : Int)] w fun e w' => e = .returned (.int .i64 ((m + 3 * n : Nat) : Int)) ∧ Below w.heap.size w w' := by
  obtain ⟨hl, hx⟩ := h
  have HX := hide hx
  clear hx hl
  go_enter Tryz.func31, Tryz.ntmps31
  go_wp2_with fail
  go_loopw [1, 5] (fun t i wr => ∃ k : Nat, k ≤ n ∧ i = .int .i64 (k : Int) ∧ t = .int .i64 ((m + 3 * k : Nat) : Int) ∧ Below w.heap.size w wr) (fun _ i _ => n - (intOf i).toNat)
  case atStart => exact ⟨0, Nat.zero_le _, rfl, by simp, Below.refl _ _⟩
  case round =>
    obtain ⟨k, hk, rfl, rfl, hbel⟩ := hrel
    by_cases hlt : k < n
    · obtain ⟨b, off, rfl, hb1, hb2, hc⟩ := (HX.out.later hbel hhi).2 (by omega)
      have c0 := hc (k * 3) (by omega)
      have c1 := hc (k * 3 + 1) (by omega)
      have c2 := hc (k * 3 + 2) (by omega)
      rw [show k * 3 = 3 * k by omega, cellJ0, jbMark_at m n k hlt] at c0
      rw [show k * 3 = 3 * k by omega, cellJ1, jbMark_at m n k hlt, ← Nat.add_assoc] at c1
      rw [show k * 3 = 3 * k by omega, cellJ2, jbMark_at m n k hlt, ← Nat.add_assoc] at c2
      rw [show 3 * k = k * 3 by omega] at c0 c1 c2
      dsimp only at c0 c1 c2
      have hlt2 : (k : Int) < (n : Int) := by omega
      have e2 : m + 3 * (k + 1) = m + k * 3 + 1 + 1 + 1 := by omega
      have HE2 := hide e2
      have hqb : m + k * 3 + 3 ≤ 4194304 := by omega
      have hq1 : 1 ≤ m + k * 3 := by omega
      have hbb : b < wr.heap.size := by have := hbel.size; omega
      have HBL := hide hbel
      clear hc e2 hbel
      rw [show m + 3 * k = m + k * 3 by omega]
      generalize m + k * 3 = q at *
      rw [show ((q + 1 : Nat) : Int) = (q : Int) + 1 by omega] at c1
      have e0 := text_same (markT (q + 2))
      have d2 : ∀ w', Below wr.heap.size wr w' → w'.cell? ⟨b, off + k * 3 + 2, none⟩ = some (.string (markT (q + 2))) := fun w' h' => (h'.cell (p := ⟨b, off + k * 3 + 2, none⟩) hbb).trans c2
      have HD2 := hide d2
      clear d2
      go_wp2_with fail
      go_region_with (go_at_call 71; refine (markText_to (q + 2) _ (by omega) (by omega) (by omega) _).mono ?_; rintro e w2 ⟨rfl, b2⟩; have d9 := HD2.out w2 (below_here (Below.refl wr.heap.size wr).drew b2); have HB2 := hide (below_here (show Below w.heap.size w wr.drew from HBL.out.drew) b2); clear b2)
      all_goals go_wp2_with fail
      all_goals exact ⟨⟨k + 1, by omega, by go_num, by rw [HE2.out]; go_num, HB2.out⟩, by simp [intOf]; omega⟩
    · obtain rfl : k = n := by omega
      go_wp2_with fail
      go_ret
      exact ⟨rfl, hbel⟩
end Go.Proofs.YtocinobbocjikaaGreatDoor
end

