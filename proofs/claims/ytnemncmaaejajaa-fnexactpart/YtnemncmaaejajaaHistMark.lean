/- Chapter 19: the laws' own marks: operations that are marked and held. -/
import Derived.Test.YtnemncmaaejajaaHistWalk
import Derived.Test.YtnemncmaaejajaaJobMark
namespace Go.Proofs.Ytnemncmaaejajaa
open Go.RowKit
set_option linter.unusedVariables false
set_option linter.unusedSimpArgs false
set_option maxRecDepth 20000

theorem OwnOps9.aside {lo hi n l r : Nat} {w w' : World} {a : Option Addr} {L : List O9} (h : OwnOps9 lo hi w a n L) (hb : Aside l r w w') (hB : hi ≤ l ∨ r ≤ lo) : OwnOps9 lo hi w' a n L := ⟨h.1, h.2.aside hb hB⟩
/-- Is the mark a true one? -/
def trueM (q : Nat) : Bool := decide (q % 3 = 0)
theorem trueM_eq (q : Nat) : ((q : Int) % 3 == 0) = trueM q := by
  unfold trueM
  by_cases c : q % 3 = 0
  · rw [decide_eq_true c, beq_iff_eq]; omega
  · rw [decide_eq_false c, beq_eq_false_iff_ne]; omega
/-- Operations that are marked from m on. -/
def opMark (m n : Nat) : List O9 := (List.range n).map fun i : Nat => ⟨((m + 5 * i : Nat) : Int), trueM (m + 5 * i + 1), markT (m + 5 * i + 2), ((m + 5 * i + 3 : Nat) : Int), ((m + 5 * i + 4 : Nat) : Int)⟩
theorem opMark_length (m n : Nat) : (opMark m n).length = n := by simp [opMark]
theorem opMark_at (m n i : Nat) (h : i < n) : o9At (opMark m n) i = ⟨((m + 5 * i : Nat) : Int), trueM (m + 5 * i + 1), markT (m + 5 * i + 2), ((m + 5 * i + 3 : Nat) : Int), ((m + 5 * i + 4 : Nat) : Int)⟩ := by
  unfold o9At opMark
  rw [List.getD_eq_getElem?_getD, List.getElem?_map, List.getElem?_range h]; rfl
set_option maxHeartbeats 3200000 in
theorem markOpS_to (a : Option Addr) (n cap : Nat) (js : List O9) (m : Nat) (w : World) {lo hi : Nat} (h : OwnOps9 lo hi w a n js) (hn : n ≤ 1048576) (m0 : 1 ≤ m) (m1 : m + 5 * n ≤ 16777216) :
    Calls Try.prog 21 #[.slice a n cap, .int .i64 (m : Int)] w fun e w' => e = .returned (.int .i64 ((m + 5 * n : Nat) : Int)) ∧ OwnOps9 lo hi w' a n (opMark m n) ∧ Aside lo hi w w' := by
  obtain ⟨hl, hx⟩ := h
  have HX := hide hx
  clear hl hx
  go_enter Try.func21, Try.ntmps21
  go_wp2_with fail
  go_loopw [1, 5] (fun t i wr => ∃ k : Nat, k ≤ n ∧ i = .int .i64 (k : Int) ∧ t = .int .i64 ((m + 5 * k : Nat) : Int) ∧ Owned lo hi wr a (n * 5) (fun j => if j < k * 5 then o9C (opMark m n) j else o9C js j) ∧ Aside lo hi w wr) (fun _ i _ => n - (intOf i).toNat)
  case atStart => exact ⟨0, Nat.zero_le _, rfl, by simp, HX.out.congr (fun j _ => by rw [if_neg (by omega)]), Aside.refl _ _ _⟩
  case round =>
    obtain ⟨k, hk, rfl, rfl, hrow, hasd⟩ := hrel
    clear HX
    by_cases hlt : k < n
    · obtain ⟨b, off, rfl, hb1, hb2, hc⟩ := hrow.2 (by omega)
      obtain ⟨c0, f0, _, _⟩ := hrow.place (show k * 5 < n * 5 by omega)
      obtain ⟨c1, f1, _, _⟩ := hrow.place (show k * 5 + 1 < n * 5 by omega)
      rw [← Nat.add_assoc] at c1 f1
      have HRW := hide hrow
      have HAS := hide hasd
      have HST := hide (fun j => rowO_step (opMark m n) k j (o9C js))
      have HAT := hide (opMark_at m n k hlt)
      clear hrow hasd hc
      obtain ⟨s, hs⟩ : ∃ s, s = m + 5 * k := ⟨_, rfl⟩
      rw [← hs] at HAT
      rw [← hs]
      have hs9 : s + 5 ≤ 16777216 := by omega
      have HS := hide hs
      have HTM : Hid ((((s : Int) + 1) % 3 == 0) = trueM (s + 1)) := by
        have h := trueM_eq (s + 1)
        rw [show ((s + 1 : Nat) : Int) = (s : Int) + 1 by omega] at h
        exact h
      clear hs
      go_wp2_with fail
      rw [HTM.out]
      have HN1 := hide ((HRW.out.set (show k * 5 < n * 5 by omega) (.int .i64 (s : Int))).set (show k * 5 + 1 < n * 5 by omega) (.bool (trueM (s + 1))))
      have HA1 := hide ((HAS.out.setCell (p := ⟨b, off + k * 5, none⟩) hb1 hb2 (.int .i64 (s : Int))).setCell (p := ⟨b, off + k * 5 + 1, none⟩) hb1 hb2 (.bool (trueM (s + 1))))
      refine (markText_to (s + 2) _ (by omega) (by omega) (by omega) _).mono ?_
      rintro e w2 ⟨rfl, b2⟩
      have hro := HN1.out.later b2 HN1.out.1
      obtain ⟨c2, f2, _, _⟩ := hro.place (show k * 5 + 2 < n * 5 by omega)
      obtain ⟨c3, f3, _, _⟩ := hro.place (show k * 5 + 3 < n * 5 by omega)
      obtain ⟨c4, f4, _, _⟩ := hro.place (show k * 5 + 4 < n * 5 by omega)
      rw [← Nat.add_assoc] at c2 f2 c3 f3 c4 f4
      have HN2 := hide ((((hro.set (show k * 5 + 2 < n * 5 by omega) (.string (markT (s + 2)))).set (show k * 5 + 3 < n * 5 by omega) (.int .i64 ((s : Int) + 1 + 1 + 1))).set (show k * 5 + 4 < n * 5 by omega) (.int .i64 ((s : Int) + 1 + 1 + 1 + 1))).congr (g := fun j => if j < (k + 1) * 5 then o9C (opMark m n) j else o9C js j) (fun j _ => by
        have := HST.out j
        rw [HAT.out] at this
        dsimp only at this
        rw [show ((s + 3 : Nat) : Int) = (s : Int) + 1 + 1 + 1 by omega, show ((s + 4 : Nat) : Int) = (s : Int) + 1 + 1 + 1 + 1 by omega] at this
        exact this))
      have HA2 := hide ((((HA1.out.trans (aside_new b2)).setCell (p := ⟨b, off + k * 5 + 2, none⟩) hb1 hb2 (.string (markT (s + 2)))).setCell (p := ⟨b, off + k * 5 + 3, none⟩) hb1 hb2 (.int .i64 ((s : Int) + 1 + 1 + 1))).setCell (p := ⟨b, off + k * 5 + 4, none⟩) hb1 hb2 (.int .i64 ((s : Int) + 1 + 1 + 1 + 1)))
      clear hro b2 HN1 HA1 c0 c1 HTM
      go_wp2_with fail
      go_roundw
      case rel => exact ⟨k + 1, by omega, by go_num, by have := HS.out; go_num, HN2.out, HA2.out⟩
      case measure => simp [intOf]; omega
    · obtain rfl : k = n := by omega
      go_wp2_with fail
      go_ret
      exact ⟨rfl, ⟨opMark_length m k, hrow.congr (fun i hi => if_pos (by omega))⟩, hasd⟩
set_option maxHeartbeats 3200000 in
theorem heldOpS_any (a : Option Addr) (n cap : Nat) (m : Nat) (w : World) {lo hi : Nat} (h : Ops9 lo hi w a n (opMark m n)) (hn : n ≤ 1048576) (m0 : 1 ≤ m) (m1 : m + 5 * n ≤ 16777216) :
    Calls Try.prog 26 #[.slice a n cap, .int .i64 (m : Int)] w fun e w' => e = .returned (.int .i64 ((m + 5 * n : Nat) : Int)) ∧ Below w.heap.size w w' := by
  have HX := hide h
  have hhi := h.2.1
  clear h
  go_enter Try.func26, Try.ntmps26
  go_wp2_with fail
  go_loopw [1, 5] (fun t i wr => ∃ k : Nat, k ≤ n ∧ i = .int .i64 (k : Int) ∧ t = .int .i64 ((m + 5 * k : Nat) : Int) ∧ Below w.heap.size w wr) (fun _ i _ => n - (intOf i).toNat)
  case atStart => exact ⟨0, Nat.zero_le _, rfl, by simp, Below.refl _ _⟩
  case round =>
    obtain ⟨k, hk, rfl, rfl, hbel⟩ := hrel
    by_cases hlt : k < n
    · obtain ⟨b, off, rfl, hb1, hb2, hc⟩ := HX.out.2.2 (by omega)
      obtain ⟨c0, c1, c2, c3, c4⟩ := op9_row hc hbel (show b < w.heap.size by omega) hlt
      rw [opMark_at m n k hlt] at c0 c1 c2 c3 c4
      dsimp only at c0 c1 c2 c3 c4
      have HBL := hide hbel
      have hbb : b < wr.heap.size := by have := hbel.size; omega
      obtain ⟨q, hq⟩ : ∃ q, q = m + 5 * k := ⟨_, rfl⟩
      rw [← hq] at c0 c1 c2 c3 c4
      rw [← hq]
      have HE2 : Hid (m + 5 * (k + 1) = q + 1 + 1 + 1 + 1 + 1) := by show _ = _; omega
      have hqb : q + 5 ≤ 16777216 := by omega
      have hq1 : 1 ≤ q := by omega
      have htm : (((q : Int) + 1) % 3 == 0) = trueM (q + 1) := by
        have h := trueM_eq (q + 1)
        rwa [show ((q + 1 : Nat) : Int) = (q : Int) + 1 by omega] at h
      obtain ⟨B, hB⟩ : ∃ B, trueM (q + 1) = B := ⟨_, rfl⟩
      rw [hB] at c1 htm
      rw [show ((q + 3 : Nat) : Int) = (q : Int) + 1 + 1 + 1 by omega] at c3
      rw [show ((q + 4 : Nat) : Int) = (q : Int) + 1 + 1 + 1 + 1 by omega] at c4
      have e0 := text_same (markT (q + 2))
      have HD2 : Hid (∀ w', Below wr.heap.size wr w' → w'.cell? ⟨b, off + k * 5 + 2, none⟩ = some (.string (markT (q + 2))) ∧ w'.cell? ⟨b, off + k * 5 + 3, none⟩ = some (.int .i64 ((q : Int) + 1 + 1 + 1)) ∧ w'.cell? ⟨b, off + k * 5 + 4, none⟩ = some (.int .i64 ((q : Int) + 1 + 1 + 1 + 1))) := fun w' h' => ⟨(h'.cell (p := ⟨b, off + k * 5 + 2, none⟩) hbb).trans c2, (h'.cell (p := ⟨b, off + k * 5 + 3, none⟩) hbb).trans c3, (h'.cell (p := ⟨b, off + k * 5 + 4, none⟩) hbb).trans c4⟩
      clear hc hbel hq hB
      cases B <;>
      · go_wp2_with fail
        go_region_with (go_at_call 43; refine (markText_to (q + 2) _ (by omega) (by omega) (by omega) _).mono ?_; rintro e w2 ⟨rfl, b2⟩; obtain ⟨d9, d3, d4⟩ := HD2.out w2 (below_here (Below.refl wr.heap.size wr).drew b2); have HB2 := hide (below_here (show Below w.heap.size w wr.drew from HBL.out.drew) b2); clear b2)
        all_goals go_wp2_with fail
        all_goals exact ⟨⟨k + 1, by omega, by go_num, by rw [HE2.out]; go_num, HB2.out⟩, by simp [intOf]; omega⟩
    · obtain rfl : k = n := by omega
      go_wp2_with fail
      go_ret
      exact ⟨rfl, hbel⟩
end Go.Proofs.Ytnemncmaaejajaa
