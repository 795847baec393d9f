/- The walks of Flipped, on both sides. -/
import Derived.Test.YtgnfibdgoghkpaaWalkOk
import Derived.Test.YtgnfibdgoghkpaaBitsMath
import Derived.Test.YtgnfibdgoghkpaaCopyBase
namespace Go.Proofs.Ytgnfibdgoghkpaa
open Go.RowKit
set_option linter.unusedVariables false

theorem empty_own (w w' : World) (a : Option Addr) (lo hi : Nat) (h : hi ≤ w'.heap.size) : OwnInts lo hi w' a 0 [] := ⟨rfl, h, fun h => absurd h (Nat.lt_irrefl _)⟩

set_option maxHeartbeats 400000 in
theorem specFlipped_any (a : Option Addr) (n cap : Nat) (xs : List Int) (p : Int) (w : World) {lo hi : Nat} (h : Ints lo hi w a n xs) (hn : n ≤ 1048576) :
    Calls Try.prog 20 #[.slice a n cap, .int .i64 p] w fun e w' => ∃ a' n' cap', e = .returned (.slice a' n' cap') ∧ n' ≤ cap' ∧ OwnInts w.heap.size w'.heap.size w' a' n' (flipped xs p) ∧ Below w.heap.size w w' := by
  have hI := h
  obtain ⟨hl, hsz, hx⟩ := h
  have HL : Hid (xs.length = n) := hl
  clear hl
  cases hok : bitsOk xs
  · go_enter Try.func20, Try.ntmps20
    go_wp2_with (go_at_call 24; refine (specBitsOk_any _ _ _ xs _ hI hn).mono ?_; rintro e w' ⟨rfl, rfl⟩)
    go_ret
    exact ⟨_, _, _, rfl, Nat.le_refl _, by rw [flipped_no (.inl hok)]; exact empty_own w _ _ _ _ (Nat.le_refl _), (Below.refl _ _).alloc (Nat.le_refl _) _⟩
  · by_cases hin : 0 ≤ p ∧ p < n
    · obtain ⟨h0, h1⟩ := hin
      obtain ⟨k, rfl⟩ := Int.eq_ofNat_of_zero_le h0
      have hib : inB k 0 (n - 1) = true := by simp [inB]; omega
      obtain ⟨b, off, rfl, hb1, hb2, hc⟩ := hx (by omega)
      have bel := (Below.refl w.heap.size w).alloc (Nat.le_refl _) (.cells #[] 2)
      have HN := hide (news_of (hI.later bel (by omega)) rfl)
      have HO := hide (own_made0 w 2)
      obtain ⟨i0, hi0, hz0, hz1, hz2⟩ := info_parts Try.infoI64
      have hbit := bit_bd (bit_at (bits_all hok) k)
      obtain ⟨z, hz⟩ : ∃ z, z = xs.getD k 0 := ⟨_, rfl⟩
      rw [← hz] at hbit
      have HZ : Hid (z = xs.getD k 0) := hz
      obtain ⟨z0, z1⟩ := hbit
      clear hz hc hx
      have HBEL := hide (bel)
      clear bel
      go_enter Try.func20, Try.ntmps20
      go_wp2_with (first | (go_at_call 24; refine (specBitsOk_any _ _ _ xs _ hI hn).mono ?_; rintro e w' ⟨rfl, rfl⟩) | (go_at_call 40; refine (l1In_any _ _ _ _).mono ?_; rintro e w' ⟨rfl, rfl⟩) | (at_builtin; go_loud (refine wpList_append_own _ rfl (.tmp 18) (.tmp 19) 25 rfl w.heap.size 2 i0 (.int .i64 0) 1 8 Try.underlying25 hi0 hz0 hz1 hz2 rfl (by decide) _ _ _ rfl HO.out ⟨b, off, none⟩ n cap (xs.map (Value.int .i64)) rfl (by simp [HL.out]) HN.out (ints_one xs) (by unfold maxLen; omega) (by omega) (by simp) ?_); intro v' w1 hown hgrow _; simp only [Nat.zero_add, List.nil_append] at hown; have hB := hide (HBEL.out.grown hgrow (by simp) (own_block (Nat.le_refl _))); obtain ⟨a', cap', rfl, hcap', _, hg, how⟩ := owned_of_own hown; obtain ⟨g, rfl⟩ := hg (by omega); obtain ⟨hco, hfo, hgb1, hgb2⟩ := how.at0 (i := k) (by omega); have hcz := hco.trans (congrArg some ((map_cell xs k (by rw [HL.out]; omega)).trans (congrArg (Value.int .i64) HZ.out.symm))); have HOW := hide (how.congr (fun i hi => map_cell xs i (by rw [HL.out]; exact hi))); clear hco how hown hgrow hg))
      go_ret
      exact ⟨_, _, _, rfl, hcap', ⟨by rw [flipped_yes hok (by rw [HL.out]; omega), List.length_set, HL.out], by
        rw [flipped_yes hok (by rw [HL.out]; omega), Go.Deep.nblk_setCell]
        exact (HOW.out.set0 (by omega) _).congr (fun j _ => flip_cell xs k (by rw [HL.out]; omega) _ (by rw [HZ.out]) j)⟩, hB.out.setCell (p := ⟨g, k, none⟩) hgb1 _⟩
    · have hib : inB p 0 (n - 1) = false := by simp [inB]; omega
      go_enter Try.func20, Try.ntmps20
      go_wp2_with (first | (go_at_call 24; refine (specBitsOk_any _ _ _ xs _ hI hn).mono ?_; rintro e w' ⟨rfl, rfl⟩) | (go_at_call 40; refine (l1In_any _ _ _ _).mono ?_; rintro e w' ⟨rfl, rfl⟩))
      go_ret
      exact ⟨_, _, _, rfl, Nat.le_refl _, by rw [flipped_no (.inr (by rw [HL.out]; omega))]; exact empty_own w _ _ _ _ (Nat.le_refl _), (Below.refl _ _).alloc (Nat.le_refl _) _⟩

theorem Try.sizeI64 : (Try.prog.info? 2).map (·.size) = some 1 := by kernel_rfl

set_option maxHeartbeats 400000 in
theorem implFlipped_any (a : Option Addr) (n cap : Nat) (xs : List Int) (p : Int) (w : World) {lo hi : Nat} (h : Ints lo hi w a n xs) (hn : n ≤ 1048576) :
    Calls Try.prog 11 #[.slice a n cap, .int .i64 p] w fun e w' => ∃ a' n' cap', e = .returned (.slice a' n' cap') ∧ n' ≤ cap' ∧ OwnInts w.heap.size w'.heap.size w' a' n' (flipped xs p) ∧ Below w.heap.size w w' := by
  have hI := h
  obtain ⟨hl, hsz, hx⟩ := h
  have HL : Hid (xs.length = n) := hl
  clear hl
  cases hok : bitsOk xs
  · go_enter Try.func11, Try.ntmps11
    go_wp2_with (go_at_call 23; refine (implBitsOk_any _ _ _ xs _ hI hn).mono ?_; rintro e w' ⟨rfl, rfl⟩)
    go_ret
    exact ⟨_, _, _, rfl, Nat.le_refl _, by rw [flipped_no (.inl hok)]; exact empty_own w _ _ _ _ (Nat.le_refl _), (Below.refl _ _).alloc (Nat.le_refl _) _⟩
  · by_cases h0 : 0 ≤ p
    · by_cases h1 : p < n
      · obtain ⟨k, rfl⟩ := Int.eq_ofNat_of_zero_le h0
        have hmk := run_make_row' (P := Try.prog) 25 2 (.int .i64 0) 8 Try.underlying25 Try.infoI64 rfl .i64 .i64 n (by omega) (by omega)
        have bel := (Below.refl w.heap.size w).alloc (Nat.le_refl _) (.cells (madeCells #[.int .i64 0] n) 2)
        have hmade := World.rowIs_made w (.int .i64 0) n 2
        obtain ⟨w1, hcp, hrow, hasd⟩ := copy_row (P := Try.prog) (w.alloc (.cells (madeCells #[.int .i64 0] n) 2)) 25 25 3 2 Try.underlying25 Try.sizeI64 w.heap.size 0 n n n 2 _ (cellI xs) hmade a n cap lo hi (hI.later bel (by omega)).2 n (Nat.min_self n).symm (by omega) (fun _ _ => rfl)
        have hrow' := hrow.congr (g := cellI xs) (fun i hi => by rw [if_pos (by omega)]; rfl)
        have hB := bel.trans (hasd.below (Nat.le_refl _) (by simp))
        have hbit := bit_bd (bit_at (bits_all hok) k)
        obtain ⟨z, hz⟩ : ∃ z, z = xs.getD k 0 := ⟨_, rfl⟩
        rw [← hz] at hbit
        obtain ⟨z0, z1⟩ := hbit
        have hco : w1.cell? ⟨w.heap.size, k, none⟩ = some (.int .i64 z) := by rw [hrow'.cell (by omega), cellI, ← hz]
        have hfo := hrow'.frozen k
        have hlt := hrow'.lt
        have HZ : Hid (z = xs.getD k 0) := hz
        have HR := hide hrow'
        have HB := hide hB
        clear hz hrow hrow' hB bel hmade hasd
        go_enter Try.func11, Try.ntmps11
        go_wp2_with (go_at_call 23; refine (implBitsOk_any _ _ _ xs _ hI hn).mono ?_; rintro e w' ⟨rfl, rfl⟩)
        go_ret
        exact ⟨_, _, _, rfl, Nat.le_refl _, ⟨by rw [flipped_yes hok (by rw [HL.out]; omega), List.length_set, HL.out], by
          rw [flipped_yes hok (by rw [HL.out]; omega), Go.Deep.nblk_setCell]
          exact ((owned_of_row HR.out (Nat.le_refl _) hlt (Nat.le_refl _)).set0 (by omega) _).congr (fun j _ => flip_cell xs k (by rw [HL.out]; omega) _ (by rw [HZ.out]) j)⟩, HB.out.setCell (p := ⟨w.heap.size, k, none⟩) (Nat.le_refl _) _⟩
      · go_enter Try.func11, Try.ntmps11
        go_wp2_with (go_at_call 23; refine (implBitsOk_any _ _ _ xs _ hI hn).mono ?_; rintro e w' ⟨rfl, rfl⟩)
        go_ret
        exact ⟨_, _, _, rfl, Nat.le_refl _, by rw [flipped_no (.inr (by rw [HL.out]; omega))]; exact empty_own w _ _ _ _ (Nat.le_refl _), (Below.refl _ _).alloc (Nat.le_refl _) _⟩
    · go_enter Try.func11, Try.ntmps11
      go_wp2_with (go_at_call 23; refine (implBitsOk_any _ _ _ xs _ hI hn).mono ?_; rintro e w' ⟨rfl, rfl⟩)
      go_ret
      exact ⟨_, _, _, rfl, Nat.le_refl _, by rw [flipped_no (.inr (by rw [HL.out]; omega))]; exact empty_own w _ _ _ _ (Nat.le_refl _), (Below.refl _ _).alloc (Nat.le_refl _) _⟩
end Go.Proofs.Ytgnfibdgoghkpaa
