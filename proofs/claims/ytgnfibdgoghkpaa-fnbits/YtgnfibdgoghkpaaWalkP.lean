/- The walks of Apart, on both sides. -/
import Derived.Test.YtgnfibdgoghkpaaWalkOk
import Derived.Test.YtgnfibdgoghkpaaOctet
namespace Go.Proofs.Ytgnfibdgoghkpaa
open Go.RowKit
set_option linter.unusedVariables false

theorem filled_eight (xs : List Int) (n k : Nat) (hl : xs.length = n) (hk : k ≤ n) (i : Nat) : filled (fun i => cellI xs (k + i)) (n - k) i = .int .i64 (xs.getD (k + i) 0) := by
  unfold filled
  by_cases h : i < n - k
  · rw [if_pos h]; rfl
  · rw [if_neg h, List.getD_eq_getElem?_getD, List.getElem?_eq_none (by omega)]; rfl

set_option maxHeartbeats 400000 in
theorem specApart_any (a : Option Addr) (n cap : Nat) (xs : List Int) (a' : Option Addr) (n' cap' : Nat) (ys : List Int) (w : World) {lo hi lo' hi' : Nat} (h : Ints lo hi w a n xs) (h' : Ints lo' hi' w a' n' ys) (hn : n ≤ 1048576) (hn' : n' ≤ 1048576) :
    Calls Try.prog 19 #[.slice a n cap, .slice a' n' cap'] w fun e w' => e = .returned (.int .i64 (apart xs ys)) ∧ Below w.heap.size w w' := by
  have hI := h
  have hI' := h'
  obtain ⟨hl, hsz, hx⟩ := h
  obtain ⟨hl', hsz', hx'⟩ := h'
  have HL : Hid (xs.length = n) := hl
  have HL' : Hid (ys.length = n') := hl'
  clear hl hl'
  cases hok : bitsOk xs
  · go_enter Try.func19, Try.ntmps19
    go_wp2_with (go_at_call 24; refine (specBitsOk_any _ _ _ xs _ hI hn).mono ?_; rintro e w' ⟨rfl, rfl⟩)
    go_ret
    exact ⟨ret_i64 (apart_no (.inr (.inl hok))).symm, Below.refl _ _⟩
  · cases hok' : bitsOk ys
    · go_enter Try.func19, Try.ntmps19
      go_wp2_with fail
      refine (specBitsOk_any _ _ _ xs _ hI hn).mono ?_
      rintro e w' ⟨rfl, rfl⟩
      go_wp2_with fail
      refine (specBitsOk_any _ _ _ ys _ hI' hn').mono ?_
      rintro e w' ⟨rfl, rfl⟩
      go_wp2_with fail
      go_ret
      exact ⟨ret_i64 (apart_no (.inr (.inr hok'))).symm, Below.refl _ _⟩
    · by_cases he : n = n'
      · subst he
        go_enter Try.func19, Try.ntmps19
        go_wp2_with fail
        refine (specBitsOk_any _ _ _ xs _ hI hn).mono ?_
        rintro e w' ⟨rfl, rfl⟩
        go_wp2_with fail
        refine (specBitsOk_any _ _ _ ys _ hI' hn').mono ?_
        rintro e w' ⟨rfl, rfl⟩
        go_wp2_with fail
        go_loopw [5, 6] (fun t i wr => ∃ k : Nat, k ≤ n ∧ i = .int .i64 k ∧ t = .int .i64 (dist (xs.take k) (ys.take k)) ∧ Below w.heap.size w wr) (fun _ i _ => n - (intOf i).toNat)
        case atStart => exact ⟨0, Nat.zero_le _, rfl, rfl, Below.refl _ _⟩
        case round =>
          obtain ⟨k, hk, rfl, rfl, hbel⟩ := hrel
          obtain ⟨s, hs⟩ : ∃ s, s = dist (xs.take k) (ys.take k) := ⟨_, rfl⟩
          have hs8 : s ≤ n := by have := dist_le (xs.take k) (ys.take k); rw [List.length_take] at this; omega
          rw [← hs]
          by_cases hlt : k < n
          · obtain ⟨b, off, rfl, _, hb, hc⟩ := hx (by omega)
            obtain ⟨b', off', rfl, _, hb', hc'⟩ := hx' (by omega)
            have hck : wr.cell? ⟨b, off + k, none⟩ = some (.int .i64 (xs.getD k 0)) := (hbel.cell (p := ⟨b, off + k, none⟩) (by show b < _; omega)).trans (hc k hlt)
            have hck' : wr.cell? ⟨b', off' + k, none⟩ = some (.int .i64 (ys.getD k 0)) := (hbel.cell (p := ⟨b', off' + k, none⟩) (by show b' < _; omega)).trans (hc' k hlt)
            have hst := dist_step xs ys k (by rw [HL.out]; exact hlt) (by rw [HL'.out]; exact hlt)
            rw [← hs] at hst
            clear hc hx hc' hx' hs
            obtain ⟨z, hz⟩ : ∃ z, z = xs.getD k 0 := ⟨_, rfl⟩
            obtain ⟨y, hy⟩ : ∃ z, z = ys.getD k 0 := ⟨_, rfl⟩
            rw [← hz] at hck hst
            rw [← hy] at hck' hst
            have HST := hide hst
            have HB := hide hbel
            clear hz hy hst hbel
            by_cases h0 : z = y
            · subst h0
              rw [if_pos rfl] at HST
              go_wp2
              go_quiet (fail)
              go_wp2
              go_roundw
              case rel => exact ⟨k + 1, by omega, by go_num, by rw [HST.out]; go_num, below_drewN HB.out _⟩
              case measure => simp [intOf]; omega
            · rw [if_neg h0] at HST
              have e0 : (z == y) = false := by simpa using h0
              have e1 : (z != y) = true := by simpa using h0
              go_wp2
              go_quiet (fail)
              go_wp2
              go_roundw
              case rel => exact ⟨k + 1, by omega, by go_num, by rw [HST.out]; go_num, below_drewN HB.out _⟩
              case measure => simp [intOf]; omega
          · go_wp2
            go_ret
            exact ⟨ret_i64 (by rw [apart_yes (HL.out.trans HL'.out.symm) hok hok', hs, List.take_of_length_le (by rw [HL.out]; omega), List.take_of_length_le (by rw [HL'.out]; omega)]), hbel⟩
      · have e0 : ((n : Int) == (n' : Int)) = false := by simp; omega
        have e1 : ((n : Int) != (n' : Int)) = true := by simp; omega
        go_enter Try.func19, Try.ntmps19
        go_wp2_with fail
        refine (specBitsOk_any _ _ _ xs _ hI hn).mono ?_
        rintro e w' ⟨rfl, rfl⟩
        go_wp2_with fail
        refine (specBitsOk_any _ _ _ ys _ hI' hn').mono ?_
        rintro e w' ⟨rfl, rfl⟩
        go_wp2_with fail
        go_ret
        exact ⟨ret_i64 (apart_no (.inl (by rw [HL.out, HL'.out]; exact he))).symm, Below.refl _ _⟩

theorem row_of_block {w w' : World} {b t n : Nat} {f : Nat → Value} (h : w.rowIs b t n f) {B : Nat} (hb : Below B w w') (hB : b < B) : w'.rowIs b t n f := h.of_block (hb.block b hB)
theorem row_aside {w w' : World} {b t n : Nat} {f : Nat → Value} (h : w.rowIs b t n f) {l r : Nat} (hb : Aside l r w w') (hB : b < l ∨ r ≤ b) : w'.rowIs b t n f := h.of_block (hb.block b h.lt hB)
theorem row_zero8 (w : World) (t : Nat) : (w.alloc (.cells #[.int .i64 0, .int .i64 0, .int .i64 0, .int .i64 0, .int .i64 0, .int .i64 0, .int .i64 0, .int .i64 0] t)).rowIs w.heap.size t 8 (cellI []) :=
  World.rowIs_alloc w _ t _ (fun i hi => by
    match i, hi with
    | 0, _ | 1, _ | 2, _ | 3, _ | 4, _ | 5, _ | 6, _ | 7, _ => rfl)

set_option maxHeartbeats 800000 in
theorem implApart_any (a : Option Addr) (n cap : Nat) (xs : List Int) (a' : Option Addr) (n' cap' : Nat) (ys : List Int) (w : World) {lo hi lo' hi' : Nat} (h : Ints lo hi w a n xs) (h' : Ints lo' hi' w a' n' ys) (hn : n ≤ 1048576) (hn' : n' ≤ 1048576) (hcap : n ≤ cap) (hcap' : n' ≤ cap') :
    Calls Try.prog 18 #[.slice a n cap, .slice a' n' cap'] w fun e w' => e = .returned (.int .i64 (apart xs ys)) ∧ Below w.heap.size w w' := by
  have hI := h
  have hI' := h'
  obtain ⟨hl, hsz, hx⟩ := h
  obtain ⟨hl', hsz', hx'⟩ := h'
  have HL : Hid (xs.length = n) := hl
  have HL' : Hid (ys.length = n') := hl'
  clear hl hl'
  by_cases he : n = n'
  · subst he
    cases hok : bitsOk xs
    · go_enter Try.func18, Try.ntmps18
      go_wp2_with fail
      refine (implBitsOk_any _ _ _ xs _ hI hn).mono ?_
      rintro e w' ⟨rfl, rfl⟩
      go_wp2_with fail
      go_ret
      exact ⟨ret_i64 (apart_no (.inr (.inl hok))).symm, Below.refl _ _⟩
    · cases hok' : bitsOk ys
      · go_enter Try.func18, Try.ntmps18
        go_wp2_with fail
        refine (implBitsOk_any _ _ _ xs _ hI hn).mono ?_
        rintro e w' ⟨rfl, rfl⟩
        go_wp2_with fail
        refine (implBitsOk_any _ _ _ ys _ hI' hn').mono ?_
        rintro e w' ⟨rfl, rfl⟩
        go_wp2_with fail
        go_ret
        exact ⟨ret_i64 (apart_no (.inr (.inr hok'))).symm, Below.refl _ _⟩
      · have r1 := row_zero8 w 52
        have r2 := row_zero8 (w.alloc (.cells #[.int .i64 0, .int .i64 0, .int .i64 0, .int .i64 0, .int .i64 0, .int .i64 0, .int .i64 0, .int .i64 0] 52)) 52
        have R1 := hide (r1.alloc (.cells #[.int .i64 0, .int .i64 0, .int .i64 0, .int .i64 0, .int .i64 0, .int .i64 0, .int .i64 0, .int .i64 0] 52))
        have hsz0 : (w.alloc (.cells #[.int .i64 0, .int .i64 0, .int .i64 0, .int .i64 0, .int .i64 0, .int .i64 0, .int .i64 0, .int .i64 0] 52)).heap.size = w.heap.size + 1 := by simp
        rw [hsz0] at r2
        have R2 := hide r2
        clear r1 r2 hsz0
        go_enter Try.func18, Try.ntmps18
        go_wp2_with fail
        refine (implBitsOk_any _ _ _ xs _ hI hn).mono ?_
        rintro e w' ⟨rfl, rfl⟩
        go_wp2_with fail
        refine (implBitsOk_any _ _ _ ys _ hI' hn').mono ?_
        rintro e w' ⟨rfl, rfl⟩
        go_wp2_with fail
        go_loopw [5, 8] (fun t i wr => ∃ k : Nat, k < n + 8 ∧ i = .int .i64 k ∧ t = .int .i64 (dist (xs.take k) (ys.take k)) ∧ (∃ f, wr.rowIs w.heap.size 52 8 f) ∧ (∃ f, wr.rowIs (w.heap.size + 1) 52 8 f) ∧ Below w.heap.size w wr) (fun _ i _ => n + 8 - (intOf i).toNat)
        case atStart => exact ⟨0, by omega, rfl, rfl, ⟨_, R1.out⟩, ⟨_, R2.out⟩, ((Below.refl _ _).alloc (Nat.le_refl _) _).alloc (by simp) _⟩
        case round =>
          obtain ⟨k, hk, rfl, rfl, ⟨f1, h1⟩, ⟨f2, h2⟩, hbel⟩ := hrel
          clear R1 R2
          obtain ⟨s, hs⟩ : ∃ s, s = dist (xs.take k) (ys.take k) := ⟨_, rfl⟩
          have hs8 : s ≤ n := by have := dist_le (xs.take k) (ys.take k); rw [List.length_take, HL.out] at this; omega
          rw [← hs]
          by_cases hlt : k < n
          · have hst := dist_eight xs ys (HL.out.trans HL'.out.symm) k
            rw [← hs] at hst
            have HST := hide hst
            clear hst hs
            have hR := (hI.later hbel hsz).2
            have hR' := (hI'.later hbel hsz').2
            obtain ⟨b, off, rfl, _, hb, hc⟩ := hx (by omega)
            obtain ⟨b', off', rfl, _, hb', hc'⟩ := hx' (by omega)
            have HR := hide (hR.drop k)
            have HR' := hide (hR'.drop k)
            have hwsz := h2.lt
            have H1 := hide h1
            have H2 := hide h2
            have HB := hide hbel
            clear hR hR' hc hc' hx hx' h1 h2 hbel
            go_wp2_with fail
            refine (fill_any w.heap.size f1 (fun i => cellI xs (k + i)) (some ⟨b, off + k, none⟩) (n - k) (cap - k) lo hi wr H1.out HR.out (.inl hsz) (fun _ _ => rfl)).mono ?_
            rintro e w1 ⟨rfl, g1, s1⟩
            have G1 := hide g1
            have H2' := hide (row_aside H2.out s1 (.inr (Nat.le_refl _)))
            have HR1 := hide (HR'.out.aside s1 (.inl hsz'))
            have S1 := hide s1
            clear g1 s1 H1 H2 HR HR'
            go_wp2_with fail
            refine (fill_any (w.heap.size + 1) f2 (fun i => cellI ys (k + i)) (some ⟨b', off' + k, none⟩) (n - k) (cap' - k) lo' hi' w1 H2'.out HR1.out (.inl (by omega)) (fun _ _ => rfl)).mono ?_
            rintro e w2 ⟨rfl, g2, s2⟩
            have g1' := (row_aside G1.out s2 (.inl (Nat.lt_succ_self _))).congr (fun i _ => filled_eight xs n k HL.out (by omega) i)
            have g2' := g2.congr (fun i _ => filled_eight ys n k HL'.out (by omega) i)
            have hB2 : Below w.heap.size w w2 := (HB.out.trans (S1.out.below (Nat.le_refl _) HB.out.size)).trans (s2.below (by omega) (Nat.le_trans HB.out.size S1.out.size))
            have x0 := g1'.cell (i := 0) (by omega)
            have x1 := g1'.cell (i := 1) (by omega)
            have x2 := g1'.cell (i := 2) (by omega)
            have x3 := g1'.cell (i := 3) (by omega)
            have x4 := g1'.cell (i := 4) (by omega)
            have x5 := g1'.cell (i := 5) (by omega)
            have x6 := g1'.cell (i := 6) (by omega)
            have x7 := g1'.cell (i := 7) (by omega)
            have y0 := g2'.cell (i := 0) (by omega)
            have y1 := g2'.cell (i := 1) (by omega)
            have y2 := g2'.cell (i := 2) (by omega)
            have y3 := g2'.cell (i := 3) (by omega)
            have y4 := g2'.cell (i := 4) (by omega)
            have y5 := g2'.cell (i := 5) (by omega)
            have y6 := g2'.cell (i := 6) (by omega)
            have y7 := g2'.cell (i := 7) (by omega)
            have hE : eight xs k = [xs.getD (k + 0) 0, xs.getD (k + 1) 0, xs.getD (k + 2) 0, xs.getD (k + 3) 0, xs.getD (k + 4) 0, xs.getD (k + 5) 0, xs.getD (k + 6) 0, xs.getD (k + 7) 0] := rfl
            have hE' : eight ys k = [ys.getD (k + 0) 0, ys.getD (k + 1) 0, ys.getD (k + 2) 0, ys.getD (k + 3) 0, ys.getD (k + 4) 0, ys.getD (k + 5) 0, ys.getD (k + 6) 0, ys.getD (k + 7) 0] := rfl
            have hst := HST.out
            rw [hE, hE'] at hst
            clear hE hE' HST
            generalize xs.getD (k + 0) 0 = p0 at *
            generalize xs.getD (k + 1) 0 = p1 at *
            generalize xs.getD (k + 2) 0 = p2 at *
            generalize xs.getD (k + 3) 0 = p3 at *
            generalize xs.getD (k + 4) 0 = p4 at *
            generalize xs.getD (k + 5) 0 = p5 at *
            generalize xs.getD (k + 6) 0 = p6 at *
            generalize xs.getD (k + 7) 0 = p7 at *
            generalize ys.getD (k + 0) 0 = q0 at *
            generalize ys.getD (k + 1) 0 = q1 at *
            generalize ys.getD (k + 2) 0 = q2 at *
            generalize ys.getD (k + 3) 0 = q3 at *
            generalize ys.getD (k + 4) 0 = q4 at *
            generalize ys.getD (k + 5) 0 = q5 at *
            generalize ys.getD (k + 6) 0 = q6 at *
            generalize ys.getD (k + 7) 0 = q7 at *
            have HST := hide hst
            have G1' := hide g1'
            have G2' := hide g2'
            have HB2 := hide hB2
            clear hst g1' g2' g2 hB2 HB S1 s2 G1 H2' HR1
            go_wp2_with fail
            have hoct := octApart_any p0 p1 p2 p3 p4 p5 p6 p7 q0 q1 q2 q3 q4 q5 q6 q7 w2
            unfold oct at hoct
            have hd8 := dist_le [p0, p1, p2, p3, p4, p5, p6, p7] [q0, q1, q2, q3, q4, q5, q6, q7]
            generalize dist [p0, p1, p2, p3, p4, p5, p6, p7] [q0, q1, q2, q3, q4, q5, q6, q7] = d at *
            simp only [List.length_cons, List.length_nil] at hd8
            refine hoct.mono ?_
            rintro e w3 ⟨rfl, b3⟩
            have hlt1 := G1'.out.lt
            have hlt2 := G2'.out.lt
            have K1 := hide (row_of_block G1'.out b3 hlt1)
            have K2 := hide (row_of_block G2'.out b3 hlt2)
            have KB := hide (below_here HB2.out b3)
            clear x0 x1 x2 x3 x4 x5 x6 x7 y0 y1 y2 y3 y4 y5 y6 y7 hoct b3 G1' G2' HB2
            go_wp2
            go_roundw
            case rel => exact ⟨k + 8, by omega, by go_num, by rw [HST.out]; go_num, ⟨_, K1.out⟩, ⟨_, K2.out⟩, KB.out⟩
            case measure => simp [intOf]; omega
          · go_wp2
            go_ret
            exact ⟨ret_i64 (by rw [apart_yes (HL.out.trans HL'.out.symm) hok hok', hs, List.take_of_length_le (by rw [HL.out]; omega), List.take_of_length_le (by rw [HL'.out]; omega)]), hbel⟩
  · have e0 : ((n : Int) == (n' : Int)) = false := by simp; omega
    have e1 : ((n : Int) != (n' : Int)) = true := by simp; omega
    go_enter Try.func18, Try.ntmps18
    go_wp2
    go_ret
    exact ⟨ret_i64 (apart_no (.inl (by rw [HL.out, HL'.out]; exact he))).symm, Below.refl _ _⟩
end Go.Proofs.Ytgnfibdgoghkpaa
