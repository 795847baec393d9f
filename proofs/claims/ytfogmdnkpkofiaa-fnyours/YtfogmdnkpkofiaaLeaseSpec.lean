/- The model's chapter 16. -/
import Derived.Test.YtfogmdnkpkofiaaLeaseMath
import Derived.Test.YtfogmdnkpkofiaaWalkIn
namespace Go.Proofs.Ytfogmdnkpkofiaa
open Go.RowKit
set_option linter.unusedVariables false
set_option linter.unusedSimpArgs false
set_option maxRecDepth 20000

theorem l16Time_any (n : Int) (w : World) : Calls Try.prog 43 #[.int .i64 n] w fun r w' => r = .returned (.bool (tmOk n)) ∧ w = w' := by
  go_enter Try.func43, Try.ntmps43
  go_wp2_with fail
  refine (l1In_any _ _ _ _).mono ?_
  rintro r w1 ⟨rfl, rfl⟩
  go_wp2_with fail
  go_ret
  exact ⟨rfl, rfl⟩
theorem l16Drift_any (d : Int) (w : World) : Calls Try.prog 44 #[.int .i64 d] w fun r w' => r = .returned (.bool (drOk d)) ∧ w = w' := by
  go_enter Try.func44, Try.ntmps44
  go_wp2_with fail
  refine (l1In_any _ _ _ _).mono ?_
  rintro r w1 ⟨rfl, rfl⟩
  go_wp2_with fail
  go_ret
  exact ⟨rfl, rfl⟩
theorem tmOk_in {r : Int} (h : tmOk r = true) : 0 ≤ r ∧ r ≤ 1099511627776 := by simpa [tmOk, inB] using h
theorem drOk_in {d : Int} (h : drOk d = true) : 0 ≤ d ∧ d ≤ 100000 := by simpa [drOk, inB] using h
theorem lmax_any (x y : Int) (w : World) : Calls Try.prog 28 #[.int .i64 x, .int .i64 y] w fun e w' => e = .returned (.int .i64 (max x y)) ∧ w = w' := by
  by_cases h : y < x
  · have HE : Hid (max x y = x) := by show _ = _; omega
    go_enter Try.func28, Try.ntmps28
    go_wp2_with fail
    go_ret
    exact ⟨by rw [HE.out]; rfl, rfl⟩
  · have HE : Hid (max x y = y) := by show _ = _; omega
    go_enter Try.func28, Try.ntmps28
    go_wp2_with fail
    go_ret
    exact ⟨by rw [HE.out]; rfl, rfl⟩
theorem mineI_at {r d : Int} (h : (tmOk r && drOk d) = true) : mineI r d = max 0 (r * (1000000 - d) / (1000000 + d) - 1) := by unfold mineI; rw [if_pos h]
theorem mineI_no {r d : Int} (h : (tmOk r && drOk d) = false) : mineI r d = -1 := by unfold mineI; rw [if_neg (by rw [h]; simp)]
theorem yoursI_at {r d : Int} (h : (tmOk r && drOk d) = true) : yoursI r d = r * (1000000 + d) / (1000000 - d) + 1 := by unfold yoursI; rw [if_pos h]
theorem yoursI_no {r d : Int} (h : (tmOk r && drOk d) = false) : yoursI r d = -1 := by unfold yoursI; rw [if_neg (by rw [h]; simp)]
theorem mineI_small {l d : Int} : -1 ≤ mineI l d ∧ mineI l d ≤ 1209462790553600000 := by
  cases h : tmOk l && drOk d with
  | false => rw [mineI_no h]; omega
  | true =>
    rw [mineI_at h]
    simp only [Bool.and_eq_true] at h
    obtain ⟨r0, r1⟩ := tmOk_in h.1
    obtain ⟨d0, d1⟩ := drOk_in h.2
    have hp := prod_small r0 r1 (c := 1000000 - d) (by omega) (by omega)
    have hd := div_between hp.1 (show 0 < 1000000 + d by omega)
    omega
set_option maxHeartbeats 800000 in
theorem specYours_any (r d : Int) (w : World) : Calls Try.prog 18 #[.int .i64 r, .int .i64 d] w fun e w' => e = .returned (.int .i64 (yoursI r d)) ∧ w = w' := by
  go_enter Try.func18, Try.ntmps18
  go_wp2_with fail
  refine (l16Time_any _ _).mono ?_
  rintro e w1 ⟨rfl, rfl⟩
  cases h1 : tmOk r
  · have HE : Hid (yoursI r d = -1) := yoursI_no (by rw [h1]; rfl)
    go_wp2_with fail
    go_ret
    exact ⟨by rw [HE.out]; rfl, rfl⟩
  · go_wp2_with fail
    refine (l16Drift_any _ _).mono ?_
    rintro e w1 ⟨rfl, rfl⟩
    cases h2 : drOk d
    · have HE : Hid (yoursI r d = -1) := yoursI_no (by rw [h1, h2]; rfl)
      go_wp2_with fail
      go_ret
      exact ⟨by rw [HE.out]; rfl, rfl⟩
    · have HE : Hid (yoursI r d = r * (1000000 + d) / (1000000 - d) + 1) := yoursI_at (by rw [h1, h2]; rfl)
      obtain ⟨r0, r1⟩ := tmOk_in h1
      obtain ⟨d0, d1⟩ := drOk_in h2
      have hp := prod_small r0 r1 (c := 1000000 + d) (by omega) (by omega)
      have hd := div_between hp.1 (show 0 < 1000000 - d by omega)
      have hne : ¬ (1000000 : Int) - d = 0 := by omega
      clear h1 h2
      go_wp2_with fail
      go_ret
      exact ⟨by rw [HE.out]; rfl, rfl⟩
set_option maxHeartbeats 800000 in
theorem specRight_any (r n d : Int) (w : World) : Calls Try.prog 20 #[.int .i64 r, .int .i64 n, .int .i64 d] w fun e w' => e = .returned (.bool (rightB r n d)) ∧ w = w' := by
  go_enter Try.func20, Try.ntmps20
  go_wp2_with fail
  refine (l16Time_any _ _).mono ?_
  rintro e w1 ⟨rfl, rfl⟩
  cases h1 : tmOk r
  · have HE : Hid (rightB r n d = false) := by show _ = _; unfold rightB; rw [h1]; rfl
    go_wp2_with fail
    go_ret
    exact ⟨by rw [HE.out]; rfl, rfl⟩
  · go_wp2_with fail
    refine (l16Drift_any _ _).mono ?_
    rintro e w1 ⟨rfl, rfl⟩
    cases h2 : drOk d
    · have HE : Hid (rightB r n d = false) := by show _ = _; unfold rightB; rw [h1, h2]; rfl
      go_wp2_with fail
      go_ret
      exact ⟨by rw [HE.out]; rfl, rfl⟩
    · go_wp2_with fail
      refine (l1In_any _ _ _ _).mono ?_
      rintro e w1 ⟨rfl, rfl⟩
      cases h3 : inB n 0 2199023255552
      · have HE : Hid (rightB r n d = false) := by show _ = _; unfold rightB; rw [h1, h2, h3]; rfl
        go_wp2_with fail
        go_ret
        exact ⟨by rw [HE.out]; rfl, rfl⟩
      · obtain ⟨r0, r1⟩ := tmOk_in h1
        obtain ⟨d0, d1⟩ := drOk_in h2
        have hn : 0 ≤ n ∧ n ≤ 2199023255552 := by simpa [inB] using h3
        have hp := prod_small r0 r1 (c := 1000000 - d) (by omega) (by omega)
        have hq := prod_small r0 r1 (c := 1000000 + d) (by omega) (by omega)
        have HE : Hid (rightB r n d = (decide (r * (1000000 - d) ≤ 1000000 * n) && decide (1000000 * n ≤ r * (1000000 + d)))) := by show _ = _; unfold rightB; rw [h1, h2, h3]; rfl
        clear h1 h2 h3
        by_cases h4 : r * (1000000 - d) ≤ 1000000 * n
        · go_wp2_with fail
          go_ret
          exact ⟨by rw [HE.out, decide_eq_true h4]; rfl, rfl⟩
        · go_wp2_with fail
          go_ret
          exact ⟨by rw [HE.out, decide_eq_false (by omega : ¬ r * (1000000 - d) ≤ 1000000 * n)]; rfl, rfl⟩
end Go.Proofs.Ytfogmdnkpkofiaa
