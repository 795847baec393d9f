/- The walks of chapter 2's five functions, as the program has them. -/
import Derived.Test.YtbgjagmnpfcfaakFieldTimes
namespace Go.Proofs.Ytbgjagmnpfcfaak
open Go.RowKit
set_option linter.unusedVariables false
set_option maxRecDepth 20000

theorem Multi.later {w w' : World} {b a B : Nat} (h : Multi w b a) (hb : Below B w w') (hB : b + 1 ≤ B) : Multi w' b a := by
  rcases h with h | h
  · exact .inl (Owned.later h hb hB)
  · exact .inr (Owned.later h hb hB)

set_option maxRecDepth 20000 in
theorem implSum_any (x y : Int) (w : World) :
    Calls Try.prog 64 #[.int .i64 x, .int .i64 y] w fun e w' => e = .returned (.int .i64 (sumI x y)) ∧ w = w' := by
  cases hx : elem x
  · go_enter Try.func64, Try.ntmps64
    go_wp2_with fail
    refine (isElement_any _ _).mono ?_
    rintro e w1 ⟨rfl, rfl⟩
    go_wp2_with fail
    go_ret
    exact ⟨ret_i64 (sumI_no (.inl hx)).symm, rfl⟩
  · cases hy : elem y
    · go_enter Try.func64, Try.ntmps64
      go_wp2_with fail
      refine (isElement_any _ _).mono ?_
      rintro e w1 ⟨rfl, rfl⟩
      go_wp2_with fail
      refine (isElement_any _ _).mono ?_
      rintro e w1 ⟨rfl, rfl⟩
      go_wp2_with fail
      go_ret
      exact ⟨ret_i64 (sumI_no (.inr hy)).symm, rfl⟩
    · obtain ⟨a, rfl, ha⟩ := elem_nat hx
      obtain ⟨b, rfl, hb⟩ := elem_nat hy
      go_enter Try.func64, Try.ntmps64
      go_wp2_with fail
      refine (isElement_any _ _).mono ?_
      rintro e w1 ⟨rfl, rfl⟩
      go_wp2_with fail
      refine (isElement_any _ _).mono ?_
      rintro e w1 ⟨rfl, rfl⟩
      go_wp2_with fail
      go_ret
      exact ⟨ret_i64 (by rw [sumI_nat ha hb, i64_xor_nat a b (by omega) (by omega)]), rfl⟩

set_option maxRecDepth 20000 in
set_option maxHeartbeats 800000 in
theorem implInverse_any (x : Int) (w : World) :
    Calls Try.prog 63 #[.int .i64 x] w fun e w' => e = .returned (.int .i64 (invI x)) ∧ Below w.heap.size w w' := by
  cases hx : elem x
  · go_enter Try.func63, Try.ntmps63
    go_wp2_with fail
    refine (isElement_any _ _).mono ?_
    rintro e w1 ⟨rfl, rfl⟩
    go_wp2_with fail
    go_ret
    exact ⟨ret_i64 (by simp [invI, hx]), Below.refl _ _⟩
  · obtain ⟨a, rfl, ha⟩ := elem_nat hx
    go_enter Try.func63, Try.ntmps63
    go_wp2_with fail
    refine (isElement_any _ _).mono ?_
    rintro e w1 ⟨rfl, rfl⟩
    go_wp2_with fail
    refine (multiplesOf_any a ha _).mono ?_
    rintro e w1 ⟨rfl, h1⟩
    have H1 := hide h1
    clear h1
    go_wp2_with fail
    go_loopw [10, 4] (fun i _ wr => ∃ k : Nat, k ≤ 256 ∧ i = .int .i64 (k : Int) ∧ (∀ j, j < k → Field.mul a j ≠ 1) ∧ Hid (Multi wr w.heap.size a ∧ Below w.heap.size w wr ∧ w.heap.size < wr.heap.size)) (fun i _ _ => 256 - (intOf i).toNat)
    case atStart => exact ⟨0, Nat.zero_le _, rfl, fun j h => absurd h (Nat.not_lt_zero _), .inl H1.out.1, H1.out.2.1, by have := H1.out.2.2; omega⟩
    case round =>
      obtain ⟨k, hk, rfl, hno, HR⟩ := hrel
      have HNO := hide hno
      clear hno
      by_cases hlt : k < 256
      · go_wp2_with fail
        refine (times_any _ a k ha hlt _ HR.out.1).mono ?_
        rintro e w2 ⟨rfl, h2⟩
        have H2 := hide h2
        clear h2
        by_cases h1 : Field.mul a k = 1
        · have h1' : (((Field.mul a k : Nat) : Int) == 1) = true := by rw [h1]; rfl
          have HO := hide h1
          clear h1
          go_wp2_with fail
          go_ret
          refine ⟨ret_i64 ?_, HR.out.2.1.trans (H2.out.2.1.below (Nat.le_refl _) (Nat.le_of_lt HR.out.2.2))⟩
          have h0 : a ≠ 0 := by
            intro h0
            have := HO.out
            rw [h0, Field.zero_mul hlt] at this
            omega
          rw [invI_nat ha h0, Field.inv_only ha h0 hlt HO.out]
        · have h1' : (((Field.mul a k : Nat) : Int) == 1) = false := by simp; omega
          have HO := hide h1
          clear h1
          go_wp2_with fail
          go_roundw
          case rel =>
            refine ⟨k + 1, by omega, by go_num, ?_, H2.out.1, HR.out.2.1.trans (H2.out.2.1.below (Nat.le_refl _) (Nat.le_of_lt HR.out.2.2)), by have := H2.out.2.2; have := HR.out.2.2; omega⟩
            intro j hj
            by_cases e : j = k
            · subst e; exact HO.out
            · exact HNO.out j (by omega)
          case measure => simp [intOf]; omega
      · go_wp2_with fail
        go_ret
        refine ⟨ret_i64 ?_, HR.out.2.1⟩
        by_cases h0 : a = 0
        · subst h0; simp [invI]
        · exact absurd (Field.mul_inv ha h0) (HNO.out _ (by have := Field.inv_lt ha; omega))

theorem over_eq (x y : Int) : mulI x (invI y) = overI x y := by
  cases hx : elem x
  · simp [mulI, overI, hx]
  · cases hy : elem y
    · have h1 : invI y = -1 := by simp [invI, hy]
      have h2 : elem (-1) = false := by decide
      simp [mulI, overI, h1, h2, hy]
    · obtain ⟨a, rfl, ha⟩ := elem_nat hx
      obtain ⟨b, rfl, hb⟩ := elem_nat hy
      by_cases h0 : b = 0
      · subst h0
        have h1 : invI ((0 : Nat) : Int) = -1 := by simp [invI]
        have h2 : elem (-1) = false := by decide
        simp only [h1]
        simp [mulI, overI, h2]
      · rw [invI_nat hb h0, mulI_nat ha (Field.inv_lt hb), overI_nat ha hb h0]
end Go.Proofs.Ytbgjagmnpfcfaak
