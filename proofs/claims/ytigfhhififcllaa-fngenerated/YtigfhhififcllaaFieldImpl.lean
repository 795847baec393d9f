/- The walks of chapter 2's five functions, as the program has them. -/
import Derived.Test.YtigfhhififcllaaFieldTimes
namespace Go.Proofs.Ytigfhhififcllaa
open Go.RowKit
set_option linter.unusedVariables false

theorem Multi.later {w w' : World} {b a B : Nat} (h : Multi w b a) (hb : Below B w w') (hB : b + 1 ≤ B) : Multi w' b a := by
  rcases h with h | h
  · exact .inl (Owned.later h hb hB)
  · exact .inr (Owned.later h hb hB)

set_option maxRecDepth 20000 in
theorem implSum_any (x y : Int) (w : World) :
    Calls Try.prog 32 #[.int .i64 x, .int .i64 y] w fun e w' => e = .returned (.int .i64 (sumI x y)) ∧ w = w' := by
  cases hx : elem x
  · go_enter Try.func32, Try.ntmps32
    go_wp2_with fail
    refine (isElement_any _ _).mono ?_
    rintro e w1 ⟨rfl, rfl⟩
    go_wp2_with fail
    go_ret
    exact ⟨ret_i64 (sumI_no (.inl hx)).symm, rfl⟩
  · cases hy : elem y
    · go_enter Try.func32, Try.ntmps32
      go_wp2_with fail
      refine (isElement_any _ _).mono ?_
      rintro e w1 ⟨rfl, rfl⟩
      go_wp2_with fail
      refine (isElement_any _ _).mono ?_
      rintro e w1 ⟨rfl, rfl⟩
      go_wp2_with fail
      go_ret
      exact ⟨ret_i64 (sumI_no (.inr hy)).symm, rfl⟩
    · obtain ⟨a, rfl, ha⟩ := elem_nat hx
      obtain ⟨b, rfl, hb⟩ := elem_nat hy
      go_enter Try.func32, Try.ntmps32
      go_wp2_with fail
      refine (isElement_any _ _).mono ?_
      rintro e w1 ⟨rfl, rfl⟩
      go_wp2_with fail
      refine (isElement_any _ _).mono ?_
      rintro e w1 ⟨rfl, rfl⟩
      go_wp2_with fail
      go_ret
      exact ⟨ret_i64 (by rw [sumI_nat ha hb, i64_xor_nat a b (by omega) (by omega)]), rfl⟩

set_option maxRecDepth 20000 in
theorem implProduct_any (x y : Int) (w : World) :
    Calls Try.prog 30 #[.int .i64 x, .int .i64 y] w fun e w' => e = .returned (.int .i64 (mulI x y)) ∧ Below w.heap.size w w' := by
  cases hx : elem x
  · go_enter Try.func30, Try.ntmps30
    go_wp2_with fail
    refine (isElement_any _ _).mono ?_
    rintro e w1 ⟨rfl, rfl⟩
    go_wp2_with fail
    go_ret
    exact ⟨ret_i64 (mulI_no (.inl hx)).symm, Below.refl _ _⟩
  · cases hy : elem y
    · go_enter Try.func30, Try.ntmps30
      go_wp2_with fail
      refine (isElement_any _ _).mono ?_
      rintro e w1 ⟨rfl, rfl⟩
      go_wp2_with fail
      refine (isElement_any _ _).mono ?_
      rintro e w1 ⟨rfl, rfl⟩
      go_wp2_with fail
      go_ret
      exact ⟨ret_i64 (mulI_no (.inr hy)).symm, Below.refl _ _⟩
    · obtain ⟨a, rfl, ha⟩ := elem_nat hx
      obtain ⟨b, rfl, hb⟩ := elem_nat hy
      go_enter Try.func30, Try.ntmps30
      go_wp2_with fail
      refine (isElement_any _ _).mono ?_
      rintro e w1 ⟨rfl, rfl⟩
      go_wp2_with fail
      refine (isElement_any _ _).mono ?_
      rintro e w1 ⟨rfl, rfl⟩
      go_wp2_with fail
      refine (multiplesOf_any a ha _).mono ?_
      rintro e w1 ⟨rfl, h1⟩
      have H1 := hide h1
      clear h1
      go_wp2_with fail
      refine (times_any _ a b ha hb _ (.inl H1.out.1)).mono ?_
      rintro e w2 ⟨rfl, h2⟩
      have H2 := hide h2
      clear h2
      go_wp2_with fail
      go_ret
      exact ⟨ret_i64 (mulI_nat ha hb).symm, H1.out.2.1.trans (H2.out.2.1.below (Nat.le_refl _) (by have := H1.out.2.2; omega))⟩
theorem prod_nat_any (a b : Nat) (ha : a < 256) (hb : b < 256) (w : World) :
    Calls Try.prog 30 #[.int .i64 (a : Int), .int .i64 (b : Int)] w fun e w' => e = .returned (.int .i64 (Field.mul a b : Nat)) ∧ Below w.heap.size w w' := by
  have := implProduct_any a b w
  rw [mulI_nat ha hb] at this
  exact this

set_option maxRecDepth 20000 in
set_option maxHeartbeats 800000 in
theorem implPower_any (x n : Int) (hn : n < 9223372036854775808) (w : World) :
    Calls Try.prog 36 #[.int .i64 x, .int .i64 n] w fun e w' => e = .returned (.int .i64 (powI x n)) ∧ Below w.heap.size w w' := by
  cases hx : elem x
  · go_enter Try.func36, Try.ntmps36
    go_wp2_with fail
    refine (isElement_any _ _).mono ?_
    rintro e w1 ⟨rfl, rfl⟩
    go_wp2_with fail
    go_ret
    exact ⟨ret_i64 (by simp [powI, hx]), Below.refl _ _⟩
  · by_cases h : n < 0
    · go_enter Try.func36, Try.ntmps36
      go_wp2_with fail
      refine (isElement_any _ _).mono ?_
      rintro e w1 ⟨rfl, rfl⟩
      go_wp2_with fail
      go_ret
      exact ⟨ret_i64 (by unfold powI; rw [if_neg (by omega)]), Below.refl _ _⟩
    · obtain ⟨a, rfl, ha⟩ := elem_nat hx
      by_cases h0 : a = 0
      · subst h0
        by_cases hp : 0 < n
        · have HN := hide hn
          clear hn
          have hx0 : elem 0 = true := rfl
          clear hx
          simp only [show ((0 : Nat) : Int) = 0 from rfl]
          go_enter Try.func36, Try.ntmps36
          go_wp2_with fail
          refine (isElement_any _ _).mono ?_
          rintro e w1 ⟨rfl, rfl⟩
          go_wp2_with fail
          go_ret
          refine ⟨ret_i64 ?_, Below.refl _ _⟩
          obtain ⟨m, rfl⟩ : ∃ m : Nat, n = (m : Int) := ⟨n.toNat, by omega⟩
          have := powI_nat (n := m) ha
          rw [Field.pow_nought (by omega)] at this
          exact this.symm
        · obtain rfl : n = 0 := by omega
          have hx0 : elem 0 = true := rfl
          clear hx hp h hn
          simp only [show ((0 : Nat) : Int) = 0 from rfl]
          go_enter Try.func36, Try.ntmps36
          go_wp2_with fail
          refine (isElement_any _ _).mono ?_
          rintro e w1 ⟨rfl, rfl⟩
          go_wp2_with fail
          refine (multiplesOf_any 0 ha _).mono ?_
          rintro e w1 ⟨rfl, h1⟩
          have H1 := hide h1
          clear h1
          go_wp2_with fail
          go_loopw [24, 6] (fun i p wr => i = .int .i64 0 ∧ p = .int .i64 1 ∧ Hid (Below w.heap.size w wr)) (fun i _ _ => 0)
          case atStart => exact ⟨rfl, rfl, H1.out.2.1⟩
          case round =>
            obtain ⟨rfl, rfl, HR⟩ := hrel
            go_wp2_with fail
            go_ret
            exact ⟨rfl, HR.out⟩
      · obtain ⟨m, rfl⟩ : ∃ m : Nat, n = (m : Int) := ⟨n.toNat, by omega⟩
        have HN := hide hn
        have h' : decide ((m : Int) < 0) = false := by simp
        clear hn h
        have h0' : ((a : Int) == 0) = false := by simp; omega
        have H0 := hide h0
        clear h0
        go_enter Try.func36, Try.ntmps36
        go_wp2_with fail
        refine (isElement_any _ _).mono ?_
        rintro e w1 ⟨rfl, rfl⟩
        go_wp2_with fail
        refine (multiplesOf_any a ha _).mono ?_
        rintro e w1 ⟨rfl, h1⟩
        have H1 := hide h1
        clear h1
        go_wp2_with fail
        go_loopw [24, 6] (fun i p wr => ∃ k : Nat, k ≤ m % 255 ∧ i = .int .i64 (k : Int) ∧ p = .int .i64 (Field.pow a k : Nat) ∧ Hid (Multi wr w.heap.size a ∧ Below w.heap.size w wr ∧ w.heap.size < wr.heap.size)) (fun i _ _ => m % 255 - (intOf i).toNat)
        case atStart => exact ⟨0, Nat.zero_le _, rfl, rfl, .inl H1.out.1, H1.out.2.1, by have := H1.out.2.2; omega⟩
        case round =>
          obtain ⟨k, hk, rfl, rfl, HR⟩ := hrel
          by_cases hlt : k < m % 255
          · have hlt' : decide ((k : Int) < (m : Int) % 255) = true := by simp; omega
            have HL := hide hlt
            clear hlt
            go_wp2_with fail
            refine (times_any _ a (Field.pow a k) ha (Field.pow_lt ha k) _ HR.out.1).mono ?_
            rintro e w2 ⟨rfl, h2⟩
            have H2 := hide h2
            clear h2
            go_wp2_with fail
            go_roundw
            case rel => exact ⟨k + 1, HL.out, by go_num, rfl, H2.out.1, HR.out.2.1.trans (H2.out.2.1.below (Nat.le_refl _) (Nat.le_of_lt HR.out.2.2)), by have := H2.out.2.2; have := HR.out.2.2; omega⟩
            case measure => have := HL.out; simp [intOf]; omega
          · have hlt' : decide ((k : Int) < (m : Int) % 255) = false := by simp; omega
            have HL := hide hlt
            clear hlt
            go_wp2_with fail
            go_ret
            have hk' : k = m % 255 := by have := HL.out; omega
            subst hk'
            exact ⟨ret_i64 (by rw [powI_nat ha, Field.pow_mod ha H0.out]), HR.out.2.1⟩

set_option maxRecDepth 20000 in
set_option maxHeartbeats 800000 in
theorem implInverse_any (x : Int) (w : World) :
    Calls Try.prog 38 #[.int .i64 x] w fun e w' => e = .returned (.int .i64 (invI x)) ∧ Below w.heap.size w w' := by
  cases hx : elem x
  · go_enter Try.func38, Try.ntmps38
    go_wp2_with fail
    refine (isElement_any _ _).mono ?_
    rintro e w1 ⟨rfl, rfl⟩
    go_wp2_with fail
    go_ret
    exact ⟨ret_i64 (by simp [invI, hx]), Below.refl _ _⟩
  · obtain ⟨a, rfl, ha⟩ := elem_nat hx
    go_enter Try.func38, Try.ntmps38
    go_wp2_with fail
    refine (isElement_any _ _).mono ?_
    rintro e w1 ⟨rfl, rfl⟩
    go_wp2_with fail
    refine (multiplesOf_any a ha _).mono ?_
    rintro e w1 ⟨rfl, h1⟩
    have H1 := hide h1
    clear h1
    go_wp2_with fail
    go_loopw [10, 4] (fun i _ wr => ∃ k : Nat, k ≤ 256 ∧ i = .int .i64 (k : Int) ∧ (∀ j, j < k → Field.mul a j ≠ 1) ∧ Hid (Multi wr w.heap.size a ∧ Below w.heap.size w wr ∧ w.heap.size < wr.heap.size)) (fun i _ _ => 256 - (intOf i).toNat)
    case atStart => exact ⟨0, Nat.zero_le _, rfl, fun j h => absurd h (Nat.not_lt_zero _), .inl H1.out.1, H1.out.2.1, by have := H1.out.2.2; omega⟩
    case round =>
      obtain ⟨k, hk, rfl, hno, HR⟩ := hrel
      have HNO := hide hno
      clear hno
      by_cases hlt : k < 256
      · go_wp2_with fail
        refine (times_any _ a k ha hlt _ HR.out.1).mono ?_
        rintro e w2 ⟨rfl, h2⟩
        have H2 := hide h2
        clear h2
        by_cases h1 : Field.mul a k = 1
        · have h1' : (((Field.mul a k : Nat) : Int) == 1) = true := by rw [h1]; rfl
          have HO := hide h1
          clear h1
          go_wp2_with fail
          go_ret
          refine ⟨ret_i64 ?_, HR.out.2.1.trans (H2.out.2.1.below (Nat.le_refl _) (Nat.le_of_lt HR.out.2.2))⟩
          have h0 : a ≠ 0 := by
            intro h0
            have := HO.out
            rw [h0, Field.zero_mul hlt] at this
            omega
          rw [invI_nat ha h0, Field.inv_only ha h0 hlt HO.out]
        · have h1' : (((Field.mul a k : Nat) : Int) == 1) = false := by simp; omega
          have HO := hide h1
          clear h1
          go_wp2_with fail
          go_roundw
          case rel =>
            refine ⟨k + 1, by omega, by go_num, ?_, H2.out.1, HR.out.2.1.trans (H2.out.2.1.below (Nat.le_refl _) (Nat.le_of_lt HR.out.2.2)), by have := H2.out.2.2; have := HR.out.2.2; omega⟩
            intro j hj
            by_cases e : j = k
            · subst e; exact HO.out
            · exact HNO.out j (by omega)
          case measure => simp [intOf]; omega
      · go_wp2_with fail
        go_ret
        refine ⟨ret_i64 ?_, HR.out.2.1⟩
        by_cases h0 : a = 0
        · subst h0; simp [invI]
        · exact absurd (Field.mul_inv ha h0) (HNO.out _ (by have := Field.inv_lt ha; omega))

theorem over_eq (x y : Int) : mulI x (invI y) = overI x y := by
  cases hx : elem x
  · simp [mulI, overI, hx]
  · cases hy : elem y
    · have h1 : invI y = -1 := by simp [invI, hy]
      have h2 : elem (-1) = false := by decide
      simp [mulI, overI, h1, h2, hy]
    · obtain ⟨a, rfl, ha⟩ := elem_nat hx
      obtain ⟨b, rfl, hb⟩ := elem_nat hy
      by_cases h0 : b = 0
      · subst h0
        have h1 : invI ((0 : Nat) : Int) = -1 := by simp [invI]
        have h2 : elem (-1) = false := by decide
        simp only [h1]
        simp [mulI, overI, h2]
      · rw [invI_nat hb h0, mulI_nat ha (Field.inv_lt hb), overI_nat ha hb h0]
theorem implOver_any (x y : Int) (w : World) :
    Calls Try.prog 34 #[.int .i64 x, .int .i64 y] w fun e w' => e = .returned (.int .i64 (overI x y)) ∧ Below w.heap.size w w' := by
  go_enter Try.func34, Try.ntmps34
  go_wp2_with fail
  refine (implInverse_any _ _).mono ?_
  rintro e w1 ⟨rfl, h1⟩
  go_wp2_with fail
  refine (implProduct_any _ _ _).mono ?_
  rintro e w2 ⟨rfl, h2⟩
  go_wp2_with fail
  go_ret
  exact ⟨ret_i64 (over_eq x y), below_here h1 h2⟩
end Go.Proofs.Ytigfhhififcllaa
