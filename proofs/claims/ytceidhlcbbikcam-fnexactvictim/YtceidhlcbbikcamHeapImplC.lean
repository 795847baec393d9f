/- container/heap at the program's ranking: up, down. -/
import Derived.Test.YtceidhlcbbikcamHeapImplB
namespace Go.Proofs.Ytceidhlcbbikcam
open Go.RowKit
set_option linter.unusedVariables false
set_option maxRecDepth 20000



set_option maxHeartbeats 1600000 in
theorem up_any (B p g n cap : Nat) (f : Nat → Rk) (j : Nat) (w : World) (h : Rkg B w p g n cap f) (hj : j < n) (hu : UpR n f j) (hn : n ≤ 1048576) :
    Calls Try.prog 79 #[.iface 86 (.pointer (some ⟨p, 0, none⟩)), .int .i64 (j : Int)] w fun e w' => e = .returned (.tuple #[]) ∧ ∃ f', Rkg B w' p g n cap f' ∧ HeapR n f' ∧ SameR n f f' ∧ Aside g (g + 1) w w' := by
  have HR := hide h
  have HU := hide hu
  clear h hu
  go_enter Try.func79, Try.ntmps79
  go_wp2_with fail
  go_loopw [1] (fun jv wr => ∃ (k : Nat) (f' : Nat → Rk), k < n ∧ jv = .int .i64 (k : Int) ∧ Rkg B wr p g n cap f' ∧ UpR n f' k ∧ SameR n f f' ∧ Aside g (g + 1) w wr) (fun jv _ => (intOf jv).toNat)
  case atStart => exact ⟨j, f, hj, rfl, HR.out, HU.out, SameR.refl _ _, Aside.refl _ _ _⟩
  case round =>
    obtain ⟨k, f', hk, rfl, hR, hU, hS, hA⟩ := hrel
    have HRR := hide hR
    have HUU := hide hU
    have HSS := hide hS
    have HAA := hide hA
    clear hR hU hS hA
    by_cases h0 : k = 0
    · subst h0
      simp only [show ((0 : Nat) : Int) = 0 from rfl]
      go_wp2_with fail
      go_end0
      exact ⟨rfl, f', HRR.out, HUU.out.stop (.inl rfl), HSS.out, HAA.out⟩
    · obtain ⟨m, rfl⟩ : ∃ m, k = m + 1 := ⟨k - 1, by omega⟩
      obtain ⟨i, hi⟩ : ∃ i, i = m / 2 := ⟨_, rfl⟩
      have hm2 : (m : Int) / 2 = (i : Int) := by omega
      have hile : i < m + 1 := by omega
      have g1 : ((i : Int) == ((m + 1 : Nat) : Int)) = false := by simp; omega
      have g2 : ¬ ((i : Int) = ((m + 1 : Nat) : Int)) := by omega
      have g3 : ¬ ((i : Int) = (m : Int) + 1) := by omega
      have g4 : ¬ (i = m + 1) := by omega
      have HI : Hid ((m + 1 - 1) / 2 = i) := by show _ = _; omega
      clear hi
      have hcell := rk_cell1 HRR.out.cell
      have q1 := Try.toLess p _ wr hcell
      go_wp2_with fail
      refine (rkLess_any B g n cap f' (m + 1) i wr HRR.out.row hk (by omega) hn).mono ?_
      rintro e w1 ⟨rfl, b1⟩
      have HR1 := hide (HRR.out.later b1)
      have HA1 := hide (HAA.out.thenBelow b1 HAA.out.size)
      clear b1 q1 hcell
      by_cases hless : lessR (f' (m + 1)) (f' i)
      · rw [decide_eq_true hless]
        have HST := hide (HUU.out.step (by omega) hk (by rw [HI.out]; exact hless))
        rw [HI.out] at HST
        clear hless
        have hcell := rk_cell1 HR1.out.cell
        have q2 := Try.toSwap p _ w1 hcell
        go_wp2_with fail
        refine (rkSwap_any B g n cap f' i (m + 1) w1 HR1.out.row (by omega) hk hn).mono ?_
        rintro e w2 ⟨rfl, r2, a2⟩
        have HA2 := hide (HA1.out.trans a2)
        have HR2 : Hid (Rkg B w2 p g n cap (swp f' i (m + 1))) := ⟨r2, (a2.block p HR1.out.ltP (by have := HR1.out.apart; omega)).trans HR1.out.cell, HR1.out.atP⟩
        clear r2 a2 q2 hcell
        go_wp2_with fail
        go_roundw
        case rel => exact ⟨i, swp f' i (m + 1), by omega, rfl, HR2.out, HST.out, HSS.out.trans (SameR.swp f' (by omega) hk), HA2.out⟩
        case measure => simp [intOf]; omega
      · rw [decide_eq_false hless]
        have HST := hide (HUU.out.stop (.inr (by rw [HI.out]; exact hless)))
        clear hless
        go_wp2_with fail
        go_end0
        exact ⟨rfl, f', HR1.out, HST.out, HSS.out, HA1.out⟩

set_option maxHeartbeats 3200000 in
theorem down_any (B p g N cap : Nat) (f : Nat → Rk) (n : Nat) (w : World) (h : Rkg B w p g N cap f) (hnN : n ≤ N) (hd : DownR n f 0) (hN : N ≤ 1048576) :
    Calls Try.prog 88 #[.iface 86 (.pointer (some ⟨p, 0, none⟩)), .int .i64 0, .int .i64 (n : Int)] w fun e w' => ∃ v, e = .returned v ∧ ∃ f', Rkg B w' p g N cap f' ∧ HeapR n f' ∧ SameR n f f' ∧ (∀ x, n ≤ x → f' x = f x) ∧ Aside g (g + 1) w w' := by
  have HR := hide h
  have HD := hide hd
  clear h hd
  go_enter Try.func88, Try.ntmps88
  go_wp2_with fail
  go_loopw [7] (fun iv wr => ∃ (k : Nat) (f' : Nat → Rk), k ≤ n ∧ iv = .int .i64 (k : Int) ∧ Rkg B wr p g N cap f' ∧ DownR n f' k ∧ SameR n f f' ∧ (∀ x, n ≤ x → f' x = f x) ∧ Aside g (g + 1) w wr) (fun iv _ => n - (intOf iv).toNat)
  case atStart => exact ⟨0, f, Nat.zero_le _, rfl, HR.out, HD.out, SameR.refl _ _, fun _ _ => rfl, Aside.refl _ _ _⟩
  case round =>
    obtain ⟨k, f', hk, rfl, hR, hU, hS, hK, hA⟩ := hrel
    have HRR := hide hR
    have HDD := hide hU
    have HSS := hide hS
    have HKK := hide hK
    have HAA := hide hA
    clear hR hU hS hK hA HR HD
    obtain ⟨a, ha⟩ : ∃ a, a = 2 * k + 1 := ⟨_, rfl⟩
    obtain ⟨b, hb⟩ : ∃ b, b = a + 1 := ⟨_, rfl⟩
    have e1 : 2 * (k : Int) + 1 = (a : Int) := by omega
    have e2 : (a : Int) + 1 = (b : Int) := by omega
    have l1 : ¬ (a : Int) < 0 := by omega
    have HEQ : Hid (a = 2 * k + 1 ∧ b = 2 * k + 2) := ⟨ha, by omega⟩
    have hka : k < a := by omega
    have hkb : k < b := by omega
    clear ha hb
    by_cases h1 : a < n
    · have g1 : decide ((a : Int) ≥ (n : Int)) = false := by simp; omega
      have hkn : k < N := by omega
      have haN : a < N := by omega
      by_cases h2 : b < n
      · have g2 : decide ((b : Int) < (n : Int)) = true := by simp; omega
        have hbN : b < N := by omega
        have hcell := rk_cell1 HRR.out.cell
        have q1 := Try.toLess p _ wr hcell
        go_wp2_with fail
        refine (rkLess_any B g N cap f' b a wr HRR.out.row hbN haN hN).mono ?_
        rintro e w1 ⟨rfl, b1⟩
        have HR1 := hide (HRR.out.later b1)
        have HA1 := hide (HAA.out.thenBelow b1 HAA.out.size)
        clear b1 q1 hcell
        by_cases hba : lessR (f' b) (f' a)
        · rw [decide_eq_true hba]
          have HMIN : Hid (∀ x, (x = 2 * k + 1 ∨ x = 2 * k + 2) → x < n → ¬ lessR (f' x) (f' b)) := fun x hx _ => by
            rcases hx with e | e
            · rw [e, ← HEQ.out.1]; exact leR_of_less hba
            · rw [e, ← HEQ.out.2]; exact fun hh => lessR_asymm hh hh
          have HEND : Hid (¬ lessR (f' b) (f' k) → (2 * k + 1 < n → ¬ lessR (f' (2 * k + 1)) (f' k)) ∧ (2 * k + 2 < n → ¬ lessR (f' (2 * k + 2)) (f' k))) := fun hh => by
            rw [← HEQ.out.1, ← HEQ.out.2]
            exact ⟨fun _ => leR_trans hh (leR_of_less hba), fun _ => hh⟩
          clear hba
          have hcell := rk_cell1 HR1.out.cell
          have q1 := Try.toLess p _ w1 hcell
          go_wp2_with fail
          refine (rkLess_any B g N cap f' b k w1 HR1.out.row (by omega) (by omega) hN).mono ?_
          rintro e w2 ⟨rfl, b2⟩
          have HR2 := hide (HR1.out.later b2)
          have HA2 := hide (HA1.out.thenBelow b2 HA1.out.size)
          clear b2 q1 hcell
          by_cases hless : lessR (f' b) (f' k)
          · rw [decide_eq_true hless]
            have HST := hide (HDD.out.step (j := b) (.inr HEQ.out.2) (by omega) hless HMIN.out)
            clear hless
            have hcell := rk_cell1 HR2.out.cell
            have q2 := Try.toSwap p _ w2 hcell
            go_wp2_with fail
            refine (rkSwap_any B g N cap f' k b w2 HR2.out.row (by omega) (by omega) hN).mono ?_
            rintro e w3 ⟨rfl, r3, a3⟩
            have HA3 := hide (HA2.out.trans a3)
            have HR3 : Hid (Rkg B w3 p g N cap (swp f' k b)) := ⟨r3, (a3.block p HR2.out.ltP (by have := HR2.out.apart; omega)).trans HR2.out.cell, HR2.out.atP⟩
            clear r3 a3 q2 hcell
            go_wp2_with fail
            go_roundw
            case rel => exact ⟨b, swp f' k b, by omega, rfl, HR3.out, HST.out, HSS.out.trans (SameR.swp f' (by omega) (by omega)), (fun x hx => by rw [swp_o f' k b (by omega) (by omega)]; exact HKK.out x hx), HA3.out⟩
            case measure => simp [intOf]; omega
          · rw [decide_eq_false hless]
            have HST := hide (HDD.out.stop (HEND.out hless).1 (HEND.out hless).2)
            clear hless
            go_wp2_with fail
            go_ret
            exact ⟨_, rfl, f', HR2.out, HST.out, HSS.out, HKK.out, HA2.out⟩
        · rw [decide_eq_false hba]
          have HMIN : Hid (∀ x, (x = 2 * k + 1 ∨ x = 2 * k + 2) → x < n → ¬ lessR (f' x) (f' a)) := fun x hx _ => by
            rcases hx with e | e
            · rw [e, ← HEQ.out.1]; exact fun hh => lessR_asymm hh hh
            · rw [e, ← HEQ.out.2]; exact hba
          have HEND : Hid (¬ lessR (f' a) (f' k) → (2 * k + 1 < n → ¬ lessR (f' (2 * k + 1)) (f' k)) ∧ (2 * k + 2 < n → ¬ lessR (f' (2 * k + 2)) (f' k))) := fun hh => by
            rw [← HEQ.out.1, ← HEQ.out.2]
            exact ⟨fun _ => hh, fun _ => leR_trans hh hba⟩
          clear hba
          have hcell := rk_cell1 HR1.out.cell
          have q1 := Try.toLess p _ w1 hcell
          go_wp2_with fail
          refine (rkLess_any B g N cap f' a k w1 HR1.out.row (by omega) (by omega) hN).mono ?_
          rintro e w2 ⟨rfl, b2⟩
          have HR2 := hide (HR1.out.later b2)
          have HA2 := hide (HA1.out.thenBelow b2 HA1.out.size)
          clear b2 q1 hcell
          by_cases hless : lessR (f' a) (f' k)
          · rw [decide_eq_true hless]
            have HST := hide (HDD.out.step (j := a) (.inl HEQ.out.1) (by omega) hless HMIN.out)
            clear hless
            have hcell := rk_cell1 HR2.out.cell
            have q2 := Try.toSwap p _ w2 hcell
            go_wp2_with fail
            refine (rkSwap_any B g N cap f' k a w2 HR2.out.row (by omega) (by omega) hN).mono ?_
            rintro e w3 ⟨rfl, r3, a3⟩
            have HA3 := hide (HA2.out.trans a3)
            have HR3 : Hid (Rkg B w3 p g N cap (swp f' k a)) := ⟨r3, (a3.block p HR2.out.ltP (by have := HR2.out.apart; omega)).trans HR2.out.cell, HR2.out.atP⟩
            clear r3 a3 q2 hcell
            go_wp2_with fail
            go_roundw
            case rel => exact ⟨a, swp f' k a, by omega, rfl, HR3.out, HST.out, HSS.out.trans (SameR.swp f' (by omega) (by omega)), (fun x hx => by rw [swp_o f' k a (by omega) (by omega)]; exact HKK.out x hx), HA3.out⟩
            case measure => simp [intOf]; omega
          · rw [decide_eq_false hless]
            have HST := hide (HDD.out.stop (HEND.out hless).1 (HEND.out hless).2)
            clear hless
            go_wp2_with fail
            go_ret
            exact ⟨_, rfl, f', HR2.out, HST.out, HSS.out, HKK.out, HA2.out⟩
      · have g2 : decide ((b : Int) < (n : Int)) = false := by simp; omega
        have HMIN : Hid (∀ x, (x = 2 * k + 1 ∨ x = 2 * k + 2) → x < n → ¬ lessR (f' x) (f' a)) := fun x hx hxn => by
          rcases hx with e | e
          · rw [e, ← HEQ.out.1]; exact fun hh => lessR_asymm hh hh
          · have := HEQ.out.2; omega
        have HEND : Hid (¬ lessR (f' a) (f' k) → (2 * k + 1 < n → ¬ lessR (f' (2 * k + 1)) (f' k)) ∧ (2 * k + 2 < n → ¬ lessR (f' (2 * k + 2)) (f' k))) := fun hh => by
          rw [← HEQ.out.1, ← HEQ.out.2]
          exact ⟨fun _ => hh, fun hh => absurd hh (by omega)⟩
        have hcell := rk_cell1 HRR.out.cell
        have q1 := Try.toLess p _ wr hcell
        go_wp2_with fail
        refine (rkLess_any B g N cap f' a k wr HRR.out.row (by omega) (by omega) hN).mono ?_
        rintro e w2 ⟨rfl, b2⟩
        have HR2 := hide (HRR.out.later b2)
        have HA2 := hide (HAA.out.thenBelow b2 HAA.out.size)
        clear b2 q1 hcell
        by_cases hless : lessR (f' a) (f' k)
        · rw [decide_eq_true hless]
          have HST := hide (HDD.out.step (j := a) (.inl HEQ.out.1) (by omega) hless HMIN.out)
          clear hless
          have hcell := rk_cell1 HR2.out.cell
          have q2 := Try.toSwap p _ w2 hcell
          go_wp2_with fail
          refine (rkSwap_any B g N cap f' k a w2 HR2.out.row (by omega) (by omega) hN).mono ?_
          rintro e w3 ⟨rfl, r3, a3⟩
          have HA3 := hide (HA2.out.trans a3)
          have HR3 : Hid (Rkg B w3 p g N cap (swp f' k a)) := ⟨r3, (a3.block p HR2.out.ltP (by have := HR2.out.apart; omega)).trans HR2.out.cell, HR2.out.atP⟩
          clear r3 a3 q2 hcell
          go_wp2_with fail
          go_roundw
          case rel => exact ⟨a, swp f' k a, by omega, rfl, HR3.out, HST.out, HSS.out.trans (SameR.swp f' (by omega) (by omega)), (fun x hx => by rw [swp_o f' k a (by omega) (by omega)]; exact HKK.out x hx), HA3.out⟩
          case measure => simp [intOf]; omega
        · rw [decide_eq_false hless]
          have HST := hide (HDD.out.stop (HEND.out hless).1 (HEND.out hless).2)
          clear hless
          go_wp2_with fail
          go_ret
          exact ⟨_, rfl, f', HR2.out, HST.out, HSS.out, HKK.out, HA2.out⟩
    · have g1 : decide ((a : Int) ≥ (n : Int)) = true := by simp; omega
      have HST := hide (HDD.out.stop (fun hh => absurd hh (by rw [← HEQ.out.1]; exact h1)) (fun hh => absurd hh (by have := HEQ.out.1; omega)))
      go_wp2_with fail
      go_ret
      all_goals first | exact ⟨_, rfl, f', HRR.out, HST.out, HSS.out, HKK.out, HAA.out⟩ | exact ⟨⟨_, rfl⟩, f', HRR.out, HST.out, HSS.out, HKK.out, HAA.out⟩
end Go.Proofs.Ytceidhlcbbikcam
