/- Several texts in one: HeapImplC, HeapImplD, WearSpecE, WearSpecF, WearImplD, PlaceApp. -/
import Derived.Test.YtkpfdgceelmijaaGreatDoorQChipGrow
import Derived.RegionTactic
import Derived.Deep.DeepCutAuto
import Derived.Test.YtkpfdgceelmijaaGreatDoorQChipOwn2
section
namespace Go.Proofs.YtkpfdgceelmijaaGreatDoor
open Go.RowKit
set_option linter.unusedVariables false
set_option maxRecDepth 20000



set_option maxHeartbeats 1600000 in
theorem up_any (B p g n cap : Nat) (f : Nat → Rk) (j : Nat) (w : World) (h : Rkg B w p g n cap f) (hj : j < n) (hu : UpR n f j) (hn : n ≤ 1048576) :
    Calls Tryz.prog 87 #[.iface 149 (.pointer (some ⟨p, 0, none⟩)), .int .i64 (j : Int)] w fun e w' => e = .returned (.tuple #[]) ∧ ∃ f', Rkg B w' p g n cap f' ∧ HeapR n f' ∧ SameR n f f' ∧ Aside g (g + 1) w w' := by
  have HR := hide h
  have HU := hide hu
  clear h hu
  go_enter Tryz.func87, Tryz.ntmps87
  go_wp2_with fail
  go_loopw [1] (fun jv wr => ∃ (k : Nat) (f' : Nat → Rk), k < n ∧ jv = .int .i64 (k : Int) ∧ Rkg B wr p g n cap f' ∧ UpR n f' k ∧ SameR n f f' ∧ Aside g (g + 1) w wr) (fun jv _ => (intOf jv).toNat)
  case atStart => exact ⟨j, f, hj, rfl, HR.out, HU.out, SameR.refl _ _, Aside.refl _ _ _⟩
  case round =>
    obtain ⟨k, f', hk, rfl, hR, hU, hS, hA⟩ := hrel
    have HRR := hide hR
    have HUU := hide hU
    have HSS := hide hS
    have HAA := hide hA
    clear hR hU hS hA
    by_cases h0 : k = 0
    · subst h0
      simp only [show ((0 : Nat) : Int) = 0 from rfl]
      go_wp2_with fail
      go_end0
      exact ⟨rfl, f', HRR.out, HUU.out.stop (.inl rfl), HSS.out, HAA.out⟩
    · obtain ⟨m, rfl⟩ : ∃ m, k = m + 1 := ⟨k - 1, by omega⟩
      obtain ⟨i, hi⟩ : ∃ i, i = m / 2 := ⟨_, rfl⟩
      have hm2 : (m : Int) / 2 = (i : Int) := by omega
      have hile : i < m + 1 := by omega
      have g1 : ((i : Int) == ((m + 1 : Nat) : Int)) = false := by simp; omega
      have g2 : ¬ ((i : Int) = ((m + 1 : Nat) : Int)) := by omega
      have g3 : ¬ ((i : Int) = (m : Int) + 1) := by omega
      have g4 : ¬ (i = m + 1) := by omega
      have HI : Hid ((m + 1 - 1) / 2 = i) := by show _ = _; omega
      clear hi
      have hcell := rk_cell1 HRR.out.cell
      have q1 := Tryz.toLess p _ wr hcell
      go_wp2_with fail
      refine (rkLess_any B g n cap f' (m + 1) i wr HRR.out.row hk (by omega) hn).mono ?_
      rintro e w1 ⟨rfl, b1⟩
      have HR1 := hide (HRR.out.later b1)
      have HA1 := hide (HAA.out.thenBelow b1 HAA.out.size)
      clear b1 q1 hcell
      by_cases hless : lessR (f' (m + 1)) (f' i)
      · rw [decide_eq_true hless]
        have HST := hide (HUU.out.step (by omega) hk (by rw [HI.out]; exact hless))
        rw [HI.out] at HST
        clear hless
        have hcell := rk_cell1 HR1.out.cell
        have q2 := Tryz.toSwap p _ w1 hcell
        go_wp2_with fail
        refine (rkSwap_any B g n cap f' i (m + 1) w1 HR1.out.row (by omega) hk hn).mono ?_
        rintro e w2 ⟨rfl, r2, a2⟩
        have HA2 := hide (HA1.out.trans a2)
        have HR2 : Hid (Rkg B w2 p g n cap (swp f' i (m + 1))) := ⟨r2, (a2.block p HR1.out.ltP (by have := HR1.out.apart; omega)).trans HR1.out.cell, HR1.out.atP⟩
        clear r2 a2 q2 hcell
        go_wp2_with fail
        go_roundw
        case rel => exact ⟨i, swp f' i (m + 1), by omega, rfl, HR2.out, HST.out, HSS.out.trans (SameR.swp f' (by omega) hk), HA2.out⟩
        case measure => simp [intOf]; omega
      · rw [decide_eq_false hless]
        have HST := hide (HUU.out.stop (.inr (by rw [HI.out]; exact hless)))
        clear hless
        go_wp2_with fail
        go_end0
        exact ⟨rfl, f', HR1.out, HST.out, HSS.out, HA1.out⟩

set_option maxHeartbeats 3200000 in
theorem down_any (B p g N cap : Nat) (f : Nat → Rk) (n : Nat) (w : World) (h : Rkg B w p g N cap f) (hnN : n ≤ N) (hd : DownR n f 0) (hN : N ≤ 1048576) :
    Calls Tryz.prog 98 #[.iface 149 (.pointer (some ⟨p, 0, none⟩)), .int .i64 0, .int .i64 (n : Int)] w fun e w' => ∃ v, e = .returned v ∧ ∃ f', Rkg B w' p g N cap f' ∧ HeapR n f' ∧ SameR n f f' ∧ (∀ x, n ≤ x → f' x = f x) ∧ Aside g (g + 1) w w' := by
  have HR := hide h
  have HD := hide hd
  clear h hd
  go_enter Tryz.func98, Tryz.ntmps98
  go_wp2_with fail
  go_loopw [7] (fun iv wr => ∃ (k : Nat) (f' : Nat → Rk), k ≤ n ∧ iv = .int .i64 (k : Int) ∧ Rkg B wr p g N cap f' ∧ DownR n f' k ∧ SameR n f f' ∧ (∀ x, n ≤ x → f' x = f x) ∧ Aside g (g + 1) w wr) (fun iv _ => n - (intOf iv).toNat)
  case atStart => exact ⟨0, f, Nat.zero_le _, rfl, HR.out, HD.out, SameR.refl _ _, fun _ _ => rfl, Aside.refl _ _ _⟩
  case round =>
    obtain ⟨k, f', hk, rfl, hR, hU, hS, hK, hA⟩ := hrel
    have HRR := hide hR
    have HDD := hide hU
    have HSS := hide hS
    have HKK := hide hK
    have HAA := hide hA
    clear hR hU hS hK hA HR HD
    obtain ⟨a, ha⟩ : ∃ a, a = 2 * k + 1 := ⟨_, rfl⟩
    obtain ⟨b, hb⟩ : ∃ b, b = a + 1 := ⟨_, rfl⟩
    have e1 : 2 * (k : Int) + 1 = (a : Int) := by omega
    have e2 : (a : Int) + 1 = (b : Int) := by omega
    have l1 : ¬ (a : Int) < 0 := by omega
    have HEQ : Hid (a = 2 * k + 1 ∧ b = 2 * k + 2) := ⟨ha, by omega⟩
    have hka : k < a := by omega
    have hkb : k < b := by omega
    clear ha hb
    by_cases h1 : a < n
    · have g1 : decide ((a : Int) ≥ (n : Int)) = false := by simp; omega
      have hkn : k < N := by omega
      have haN : a < N := by omega
      by_cases h2 : b < n
      · have g2 : decide ((b : Int) < (n : Int)) = true := by simp; omega
        have hbN : b < N := by omega
        have hcell := rk_cell1 HRR.out.cell
        have q1 := Tryz.toLess p _ wr hcell
        go_wp2_with fail
        refine (rkLess_any B g N cap f' b a wr HRR.out.row hbN haN hN).mono ?_
        rintro e w1 ⟨rfl, b1⟩
        have HR1 := hide (HRR.out.later b1)
        have HA1 := hide (HAA.out.thenBelow b1 HAA.out.size)
        clear b1 q1 hcell
        by_cases hba : lessR (f' b) (f' a)
        · rw [decide_eq_true hba]
          have HMIN : Hid (∀ x, (x = 2 * k + 1 ∨ x = 2 * k + 2) → x < n → ¬ lessR (f' x) (f' b)) := fun x hx _ => by
            rcases hx with e | e
            · rw [e, ← HEQ.out.1]; exact leR_of_less hba
            · rw [e, ← HEQ.out.2]; exact fun hh => lessR_asymm hh hh
          have HEND : Hid (¬ lessR (f' b) (f' k) → (2 * k + 1 < n → ¬ lessR (f' (2 * k + 1)) (f' k)) ∧ (2 * k + 2 < n → ¬ lessR (f' (2 * k + 2)) (f' k))) := fun hh => by
            rw [← HEQ.out.1, ← HEQ.out.2]
            exact ⟨fun _ => leR_trans hh (leR_of_less hba), fun _ => hh⟩
          clear hba
          have hcell := rk_cell1 HR1.out.cell
          have q1 := Tryz.toLess p _ w1 hcell
          go_wp2_with fail
          refine (rkLess_any B g N cap f' b k w1 HR1.out.row (by omega) (by omega) hN).mono ?_
          rintro e w2 ⟨rfl, b2⟩
          have HR2 := hide (HR1.out.later b2)
          have HA2 := hide (HA1.out.thenBelow b2 HA1.out.size)
          clear b2 q1 hcell
          by_cases hless : lessR (f' b) (f' k)
          · rw [decide_eq_true hless]
            have HST := hide (HDD.out.step (j := b) (.inr HEQ.out.2) (by omega) hless HMIN.out)
            clear hless
            have hcell := rk_cell1 HR2.out.cell
            have q2 := Tryz.toSwap p _ w2 hcell
            go_wp2_with fail
            refine (rkSwap_any B g N cap f' k b w2 HR2.out.row (by omega) (by omega) hN).mono ?_
            rintro e w3 ⟨rfl, r3, a3⟩
            have HA3 := hide (HA2.out.trans a3)
            have HR3 : Hid (Rkg B w3 p g N cap (swp f' k b)) := ⟨r3, (a3.block p HR2.out.ltP (by have := HR2.out.apart; omega)).trans HR2.out.cell, HR2.out.atP⟩
            clear r3 a3 q2 hcell
            go_wp2_with fail
            go_roundw
            case rel => exact ⟨b, swp f' k b, by omega, rfl, HR3.out, HST.out, HSS.out.trans (SameR.swp f' (by omega) (by omega)), (fun x hx => by rw [swp_o f' k b (by omega) (by omega)]; exact HKK.out x hx), HA3.out⟩
            case measure => simp [intOf]; omega
          · rw [decide_eq_false hless]
            have HST := hide (HDD.out.stop (HEND.out hless).1 (HEND.out hless).2)
            clear hless
            go_wp2_with fail
            go_ret
            exact ⟨_, rfl, f', HR2.out, HST.out, HSS.out, HKK.out, HA2.out⟩
        · rw [decide_eq_false hba]
          have HMIN : Hid (∀ x, (x = 2 * k + 1 ∨ x = 2 * k + 2) → x < n → ¬ lessR (f' x) (f' a)) := fun x hx _ => by
            rcases hx with e | e
            · rw [e, ← HEQ.out.1]; exact fun hh => lessR_asymm hh hh
            · rw [e, ← HEQ.out.2]; exact hba
          have HEND : Hid (¬ lessR (f' a) (f' k) → (2 * k + 1 < n → ¬ lessR (f' (2 * k + 1)) (f' k)) ∧ (2 * k + 2 < n → ¬ lessR (f' (2 * k + 2)) (f' k))) := fun hh => by
            rw [← HEQ.out.1, ← HEQ.out.2]
            exact ⟨fun _ => hh, fun _ => leR_trans hh hba⟩
          clear hba
          have hcell := rk_cell1 HR1.out.cell
          have q1 := Tryz.toLess p _ w1 hcell
          go_wp2_with fail
          refine (rkLess_any B g N cap f' a k w1 HR1.out.row (by omega) (by omega) hN).mono ?_
          rintro e w2 ⟨rfl, b2⟩
          have HR2 := hide (HR1.out.later b2)
          have HA2 := hide (HA1.out.thenBelow b2 HA1.out.size)
          clear b2 q1 hcell
          by_cases hless : lessR (f' a) (f' k)
          · rw [decide_eq_true hless]
            have HST := hide (HDD.out.step (j := a) (.inl HEQ.out.1) (by omega) hless HMIN.out)
            clear hless
            have hcell := rk_cell1 HR2.out.cell
            have q2 := Tryz.toSwap p _ w2 hcell
            go_wp2_with fail
            refine (rkSwap_any B g N cap f' k a w2 HR2.out.row (by omega) (by omega) hN).mono ?_
            rintro e w3 ⟨rfl, r3, a3⟩
            have HA3 := hide (HA2.out.trans a3)
            have HR3 : Hid (Rkg B w3 p g N cap (swp f' k a)) := ⟨r3, (a3.block p HR2.out.ltP (by have := HR2.out.apart; omega)).trans HR2.out.cell, HR2.out.atP⟩
            clear r3 a3 q2 hcell
            go_wp2_with fail
            go_roundw
            case rel => exact ⟨a, swp f' k a, by omega, rfl, HR3.out, HST.out, HSS.out.trans (SameR.swp f' (by omega) (by omega)), (fun x hx => by rw [swp_o f' k a (by omega) (by omega)]; exact HKK.out x hx), HA3.out⟩
            case measure => simp [intOf]; omega
          · rw [decide_eq_false hless]
            have HST := hide (HDD.out.stop (HEND.out hless).1 (HEND.out hless).2)
            clear hless
            go_wp2_with fail
            go_ret
            exact ⟨_, rfl, f', HR2.out, HST.out, HSS.out, HKK.out, HA2.out⟩
      · have g2 : decide ((b : Int) < (n : Int)) = false := by simp; omega
        have HMIN : Hid (∀ x, (x = 2 * k + 1 ∨ x = 2 * k + 2) → x < n → ¬ lessR (f' x) (f' a)) := fun x hx hxn => by
          rcases hx with e | e
          · rw [e, ← HEQ.out.1]; exact fun hh => lessR_asymm hh hh
          · have := HEQ.out.2; omega
        have HEND : Hid (¬ lessR (f' a) (f' k) → (2 * k + 1 < n → ¬ lessR (f' (2 * k + 1)) (f' k)) ∧ (2 * k + 2 < n → ¬ lessR (f' (2 * k + 2)) (f' k))) := fun hh => by
          rw [← HEQ.out.1, ← HEQ.out.2]
          exact ⟨fun _ => hh, fun hh => absurd hh (by omega)⟩
        have hcell := rk_cell1 HRR.out.cell
        have q1 := Tryz.toLess p _ wr hcell
        go_wp2_with fail
        refine (rkLess_any B g N cap f' a k wr HRR.out.row (by omega) (by omega) hN).mono ?_
        rintro e w2 ⟨rfl, b2⟩
        have HR2 := hide (HRR.out.later b2)
        have HA2 := hide (HAA.out.thenBelow b2 HAA.out.size)
        clear b2 q1 hcell
        by_cases hless : lessR (f' a) (f' k)
        · rw [decide_eq_true hless]
          have HST := hide (HDD.out.step (j := a) (.inl HEQ.out.1) (by omega) hless HMIN.out)
          clear hless
          have hcell := rk_cell1 HR2.out.cell
          have q2 := Tryz.toSwap p _ w2 hcell
          go_wp2_with fail
          refine (rkSwap_any B g N cap f' k a w2 HR2.out.row (by omega) (by omega) hN).mono ?_
          rintro e w3 ⟨rfl, r3, a3⟩
          have HA3 := hide (HA2.out.trans a3)
          have HR3 : Hid (Rkg B w3 p g N cap (swp f' k a)) := ⟨r3, (a3.block p HR2.out.ltP (by have := HR2.out.apart; omega)).trans HR2.out.cell, HR2.out.atP⟩
          clear r3 a3 q2 hcell
          go_wp2_with fail
          go_roundw
          case rel => exact ⟨a, swp f' k a, by omega, rfl, HR3.out, HST.out, HSS.out.trans (SameR.swp f' (by omega) (by omega)), (fun x hx => by rw [swp_o f' k a (by omega) (by omega)]; exact HKK.out x hx), HA3.out⟩
          case measure => simp [intOf]; omega
        · rw [decide_eq_false hless]
          have HST := hide (HDD.out.stop (HEND.out hless).1 (HEND.out hless).2)
          clear hless
          go_wp2_with fail
          go_ret
          exact ⟨_, rfl, f', HR2.out, HST.out, HSS.out, HKK.out, HA2.out⟩
    · have g1 : decide ((a : Int) ≥ (n : Int)) = true := by simp; omega
      have HST := hide (HDD.out.stop (fun hh => absurd hh (by rw [← HEQ.out.1]; exact h1)) (fun hh => absurd hh (by have := HEQ.out.1; omega)))
      go_wp2_with fail
      go_ret
      all_goals first | exact ⟨_, rfl, f', HRR.out, HST.out, HSS.out, HKK.out, HAA.out⟩ | exact ⟨⟨_, rfl⟩, f', HRR.out, HST.out, HSS.out, HKK.out, HAA.out⟩
end Go.Proofs.YtkpfdgceelmijaaGreatDoor
end

section
namespace Go.Proofs.YtkpfdgceelmijaaGreatDoor
open Go.RowKit
set_option linter.unusedVariables false
set_option maxRecDepth 20000

theorem HeapR.upd {n : Nat} {f : Nat → Rk} (h : HeapR n f) (x : Rk) : HeapR n (upd f n x) := by
  intro k h1 h2
  rw [upd_other _ _ (show k ≠ n by omega), upd_other _ _ (show (k - 1) / 2 ≠ n by omega)]
  exact h k h1 h2

set_option maxHeartbeats 1600000 in
theorem heapPush_any (B p g n cap : Nat) (f : Nat → Rk) (x : Rk) (w : World) (h : Rkg B w p g n cap f) (hh : HeapR n f) (hn : n < 1048576) (hB : B ≤ w.heap.size) :
    Calls Tryz.prog 77 #[.iface 149 (.pointer (some ⟨p, 0, none⟩)), .iface 154 (rkV x)] w fun e w' => e = .returned (.tuple #[]) ∧ ∃ g' cap' f', Rkg B w' p g' (n + 1) cap' f' ∧ HeapR (n + 1) f' ∧ SameR (n + 1) (upd f n x) f' ∧ Below B w w' := by
  have HR := hide h
  have HH := hide hh
  have q0 := Tryz.toPush p
  clear h hh
  go_enter Tryz.func77, Tryz.ntmps77
  go_wp2_with fail
  refine (rkPush_any B p g n cap f x w HR.out hn hB).mono ?_
  rintro e w1 ⟨rfl, g', cap', r1, b1⟩
  have HR1 := hide r1
  have HB1 := hide b1
  have hs1 := b1.size
  have hcell := rk_cell1 r1.cell
  have q1 := Tryz.toLen p _ w1 hcell
  clear r1 b1 q0
  go_wp2_with fail
  refine (rkLen_any _ (n + 1) cap' w1 (by omega)).mono ?_
  rintro e w2 ⟨rfl, rfl⟩
  clear q1 hcell
  go_wp2_with fail
  refine (up_any B p g' (n + 1) cap' (upd f n x) n w1 HR1.out (by omega) (UpR.start (HH.out.upd x)) (by omega)).mono ?_
  rintro e w2 ⟨rfl, f', r2, h2, s2, a2⟩
  have HR2 := hide r2
  have HH2 := hide h2
  have HS2 := hide s2
  have HB2 := hide (HB1.out.trans (a2.below (rk_lt HR1.out.row).1 (by omega)))
  clear r2 h2 s2 a2
  go_wp2_with fail
  go_end0
  exact ⟨rfl, g', cap', f', HR2.out, HH2.out, HS2.out, HB2.out⟩

set_option maxHeartbeats 1600000 in
theorem heapPop_any (B p g n cap : Nat) (f : Nat → Rk) (H : Nat) (w : World) (h : Rkg B w p g (n + 1) cap f) (hh : HeapR (n + 1) f) (hn : n < 1048576) (hpH : p < H) (hgH : g < H) :
    Calls Tryz.prog 88 #[.iface 149 (.pointer (some ⟨p, 0, none⟩))] w fun e w' => e = .returned (.iface 154 (rkV (f 0))) ∧ ∃ f', Rkg B w' p g n cap f' ∧ HeapR n f' ∧ SameR n (swp f 0 n) f' ∧ Aside B H w w' := by
  have HR := hide h
  have HH := hide hh
  have hcell := rk_cell1 h.cell
  have q1 := Tryz.toLen p _ w hcell
  have q2 := Tryz.toSwap p _ w hcell
  clear h hh
  go_enter Tryz.func88, Tryz.ntmps88
  go_wp2_with fail
  refine (rkLen_any _ (n + 1) cap w (by omega)).mono ?_
  rintro e w1 ⟨rfl, rfl⟩
  go_wp2_with fail
  refine (rkSwap_any B g (n + 1) cap f 0 n w HR.out.row (by omega) (by omega) (by omega)).mono ?_
  rintro e w1 ⟨rfl, r1, a1⟩
  have HR1 : Hid (Rkg B w1 p g (n + 1) cap (swp f 0 n)) := ⟨r1, (a1.block p HR.out.ltP (by have := HR.out.apart; omega)).trans HR.out.cell, HR.out.atP⟩
  have hgB := (rk_lt HR.out.row).1
  have hpB := HR.out.atP
  have HA1 := hide (a1.widen (lo' := B) (hi' := H) hgB (by omega))
  have HD1 : Hid (DownR n (swp f 0 n) 0) := DownR.start HH.out (fun k h1 h2 => swp_o f 0 n (by omega) (by omega))
  clear r1 a1 q1 q2 hcell
  go_wp2_with fail
  refine (down_any B p g (n + 1) cap (swp f 0 n) n w1 HR1.out (by omega) HD1.out (by omega)).mono ?_
  rintro e w2 ⟨v, rfl, f', r2, h2, s2, k2, a2⟩
  have HR2 := hide r2
  have HH2 := hide h2
  have HS2 := hide s2
  have HE : Hid (f' n = f 0) := by show _ = _; rw [k2 n (Nat.le_refl _), swp_r]
  have HA2 := hide (HA1.out.trans (a2.widen (lo' := B) (hi' := H) hgB (by omega)))
  have q0 := Tryz.toPop p
  clear r2 h2 s2 k2 a2
  go_wp2_with fail
  refine (rkPop_any B p g n cap f' w2 HR2.out hn).mono ?_
  rintro e w3 ⟨rfl, r3, a3⟩
  have HR3 := hide r3
  have HA3 := hide (HA2.out.trans (a3.widen (lo' := B) (hi' := H) hpB (by omega)))
  rw [HE.out]
  clear r3 a3
  go_wp2_with fail
  go_ret
  exact ⟨rfl, f', HR3.out, HH2.out, HS2.out, HA3.out⟩

set_option maxHeartbeats 1600000 in
theorem takeNext_any (B p g n cap : Nat) (f : Nat → Rk) (H : Nat) (w : World) (h : Rkg B w p g (n + 1) cap f) (hh : HeapR (n + 1) f) (hn : n < 1048576) (hpH : p < H) (hgH : g < H) :
    Calls Tryz.prog 79 #[.pointer (some ⟨p, 0, none⟩)] w fun e w' => e = .returned (rkV (f 0)) ∧ ∃ f', Rkg B w' p g n cap f' ∧ HeapR n f' ∧ SameR n (swp f 0 n) f' ∧ Aside B H w w' := by
  obtain ⟨wA, hwA⟩ : ∃ wA, wA = w.alloc (.cells #[.int .i64 0, .int .i64 0, .int .i64 0] 154) := ⟨_, rfl⟩
  have hzA : wA.heap.size = w.heap.size + 1 := by rw [hwA]; simp
  have HBA : Hid (Below w.heap.size w wA) := by rw [hwA]; exact (Below.refl _ _).alloc (Nat.le_refl _) _
  have H1 : Hid (wA.heap[w.heap.size]? = some (.cells #[.int .i64 0, .int .i64 0, .int .i64 0] 154)) := by rw [hwA]; exact heap_new _ _
  have HRA := hide (h.later HBA.out)
  have HH := hide hh
  have hsp := h.ltP
  have hsg := (rk_lt h.row).2
  clear h hh
  go_enter Tryz.func79, Tryz.ntmps79
  go_wp2_with fail
  rw [← hwA]
  clear hwA
  refine (heapPop_any B p g n cap f (min H w.heap.size) wA HRA.out HH.out hn (by omega) (by omega)).mono ?_
  rintro e w1 ⟨rfl, f', r1, h1, s1, a1⟩
  have HR1 := hide r1
  have HH1 := hide h1
  have HS1 := hide s1
  have HA1 := hide (((Aside.ofBelow HBA.out : Aside B (min H w.heap.size) w wA).trans a1).widen (lo' := B) (hi' := H) (Nat.le_refl _) (Nat.min_le_left _ _))
  have K1 : Hid (w1.heap[w.heap.size]? = some (.cells #[.int .i64 0, .int .i64 0, .int .i64 0] 154)) := (a1.block w.heap.size (by omega) (.inr (Nat.min_le_right _ _))).trans H1.out
  have q0 := Tryz.asRk (rkV (f 0))
  obtain ⟨c0, c1, c2⟩ := three_cells K1.out
  have f0 := four_frozen K1.out 0
  have f1 := four_frozen K1.out 1
  have f2 := four_frozen K1.out 2
  have hs1 := HA1.out.size
  clear r1 h1 s1 a1
  go_wp2_with fail
  have HSET := hide (set_block (set_block (set_block K1.out 0 (.int .i64 (f 0).1) (by simp)) 1 (.int .i64 (f 0).2.1) (by simp)) 2 (.int .i64 (f 0).2.2) (by simp))
  have HAS := hide ((((Aside.refl w.heap.size (w.heap.size + 1) w1).setCell (p := ⟨w.heap.size, 0, none⟩) (Nat.le_refl _) (Nat.lt_succ_self _) (.int .i64 (f 0).1)).setCell (p := ⟨w.heap.size, 1, none⟩) (Nat.le_refl _) (Nat.lt_succ_self _) (.int .i64 (f 0).2.1)).setCell (p := ⟨w.heap.size, 2, none⟩) (Nat.le_refl _) (Nat.lt_succ_self _) (.int .i64 (f 0).2.2))
  refine bodyPost_ret (results_cell rfl rfl (run_loadVar_row _ _ _ _ _ _ _ HSET.out Tryz.underlying154 rfl (by kernel_rfl))) rfl ⟨rfl, f', HR1.out.keep (HAS.out.block p HR1.out.ltP (by omega)) (HAS.out.block g (rk_lt HR1.out.row).2 (by omega)), HH1.out, HS1.out, HA1.out.thenNew HAS.out (Nat.le_refl _)⟩
end Go.Proofs.YtkpfdgceelmijaaGreatDoor
end

section
namespace Go.Proofs.YtkpfdgceelmijaaGreatDoor
open Go.RowKit
set_option linter.unusedVariables false
set_option maxRecDepth 20000

def valN (l : List Nat) : List Value := l.map (fun (i : Nat) => Value.int .i64 (i : Int))
theorem valN_length (l : List Nat) : (valN l).length = l.length := by unfold valN; simp
theorem valN_append (l m : List Nat) : valN (l ++ m) = valN l ++ valN m := by unfold valN; simp
theorem some_form {w : World} {B e n : Nat} {v : Value} {xs : List Value} (h : w.ownsRow B e 1 v n xs) (hv : v ≠ .slice none 0 0) : ∃ g c, v = .slice (some ⟨g, 0, none⟩) n c ∧ n ≤ c := by
  rcases h.2 with ⟨e, _⟩ | ⟨g, cap, cur, e, _, _, hn, _⟩
  · exact absurd e hv
  · exact ⟨g, cap, e, hn⟩
theorem Tryz.infoI64e : (Tryz.prog.info? 2).map (fun i => (i.zero, i.size, i.bytes)) = some (some (.int .i64 0), 1, 8) := by kernel_rfl
end Go.Proofs.YtkpfdgceelmijaaGreatDoor
end

section
namespace Go.Proofs.YtkpfdgceelmijaaGreatDoor
open Go.RowKit
set_option linter.unusedVariables false
set_option maxRecDepth 20000

theorem valN_ints (l : List Nat) : valN l = (l.map (fun (i : Nat) => (i : Int))).map (Value.int .i64) := by
  unfold valN; rw [List.map_map]; rfl
theorem own_valN {w : World} {base n : Nat} {v : Value} {l : List Nat} (h : w.ownsRow base 2 1 v n (valN l)) :
    ∃ a cap, v = .slice a n cap ∧ n ≤ cap ∧ OwnInts base w.heap.size w a n (l.map (fun (i : Nat) => (i : Int))) := by
  obtain ⟨a, cap, e, hc, hl, _, ho⟩ := owned_of_own h
  rw [valN_length] at hl
  refine ⟨a, cap, e, hc, by rw [List.length_map]; exact hl, ho.congr fun i hi => ?_⟩
  rw [valN_ints]
  exact map_cell _ i (by rw [List.length_map]; omega)

end Go.Proofs.YtkpfdgceelmijaaGreatDoor
end

section
namespace Go.Proofs.YtkpfdgceelmijaaGreatDoor
open Go.RowKit
set_option linter.unusedVariables false
set_option maxRecDepth 20000

theorem rk_made0 (w : World) (f : Nat → Rk) : RkRow w.heap.size (w.alloc (.cells #[] 154)) w.heap.size 0 0 f := by
  have hb : (w.alloc (.cells #[] 154)).heap[w.heap.size]? = some (.cells #[] 154 (0, 0)) := heap_new _ _
  exact ⟨rfl, .inr ⟨w.heap.size, 0, #[], rfl, Nat.le_refl _, hb, Nat.le_refl _, Nat.zero_le _, rfl, rfl⟩⟩
/-- An empty ranking, just made. -/
theorem rkg_made0 (w : World) (f : Nat → Rk) : Rkg w.heap.size ((w.alloc (.cells #[] 154)).alloc (.cells #[.slice (some ⟨w.heap.size, 0, none⟩) 0 0] 151)) (w.heap.size + 1) w.heap.size 0 0 f := by
  refine ⟨rk_keep (rk_made0 w f) (Go.Deep.blk_alloc_lt _ _ _ (by simp)), heap_at (by simp), by omega⟩
theorem Tryz.fieldRk (a b c : Int) (w : World) : (Instr.field 154 (.agg #[.int .i64 a, .int .i64 b, .int .i64 c]) 2).run Tryz.prog w = .ok (.int .i64 c) w := by kernel_rfl
def lenV : Value → Nat
  | .slice _ n _ => n
  | _ => 0
theorem own_keep {w w' : World} {base e n : Nat} {v : Value} {xs : List Value} (h : w.ownsRow base e 1 v n xs) {l r : Nat} (hb : Aside l r w w') (hr : r ≤ base) : w'.ownsRow base e 1 v n xs := by
  obtain ⟨h1, h2⟩ := h
  refine ⟨h1, ?_⟩
  rcases h2 with hn | ⟨g, cap, cur, rfl, hbg, hgg, rest⟩
  · exact .inl hn
  · exact .inr ⟨g, cap, cur, rfl, hbg, (hb.block g (Array.getElem?_eq_some_iff.1 hgg).1 (.inr (by omega))).trans hgg, rest⟩

set_option maxHeartbeats 3200000 in
theorem implEmpty_any (z : Int) (a : Option Addr) (n cap : Nat) (qs : List Sq) (w : World) {lo hi : Nat} (h : Squares lo hi w a n qs) (hhi : hi ≤ w.heap.size) (hn : n ≤ 1048576) (hf : ∀ x ∈ qs, sqFits x) :
    Calls Tryz.prog 62 #[.agg #[.int .i64 z, .slice a n cap]] w fun e w' => ∃ a' n' cap', e = .returned (.slice a' n' cap') ∧ n' ≤ cap' ∧ n' ≤ 12 ∧ OwnInts w.heap.size w'.heap.size w' a' n' (emptyL z qs) ∧ Below w.heap.size w w' := by
  obtain ⟨wA, hwA⟩ : ∃ wA, wA = w.alloc (.cells #[.int .i64 z, .slice a n cap] 27) := ⟨_, rfl⟩
  have hzA : wA.heap.size = w.heap.size + 1 := by rw [hwA]; simp
  have HBA : Hid (Below w.heap.size w wA) := by rw [hwA]; exact (Below.refl _ _).alloc (Nat.le_refl _) _
  have H1 : Hid (wA.heap[w.heap.size]? = some (.cells #[.int .i64 z, .slice a n cap] 27)) := by rw [hwA]; exact heap_new _ _
  have HSQ := hide (h.later HBA.out hhi)
  have HL := hide h.1
  have HF := hide hf
  clear h hf
  obtain ⟨a0, a1⟩ := two_cells H1.out
  go_enter Tryz.func62, Tryz.ntmps62
  go_wp2_with fail
  rw [← hwA]
  clear hwA
  refine (implChipOk_any z a n cap qs wA HSQ.out (by omega) hn HF.out).mono ?_
  rintro e w1 ⟨rfl, b1⟩
  have K1 := hide (block_on H1.out b1)
  have HS1 := hide (HSQ.out.later b1 (by omega))
  have HB1 := hide (below_here HBA.out b1)
  have hs1 := b1.size
  clear b1 H1 HSQ HBA a0 a1
  cases hok : chipOk z qs with
  | false =>
    have HE : Hid (emptyL z qs = []) := by show _ = _; unfold emptyL; rw [hok]; rfl
    have HB2 := hide (HB1.out.alloc (by omega) (.cells #[] 2))
    go_wp2_with fail
    go_ret
    exact ⟨_, _, _, rfl, Nat.le_refl _, by omega, by rw [HE.out]; exact ⟨rfl, Nat.le_refl _, fun h => absurd h (Nat.lt_irrefl _)⟩, HB2.out⟩
  | true =>
    have HE : Hid (emptyL z qs = (emptyK qs qs.length).map (fun (i : Nat) => (i : Int))) := by show _ = _; unfold emptyL; rw [hok]; rfl
    have HOK := hide hok
    have hn12 : n ≤ 12 := by have := (chipOk_parts hok).2.2.2.1; rw [HL.out] at this; exact this
    clear hok
    obtain ⟨wP, hwP⟩ : ∃ wP, wP = (w1.alloc (.cells #[] 154)).alloc (.cells #[.slice (some ⟨w1.heap.size, 0, none⟩) 0 0] 151) := ⟨_, rfl⟩
    have hzP : wP.heap.size = w1.heap.size + 2 := by rw [hwP]; simp
    have HBP : Hid (Below w1.heap.size w1 wP) := by rw [hwP]; exact ((Below.refl _ _).alloc (Nat.le_refl _) _).alloc (by simp) _
    have HRP : Hid (Rkg w1.heap.size wP (w1.heap.size + 1) w1.heap.size 0 0 (fun _ => (0, 0, 0))) := by rw [hwP]; exact rkg_made0 w1 _
    obtain ⟨a0, a1⟩ := two_cells (block_on K1.out HBP.out)
    rw [hwP] at a0 a1
    go_wp2_with fail
    rw [← hwP]
    clear hwP a0 a1
    go_loopw [16] (fun i wr => ∃ (k m g c : Nat) (f : Nat → Rk), k ≤ n ∧ i = .int .i64 (k : Int) ∧ Rkg w1.heap.size wr (w1.heap.size + 1) g m c f ∧ HeapR m f ∧ Gath (fun j => isEmpty (sqAt qs j)) (rkE qs) k m f ∧ Below w1.heap.size w1 wr) (fun i _ => n - (intOf i).toNat)
    case atStart => exact ⟨0, 0, _, _, _, Nat.zero_le _, rfl, HRP.out, HeapR.none _, Gath.nil _ _ _, HBP.out⟩
    case round =>
      obtain ⟨k, m, g, c, f, hk, rfl, hR, hH, hG, hbel⟩ := hrel
      have HRR := hide hR
      have HHH := hide hH
      have HGG := hide hG
      have HBB := hide hbel
      clear hR hH hG HRP HBP
      by_cases hlt : k < n
      · have hql : k < qs.length := by rw [HL.out]; exact hlt
        obtain ⟨_, A, C, hx, ht⟩ := HS1.out
        obtain ⟨b, off, rfl, _, hb, hc⟩ := hx.2 (by omega)
        obtain ⟨c0, c1, c2⟩ := sq_cells hc hbel (show b < w1.heap.size by omega) hlt
        have hl9 := (sq_fits HF.out hql).2.1
        unfold maxLen at hl9
        have HSK : Hid (isEmpty (sqAt qs k) = false → Gath (fun j => isEmpty (sqAt qs j)) (rkE qs) (k + 1) m f) := fun hh => HGG.out.skip hh
        have HPU : Hid (isEmpty (sqAt qs k) = true → ∀ f', SameR (m + 1) (upd f m (rkE qs k)) f' → Gath (fun j => isEmpty (sqAt qs j)) (rkE qs) (k + 1) (m + 1) f') := fun hh f' hs => HGG.out.push (rkE_inj qs) hh hs
        have HER : Hid (rkE qs k = (0, (sqAt qs k).2.1, (k : Int))) := rfl
        have hmk := HGG.out.le
        clear hc hx ht
        generalize sqAt qs k = y at *
        obtain ⟨ts, zw, bd⟩ := y
        dsimp only at c0 c1 c2 hl9 HSK HPU HER
        obtain ⟨wX, hwX⟩ : ∃ wX, wX = wr.alloc (.cells #[.slice (A k) ts.length (C k), .int .i64 zw, .bool bd] 66) := ⟨_, rfl⟩
        have hzX : wX.heap.size = wr.heap.size + 1 := by rw [hwX]; simp
        have HBX : Hid (Below wr.heap.size wr wX) := by rw [hwX]; exact (Below.refl _ _).alloc (Nat.le_refl _) _
        have HRX := hide (HRR.out.later HBX.out)
        have HBF := hide (below_here HBB.out HBX.out)
        have hsr := hbel.size
        clear hbel
        cases bd with
        | true =>
          have HG2 := hide (HSK.out (by simp [isEmpty]))
          go_wp2_with fail
          rw [← hwX]
          exact ⟨⟨k + 1, m, g, c, f, by omega, by go_num, HRX.out, HHH.out, HG2.out, HBF.out⟩, by simp [intOf]; omega⟩
        | false =>
          by_cases h0 : ts.length = 0
          · have HG2 := hide (HPU.out (by simp [isEmpty, h0]))
            have g0 : ((ts.length : Int) == 0) = true := by simp; exact List.eq_nil_of_length_eq_zero h0
            rw [h0] at c0 hwX
            go_wp2_with fail
            rw [← hwX]
            clear hwX
            refine (heapPush_any w1.heap.size (w1.heap.size + 1) g m c f (0, zw, (k : Int)) wX HRX.out HHH.out (by omega) (by omega)).mono ?_
            rintro e w2 ⟨rfl, g', c', f', r2, h2, s2, b2⟩
            have HR2 := hide r2
            have HH2 := hide h2
            have HG3 := hide (HG2.out f' (by rw [HER.out]; exact s2))
            have HB2 := hide (HBF.out.trans b2)
            clear r2 h2 s2 b2
            go_wp2_with fail
            exact ⟨⟨k + 1, m + 1, g', c', f', by omega, by go_num, HR2.out, HH2.out, HG3.out, HB2.out⟩, by simp [intOf]; omega⟩
          · have HG2 := hide (HSK.out (by simp [isEmpty]; intro e; rw [e] at h0; exact h0 rfl))
            have g0 : ((ts.length : Int) == 0) = false := by simp; intro e; rw [e] at h0; exact h0 rfl
            have g1 : ¬ ((ts.length : Int) = 0) := by omega
            go_wp2_with fail
            rw [← hwX]
            exact ⟨⟨k + 1, m, g, c, f, by omega, by go_num, HRX.out, HHH.out, HG2.out, HBF.out⟩, by simp [intOf]; omega⟩
      · obtain rfl : k = n := by omega
        have hmk := HGG.out.le
        have hcell := rk_cell1 HRR.out.cell
        have hmake := make_row (P := Tryz.prog) 120 2 (.int .i64 0) 8 Tryz.underlying120 Tryz.infoI64e rfl 0 (m : Int) 0 m rfl rfl (by omega) (by omega) (by omega)
        have HT0 := hide (Taken.start HGG.out (rkE_inj qs))
        go_wp2_with fail
        refine (rkLen_any _ m c wr (by omega)).mono ?_
        rintro e w2 ⟨rfl, rfl⟩
        obtain ⟨wM, hwM⟩ : ∃ wM, wM = wr.alloc (.cells (madeCells #[.int .i64 0] m) 2) := ⟨_, rfl⟩
        have hzM : wM.heap.size = wr.heap.size + 1 := by rw [hwM]; simp
        have HBM : Hid (Below wr.heap.size wr wM) := by rw [hwM]; exact (Below.refl _ _).alloc (Nat.le_refl _) _
        have HRM := hide (HRR.out.later HBM.out)
        have HOM : Hid (wM.ownsRow wr.heap.size 2 1 (.slice (some ⟨wr.heap.size, 0, none⟩) 0 m) 0 (valN [])) := by
          rw [hwM]
          exact ⟨rfl, .inr ⟨wr.heap.size, m, madeCells #[.int .i64 0] m, rfl, Nat.le_refl _, heap_new _ _, Nat.zero_le _, by unfold maxLen; omega, by simp [madeCells], rfl⟩⟩
        have HPW := hide HRR.out.ltP
        have HGW := hide (rk_lt HRR.out.row).2
        have HBM1 := hide (below_here HBB.out HBM.out)
        obtain ⟨wo, hwo⟩ : ∃ wo, wo = wr := ⟨_, rfl⟩
        subst hwo
        go_wp2_with fail
        rw [← hwM]
        clear hwM hmake hcell
        have HMN : Hid (m ≤ 12) := by show _ ≤ _; omega
        obtain ⟨i0, hi0, hzz0, hzz1, hzz2⟩ := info_parts Tryz.infoI64e
        go_loopw [6] (fun v wr => ∃ (l : List Nat) (m' : Nat) (f' : Nat → Rk) (a9 : Option Addr) (c9 : Nat), v = .slice a9 l.length c9 ∧ l.length ≤ c9 ∧ l.length + m' = m ∧ wo.heap.size ≤ wr.heap.size ∧ wr.ownsRow wo.heap.size 2 1 (.slice a9 l.length c9) l.length (valN l) ∧ Rkg w1.heap.size wr (w1.heap.size + 1) g m' c f' ∧ HeapR m' f' ∧ Taken (fun j => isEmpty (sqAt qs j)) (rkE qs) k l m' f' ∧ Below w1.heap.size w1 wr) (fun v _ => m - lenV v)
        case atStart => exact ⟨[], m, f, _, _, rfl, Nat.zero_le _, by simp, by omega, HOM.out, HRM.out, HHH.out, HT0.out, HBM1.out⟩
        case round =>
          obtain ⟨l, m', f', a9, c9, rfl, hlc, hlm, hso, hO, hR, hH, hT, hbel⟩ := hrel
          have HO := hide hO
          have HR := hide hR
          have HH := hide hH
          have HT := hide hT
          have HB := hide hbel
          have hcell := rk_cell1 hR.cell
          have hsr := hbel.size
          clear hO hR hH hT hbel
          cases m' with
          | zero =>
            have HLE := hide HT.out.empty
            obtain ⟨a', cap', e9, hc', ho⟩ := own_valN HO.out
            simp only [Value.slice.injEq] at e9
            have HOI : Hid (OwnInts wo.heap.size wr.heap.size wr a9 l.length (l.map (fun (i : Nat) => (i : Int)))) := by rw [e9.1]; exact ho
            clear e9 ho
            go_wp2_with fail
            refine (rkLen_any _ 0 c wr (by omega)).mono ?_
            rintro e w2 ⟨rfl, rfl⟩
            simp only [show ((0 : Nat) : Int) = 0 from rfl]
            go_wp2_with fail
            go_ret
            refine ⟨_, _, _, rfl, hlc, by have := HMN.out; omega, ?_, below_here HB1.out HB.out⟩
            rw [HE.out, HL.out, ← HLE.out]
            exact ⟨HOI.out.1, HOI.out.2.1, fun h => by obtain ⟨b, off, h1, h2, h3, h4⟩ := HOI.out.2.2 h; exact ⟨b, off, h1, by have := HPW.out; omega, h3, h4⟩⟩
          | succ q =>
            obtain ⟨j, hj1, hj2, hj3⟩ := HT.out.of 0 (by omega)
            have HJ : Hid (f' 0 = rkE qs j) := hj3.symm
            have HTN : Hid (∀ f'', SameR q (swp f' 0 q) f'' → Taken (fun j => isEmpty (sqAt qs j)) (rkE qs) k (l ++ [j]) q f'') := fun f'' hs => HT.out.next (rkE_inj qs) HH.out HJ.out hs
            have hq12 := HMN.out
            clear hj1 hj2 hj3
            go_wp2_with fail
            refine (rkLen_any _ (q + 1) c wr (by omega)).mono ?_
            rintro e w2 ⟨rfl, rfl⟩
            clear hcell
            go_wp2_with fail
            refine (takeNext_any w1.heap.size (w1.heap.size + 1) g q c f' wo.heap.size wr HR.out HH.out (by omega) HPW.out HGW.out).mono ?_
            rintro e w3 ⟨rfl, f'', r3, h3, s3, a3⟩
            have HR3 := hide r3
            have HH3 := hide h3
            have HT3 := hide (HTN.out f'' s3)
            have HO3 := hide (own_keep HO.out a3 (Nat.le_refl _))
            have HB3 := hide (HB.out.trans (a3.below (Nat.le_refl _) hsr))
            have hs3 := a3.size
            clear r3 h3 s3 a3
            rw [HJ.out]
            have HOA := hide (HO3.out.alloc (.cells #[.int .i64 (j : Int)] 2))
            have HBA := hide ((Below.refl w3.heap.size w3).alloc (Nat.le_refl _) (.cells #[.int .i64 (j : Int)] 2))
            have HRA := hide (HR3.out.later HBA.out)
            have hzA : (w3.alloc (.cells #[.int .i64 (j : Int)] 2)).heap.size = w3.heap.size + 1 := by simp
            unfold rkV rkE
            dsimp only
            have q9 := Tryz.fieldRk 0 (sqAt qs j).2.1 (j : Int)
            go_wp2_with (at_builtin; (refine wpList_append_own_at _ rfl (.tmp 49) (.tmp 53) 120 rfl wo.heap.size 2 i0 (.int .i64 0) 1 8 Tryz.underlying120 hi0 hzz0 hzz1 hzz2 rfl (by decide) _ l.length (valN l) rfl HOA.out ⟨w3.heap.size, 0, none⟩ 1 1 [.int .i64 (j : Int)] rfl rfl (cell_one_new _ _ _) (by simp [Value.oneCell']) (by unfold maxLen; omega) (by omega) (by rw [hzA]; omega) ?_); intro v2 w6 hown6 hgr6 hnil6 hat6; obtain ⟨g2, c2, rfl, hc2⟩ := some_form hown6 (fun e => by have h9 := (hnil6.1 e).2; cases h9); have HO6 := hide hown6; have HG6 := hide hgr6; clear hown6 hgr6 hnil6 hat6)
            have HON : Hid (w6.ownsRow wo.heap.size 2 1 (.slice (some ⟨g2, 0, none⟩) (l ++ [j]).length c2) (l ++ [j]).length (valN (l ++ [j]))) := by
              show World.ownsRow _ _ _ _ _ _ _
              rw [valN_append, List.length_append]
              exact HO6.out
            have hap9 : ∀ x, x < wo.heap.size → some x ≠ (Value.slice a9 l.length c9).ownBlock := fun x hx e => by
              have := (HO3.out.lt x e.symm).1
              omega
            have HR6 := hide (HRA.out.keep (w' := w6) (HG6.out.block _ HRA.out.ltP (hap9 _ HPW.out)) (HG6.out.block _ (rk_lt HRA.out.row).2 (hap9 _ HGW.out)))
            have HB6 := hide ((HB3.out.trans (HBA.out.mono (by omega))).grown HG6.out (by rw [hzA]; omega) (fun x hx => by have := (HO3.out.lt x hx).1; have := HPW.out; omega))
            have hs6 : wo.heap.size ≤ w6.heap.size := by have := HG6.out.size; rw [hzA] at this; omega
            have hln : (l ++ [j]).length = l.length + 1 := by simp
            exact ⟨⟨l ++ [j], q, f'', some ⟨g2, 0, none⟩, c2, by rw [hln], by rw [hln]; exact hc2, by rw [hln]; omega, hs6, HON.out, HR6.out, HH3.out, HT3.out, HB6.out⟩, by simp [lenV]; omega⟩
end Go.Proofs.YtkpfdgceelmijaaGreatDoor
end

section
namespace Go.Proofs.YtkpfdgceelmijaaGreatDoor
open Go.RowKit
set_option linter.unusedVariables false
set_option maxRecDepth 20000

/-- 'append([]Place{}, s...)': new Places. -/
theorem append_places {P : Program} (hinfo : (P.info? 45).map (fun i => (i.zero, i.size, i.bytes)) = some (some (.agg #[.int .i64 0, .int .i64 0]), 2, 16)) {t : TypeId} (ht : P.underlying t = some (.slice 45)) {B g : Nat} {w : World} (ho : PlOwn B w (.slice (some ⟨g, 0, none⟩) 0 0) []) (hB : B ≤ w.heap.size)
    {lo hi : Nat} {a : Option Addr} {n c : Nat} {ps : List Pl} (hx : Places lo hi w a n ps) (hn0 : 1 ≤ n) (hn : n ≤ 1048576) :
    ∃ g' c' w', (Builtin.append_ #[t, t] t #[.slice (some ⟨g, 0, none⟩) 0 0, .slice a n c]).run P w = .ok (.slice (some ⟨g', 0, none⟩) n c') w' ∧ PlOwn B w' (.slice (some ⟨g', 0, none⟩) ps.length c') ps ∧ w.grownBy w' (some g) ∧ (g' = g ∨ g' = w.heap.size) := by
  obtain ⟨i0, hi0, hz0, hz1, hz2⟩ := info_parts hinfo
  obtain ⟨hl, _, hx⟩ := hx
  subst hl
  obtain ⟨b, off, rfl, _, _, hc⟩ := hx (by omega)
  have hnews : ∀ (j : Nat) u, (plL ps)[j]? = some u → w.cell? ((⟨b, off, none⟩ : Addr).add j) = some u := by
    intro j u hj
    have hjl : j < ps.length * 2 := by
      rcases Nat.lt_or_ge j (ps.length * 2) with h | h
      · exact h
      · rw [List.getElem?_eq_none (by rw [plL_length]; exact h)] at hj; simp at hj
    have hadd : (⟨b, off, none⟩ : Addr).add j = ⟨b, off + j, none⟩ := by unfold Addr.add; split <;> simp_all
    rw [hadd, hc j (by omega), ← hj, plL_at ps hjl]
  obtain ⟨v', w', h1, h2, h3, h4, h5⟩ := run_append_own_at (P := P) w B t t 45 i0 (.agg #[.int .i64 0, .int .i64 0]) 2 16 ht hi0 hz0 hz1 hz2 rfl (by decide) _ 0 [] ho ⟨b, off, none⟩ ps.length c (plL ps) (by rw [plL_length]) hnews
    (fun u hu => by
      unfold plL at hu
      rw [List.mem_map] at hu
      obtain ⟨j, _, rfl⟩ := hu
      unfold cellP
      split <;> rfl) (by unfold maxLen; omega) (by omega) hB
  rw [Nat.zero_add, List.nil_append] at h2
  obtain ⟨g', c', rfl, _⟩ := pl_some h2 hn0
  refine ⟨g', c', w', h1, h2, h3, ?_⟩
  rcases h5 with h5 | h5
  · exact .inl (by have e : some g' = some g := h5; simpa using e)
  · exact .inr (by have e : some g' = some w.heap.size := h5; simpa using e)
end Go.Proofs.YtkpfdgceelmijaaGreatDoor
end

