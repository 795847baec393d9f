/- The walk of chapter 6's program: reduce. -/
import Derived.Test.YtacjaoeghjkhoabSolveImpl2
namespace Go.Proofs.Ytacjaoeghjkhoab
open Go.RowKit
set_option linter.unusedVariables false
set_option linter.unusedSimpArgs false
set_option maxRecDepth 20000

theorem turn_eq (m : Nat → Nat → Nat) (c t : Nat) : Sv.elim (Sv.scale (Sv.swap m t c) c (Field.inv (Sv.swap m t c c c))) c = Sv.turn m c t := by
  unfold Sv.turn
  rw [Sv.swap_at]
theorem MatW.mid {base n W g : Nat} {w : World} {P O C : Nat → Nat} {m : Nat → Nat → Nat} (h : MatW base n W w g P O C m) {p q : Nat} (hp : p < n) (hq : q < n) :
    (w.setCell ⟨g, p, none⟩ (.slice (some ⟨P q, O q, none⟩) W (C q))).cell? ⟨g, q, none⟩ = some (.slice (some ⟨P q, O q, none⟩) W (C q)) := by
  by_cases e : q = p
  · subst e; exact World.cell?_setCell_same _ _ _ (h.at hq).1
  · rw [World.cell?_setCell_other _ _ _ _ (by intro e'; simp only [Addr.mk.injEq] at e'; omega)]; exact (h.at hq).1
def Reduced (base n W g : Nat) (m0 : Nat → Nat → Nat) (w : World) (b : Bool) (w' : World) : Prop :=
  ((b = true ∧ ∃ P O C m, MatW base n W w' g P O C m ∧ Sv.Wide n n m0 m) ∨ (b = false ∧ ∀ k, n ≤ k → Sv.Told n (Sv.col n m0 k) [] false)) ∧ Below base w w'
set_option maxHeartbeats 1600000 in
theorem reduce_any (base n W g cap : Nat) (P O C : Nat → Nat) (m0 : Nat → Nat → Nat) (w : World) (h : MatW base n W w g P O C m0) (hn : n ≤ 8) (hnW : n ≤ W) (hW : W ≤ 1048576) (hm : ∀ i, i < n → ∀ k, m0 i k < 256) :
    Calls Try.prog 67 #[.slice (some ⟨g, 0, none⟩) n cap] w fun e w' => ∃ b, e = .returned (.bool b) ∧ Reduced base n W g m0 w b w' := by
  have hbase : base ≤ w.heap.size := Nat.le_trans h.low.1 (Nat.le_of_lt h.outer.lt)
  have HM := hide h
  have HG := hide hm
  clear h hm
  go_enter Try.func67, Try.ntmps67
  go_wp2_with fail
  go_step3
  go_wp2_with fail
  go_step3
  go_wp2_with fail
  go_loopw [7, 3, 4] (fun i _ _ wr => ∃ (c : Nat) (P O C : Nat → Nat) (m : Nat → Nat → Nat), c ≤ n ∧ i = .int .i64 (c : Int) ∧ MatW base n W wr g P O C m ∧ Sv.Wide n c m0 m ∧ Below base w wr) (fun i _ _ _ => n - (intOf i).toNat)
  case atStart => exact ⟨0, P, O, C, m0, Nat.zero_le _, rfl, HM.out, Sv.Wide.start HG.out, Below.refl _ _⟩
  case round =>
    obtain ⟨c, P, O, C, m, hcn, rfl, hM, hWd, hB⟩ := hrel
    clear HM
    have HM := hide hM
    have HW := hide hWd
    have HB := hide hB
    clear hM hWd hB
    by_cases hc : c < n
    · go_wp2_with fail
      go_loop [4] (fun i => ∃ t : Nat, c ≤ t ∧ t ≤ n ∧ i = .int .i64 (t : Int) ∧ ∀ j, c ≤ j → j < t → m j c = 0) (fun i => n - (intOf i).toNat)
      case atStart => exact ⟨c, Nat.le_refl _, by omega, rfl, fun j h1 h2 => absurd h2 (by omega)⟩
      case round =>
        obtain ⟨t, hct, htn, rfl, hz⟩ := hrel
        have HZ := hide hz
        clear hz
        by_cases ht : t < n
        · have co := (HM.out.at ht).1
          have cc := HM.out.cell ht (show c < W by omega)
          by_cases hm0 : m t c = 0
          · have HZ2 : Hid (∀ j, c ≤ j → j < t + 1 → m j c = 0) := fun j h1 h2 => by
              rcases Nat.lt_or_ge j t with h | h
              · exact HZ.out j h1 h
              · rw [show j = t by omega]; exact hm0
            rw [hm0] at cc
            clear hm0 HZ
            go_wp2_with fail
            exact ⟨⟨t + 1, by omega, by omega, by go_num, HZ2.out⟩, by simp [intOf]; omega⟩
          · have e0 : (((m t c : Nat) : Int) != 0) = true := by simp; omega
            have cof := (HM.out.at ht).2
            have ca := (HM.out.at hc).1
            have caf := (HM.out.at hc).2
            have cmid := HM.out.mid hc ht
            have HSW := hide (HM.out.swapped hc ht)
            have HG2 : Hid (∀ i, i < n → ∀ k, Sv.swap m t c i k < 256) := by
              intro i hi k
              unfold Sv.swap
              split
              · exact HW.out.good c hc k
              · split
                · exact HW.out.good t ht k
                · exact HW.out.good i hi k
            have HNZ : Hid (Sv.swap m t c c c ≠ 0) := by show _ ≠ _; rw [Sv.swap_at]; exact hm0
            have HST : Hid (Sv.Wide n (c + 1) m0 (Sv.turn m c t)) := HW.out.step hc ht hct hm0
            have HBS := hide ((HB.out.setCell (p := ⟨g, c, none⟩) HM.out.low.1 (.slice (some ⟨P t, O t, none⟩) W (C t))).setCell (p := ⟨g, t, none⟩) HM.out.low.1 (.slice (some ⟨P c, O c, none⟩) W (C c)))
            have HSP : ∀ q, Hid (Calls Try.prog 80 #[.slice (some ⟨g, 0, none⟩) n cap, .int .i64 (c : Int)] (((wr.setCell ⟨g, c, none⟩ (.slice (some ⟨P t, O t, none⟩) W (C t))).setCell ⟨g, t, none⟩ (.slice (some ⟨P c, O c, none⟩) W (C c))).drewN q) fun e w' => e = .returned (.tuple #[]) ∧ (∃ P' O' C', MatW base n W w' g P' O' C' (Sv.turn m c t)) ∧ Below base w w') := by
              intro q
              have hm' := HSW.out.of (w' := (((wr.setCell ⟨g, c, none⟩ (.slice (some ⟨P t, O t, none⟩) W (C t))).setCell ⟨g, t, none⟩ (.slice (some ⟨P c, O c, none⟩) W (C c))).drewN q)) (fun k _ _ => rfl)
              show Calls _ _ _ _ _
              refine (sweep_any base n W g cap c _ _ _ (Sv.swap m t c) _ hm' hc hn hnW hW HG2.out HNZ.out).mono ?_
              rintro e w' ⟨rfl, ⟨P', O', C', h'⟩, b'⟩
              rw [turn_eq] at h'
              exact ⟨rfl, ⟨P', O', C', h'⟩, (below_drewN HBS.out q).trans b'⟩
            clear HM HW HB hm0 HZ HSW HG2 HNZ HBS
            go_wp2_with fail
            go_region
            all_goals
              go_wp2_with fail
              refine (HSP 1).out.mono ?_
              rintro e w4 ⟨rfl, ⟨P', O', C', h4⟩, b4⟩
              have H4 := hide h4
              have B4 := hide b4
              clear h4 b4
              go_wp2_with fail
              exact ⟨⟨c + 1, P', O', C', _, by omega, by go_num, H4.out, HST.out, B4.out⟩, by simp [intOf]; omega⟩
        · obtain rfl : t = n := by omega
          have HT : Hid (∀ k, t ≤ k → Sv.Told t (Sv.col t m0 k) [] false) := fun k hk => HW.out.stuck hc (fun i h1 h2 => HZ.out i h1 h2) hk
          clear HM HW HZ
          go_wp2_with fail
          try rw [Exit.noGoto_ret]
          go_ret
          exact ⟨false, rfl, .inr ⟨rfl, HT.out⟩, HB.out⟩
    · obtain rfl : c = n := by omega
      go_wp2_with fail
      try rw [Exit.noGoto_ret]
      go_ret
      exact ⟨true, rfl, .inl ⟨rfl, P, O, C, m, HM.out, HW.out⟩, HB.out⟩
end Go.Proofs.Ytacjaoeghjkhoab
