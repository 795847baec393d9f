/- The walks of chapter 4's program: Spread, Odd, Healed. -/
import Derived.Test.YtceidhlcbbikcanGreatDoorJHamTab
import Derived.Deep.RegionHeld3
namespace Go.Proofs.YtceidhlcbbikcanGreatDoor
open Go.RowKit
set_option linter.unusedVariables false
set_option maxRecDepth 20000

set_option maxHeartbeats 800000 in
theorem implSpread_any (b : Int) (w : World) (hT : Tab w) :
    Calls Tryz.prog 127 #[.int .i64 b] w fun e w' => e = .returned (.int .i64 (spreadI b)) ∧ Below w.heap.size w w' := by
  cases hb : elem b
  · have hout := elem_out hb
    have HE := hide (spreadI_no hb)
    clear hb hT
    by_cases h0 : b < 0
    · clear hout
      go_enter Tryz.func127, Tryz.ntmps127
      go_wp2_with fail
      go_ret
      exact ⟨ret_i64 HE.out.symm, Below.refl _ _⟩
    · have h1 : (256 : Int) ≤ b := by omega
      clear hout
      go_enter Tryz.func127, Tryz.ntmps127
      go_wp2_with fail
      go_ret
      exact ⟨ret_i64 HE.out.symm, Below.refl _ _⟩
  · obtain ⟨n, rfl, hn⟩ := elem_nat hb
    rw [spreadI_nat hn]
    exact implSpread_nat n w hn hT

theorem word_out {x : Int} (h : word x = false) : x < 0 ∨ 8192 ≤ x := by
  simp [word, inB] at h
  omega
/-- What askWord answers: of a word what is asked, else -1. -/
theorem askWord_no (x : Int) (f : Value) (w : World) (h : word x = false) :
    Calls Tryz.prog 162 #[.int .i64 x, f] w fun e w' => e = .returned (.int .i64 (-1)) ∧ w = w' := by
  have hout := word_out h
  clear h
  by_cases h0 : x < 0
  · clear hout
    go_enter Tryz.func162, Tryz.ntmps162
    go_wp2_with fail
    go_ret
    exact ⟨rfl, rfl⟩
  · have h1 : (8192 : Int) ≤ x := by omega
    clear hout
    go_enter Tryz.func162, Tryz.ntmps162
    go_wp2_with fail
    go_ret
    exact ⟨rfl, rfl⟩
theorem askOdd_nat (n : Nat) (w : World) (hn : n < 8192) :
    Calls Tryz.prog 162 #[.int .i64 (n : Int), .func (.func 160) #[] #[]] w fun e w' => e = .returned (.int .i64 (Ham.odd n : Int)) ∧ w = w' := by
  have h1 : decide ((8192 : Int) ≤ (n : Int)) = false := by simp; omega
  have h0 : decide ((n : Int) < 0) = false := by simp
  go_enter Tryz.func162, Tryz.ntmps162
  go_wp2_with fail
  refine (cwOdd_any n w (by omega)).mono ?_
  rintro e w1 ⟨rfl, rfl⟩
  go_wp2_with fail
  go_ret
  exact ⟨rfl, rfl⟩
theorem askWeight_nat (n : Nat) (w : World) (hn : n < 8192) :
    Calls Tryz.prog 162 #[.int .i64 (n : Int), .func (.func 161) #[] #[]] w fun e w' => e = .returned (.int .i64 (Ham.wt n : Int)) ∧ w = w' := by
  have h1 : decide ((8192 : Int) ≤ (n : Int)) = false := by simp; omega
  have h0 : decide ((n : Int) < 0) = false := by simp
  go_enter Tryz.func162, Tryz.ntmps162
  go_wp2_with fail
  refine (cwWeight_any n w hn).mono ?_
  rintro e w1 ⟨rfl, rfl⟩
  go_wp2_with fail
  go_ret
  exact ⟨rfl, rfl⟩
theorem askData_nat (n : Nat) (w : World) (hn : n < 8192) (hT : Tab w) :
    Calls Tryz.prog 162 #[.int .i64 (n : Int), .func (.func 163) #[] #[]] w fun e w' => e = .returned (.int .i64 (Ham.byteOf n : Int)) ∧ w = w' := by
  have h1 : decide ((8192 : Int) ≤ (n : Int)) = false := by simp; omega
  have h0 : decide ((n : Int) < 0) = false := by simp
  have HT := hide hT
  clear hT
  go_enter Tryz.func162, Tryz.ntmps162
  go_wp2_with fail
  refine (cwData_any n w (by omega) HT.out).mono ?_
  rintro e w1 ⟨rfl, rfl⟩
  go_wp2_with fail
  go_ret
  exact ⟨rfl, rfl⟩

set_option maxHeartbeats 800000 in
theorem implHealed_no (x : Int) (w : World) (hb : word x = false) :
    Calls Tryz.prog 152 #[.int .i64 x] w fun e w' => e = .returned (pairV (-1, 2)) ∧ Below w.heap.size w w' := by
  have HB := hide hb
  clear hb
  go_enter Tryz.func152, Tryz.ntmps152
  go_wp2_with fail
  refine (askWord_no x _ w HB.out).mono ?_
  rintro e w1 ⟨rfl, rfl⟩
  go_wp2_with fail
  refine (askWord_no x _ w HB.out).mono ?_
  rintro e w1 ⟨rfl, rfl⟩
  go_wp2_with fail
  go_ret2
  exact ⟨rfl, Below.refl _ _⟩

set_option maxHeartbeats 800000 in
theorem implHealed_nat (n : Nat) (w : World) (hn : n < 8192) (hT : Tab w) :
    Calls Tryz.prog 152 #[.int .i64 (n : Int)] w fun e w' => e = .returned (pairV (Ham.healed n)) ∧ Below w.heap.size w w' := by
  have HT := hide hT
  have HN := hide hn
  obtain ⟨o, ho⟩ : ∃ o, o = Ham.odd n := ⟨_, rfl⟩
  have ho16 : o < 16 := by rw [ho]; exact Ham.odd_lt n
  obtain ⟨t, ht⟩ : ∃ t, t = Ham.wt n := ⟨_, rfl⟩
  have ht13 : t ≤ 13 := by rw [ht]; exact Ham.wt_le n
  have htm : (t : Int).tmod 2 = ((t % 2 : Nat) : Int) := by rw [Int.tmod_eq_emod_of_nonneg (by omega)]; omega
  have HH : Hid (Ham.healed n = if t % 2 = 1 ∧ o ≤ 12 then ((Ham.byteOf (n ^^^ 2 ^ o) : Int), 1) else if t % 2 = 0 ∧ o = 0 then ((Ham.byteOf n : Int), 0) else (-1, 2)) := by
    rw [ho, ht]; rfl
  have HO := hide (askOdd_nat n w hn)
  have HW := hide (askWeight_nat n w hn)
  rw [← ho] at HO
  rw [← ht] at HW
  clear ho ht hT
  by_cases h1 : t % 2 = 1
  · rw [h1] at htm
    simp only [show ((1 : Nat) : Int) = 1 from rfl] at htm
    by_cases h12 : o ≤ 12
    · rw [if_pos ⟨h1, h12⟩] at HH
      have HX := hide (xor_shl n o hn (by omega))
      have HTL := hide (Ham.turned_lt hn (show o < 13 by omega))
      obtain ⟨m, hm⟩ : ∃ m, m = n ^^^ 2 ^ o := ⟨_, rfl⟩
      rw [← hm] at HX HTL HH
      have hx : bits .xor .i64 (n : Int) (wrap64 (2 ^ o)) = (m : Int) := HX.out
      have h13 : decide ((o : Int) < 13) = true := by simp; omega
      clear hm h1 HX
      go_enter Tryz.func152, Tryz.ntmps152
      go_wp2_with fail
      refine HO.out.mono ?_
      rintro e w1 ⟨rfl, rfl⟩
      go_wp2_with fail
      refine HW.out.mono ?_
      rintro e w1 ⟨rfl, rfl⟩
      go_wp2_with fail
      refine (askData_nat m w HTL.out HT.out).mono ?_
      rintro e w1 ⟨rfl, rfl⟩
      go_wp2_with fail
      go_ret2
      exact ⟨by rw [HH.out]; rfl, Below.refl _ _⟩
    · rw [if_neg (by omega), if_neg (by omega)] at HH
      have h13 : decide ((o : Int) < 13) = false := by simp; omega
      have hoz : ((o : Int) == 0) = false := by simp; omega
      clear h1 h12
      go_enter Tryz.func152, Tryz.ntmps152
      go_wp2_with fail
      refine HO.out.mono ?_
      rintro e w1 ⟨rfl, rfl⟩
      go_wp2_with fail
      refine HW.out.mono ?_
      rintro e w1 ⟨rfl, rfl⟩
      go_wp2_with fail
      go_ret2
      exact ⟨by rw [HH.out]; rfl, Below.refl _ _⟩
  · have h0 : t % 2 = 0 := by omega
    rw [h0] at htm
    simp only [show ((0 : Nat) : Int) = 0 from rfl] at htm
    by_cases hoz : o = 0
    · subst hoz
      rw [if_neg (by omega), if_pos ⟨h0, rfl⟩] at HH
      simp only [show ((0 : Nat) : Int) = 0 from rfl] at HO
      clear h1 h0
      go_enter Tryz.func152, Tryz.ntmps152
      go_wp2_with fail
      refine HO.out.mono ?_
      rintro e w1 ⟨rfl, rfl⟩
      go_wp2_with fail
      refine HW.out.mono ?_
      rintro e w1 ⟨rfl, rfl⟩
      go_wp2_with fail
      refine (askData_nat n w HN.out HT.out).mono ?_
      rintro e w1 ⟨rfl, rfl⟩
      go_wp2_with fail
      go_ret2
      exact ⟨by rw [HH.out]; rfl, Below.refl _ _⟩
    · rw [if_neg (by omega), if_neg (by omega)] at HH
      have hoz' : ((o : Int) == 0) = false := by simp; omega
      clear h1 h0 hoz
      go_enter Tryz.func152, Tryz.ntmps152
      go_wp2_with fail
      refine HO.out.mono ?_
      rintro e w1 ⟨rfl, rfl⟩
      go_wp2_with fail
      refine HW.out.mono ?_
      rintro e w1 ⟨rfl, rfl⟩
      go_wp2_with fail
      go_ret2
      exact ⟨by rw [HH.out]; rfl, Below.refl _ _⟩

theorem implHealed_any (x : Int) (w : World) (hT : Tab w) :
    Calls Tryz.prog 152 #[.int .i64 x] w fun e w' => e = .returned (pairV (healedI x)) ∧ Below w.heap.size w w' := by
  cases hb : word x
  · rw [healedI_no hb]
    exact implHealed_no x w hb
  · obtain ⟨n, rfl, hn⟩ := word_nat hb
    rw [healedI_nat hn]
    exact implHealed_nat n w hn hT
end Go.Proofs.YtceidhlcbbikcanGreatDoor
