/- The walks of chapter 4's program: Spread, Odd, Healed. -/
import Derived.Test.YtldcgjilafibkaiHamImpl1
import Derived.Deep.RegionHeld3
namespace Go.Proofs.Ytldcgjilafibkai
open Go.RowKit
set_option linter.unusedVariables false
set_option maxRecDepth 20000

theorem word_out {x : Int} (h : word x = false) : x < 0 ∨ 8192 ≤ x := by
  simp [word, inB] at h
  omega
/-- What askWord answers: of a word what is asked, else -1. -/
theorem askWord_no (x : Int) (f : Value) (w : World) (h : word x = false) :
    Calls Try.prog 22 #[.int .i64 x, f] w fun e w' => e = .returned (.int .i64 (-1)) ∧ w = w' := by
  have hout := word_out h
  clear h
  by_cases h0 : x < 0
  · clear hout
    go_enter Try.func22, Try.ntmps22
    go_wp2_with fail
    go_ret
    exact ⟨rfl, rfl⟩
  · have h1 : (8192 : Int) ≤ x := by omega
    clear hout
    go_enter Try.func22, Try.ntmps22
    go_wp2_with fail
    go_ret
    exact ⟨rfl, rfl⟩
theorem askOdd_nat (n : Nat) (w : World) (hn : n < 8192) :
    Calls Try.prog 22 #[.int .i64 (n : Int), .func (.func 23) #[] #[]] w fun e w' => e = .returned (.int .i64 (Ham.odd n : Int)) ∧ w = w' := by
  have h1 : decide ((8192 : Int) ≤ (n : Int)) = false := by simp; omega
  have h0 : decide ((n : Int) < 0) = false := by simp
  go_enter Try.func22, Try.ntmps22
  go_wp2_with fail
  refine (cwOdd_any n w (by omega)).mono ?_
  rintro e w1 ⟨rfl, rfl⟩
  go_wp2_with fail
  go_ret
  exact ⟨rfl, rfl⟩
theorem implOdd_any (x : Int) (w : World) :
    Calls Try.prog 14 #[.int .i64 x] w fun e w' => e = .returned (.int .i64 (oddI x)) ∧ Below w.heap.size w w' := by
  cases hb : word x
  · have HE := hide (oddI_no hb)
    have HB := hide hb
    clear hb
    go_enter Try.func14, Try.ntmps14
    go_wp2_with fail
    refine (askWord_no x _ w HB.out).mono ?_
    rintro e w1 ⟨rfl, rfl⟩
    go_wp2_with fail
    go_ret
    exact ⟨ret_i64 HE.out.symm, Below.refl _ _⟩
  · obtain ⟨n, rfl, hn⟩ := word_nat hb
    have HE := hide (oddI_nat hn)
    have HN := hide hn
    clear hb hn
    go_enter Try.func14, Try.ntmps14
    go_wp2_with fail
    refine (askOdd_nat n w HN.out).mono ?_
    rintro e w1 ⟨rfl, rfl⟩
    go_wp2_with fail
    go_ret
    exact ⟨ret_i64 HE.out.symm, Below.refl _ _⟩

end Go.Proofs.Ytldcgjilafibkai
