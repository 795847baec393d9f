/- The walk of chapter 6's model: Solved, all of it. -/
import Derived.Test.YtbgjagmnpfcfaakSolveSpec2
namespace Go.Proofs.Ytbgjagmnpfcfaak
open Go.RowKit
set_option linter.unusedVariables false
set_option linter.unusedSimpArgs false
set_option maxRecDepth 100000

set_option maxHeartbeats 3200000 in
theorem specSolved_any (a : Option Addr) (n cap : Nat) (xss : List (List Int)) (a' : Option Addr) (n' cap' : Nat) (ys : List Int) (w : World) {lo hi lo' hi' : Nat} (h : Rows2 lo hi w a n xss) (h' : Ints lo' hi' w a' n' ys) (hn : n ≤ 1048576) (hn' : n' ≤ 1048576) (hxs : ∀ s ∈ xss, s.length ≤ 1048576) :
    Calls Try.prog 16 #[.slice a n cap, .slice a' n' cap'] w (SolvedTo xss ys w) := by
  obtain ⟨hl, A, C, ⟨hsz, hx⟩, hr⟩ := h
  have HL := hide hl
  have HR := hide hr
  have HX := hide hxs
  have HY := hide h'
  have HLY := hide h'.1
  have hsz' := h'.2.1
  clear hl hr hxs h'
  have HEM : Hid (OwnInts w.heap.size (w.alloc (.cells #[] 2)).heap.size (w.alloc (.cells #[] 2)) (some ⟨w.heap.size, 0, none⟩) 0 []) := ⟨rfl, Nat.le_refl _, fun h => absurd h (Nat.lt_irrefl _)⟩
  have HEB : Hid (Below w.heap.size w (w.alloc (.cells #[] 2))) := (Below.refl _ _).alloc (Nat.le_refl _) _
  by_cases h1 : 1 ≤ n
  · by_cases h8 : n ≤ 8
    · by_cases hnn : n' = n
      · subst hnn
        cases hey : elems ys
        · have HA : Hid (Answer xss ys [] false) := .inl ⟨by simp [rowsOk, hey], rfl, rfl⟩
          go_enter Try.func16, Try.ntmps16
          go_wp2_with fail
          refine (l6Elements_any _ _ _ _ _ HY.out hn).mono ?_
          rw [hey]
          rintro e w1 ⟨rfl, rfl⟩
          go_wp2_with fail
          go_ret2
          exact ⟨_, _, _, _, _, rfl, by omega, HEM.out, HA.out, HEB.out⟩
        · exact specSolved_main a n' cap xss a' cap' ys w ⟨HL.out, A, C, ⟨hsz, hx⟩, HR.out⟩ HY.out h1 h8 HX.out hey
      · have e1 : ((n' : Int) != (n : Int)) = true := by simp; omega
        have HA : Hid (Answer xss ys [] false) := .inl ⟨by simp [rowsOk, HL.out, HLY.out, hnn], rfl, rfl⟩
        go_enter Try.func16, Try.ntmps16
        go_wp2_with fail
        go_ret2
        exact ⟨_, _, _, _, _, rfl, by omega, HEM.out, HA.out, HEB.out⟩
    · have HA : Hid (Answer xss ys [] false) := .inl ⟨by simp [rowsOk, HL.out]; omega, rfl, rfl⟩
      go_enter Try.func16, Try.ntmps16
      go_wp2_with fail
      go_ret2
      exact ⟨_, _, _, _, _, rfl, by omega, HEM.out, HA.out, HEB.out⟩
  · have HA : Hid (Answer xss ys [] false) := .inl ⟨by simp [rowsOk, HL.out]; omega, rfl, rfl⟩
    go_enter Try.func16, Try.ntmps16
    go_wp2_with fail
    go_ret2
    exact ⟨_, _, _, _, _, rfl, by omega, HEM.out, HA.out, HEB.out⟩
end Go.Proofs.Ytbgjagmnpfcfaak
