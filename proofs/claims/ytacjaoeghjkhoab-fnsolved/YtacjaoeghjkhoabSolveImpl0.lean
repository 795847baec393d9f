/- The walks of chapter 6's program: are all elements, is it a system. -/
import Derived.Test.YtacjaoeghjkhoabSolveBase
import Derived.Test.YtacjaoeghjkhoabFieldImpl
namespace Go.Proofs.Ytacjaoeghjkhoab
open Go.RowKit
set_option linter.unusedVariables false
set_option linter.unusedSimpArgs false
set_option maxRecDepth 20000

set_option maxHeartbeats 400000 in
theorem areElements_any (a : Option Addr) (n cap : Nat) (xs : List Int) (w : World) {lo hi : Nat} (h : Ints lo hi w a n xs) (hn : n ≤ 1048576) :
    Calls Try.prog 79 #[.slice a n cap] w fun e w' => e = .returned (.bool (elems xs)) ∧ w = w' := by
  obtain ⟨hl, hsz, hx⟩ := h
  have HL := hide hl
  clear hl
  go_enter Try.func79, Try.ntmps79
  go_wp2_with fail
  go_loop [7, 4] (fun i _ => ∃ k : Nat, k ≤ n ∧ i = .int .i64 k ∧ ∀ j, j < k → elem (xs.getD j 0) = true) (fun i _ => n - (intOf i).toNat)
  case atStart => exact ⟨0, Nat.zero_le _, rfl, fun j hj => absurd hj (by omega)⟩
  case round =>
    obtain ⟨k, hk, rfl, hall⟩ := hrel
    have HA := hide hall
    clear hall
    by_cases hlt : k < n
    · obtain ⟨b, off, rfl, _, hb, hc⟩ := hx (by omega)
      have hck : w.cell? ⟨b, off + k, none⟩ = some (.int .i64 (xs.getD k 0)) := hc k hlt
      cases he : elem (xs.getD k 0)
      · have HN : Hid (elems xs = false) := by
          show _ = _
          cases e : elems xs
          · rfl
          · have := elems_iff.1 e k (by rw [HL.out]; exact hlt)
            rw [he] at this; cases this
        clear hc hx
        generalize xs.getD k 0 = x at hck he
        go_wp2_with fail
        refine (isElement_any _ _).mono ?_
        rw [he]
        rintro e w1 ⟨rfl, rfl⟩
        go_wp2_with fail
        go_ret
        exact ⟨ret_bool HN.out.symm, rfl⟩
      · have HY : Hid (∀ j, j < k + 1 → elem (xs.getD j 0) = true) := by
          intro j hj
          rcases Nat.lt_or_ge j k with h' | h'
          · exact HA.out j h'
          · obtain rfl : j = k := by omega
            exact he
        clear hc hx
        generalize xs.getD k 0 = x at hck he
        go_wp2_with fail
        refine (isElement_any _ _).mono ?_
        rw [he]
        rintro e w1 ⟨rfl, rfl⟩
        go_wp2_with fail
        exact ⟨⟨k + 1, by omega, by go_num, HY.out⟩, by simp [intOf]; omega⟩
    · have HY : Hid (elems xs = true) := elems_iff.2 (fun j hj => HA.out j (by rw [HL.out] at hj; omega))
      go_wp2_with fail
      go_ret
      exact ⟨ret_bool HY.out.symm, rfl⟩

theorem rowsOk_iff {xss : List (List Int)} {ys : List Int} {n : Nat} (hl : xss.length = n) : rowsOk xss ys = true ↔ (1 ≤ n ∧ n ≤ 8 ∧ ys.length = n ∧ elems ys = true ∧ ∀ i, i < n → rowOk n (xss.getD i []) = true) := by
  simp only [rowsOk, Bool.and_eq_true, decide_eq_true_eq, hl, List.all_eq_true]
  constructor
  · rintro ⟨h1, h2, h3, h4, h5⟩
    exact ⟨h1, h2, h3, h4, fun i hi => h5 _ (getR_mem (show i < xss.length by omega))⟩
  · rintro ⟨h1, h2, h3, h4, h5⟩
    refine ⟨h1, h2, h3, h4, fun xs hxs => ?_⟩
    obtain ⟨i, hi, e⟩ := List.getElem_of_mem hxs
    have := h5 i (by omega)
    rw [List.getD_eq_getElem?_getD, List.getElem?_eq_getElem hi, Option.getD_some, e] at this
    exact this
theorem rowsOk_no {xss : List (List Int)} {ys : List Int} {n : Nat} (hl : xss.length = n) (h : ¬ (1 ≤ n ∧ n ≤ 8 ∧ ys.length = n ∧ elems ys = true ∧ ∀ i, i < n → rowOk n (xss.getD i []) = true)) : rowsOk xss ys = false := by
  cases e : rowsOk xss ys
  · rfl
  · exact absurd ((rowsOk_iff hl).1 e) h
set_option maxHeartbeats 800000 in
theorem isSystem_any (a : Option Addr) (n cap : Nat) (xss : List (List Int)) (a' : Option Addr) (n' cap' : Nat) (ys : List Int) (w : World) {lo hi lo' hi' : Nat} (h : Rows2 lo hi w a n xss) (h' : Ints lo' hi' w a' n' ys) (hn : n ≤ 1048576) (hn' : n' ≤ 1048576) (hxs : ∀ s ∈ xss, s.length ≤ 1048576) :
    Calls Try.prog 65 #[.slice a n cap, .slice a' n' cap'] w fun e w' => e = .returned (.bool (rowsOk xss ys)) ∧ w = w' := by
  obtain ⟨hl, A, C, ⟨hsz, hx⟩, hr⟩ := h
  have HL := hide hl
  have HR := hide hr
  have HX := hide hxs
  have HY := hide h'
  have HLY := hide h'.1
  clear hl hr hxs h'
  by_cases h1 : 1 ≤ n
  · by_cases h8 : n ≤ 8
    · by_cases hnn : n' = n
      · subst hnn
        cases hey : elems ys
        · have HN : Hid (rowsOk xss ys = false) := rowsOk_no HL.out (by rw [hey]; simp)
          go_enter Try.func65, Try.ntmps65
          go_wp2_with fail
          refine (areElements_any _ _ _ _ _ HY.out hn).mono ?_
          rw [hey]
          rintro e w1 ⟨rfl, rfl⟩
          go_wp2_with fail
          go_ret
          exact ⟨ret_bool HN.out.symm, rfl⟩
        · obtain ⟨b, off, rfl, _, hb, hc⟩ := hx (by omega)
          have HC := hide hc
          have HEY := hide hey
          clear hx hc
          go_enter Try.func65, Try.ntmps65
          go_wp2_with fail
          refine (areElements_any _ _ _ _ _ HY.out hn).mono ?_
          rw [hey]
          rintro e w1 ⟨rfl, rfl⟩
          clear hey
          go_wp2_with fail
          go_loop [29, 7] (fun i _ => ∃ k : Nat, k ≤ n' ∧ i = .int .i64 k ∧ ∀ j, j < k → rowOk n' (xss.getD j []) = true) (fun i _ => n' - (intOf i).toNat)
          case atStart => exact ⟨0, Nat.zero_le _, rfl, fun j hj => absurd hj (by omega)⟩
          case round =>
            obtain ⟨k, hk, rfl, hall⟩ := hrel
            have HA := hide hall
            clear hall
            by_cases hlt : k < n'
            · have hck : w.cell? ⟨b, off + k, none⟩ = some (.slice (A k) (xss.getD k []).length (C k)) := HC.out k hlt
              have hik := HR.out k hlt
              have hzk := HX.out _ (getR_mem (show k < xss.length by rw [HL.out]; exact hlt))
              have HIK := hide hik
              obtain ⟨z, hz⟩ : ∃ z, z = (xss.getD k []).length := ⟨_, rfl⟩
              rw [← hz] at hck hzk
              have HIZ : Hid (Ints lo hi w (A k) z (xss.getD k [])) := by have := HIK.out; rw [← hz] at this; exact this
              have HZ := hide hz
              clear hik HIK hz
              generalize A k = p at hck HIZ
              generalize C k = cp at hck
              by_cases hzn : z = n'
              · have e0 : ((z : Int) != (n' : Int)) = false := by simp; omega
                cases hel : elems (xss.getD k [])
                · have HN : Hid (rowsOk xss ys = false) := rowsOk_no HL.out (fun h => by have := h.2.2.2.2 k hlt; rw [rowOk_e hel] at this; cases this)
                  clear hzn
                  go_wp2_with fail
                  refine (areElements_any _ _ _ _ _ HIZ.out (by omega)).mono ?_
                  rw [hel]
                  rintro e w1 ⟨rfl, rfl⟩
                  go_wp2_with fail
                  go_ret
                  exact ⟨ret_bool HN.out.symm, rfl⟩
                · have HY2 : Hid (∀ j, j < k + 1 → rowOk n' (xss.getD j []) = true) := by
                    intro j hj
                    rcases Nat.lt_or_ge j k with h' | h'
                    · exact HA.out j h'
                    · obtain rfl : j = k := by omega
                      exact rowOk_y (HZ.out.symm.trans hzn) hel
                  clear hzn
                  go_wp2_with fail
                  refine (areElements_any _ _ _ _ _ HIZ.out (by omega)).mono ?_
                  rw [hel]
                  rintro e w1 ⟨rfl, rfl⟩
                  go_wp2_with fail
                  exact ⟨⟨k + 1, by omega, by go_num, HY2.out⟩, by simp [intOf]; omega⟩
              · have e0 : ((z : Int) != (n' : Int)) = true := by simp; omega
                have HN : Hid (rowsOk xss ys = false) := rowsOk_no HL.out (fun h => by have := h.2.2.2.2 k hlt; rw [rowOk_l (fun e => hzn (HZ.out.trans e))] at this; cases this)
                go_wp2_with fail
                go_ret
                exact ⟨ret_bool HN.out.symm, rfl⟩
            · have HY2 : Hid (rowsOk xss ys = true) := (rowsOk_iff HL.out).2 ⟨h1, h8, HLY.out, HEY.out, fun j hj => HA.out j (by omega)⟩
              go_wp2_with fail
              go_ret
              exact ⟨ret_bool HY2.out.symm, rfl⟩
      · have e1 : ((n' : Int) != (n : Int)) = true := by simp; omega
        have HN : Hid (rowsOk xss ys = false) := rowsOk_no HL.out (by rw [HLY.out]; omega)
        go_enter Try.func65, Try.ntmps65
        go_wp2_with fail
        go_ret
        exact ⟨ret_bool HN.out.symm, rfl⟩
    · have HN : Hid (rowsOk xss ys = false) := rowsOk_no HL.out (by omega)
      go_enter Try.func65, Try.ntmps65
      go_wp2_with fail
      go_ret
      exact ⟨ret_bool HN.out.symm, rfl⟩
  · have HN : Hid (rowsOk xss ys = false) := rowsOk_no HL.out (by omega)
    go_enter Try.func65, Try.ntmps65
    go_wp2_with fail
    go_ret
    exact ⟨ret_bool HN.out.symm, rfl⟩
end Go.Proofs.Ytacjaoeghjkhoab
