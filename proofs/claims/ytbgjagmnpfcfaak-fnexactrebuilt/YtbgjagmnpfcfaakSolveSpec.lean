/- Chapter 6's model: are all elements; a matrix in memory. -/
import Derived.Test.YtbgjagmnpfcfaakTextBase
import Derived.Test.YtbgjagmnpfcfaakFieldSpec
import Derived.Test.YtbgjagmnpfcfaakSolveMath
import Derived.Deep.QuietTactic
import Derived.BigQuiet
import Derived.Deep.RegionWith
namespace Go.Proofs.Ytbgjagmnpfcfaak
open Go.RowKit
set_option linter.unusedVariables false
set_option linter.unusedSimpArgs false
set_option maxRecDepth 20000

def elems (xs : List Int) : Bool := xs.all elem
theorem getI_mem {xs : List Int} {k : Nat} (h : k < xs.length) : xs.getD k 0 ∈ xs := by
  rw [List.getD_eq_getElem?_getD, List.getElem?_eq_getElem h]; exact List.getElem_mem _
theorem elems_iff {xs : List Int} : elems xs = true ↔ ∀ k, k < xs.length → elem (xs.getD k 0) = true := by
  unfold elems
  rw [List.all_eq_true]
  constructor
  · intro h k hk; exact h _ (getI_mem hk)
  · intro h s hs
    obtain ⟨k, hk, e⟩ := List.getElem_of_mem hs
    have := h k hk
    rwa [List.getD_eq_getElem?_getD, List.getElem?_eq_getElem hk, Option.getD_some, e] at this
theorem elems_no {xs : List Int} {k : Nat} (hk : k < xs.length) (h : elem (xs.getD k 0) = false) : elems xs = false := by
  cases e : elems xs
  · rfl
  · have := elems_iff.1 e k hk
    rw [h] at this; cases this

set_option maxHeartbeats 400000 in
theorem l6Elements_any (a : Option Addr) (n cap : Nat) (xs : List Int) (w : World) {lo hi : Nat} (h : Ints lo hi w a n xs) (hn : n ≤ 1048576) :
    Calls Try.prog 46 #[.slice a n cap] w fun e w' => e = .returned (.bool (elems xs)) ∧ w = w' := by
  obtain ⟨hl, hsz, hx⟩ := h
  have HL := hide hl
  clear hl
  go_enter Try.func46, Try.ntmps46
  go_wp2_with fail
  go_loop [3] (fun i => ∃ k : Nat, k ≤ n ∧ i = .int .i64 k ∧ ∀ j, j < k → elem (xs.getD j 0) = true) (fun i => n - (intOf i).toNat)
  case atStart => exact ⟨0, Nat.zero_le _, rfl, fun j hj => absurd hj (by omega)⟩
  case round =>
    obtain ⟨k, hk, rfl, hall⟩ := hrel
    have HA := hide hall
    clear hall
    by_cases hlt : k < n
    · obtain ⟨b, off, rfl, _, hb, hc⟩ := hx (by omega)
      have hck : w.cell? ⟨b, off + k, none⟩ = some (.int .i64 (xs.getD k 0)) := hc k hlt
      have HNO : Hid (elem (xs.getD k 0) = false → elems xs = false) := fun h => elems_no (by rw [HL.out]; exact hlt) h
      have HYES : Hid (elem (xs.getD k 0) = true → ∀ j, j < k + 1 → elem (xs.getD j 0) = true) := by
        intro h j hj
        rcases Nat.lt_or_ge j k with h' | h'
        · exact HA.out j h'
        · obtain rfl : j = k := by omega
          exact h
      clear hc hx HA
      generalize xs.getD k 0 = z at *
      cases hz : inB z 0 255
      · have HN := hide (HNO.out hz)
        go_wp2_with fail
        refine (l2Ok_any _ _).mono ?_
        rw [hz]
        rintro e w1 ⟨rfl, rfl⟩
        go_wp2_with fail
        go_ret
        exact ⟨ret_bool HN.out.symm, rfl⟩
      · have HY := hide (HYES.out hz)
        go_wp2_with fail
        refine (l2Ok_any _ _).mono ?_
        rw [hz]
        rintro e w1 ⟨rfl, rfl⟩
        go_wp2_with fail
        go_round
        case rel => exact ⟨k + 1, by omega, by go_num, HY.out⟩
        case measure => simp [intOf]; omega
    · have HY : Hid (elems xs = true) := elems_iff.2 (fun j hj => HA.out j (by rw [HL.out] at hj; omega))
      go_wp2_with fail
      go_ret
      exact ⟨ret_bool HY.out.symm, rfl⟩

/-- A matrix in memory: the rows' slices in block g, row i's numbers in block P i; all of one's own, no two alike. -/
structure MatIs (base n : Nat) (w : World) (g : Nat) (P C : Nat → Nat) (m : Nat → Nat → Nat) : Prop where
  outer : ∀ i, i < n → w.cell? ⟨g, i, none⟩ = some (.slice (some ⟨P i, 0, none⟩) (n + 1) (C i))
  outerF : ∀ i, i < n → w.frozen? ⟨g, i, none⟩ = false
  cell : ∀ i, i < n → ∀ k, k < n + 1 → w.cell? ⟨P i, k, none⟩ = some (.int .i64 (m i k : Int))
  cellF : ∀ i, i < n → ∀ k, k < n + 1 → w.frozen? ⟨P i, k, none⟩ = false
  inj : ∀ i j, i < n → j < n → P i = P j → i = j
  apart : ∀ i, i < n → P i ≠ g
  low : base ≤ g ∧ ∀ i, i < n → base ≤ P i
section
variable {base n g : Nat} {w : World} {P C : Nat → Nat} {m m' : Nat → Nat → Nat}
theorem MatIs.drewN (h : MatIs base n w g P C m) (q : Nat) : MatIs base n (w.drewN q) g P C m := ⟨h.outer, h.outerF, h.cell, h.cellF, h.inj, h.apart, h.low⟩
theorem MatIs.congr (h : MatIs base n w g P C m) (e : ∀ i, i < n → ∀ k, k < n + 1 → m i k = m' i k) : MatIs base n w g P C m' :=
  ⟨h.outer, h.outerF, fun i hi k hk => by rw [← e i hi k hk]; exact h.cell i hi k hk, h.cellF, h.inj, h.apart, h.low⟩
/-- A number is written. -/
theorem MatIs.set (h : MatIs base n w g P C m) {i k : Nat} (hi : i < n) (hk : k < n + 1) (v : Nat) : MatIs base n (w.setCell ⟨P i, k, none⟩ (.int .i64 (v : Int))) g P C (fun a b => if a = i ∧ b = k then v else m a b) := by
  refine ⟨fun j hj => ?_, fun j hj => ?_, fun j hj l hl => ?_, fun j hj l hl => ?_, h.inj, h.apart, h.low⟩
  · rw [World.cell?_setCell_other _ _ _ _ (by intro e; simp only [Addr.mk.injEq] at e; exact h.apart i hi (by omega))]
    exact h.outer j hj
  · rw [World.frozen?_setCell]; exact h.outerF j hj
  · by_cases e : j = i ∧ l = k
    · obtain ⟨rfl, rfl⟩ := e
      simp only [and_self, if_true]
      exact World.cell?_setCell_same _ _ _ (h.cell j hj l hl)
    · rw [if_neg e, World.cell?_setCell_other _ _ _ _ (by
        intro e'
        simp only [Addr.mk.injEq, and_true] at e'
        by_cases e1 : j = i
        · subst e1; exact e ⟨rfl, by omega⟩
        · exact e1 (h.inj j i hj hi (by omega)))]
      exact h.cell j hj l hl
  · rw [World.frozen?_setCell]; exact h.cellF j hj l hl
/-- Two rows change places. -/
theorem MatIs.swap (h : MatIs base n w g P C m) {p q : Nat} (hp : p < n) (hq : q < n) :
    MatIs base n ((w.setCell ⟨g, p, none⟩ (.slice (some ⟨P q, 0, none⟩) (n + 1) (C q))).setCell ⟨g, q, none⟩ (.slice (some ⟨P p, 0, none⟩) (n + 1) (C p))) g
      (fun i => if i = p then P q else if i = q then P p else P i) (fun i => if i = p then C q else if i = q then C p else C i) (Sv.swap m p q) := by
  have hcell : ∀ i, i < n → ∀ k, ((w.setCell ⟨g, p, none⟩ (.slice (some ⟨P q, 0, none⟩) (n + 1) (C q))).setCell ⟨g, q, none⟩ (.slice (some ⟨P p, 0, none⟩) (n + 1) (C p))).cell? ⟨P i, k, none⟩ = w.cell? ⟨P i, k, none⟩ := by
    intro i hi k
    rw [World.cell?_setCell_other _ _ _ _ (by intro e; simp only [Addr.mk.injEq] at e; exact h.apart i hi (by omega)), World.cell?_setCell_other _ _ _ _ (by intro e; simp only [Addr.mk.injEq] at e; exact h.apart i hi (by omega))]
  refine ⟨fun i hi => ?_, fun i hi => ?_, fun i hi k hk => ?_, fun i hi k hk => ?_, fun i j hi hj e => ?_, fun i hi => ?_, h.low.1, fun i hi => ?_⟩
  · by_cases e1 : i = q
    · subst e1
      have h2 : (w.setCell ⟨g, p, none⟩ (.slice (some ⟨P i, 0, none⟩) (n + 1) (C i))).cell? ⟨g, i, none⟩ = some (if i = p then (.slice (some ⟨P i, 0, none⟩) (n + 1) (C i)) else (.slice (some ⟨P i, 0, none⟩) (n + 1) (C i))) := by
        by_cases e2 : i = p
        · subst e2; simp only [if_true]; exact World.cell?_setCell_same _ _ _ (h.outer i hi)
        · rw [if_neg e2, World.cell?_setCell_other _ _ _ _ (by intro e; simp only [Addr.mk.injEq] at e; omega)]; exact h.outer i hi
      rw [World.cell?_setCell_same _ _ _ h2]
      by_cases e2 : i = p
      · subst e2; simp
      · simp [e2]
    · rw [World.cell?_setCell_other _ _ _ _ (by intro e; simp only [Addr.mk.injEq] at e; omega)]
      by_cases e2 : i = p
      · subst e2
        simp only [if_true]
        exact World.cell?_setCell_same _ _ _ (h.outer i hi)
      · rw [World.cell?_setCell_other _ _ _ _ (by intro e; simp only [Addr.mk.injEq] at e; omega), if_neg e2, if_neg e1, if_neg e2, if_neg e1]
        exact h.outer i hi
  · rw [World.frozen?_setCell, World.frozen?_setCell]; exact h.outerF i hi
  · unfold Sv.swap
    by_cases e1 : i = p
    · rw [if_pos e1, if_pos e1, hcell q hq]; exact h.cell q hq k hk
    · by_cases e2 : i = q
      · rw [if_neg e1, if_pos e2, if_neg e1, if_pos e2, hcell p hp]; exact h.cell p hp k hk
      · rw [if_neg e1, if_neg e2, if_neg e1, if_neg e2, hcell i hi]; exact h.cell i hi k hk
  · rw [World.frozen?_setCell, World.frozen?_setCell]
    by_cases e1 : i = p
    · rw [if_pos e1]; exact h.cellF q hq k hk
    · by_cases e2 : i = q
      · rw [if_neg e1, if_pos e2]; exact h.cellF p hp k hk
      · rw [if_neg e1, if_neg e2]; exact h.cellF i hi k hk
  · by_cases e1 : i = p
    · rw [if_pos e1] at e
      by_cases f1 : j = p
      · omega
      · by_cases f2 : j = q
        · rw [if_neg f1, if_pos f2] at e; have := h.inj q p hq hp e; omega
        · rw [if_neg f1, if_neg f2] at e; have := h.inj q j hq hj e; omega
    · by_cases e2 : i = q
      · rw [if_neg e1, if_pos e2] at e
        by_cases f1 : j = p
        · rw [if_pos f1] at e; have := h.inj p q hp hq e; omega
        · by_cases f2 : j = q
          · omega
          · rw [if_neg f1, if_neg f2] at e; have := h.inj p j hp hj e; omega
      · rw [if_neg e1, if_neg e2] at e
        by_cases f1 : j = p
        · rw [if_pos f1] at e; have := h.inj i q hi hq e; omega
        · by_cases f2 : j = q
          · rw [if_neg f1, if_pos f2] at e; have := h.inj i p hi hp e; omega
          · rw [if_neg f1, if_neg f2] at e; exact h.inj i j hi hj e
  · split
    · exact h.apart q hq
    · split
      · exact h.apart p hp
      · exact h.apart i hi
  · split
    · exact h.low.2 q hq
    · split
      · exact h.low.2 p hp
      · exact h.low.2 i hi
end
end Go.Proofs.Ytbgjagmnpfcfaak
