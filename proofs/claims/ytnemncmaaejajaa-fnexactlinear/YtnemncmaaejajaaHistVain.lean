/- Chapter 19, plainly: a search that goes on from no standing in vain twice. -/
import Derived.Test.YtnemncmaaejajaaHistMap
namespace Go.Proofs.Ytnemncmaaejajaa
open Go.RowKit
set_option linter.unusedVariables false
set_option linter.unusedSimpArgs false

theorem firstS_map {g h : Nat → Option (List Int)} {t : List Int → List Int} : ∀ (d k : Nat), (∀ i, k ≤ i → i < k + d → g i = (h i).map t) → firstS g d k = (firstS h d k).map t
  | 0, _, _ => rfl
  | d + 1, k, e => by
    show (g k).orElse _ = ((h k).orElse _).map t
    rw [e k (Nat.le_refl _) (by omega)]
    cases h k with
    | some x => rfl
    | none => exact firstS_map d (k + 1) (fun i h1 h2 => e i (by omega) (by omega))
theorem srch_map (L : List O9) : ∀ (f : Nat) (us : List Bool) (vs : List ByteArray) (ps : List Int), srch L f us vs ps = (srch L f us vs []).map (ps ++ ·)
  | 0, _, _, _ => rfl
  | f + 1, us, vs, ps => by
    cases hs : stoodK L us L.length with
    | true => rw [srch_stood hs, srch_stood hs]; simp
    | false =>
      rw [srch_ask hs, srch_ask hs]
      refine firstS_map _ _ fun i _ _ => ?_
      unfold askS
      cases nx L us i vs with
      | false => rfl
      | true =>
        show srch L f _ _ (ps ++ [(i : Int)]) = (srch L f _ _ ([] ++ [(i : Int)])).map _
        rw [srch_map L f _ _ (ps ++ [(i : Int)]), srch_map L f _ _ ([] ++ [(i : Int)])]
        cases srch L f (us.set i true) (wrote L i vs) [] with
        | none => rfl
        | some x => simp
theorem srch_far (L : List O9) (us : List Bool) (vs : List ByteArray) (ps : List Int) (hl : us.length = L.length) : ∀ (d f : Nat), unstood us < f → srch L (f + d) us vs ps = srch L f us vs ps
  | 0, _, _ => rfl
  | d + 1, f, h => by rw [← Nat.add_assoc, srch_deep L (f + d) us vs ps hl (by omega), srch_far L us vs ps hl d f h]
/-- Nothing comes of it. -/
def Dead (L : List O9) (us : List Bool) (vs : List ByteArray) : Prop := ∀ f ps, unstood us < f → srch L f us vs ps = none
theorem dead_of {L : List O9} {us : List Bool} {vs : List ByteArray} {f : Nat} {ps : List Int} (hl : us.length = L.length) (hf : unstood us < f) (h : srch L f us vs ps = none) : Dead L us vs := by
  have h0 : srch L f us vs [] = none := by
    rw [srch_map] at h
    cases hs : srch L f us vs [] with
    | none => rfl
    | some x => rw [hs] at h; cases h
  intro f' ps' hf'
  rw [srch_map]
  have e : srch L f' us vs [] = srch L f us vs [] := by
    rw [← srch_far L us vs [] hl f' f hf, ← srch_far L us vs [] hl f f' hf', Nat.add_comm]
  rw [e, h0]; rfl
/-- A standing's numbers. -/
def keyB (L : List O9) (us : List Bool) (vs : List ByteArray) (F : SetS) : Bool := F (pb us : Int) (txtNo L (vs.getD 0 ByteArray.empty)) (txtNo L (vs.getD 1 ByteArray.empty)) (txtNo L (vs.getD 2 ByteArray.empty))
/-- From what is held nothing comes. -/
def VainOk (L : List O9) (F : SetS) : Prop := ∀ us vs, us.length = L.length → VsOk L vs → keyB L us vs F = true → Dead L us vs
theorem vain_none (L : List O9) : VainOk L (fun _ _ _ _ => false) := fun _ _ _ _ h => absurd h (by simp [keyB])
theorem vs_ext {vs vs' : List ByteArray} (h : vs.length = 3) (h' : vs'.length = 3) (e : ∀ a, a < 3 → vs.getD a ByteArray.empty = vs'.getD a ByteArray.empty) : vs = vs' := by
  apply List.ext_getElem (h.trans h'.symm)
  intro i h1 h2
  have := e i (by omega)
  rwa [List.getD_eq_getElem?_getD, List.getD_eq_getElem?_getD, List.getElem?_eq_getElem h1, List.getElem?_eq_getElem h2] at this
theorem VainOk.put {L : List O9} {F : SetS} (h : VainOk L F) {us : List Bool} {vs : List ByteArray} (hl : us.length = L.length) (hv : VsOk L vs) (hd : Dead L us vs) : VainOk L (putS F (pb us : Int) (txtNo L (vs.getD 0 ByteArray.empty)) (txtNo L (vs.getD 1 ByteArray.empty)) (txtNo L (vs.getD 2 ByteArray.empty))) := by
  intro us' vs' hl' hv' hk
  unfold keyB putS at hk
  split at hk
  · rename_i e
    have e1 : us' = us := pb_inj (hl'.trans hl.symm) (by exact_mod_cast e.1)
    have e2 : vs' = vs := vs_ext hv'.1 hv.1 fun a ha => by
      match a, ha with
      | 0, _ => exact txtNo_inj (hv'.2 0 (by omega)) (hv.2 0 (by omega)) e.2.1
      | 1, _ => exact txtNo_inj (hv'.2 1 (by omega)) (hv.2 1 (by omega)) e.2.2.1
      | 2, _ => exact txtNo_inj (hv'.2 2 (by omega)) (hv.2 2 (by omega)) e.2.2.2
    rw [e1, e2]; exact hd
  · exact h us' vs' hl' hv' hk
theorem txtNo_fit {L : List O9} {vs : List ByteArray} (hv : VsOk L vs) (hl : L.length ≤ 12) {a : Nat} (ha : a < 3) : (Lit.int .i64 (txtNo L (vs.getD a ByteArray.empty))).wf = true := by
  have hb : -1 ≤ txtNo L (vs.getD a ByteArray.empty) ∧ txtNo L (vs.getD a ByteArray.empty) < 12 := by
    unfold txtNo
    split
    · omega
    · rename_i hne
      obtain ⟨k, hk, _, e⟩ := idxT_of ((hv.2 a ha).resolve_left hne)
      omega
  generalize txtNo L (vs.getD a ByteArray.empty) = x at *
  have hmin : IntKind.i64.min = -9223372036854775808 := by decide
  have hmax : IntKind.i64.max = 9223372036854775807 := by decide
  simp [Lit.wf]
  omega
theorem pb_fit {us : List Bool} (hu : us.length ≤ 12) : (Lit.int .i64 (pb us : Int)).wf = true := by
  have := pb_small hu
  generalize pb us = x at *
  have hmin : IntKind.i64.min = -9223372036854775808 := by decide
  have hmax : IntKind.i64.max = 9223372036854775807 := by decide
  simp [Lit.wf]
  omega
theorem fit_of {L : List O9} {us : List Bool} {vs : List ByteArray} (hv : VsOk L vs) (hl : L.length ≤ 12) (hu : us.length = L.length) : FitS (pb us : Int) (txtNo L (vs.getD 0 ByteArray.empty)) (txtNo L (vs.getD 1 ByteArray.empty)) (txtNo L (vs.getD 2 ByteArray.empty)) :=
  ⟨pb_fit (by omega), txtNo_fit hv hl (by omega), txtNo_fit hv hl (by omega), txtNo_fit hv hl (by omega)⟩
end Go.Proofs.Ytnemncmaaejajaa
