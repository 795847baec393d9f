/- Chapter 19: the search for the first order, plainly. -/
import Derived.Test.YtnemncmaaejajaaHistNext
namespace Go.Proofs.Ytnemncmaaejajaa
open Go.RowKit
set_option linter.unusedVariables false
set_option linter.unusedSimpArgs false

/-- Does everything that ended stand (of the first k)? -/
def stoodK (L : List O9) (us : List Bool) : Nat → Bool
  | 0 => true
  | k + 1 => stoodK L us k && (us.getD k false || decide ((o9At L k).e < 0))
/-- The first answer of d askings from k on. -/
def firstS (g : Nat → Option (List Int)) : Nat → Nat → Option (List Int)
  | 0, _ => none
  | d + 1, k => (g k).orElse fun _ => firstS g d (k + 1)
/-- What the cells hold behind the i-th. -/
def wrote (L : List O9) (i : Nat) (vs : List ByteArray) : List ByteArray := if (o9At L i).w then vs.set (o9At L i).a.toNat (o9At L i).t else vs
/-- The search, f deep. -/
def srch (L : List O9) : Nat → List Bool → List ByteArray → List Int → Option (List Int)
  | 0, _, _, _ => none
  | f + 1, us, vs, ps => if stoodK L us L.length then some ps else firstS (fun i => if nx L us i vs then srch L f (us.set i true) (wrote L i vs) (ps ++ [(i : Int)]) else none) L.length 0
/-- How many do not stand yet. -/
def unstood (us : List Bool) : Nat := us.count false

theorem firstS_same {g h : Nat → Option (List Int)} : ∀ (d k : Nat), (∀ i, k ≤ i → i < k + d → g i = h i) → firstS g d k = firstS h d k
  | 0, _, _ => rfl
  | d + 1, k, e => by
    show (g k).orElse _ = (h k).orElse _
    rw [e k (Nat.le_refl _) (by omega), firstS_same d (k + 1) (fun i h1 h2 => e i (by omega) (by omega))]
theorem firstS_skip {g : Nat → Option (List Int)} {d k : Nat} (h : g k = none) : firstS g (d + 1) k = firstS g d (k + 1) := by
  show (g k).orElse _ = _; rw [h]; rfl
theorem firstS_hit {g : Nat → Option (List Int)} {d k : Nat} {r : List Int} (h : g k = some r) : firstS g (d + 1) k = some r := by
  show (g k).orElse _ = _; rw [h]; rfl
theorem stoodK_no {L : List O9} {us : List Bool} {k : Nat} (h : stoodK L us k = false) : ∀ d, stoodK L us (k + d) = false
  | 0 => h
  | d + 1 => by show (stoodK L us (k + d) && _) = false; rw [stoodK_no h d]; rfl
theorem nx_un {L : List O9} {us : List Bool} {i : Nat} {vs : List ByteArray} (h : nx L us i vs = true) : us.getD i false = false := by
  unfold nx at h
  cases hq : us.getD i false with
  | false => rfl
  | true => rw [hq] at h; exact absurd h (by simp)
theorem unstood_set : ∀ {us : List Bool} {i : Nat}, i < us.length → us.getD i false = false → unstood (us.set i true) + 1 = unstood us
  | [], _, h, _ => absurd h (by simp)
  | b :: us, 0, _, h => by
    have hb : b = false := by simpa using h
    subst hb
    simp [unstood]
  | b :: us, i + 1, h, hf => by
    have := unstood_set (us := us) (i := i) (by simpa using h) (by simpa using hf)
    simp only [unstood, List.set_cons_succ, List.count_cons] at this ⊢
    omega
/-- Deeper than there are that do not stand: nothing more is found. -/
theorem srch_deep (L : List O9) : ∀ (f : Nat) (us : List Bool) (vs : List ByteArray) (ps : List Int), us.length = L.length → unstood us < f → srch L (f + 1) us vs ps = srch L f us vs ps
  | 0, _, _, _, _, h => absurd h (by omega)
  | f + 1, us, vs, ps, hu, h => by
    show (if stoodK L us L.length then some ps else firstS _ L.length 0) = (if stoodK L us L.length then some ps else firstS _ L.length 0)
    cases stoodK L us L.length with
    | true => rfl
    | false =>
      show firstS _ L.length 0 = firstS _ L.length 0
      apply firstS_same
      intro i _ hi
      cases hn : nx L us i vs with
      | false => rfl
      | true =>
        show srch L (f + 1) _ _ _ = srch L f _ _ _
        have := unstood_set (us := us) (i := i) (by omega) (nx_un hn)
        exact srch_deep L f _ _ _ (by rw [List.length_set]; exact hu) (by omega)
/-- One asking of the search. -/
def askS (L : List O9) (f : Nat) (us : List Bool) (vs : List ByteArray) (ps : List Int) (i : Nat) : Option (List Int) := if nx L us i vs then srch L f (us.set i true) (wrote L i vs) (ps ++ [(i : Int)]) else none
theorem srch_stood {L : List O9} {f : Nat} {us : List Bool} {vs : List ByteArray} {ps : List Int} (h : stoodK L us L.length = true) : srch L (f + 1) us vs ps = some ps := by
  show (if stoodK L us L.length then some ps else _) = _; rw [h]; rfl
theorem srch_ask {L : List O9} {f : Nat} {us : List Bool} {vs : List ByteArray} {ps : List Int} (h : stoodK L us L.length = false) : srch L (f + 1) us vs ps = firstS (askS L f us vs ps) L.length 0 := by
  show (if stoodK L us L.length then some ps else _) = _; rw [h]; rfl
/-- The cells as they were, once the i-th's write is taken back. -/
theorem wrote_back {L : List O9} {i : Nat} {vs : List ByteArray} (h : (o9At L i).a.toNat < vs.length) : (wrote L i vs).set (o9At L i).a.toNat (vs.getD (o9At L i).a.toNat ByteArray.empty) = vs := by
  have hb : vs.set (o9At L i).a.toNat (vs.getD (o9At L i).a.toNat ByteArray.empty) = vs := by
    rw [List.getD_eq_getElem?_getD, List.getElem?_eq_getElem h]; simp
  unfold wrote
  split
  · rw [List.set_set]; exact hb
  · exact hb
theorem used_back {us : List Bool} {i : Nat} (h : i < us.length) (hf : us.getD i false = false) : (us.set i true).set i false = us := by
  rw [List.set_set]
  have he : us[i] = false := by rw [List.getD_eq_getElem?_getD, List.getElem?_eq_getElem h] at hf; simpa using hf
  rw [← he]; simp
end Go.Proofs.Ytnemncmaaejajaa
