/- Chapter 9, plainly: maps of Places, live pages, squares by their wipes. Nothing of Go's text here. -/
import Derived.Test.YtceidhlcbbikcamPlaceBase
import Derived.Test.YtceidhlcbbikcamChipOkS
namespace Go.Proofs.Ytceidhlcbbikcam
open Go.RowKit
set_option linter.unusedVariables false

/-- Is it a page there? -/
def plThere (qs : List Sq) (p : Pl) : Bool := inB p.1 0 ((qs.length : Int) - 1) && inB p.2 0 (((sqAt qs p.1.toNat).1.length : Int) - 1)
def plOk (qs : List Sq) (ps : List Pl) (i : Nat) : Bool := (plAt ps i == (-1, 0)) || (plThere qs (plAt ps i) && (List.range i).all (fun k => plAt ps k != plAt ps i))
def mapOk (z : Int) (qs : List Sq) (ps : List Pl) : Bool := chipOk z qs && (decide (1 ≤ ps.length) && (decide (ps.length ≤ 64) && (List.range ps.length).all (plOk qs ps)))
theorem mapOk_chip {z : Int} {qs : List Sq} {ps : List Pl} (h : mapOk z qs ps = true) : chipOk z qs = true := by
  unfold mapOk at h; simp only [Bool.and_eq_true] at h; exact h.1
theorem mapOk_len {z : Int} {qs : List Sq} {ps : List Pl} (h : mapOk z qs ps = true) : 1 ≤ ps.length ∧ ps.length ≤ 64 := by
  unfold mapOk at h; simp only [Bool.and_eq_true, decide_eq_true_eq] at h; exact ⟨h.2.1, h.2.2.1⟩
theorem mapOk_fall {z : Int} {qs : List Sq} {ps : List Pl} {i : Nat} (h : i < ps.length) (hf : plOk qs ps i = false) : mapOk z qs ps = false := by
  have : (List.range ps.length).all (plOk qs ps) = false := by
    rw [List.all_eq_false]
    exact ⟨i, List.mem_range.2 h, by simp [hf]⟩
  unfold mapOk; rw [this]; simp
theorem all_range_step {f : Nat → Bool} {k : Nat} (h : (List.range k).all f = true) (hk : f k = true) : (List.range (k + 1)).all f = true := by
  rw [List.range_succ, List.all_append, h]; simp [hk]
theorem all_range_fall {f : Nat → Bool} {k n : Nat} (h : k < n) (hk : f k = false) : (List.range n).all f = false := by
  rw [List.all_eq_false]; exact ⟨k, List.mem_range.2 h, by simp [hk]⟩
/-- How many lie in a Square. -/
def liveN (ps : List Pl) (s : Int) : Nat := (ps.filter (fun p => p.1 == s)).length
theorem liveN_step {ps : List Pl} {k : Nat} (h : k < ps.length) (s : Int) : liveN (ps.take (k + 1)) s = liveN (ps.take k) s + (if (plAt ps k).1 == s then 1 else 0) := by
  unfold liveN plAt
  rw [List.take_succ_eq_append_getElem h, List.filter_append, List.length_append, List.getD_eq_getElem?_getD, List.getElem?_eq_getElem h]
  simp only [Option.getD_some, List.filter_cons, List.filter_nil]
  split <;> simp_all
theorem liveN_le (ps : List Pl) (s : Int) : liveN ps s ≤ ps.length := List.length_filter_le _ _
def live (z : Int) (qs : List Sq) (ps : List Pl) (s : Int) : Int := if mapOk z qs ps && inB s 0 ((qs.length : Int) - 1) then (liveN ps s : Int) else -1
/-- The room of Squares that are not Bad. -/
def freeK (z : Int) (qs : List Sq) (k : Nat) : Int := ((qs.take k).map fun q => if q.2.2 then 0 else z - (q.1.length : Int)).sum
theorem freeK_step {z : Int} {qs : List Sq} {k : Nat} (h : k < qs.length) : freeK z qs (k + 1) = freeK z qs k + (if (sqAt qs k).2.2 then 0 else z - ((sqAt qs k).1.length : Int)) := by
  unfold freeK sqAt
  rw [List.take_succ_eq_append_getElem h, List.map_append, List.sum_append, List.getD_eq_getElem?_getD, List.getElem?_eq_getElem h]
  simp
def free (z : Int) (qs : List Sq) : Int := if chipOk z qs then freeK z qs qs.length else -1
/-- The least and the greatest wipes of the first k Squares that are not Bad. -/
def leastK (qs : List Sq) : Nat → Int
  | 0 => -1
  | k + 1 => if (sqAt qs k).2.2 then leastK qs k else if leastK qs k < 0 ∨ (sqAt qs k).2.1 < leastK qs k then (sqAt qs k).2.1 else leastK qs k
def mostK (qs : List Sq) : Nat → Int
  | 0 => -1
  | k + 1 => if (sqAt qs k).2.2 then mostK qs k else if (sqAt qs k).2.1 < mostK qs k then mostK qs k else (sqAt qs k).2.1
def worn (z : Int) (qs : List Sq) : Int × Int := if chipOk z qs then (leastK qs qs.length, mostK qs qs.length) else (-1, -1)
/-- Is a Square without Pages and not Bad? -/
def isEmpty (q : Sq) : Bool := (q.1.length == 0) && !q.2.2
/-- i comes behind all that have no more wipes. -/
def insW (qs : List Sq) (i : Nat) : List Nat → List Nat
  | [] => [i]
  | j :: js => if (sqAt qs j).2.1 ≤ (sqAt qs i).2.1 then j :: insW qs i js else i :: j :: js
def emptyK (qs : List Sq) : Nat → List Nat
  | 0 => []
  | k + 1 => if isEmpty (sqAt qs k) then insW qs k (emptyK qs k) else emptyK qs k
def emptyL (z : Int) (qs : List Sq) : List Int := if chipOk z qs then (emptyK qs qs.length).map (fun (i : Nat) => (i : Int)) else []
/-- The victim among the first k Squares, as the model walks. -/
def mayV (qs : List Sq) (op : Int) (i : Nat) : Bool := !((sqAt qs i).1.length == 0) && (!(sqAt qs i).2.2 && !((i : Int) == op))
def betterV (qs : List Sq) (ps : List Pl) (i b : Nat) : Bool := decide (liveN ps (i : Int) < liveN ps (b : Int)) || (decide (liveN ps (i : Int) = liveN ps (b : Int)) && decide ((sqAt qs i).2.1 < (sqAt qs b).2.1))
def bestK (qs : List Sq) (ps : List Pl) (op : Int) : Nat → Option Nat
  | 0 => none
  | k + 1 => if mayV qs op k then (match bestK qs ps op k with | none => some k | some b => if betterV qs ps k b then some k else some b) else bestK qs ps op k
def victimV (z : Int) (qs : List Sq) (ps : List Pl) (op : Int) : Int :=
  match bestK qs ps op qs.length with
  | none => -1
  | some b => if (liveN ps (b : Int) : Int) = z then -1 else (b : Int)
def victim (z : Int) (qs : List Sq) (ps : List Pl) (op : Int) : Int := if mapOk z qs ps then victimV z qs ps op else -1
theorem bestK_lt {qs : List Sq} {ps : List Pl} {op : Int} : ∀ {k b : Nat}, bestK qs ps op k = some b → b < k
  | 0, b, h => by cases h
  | k + 1, b, h => by
    unfold bestK at h
    split at h
    · split at h
      · cases h; omega
      · rename_i c hc
        have := bestK_lt hc
        split at h
        · cases h; omega
        · cases h; omega
    · have := bestK_lt h; omega
theorem insW_length (qs : List Sq) (i : Nat) : ∀ l, (insW qs i l).length = l.length + 1
  | [] => rfl
  | j :: js => by
    unfold insW
    split
    · simp [insW_length qs i js]
    · rfl
theorem emptyK_length (qs : List Sq) : ∀ k, (emptyK qs k).length ≤ k
  | 0 => Nat.le_refl _
  | k + 1 => by
    have := emptyK_length qs k
    unfold emptyK
    split
    · rw [insW_length]; omega
    · omega
theorem insW_mem (qs : List Sq) (i : Nat) : ∀ l x, x ∈ insW qs i l ↔ x = i ∨ x ∈ l
  | [], x => by simp [insW]
  | j :: js, x => by
    unfold insW
    split
    · rw [List.mem_cons, insW_mem qs i js, List.mem_cons]
      constructor
      · rintro (h | h | h) <;> simp [h]
      · rintro (h | h | h) <;> simp [h]
    · simp
theorem emptyK_mem (qs : List Sq) : ∀ k x, x ∈ emptyK qs k ↔ x < k ∧ isEmpty (sqAt qs x) = true
  | 0, x => by simp [emptyK]
  | k + 1, x => by
    unfold emptyK
    split
    · rename_i h
      rw [insW_mem, emptyK_mem qs k]
      constructor
      · rintro (rfl | ⟨h1, h2⟩)
        · exact ⟨by omega, h⟩
        · exact ⟨by omega, h2⟩
      · rintro ⟨h1, h2⟩
        by_cases e : x = k
        · exact .inl e
        · exact .inr ⟨by omega, h2⟩
    · rename_i h
      rw [emptyK_mem qs k]
      constructor
      · rintro ⟨h1, h2⟩; exact ⟨by omega, h2⟩
      · rintro ⟨h1, h2⟩
        refine ⟨?_, h2⟩
        by_cases e : x = k
        · subst e; exact absurd h2 h
        · omega
/-- One comes ahead of another: less wipes, or as many and the lesser number. -/
def aheadW (qs : List Sq) (i j : Nat) : Prop := (sqAt qs i).2.1 < (sqAt qs j).2.1 ∨ (sqAt qs i).2.1 = (sqAt qs j).2.1 ∧ i < j
theorem insW_sorted (qs : List Sq) (i : Nat) : ∀ l, List.Pairwise (aheadW qs) l → (∀ x ∈ l, x < i) → List.Pairwise (aheadW qs) (insW qs i l)
  | [], _, _ => by simp [insW]
  | j :: js, h, hl => by
    unfold insW
    rw [List.pairwise_cons] at h
    split
    · rename_i hle
      rw [List.pairwise_cons]
      refine ⟨fun x hx => ?_, insW_sorted qs i js h.2 (fun x hx => hl x (by simp [hx]))⟩
      rw [insW_mem] at hx
      rcases hx with rfl | hx
      · have hj := hl j (by simp)
        rcases Int.lt_or_eq_of_le hle with h1 | h1
        · exact .inl h1
        · exact .inr ⟨h1, hj⟩
      · exact h.1 x hx
    · rename_i hle
      rw [List.pairwise_cons]
      refine ⟨fun x hx => ?_, by rw [List.pairwise_cons]; exact h⟩
      have hij : (sqAt qs i).2.1 < (sqAt qs j).2.1 := by omega
      rw [List.mem_cons] at hx
      rcases hx with rfl | hx
      · exact .inl hij
      · rcases h.1 x hx with h1 | h1
        · exact .inl (by omega)
        · exact .inl (by omega)
theorem emptyK_sorted (qs : List Sq) : ∀ k, List.Pairwise (aheadW qs) (emptyK qs k)
  | 0 => by simp [emptyK]
  | k + 1 => by
    unfold emptyK
    split
    · exact insW_sorted qs k _ (emptyK_sorted qs k) (fun x hx => ((emptyK_mem qs k x).1 hx).1)
    · exact emptyK_sorted qs k
theorem aheadW_asymm {qs : List Sq} {i j : Nat} (h : aheadW qs i j) (k : aheadW qs j i) : False := by
  unfold aheadW at h k; omega
/-- The one list of the empty Squares that is by wipes. -/
theorem sorted_one {qs : List Sq} : ∀ {l m : List Nat}, List.Pairwise (aheadW qs) l → List.Pairwise (aheadW qs) m → (∀ x, x ∈ l ↔ x ∈ m) → l = m
  | [], [], _, _, _ => rfl
  | [], b :: m, _, _, h => absurd ((h b).2 (by simp)) (by simp)
  | a :: l, [], _, _, h => absurd ((h a).1 (by simp)) (by simp)
  | a :: l, b :: m, hl, hm, h => by
    rw [List.pairwise_cons] at hl hm
    have e : a = b := by
      have h1 := (h a).1 (by simp)
      have h2 := (h b).2 (by simp)
      rw [List.mem_cons] at h1 h2
      rcases h1 with h1 | h1
      · exact h1
      · rcases h2 with h2 | h2
        · exact h2.symm
        · exact (aheadW_asymm (hl.1 b h2) (hm.1 a h1)).elim
    subst e
    have na : a ∉ l := fun hh => aheadW_asymm (hl.1 a hh) (hl.1 a hh)
    have nb : a ∉ m := fun hh => aheadW_asymm (hm.1 a hh) (hm.1 a hh)
    rw [sorted_one hl.2 hm.2 (fun x => by
      have := h x
      simp only [List.mem_cons] at this
      constructor
      · intro hx
        rcases this.1 (.inr hx) with e | e
        · subst e; exact absurd hx na
        · exact e
      · intro hx
        rcases this.2 (.inr hx) with e | e
        · subst e; exact absurd hx nb
        · exact e)]
end Go.Proofs.Ytceidhlcbbikcam
