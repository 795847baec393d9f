/- Chapter 14, plainly. A Put is told as a Job is: three cells: Seq, At, Text. -/
import Derived.Test.YthldcfiemfccpaaDoorRTextBase
import Derived.Test.YthldcfiemfccpaaDoorRInfo
namespace Go.Proofs.YthldcfiemfccpaaDoor
open Go.RowKit
set_option linter.unusedVariables false

def putOk (p : Jb) : Bool := inB p.1 1 1000000 && (inB p.2.1 0 63 && decide (p.2.2.size ≤ 24))
/-- The first k Puts are right, each Seq 1 more than the one ahead. -/
def putsOk (ps : List Jb) : Nat → Bool
  | 0 => true
  | k + 1 => putsOk ps k && (putOk (jbAt ps k) && (decide (k = 0) || decide ((jbAt ps k).1 = (jbAt ps (k - 1)).1 + 1)))
def logOk (rm : Int) (ps : List Jb) : Bool := inB rm 1 20 && (decide ((ps.length : Int) ≤ rm) && putsOk ps ps.length)
/-- The first k Puts are right, each by itself. -/
def putsAll (ps : List Jb) : Nat → Bool
  | 0 => true
  | k + 1 => putsAll ps k && putOk (jbAt ps k)
theorem putsAll_no {ps : List Jb} {k : Nat} (h : putsAll ps k = false) : ∀ d, putsAll ps (k + d) = false
  | 0 => h
  | d + 1 => by
    show putsAll ps ((k + d) + 1) = false
    unfold putsAll
    rw [putsAll_no h d]; rfl
theorem putsAll_at {ps : List Jb} {k : Nat} (h : putsAll ps k = true) : ∀ {i : Nat}, i < k → putOk (jbAt ps i) = true := by
  induction k with
  | zero => intro i hi; omega
  | succ k ih =>
    intro i hi
    unfold putsAll at h
    simp only [Bool.and_eq_true] at h
    rcases Nat.lt_or_ge i k with h1 | h1
    · exact ih h.1 h1
    · rw [show i = k by omega]; exact h.2
/-- Each of the first k has the Seq behind the one ahead of it. -/
def rowOk (ps : List Jb) : Nat → Bool
  | 0 => true
  | k + 1 => rowOk ps k && (decide (k = 0) || decide ((jbAt ps k).1 = (jbAt ps (k - 1)).1 + 1))
theorem rowOk_no {ps : List Jb} {k : Nat} (h : rowOk ps k = false) : ∀ d, rowOk ps (k + d) = false
  | 0 => h
  | d + 1 => by
    show rowOk ps ((k + d) + 1) = false
    unfold rowOk
    rw [rowOk_no h d]; rfl
theorem putsOk_two (ps : List Jb) : ∀ k, putsOk ps k = (putsAll ps k && rowOk ps k)
  | 0 => rfl
  | k + 1 => by
    unfold putsOk putsAll rowOk
    rw [putsOk_two ps k]
    cases putsAll ps k <;> cases rowOk ps k <;> cases putOk (jbAt ps k) <;> simp
def lastSeq (ps : List Jb) : Int := (jbAt ps (ps.length - 1)).1
def mayAdd (rm : Int) (ps : List Jb) (p : Jb) : Bool := logOk rm ps && (putOk p && (decide (ps.length = 0) || decide (p.1 = lastSeq ps + 1)))
def addedF (rm : Int) (ps : List Jb) (p : Jb) : List Jb := if (ps.length : Int) = rm then (ps ++ [p]).drop 1 else ps ++ [p]
/-- What Added answers: its Room, its Items. -/
def addR (rm : Int) (ps : List Jb) (p : Jb) : Int × List Jb := if mayAdd rm ps p then (rm, addedF rm ps p) else (0, [])
theorem addR_no {rm : Int} {ps : List Jb} {p : Jb} (h : mayAdd rm ps p = false) : addR rm ps p = (0, []) := by unfold addR; rw [h]; rfl
theorem addR_yes {rm : Int} {ps : List Jb} {p : Jb} (h : mayAdd rm ps p = true) : addR rm ps p = (rm, addedF rm ps p) := by unfold addR; rw [h]; rfl
theorem logOk_len {rm : Int} {ps : List Jb} (h : logOk rm ps = true) : 1 ≤ rm ∧ rm ≤ 20 ∧ (ps.length : Int) ≤ rm := by
  unfold logOk inB at h
  simp at h
  omega
theorem putsOk_at {ps : List Jb} {k : Nat} (h : putsOk ps k = true) : ∀ {i : Nat}, i < k → putOk (jbAt ps i) = true := by
  induction k with
  | zero => intro i hi; omega
  | succ k ih =>
    intro i hi
    unfold putsOk at h
    simp only [Bool.and_eq_true] at h
    rcases Nat.lt_or_ge i k with h1 | h1
    · exact ih h.1 h1
    · rw [show i = k by omega]; exact h.2.1
theorem logOk_at {rm : Int} {ps : List Jb} (h : logOk rm ps = true) {i : Nat} (hi : i < ps.length) : putOk (jbAt ps i) = true := by
  unfold logOk at h
  simp only [Bool.and_eq_true] at h
  exact putsOk_at h.2.2 hi
theorem putOk_in {p : Jb} (h : putOk p = true) : 1 ≤ p.1 ∧ p.1 ≤ 1000000 ∧ 0 ≤ p.2.1 ∧ p.2.1 ≤ 63 ∧ p.2.2.size ≤ 24 := by
  unfold putOk inB at h
  simp at h
  omega
def hasSince (rm : Int) (ps : List Jb) (s : Int) : Bool := logOk rm ps && (decide (ps.length ≠ 0) && (decide (0 ≤ s) && (decide ((jbAt ps 0).1 ≤ s + 1) && decide (s ≤ lastSeq ps))))
def sinceF (ps : List Jb) (s : Int) : List Jb := ps.drop (s + 1 - (jbAt ps 0).1).toNat
theorem putsOk_first {ps : List Jb} {k : Nat} (h : putsOk ps k = true) : ∀ {i : Nat}, i < k → (jbAt ps i).1 = (jbAt ps 0).1 + i := by
  induction k with
  | zero => intro i hi; omega
  | succ k ih =>
    intro i hi
    unfold putsOk at h
    simp only [Bool.and_eq_true, Bool.or_eq_true, decide_eq_true_eq] at h
    rcases Nat.lt_or_ge i k with h1 | h1
    · exact ih h.1 h1
    · obtain rfl : i = k := by omega
      rcases h.2.2 with h2 | h2
      · subst h2; simp
      · rcases Nat.eq_zero_or_pos i with h3 | h3
        · subst h3; simp
        · rw [h2, ih h.1 (show i - 1 < i by omega)]; omega
theorem logOk_last {rm : Int} {ps : List Jb} (h : logOk rm ps = true) (h1 : 1 ≤ ps.length) : lastSeq ps - (jbAt ps 0).1 ≤ ps.length - 1 ∧ lastSeq ps ≤ 1000000 := by
  have ho := h
  unfold logOk at h
  simp only [Bool.and_eq_true] at h
  have e := putsOk_first h.2.2 (show ps.length - 1 < ps.length by omega)
  have := putOk_in (logOk_at ho (show ps.length - 1 < ps.length by omega))
  unfold lastSeq
  omega
def sinceR (rm : Int) (ps : List Jb) (s : Int) : List Jb := if hasSince rm ps s then sinceF ps s else []
theorem sinceR_no {rm : Int} {ps : List Jb} {s : Int} (h : hasSince rm ps s = false) : sinceR rm ps s = [] := by unfold sinceR; rw [h]; rfl
theorem sinceR_yes {rm : Int} {ps : List Jb} {s : Int} (h : hasSince rm ps s = true) : sinceR rm ps s = sinceF ps s := by unfold sinceR; rw [h]; rfl
def behindI (rm : Int) (ps : List Jb) (s : Int) : Int := if hasSince rm ps s then ((sinceF ps s).length : Int) else -1
/-- The first k Puts may be played over m values. -/
def playOk (m : Nat) (ps : List Jb) : Nat → Bool
  | 0 => true
  | k + 1 => playOk m ps k && (putOk (jbAt ps k) && decide ((jbAt ps k).2.1 < (m : Int)))
theorem playOk_no {m : Nat} {ps : List Jb} {k : Nat} (h : playOk m ps k = false) : ∀ d, playOk m ps (k + d) = false
  | 0 => h
  | d + 1 => by
    show playOk m ps ((k + d) + 1) = false
    unfold playOk
    rw [playOk_no h d]; rfl
def atsOk (m : Nat) (ps : List Jb) : Nat → Bool
  | 0 => true
  | k + 1 => atsOk m ps k && decide ((jbAt ps k).2.1 < (m : Int))
theorem atsOk_no {m : Nat} {ps : List Jb} {k : Nat} (h : atsOk m ps k = false) : ∀ d, atsOk m ps (k + d) = false
  | 0 => h
  | d + 1 => by
    show atsOk m ps ((k + d) + 1) = false
    unfold atsOk
    rw [atsOk_no h d]; rfl
theorem playOk_two (m : Nat) (ps : List Jb) : ∀ k, playOk m ps k = (putsAll ps k && atsOk m ps k)
  | 0 => rfl
  | k + 1 => by
    unfold playOk putsAll atsOk
    rw [playOk_two m ps k]
    cases putsAll ps k <;> cases atsOk m ps k <;> cases putOk (jbAt ps k) <;> simp
/-- What the values are behind the first k Puts. -/
def playL (ts : List ByteArray) (ps : List Jb) : Nat → List ByteArray
  | 0 => ts
  | k + 1 => (playL ts ps k).set (jbAt ps k).2.1.toNat (jbAt ps k).2.2
theorem playL_len (ts : List ByteArray) (ps : List Jb) : ∀ k, (playL ts ps k).length = ts.length
  | 0 => rfl
  | k + 1 => by show ((playL ts ps k).set _ _).length = _; rw [List.length_set, playL_len ts ps k]
/-- The first k texts are short. -/
def shortAll (ts : List ByteArray) : Nat → Bool
  | 0 => true
  | k + 1 => shortAll ts k && decide ((ts.getD k ByteArray.empty).size ≤ 24)
theorem shortAll_no {ts : List ByteArray} {k : Nat} (h : shortAll ts k = false) : ∀ d, shortAll ts (k + d) = false
  | 0 => h
  | d + 1 => by
    show shortAll ts ((k + d) + 1) = false
    unfold shortAll
    rw [shortAll_no h d]; rfl
def valuesOk (ts : List ByteArray) : Bool := decide (ts.length ≤ 64) && shortAll ts ts.length
def mayPlay (ts : List ByteArray) (ps : List Jb) : Bool := valuesOk ts && playOk ts.length ps ps.length
def playR (ts : List ByteArray) (ps : List Jb) : List ByteArray := if mayPlay ts ps then playL ts ps ps.length else []
theorem playR_no {ts : List ByteArray} {ps : List Jb} (h : mayPlay ts ps = false) : playR ts ps = [] := by unfold playR; rw [h]; rfl
theorem playR_yes {ts : List ByteArray} {ps : List Jb} (h : mayPlay ts ps = true) : playR ts ps = playL ts ps ps.length := by unfold playR; rw [h]; rfl
def mayCatch (rm : Int) (ps : List Jb) (ts : List ByteArray) (s : Int) : Bool := hasSince rm ps s && mayPlay ts (sinceF ps s)
def catchR (rm : Int) (ps : List Jb) (ts : List ByteArray) (s : Int) : List ByteArray := if mayCatch rm ps ts s then playL ts (sinceF ps s) (sinceF ps s).length else []
def catchI (rm : Int) (ps : List Jb) (ts : List ByteArray) (s : Int) : Int := if mayCatch rm ps ts s then lastSeq ps else -1
end Go.Proofs.YthldcfiemfccpaaDoor
