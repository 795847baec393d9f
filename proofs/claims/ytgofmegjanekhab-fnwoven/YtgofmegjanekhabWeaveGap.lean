/- The least distance of numbers, plainly: the least gap of the sorted numbers. Nothing of Go's text here. -/
import Derived.Test.YtgofmegjanekhabWeaveMath
namespace Go.Proofs.Ytgofmegjanekhab
namespace Wv
/-- The least of the first k + 1 gaps. -/
def gap (l : List Int) : Nat → Int
  | 0 => l.getD 1 0 - l.getD 0 0
  | k + 1 => min (gap l k) (l.getD (k + 2) 0 - l.getD (k + 1) 0)
theorem le_gap {l : List Int} {B : Int} : ∀ {k : Nat}, B ≤ gap l k ↔ ∀ i, i ≤ k → B ≤ l.getD (i + 1) 0 - l.getD i 0
  | 0 => ⟨fun h i hi => by obtain rfl : i = 0 := by omega
                           exact h, fun h => h 0 (Nat.le_refl _)⟩
  | k + 1 => by
    unfold gap
    have ih := le_gap (l := l) (B := B) (k := k)
    constructor
    · intro h i hi
      rcases Nat.lt_or_ge i (k + 1) with h' | h'
      · exact ih.1 (by omega) i (by omega)
      · obtain rfl : i = k + 1 := by omega
        show B ≤ l.getD (k + 2) 0 - l.getD (k + 1) 0
        omega
    · intro h
      have h1 := ih.2 fun i hi => h i (by omega)
      have h2 : B ≤ l.getD (k + 2) 0 - l.getD (k + 1) 0 := h (k + 1) (Nat.le_refl _)
      omega
/-- Two numbers are B apart, or more. -/
def Far (B x y : Int) : Prop := B ≤ x - y ∨ B ≤ y - x
theorem Far.symm {B x y : Int} (h : Far B x y) : Far B y x := Or.symm h
theorem up_at {l : List Int} (h : l.Pairwise (· ≤ ·)) {i j : Nat} (hij : i ≤ j) (hj : j < l.length) : l.getD i 0 ≤ l.getD j 0 := by
  rcases Nat.lt_or_ge i j with h' | h'
  · rw [List.getD_eq_getElem?_getD, List.getD_eq_getElem?_getD, List.getElem?_eq_getElem hj, List.getElem?_eq_getElem (by omega)]
    exact List.pairwise_iff_getElem.1 h i j (by omega) hj h'
  · obtain rfl : i = j := by omega
    exact Int.le_refl _
theorem far_of_gap {l : List Int} (h : l.Pairwise (· ≤ ·)) {k : Nat} (hk : l.length = k + 2) {B : Int} (hB : B ≤ gap l k) : l.Pairwise (Far B) := by
  rw [List.pairwise_iff_getElem]
  intro i j hi hj hij
  have h1 := le_gap.1 hB i (by omega)
  have h2 := up_at h (show i + 1 ≤ j by omega) hj
  rw [List.getD_eq_getElem?_getD, List.getD_eq_getElem?_getD, List.getElem?_eq_getElem hj, List.getElem?_eq_getElem (by omega)] at h2
  rw [List.getD_eq_getElem?_getD, List.getD_eq_getElem?_getD, List.getElem?_eq_getElem hi, List.getElem?_eq_getElem (by omega)] at h1
  simp only [Option.getD_some] at h1 h2
  exact .inr (by omega)
theorem gap_of_far {l : List Int} (h : l.Pairwise (· ≤ ·)) {k : Nat} (hk : l.length = k + 2) {B : Int} (hB : l.Pairwise (Far B)) : B ≤ gap l k := by
  rw [le_gap]
  intro i hi
  have h1 := List.pairwise_iff_getElem.1 hB i (i + 1) (by omega) (by omega) (by omega)
  have h2 := up_at h (show i ≤ i + 1 by omega) (by omega)
  rw [List.getD_eq_getElem?_getD, List.getD_eq_getElem?_getD, List.getElem?_eq_getElem (by omega), List.getElem?_eq_getElem (by omega)] at h2 ⊢
  simp only [Option.getD_some] at h2 ⊢
  rcases h1 with h1 | h1 <;> omega
theorem nearK_at (n d a i best : Nat) : ∀ m k, a ≤ k → k < a + m → nearK n d a i best m ≤ dist (num n d i) (num n d k)
  | 0, k, h1, h2 => by omega
  | m + 1, k, h1, h2 => by
    unfold nearK
    rcases Nat.lt_or_ge k (a + m) with h | h
    · exact Nat.le_trans (Nat.min_le_left _ _) (nearK_at n d a i best m k h1 h)
    · obtain rfl : k = a + m := by omega
      exact Nat.min_le_right _ _
theorem nearN_at (n d a : Nat) : ∀ m i k, a ≤ k → k < i → i < a + m → nearN n d a m ≤ dist (num n d i) (num n d k)
  | 0, i, k, h1, h2, h3 => by omega
  | m + 1, i, k, h1, h2, h3 => by
    unfold nearN
    rcases Nat.lt_or_ge i (a + m) with h | h
    · exact Nat.le_trans (nearK_le _ _ _ _ _ m) (nearN_at n d a m i k h1 h2 h)
    · obtain rfl : i = a + m := by omega
      exact nearK_at n d a (a + m) _ m k h1 h2
/-- The numbers from which the m bytes from a on come. -/
def nums (n d a m : Nat) : List Int := (List.range m).map fun i => (num n d (a + i) : Int)
theorem nums_length (n d a m : Nat) : (nums n d a m).length = m := by simp [nums]
theorem nums_far {n d a m : Nat} {B : Int} : (nums n d a m).Pairwise (Far B) ↔ ∀ i k, k < i → i < m → Far B (num n d (a + k) : Int) (num n d (a + i) : Int) := by
  rw [List.pairwise_iff_getElem]
  constructor
  · intro h i k h1 h2
    have := h k i (by rw [nums_length]; omega) (by rw [nums_length]; omega) h1
    simpa [nums] using this
  · intro h k i h1 h2 h3
    rw [nums_length] at h2
    have := h i k h3 h2
    simpa [nums] using this
theorem far_dist {B x y : Nat} : Far (B : Int) (x : Int) (y : Int) ↔ B ≤ dist y x := by
  unfold Far dist
  omega
/-- The least gap of the sorted numbers is the least distance. -/
theorem gap_near {n d a k : Nat} {l : List Int} (hd : 0 < d) (ha : a + (k + 2) ≤ n) (hp : l.Perm (nums n d a (k + 2))) (hu : l.Pairwise (· ≤ ·)) : gap l k = (nearN n d a (k + 2) : Int) := by
  have hl : l.length = k + 2 := by rw [hp.length_eq, nums_length]
  have hpw : ∀ B : Int, l.Pairwise (Far B) ↔ (nums n d a (k + 2)).Pairwise (Far B) := fun B => hp.pairwise_iff (fun h => h.symm)
  have hge : (nearN n d a (k + 2) : Int) ≤ gap l k := by
    refine gap_of_far hu hl ((hpw _).2 (nums_far.2 fun i j h1 h2 => far_dist.2 ?_))
    exact nearN_at n d a (k + 2) (a + i) (a + j) (by omega) (by omega) (by omega)
  have hbd : ∀ i, i < l.length → 0 ≤ l.getD i 0 ∧ l.getD i 0 < (n : Int) := by
    intro i hi
    have hm : l.getD i 0 ∈ nums n d a (k + 2) := by
      rw [List.getD_eq_getElem?_getD, List.getElem?_eq_getElem hi]
      exact hp.mem_iff.1 (List.getElem_mem hi)
    obtain ⟨j, hj, e⟩ := List.mem_map.1 hm
    rw [List.mem_range] at hj
    have := num_lt (n := n) (d := d) (k := a + j) hd (by omega)
    omega
  have hle : gap l k ≤ (nearN n d a (k + 2) : Int) := by
    obtain ⟨B, hB⟩ : ∃ B : Nat, gap l k = (B : Int) := ⟨(gap l k).toNat, by omega⟩
    rw [hB]
    have h0 := le_gap.1 (Int.le_refl (gap l k)) 0 (Nat.zero_le _)
    have h1 := hbd 0 (by omega)
    have h2 := hbd 1 (by omega)
    simp only [Nat.zero_add] at h0
    have hf := (hpw (B : Int)).1 (far_of_gap hu hl (by omega))
    have := nearN_ge (n := n) (d := d) (a := a) (B := B) (by omega) (k + 2) fun i j h3 h4 h5 => by
      have := far_dist.1 (nums_far.1 hf (i - a) (j - a) (by omega) (by omega))
      rwa [show a + (i - a) = i by omega, show a + (j - a) = j by omega] at this
    omega
  omega
end Wv
end Go.Proofs.Ytgofmegjanekhab
