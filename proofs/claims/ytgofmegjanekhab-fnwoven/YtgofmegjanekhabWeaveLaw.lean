/- Plain facts of weaving, as the law asks them. -/
import Derived.Test.YtgofmegjanekhabWeaveSpec2
namespace Go.Proofs.Ytgofmegjanekhab
open Go.RowKit
set_option linter.unusedVariables false

theorem str_size (l : List UInt8) : (str l).size = l.length := rfl
theorem str_list (s : ByteArray) : str s.data.toList = s := by cases s; simp [str]
theorem woven_size (s : ByteArray) (d : Int) : (woven s d).size ≤ s.size := by
  unfold woven
  split
  · rw [str_size, Wv.wovenL_length]; simp
  · show 0 ≤ _; omega
theorem unwoven_size (s : ByteArray) (d : Int) : (unwoven s d).size ≤ s.size := by
  unfold unwoven
  split
  · rw [str_size, Wv.unwovenL_length]; simp
  · show 0 ≤ _; omega
theorem woveOk_of {s : ByteArray} {d : Int} (h1 : 1 ≤ d) (h2 : d ≤ 16) (h3 : s.size ≤ 600) : woveOk s d = true := by simp [woveOk, inB]; omega
theorem woveOk_out {s : ByteArray} {d : Int} (h : ¬ (1 ≤ d ∧ d ≤ 16 ∧ s.size ≤ 600)) : woveOk s d = false := by
  cases hb : woveOk s d
  · rfl
  · exact absurd (by simp [woveOk, inB] at hb; omega) h
theorem unwoven_woven {s : ByteArray} {d : Int} (h1 : 1 ≤ d) (h2 : d ≤ 16) (h3 : s.size ≤ 600) : unwoven (woven s d) d = s := by
  obtain ⟨D, rfl, hD, _⟩ := woveOk_yes (woveOk_of h1 h2 h3)
  have hz : (woven s (D : Int)).size ≤ 600 := Nat.le_trans (woven_size s D) h3
  rw [unwoven_yes (woveOk_of h1 h2 hz), woven_yes (woveOk_of h1 h2 h3)]
  show str (Wv.unwovenL (Wv.wovenL s.data.toList D) D) = s
  rw [Wv.unwoven_woven _ hD, str_list]
theorem woven_unwoven {s : ByteArray} {d : Int} (h1 : 1 ≤ d) (h2 : d ≤ 16) (h3 : s.size ≤ 600) : woven (unwoven s d) d = s := by
  obtain ⟨D, rfl, hD, _⟩ := woveOk_yes (woveOk_of h1 h2 h3)
  have hz : (unwoven s (D : Int)).size ≤ 600 := Nat.le_trans (unwoven_size s D) h3
  rw [woven_yes (woveOk_of h1 h2 hz), unwoven_yes (woveOk_of h1 h2 h3)]
  show str (Wv.wovenL (Wv.unwovenL s.data.toList D) D) = s
  rw [Wv.woven_unwoven _ hD, str_list]
theorem woven_one {s : ByteArray} (h3 : s.size ≤ 600) : woven s 1 = s := by
  have := woven_yes (D := 1) (woveOk_of (s := s) (d := ((1 : Nat) : Int)) (by omega) (by omega) h3)
  rw [Wv.woven_one, str_list] at this
  exact this
/-- What is near: -1, or at least 1, and far enough where no more stand beside one another than a row has. -/
theorem near_cases (s : ByteArray) (d a n : Int) : nearI s d a n = -1 ∨ (1 ≤ d ∧ d ≤ 16 ∧ 1 ≤ nearI s d a n ∧ (n ≤ (s.size : Int) / d → d - 1 ≤ nearI s d a n)) := by
  cases h : nearOk s d a n
  · exact .inl (nearI_no h)
  · refine .inr ?_
    have h' := h
    simp [nearOk, inB] at h
    obtain ⟨hw, ⟨h1, h2⟩, h3, h4⟩ := h
    obtain ⟨D, rfl, hD1, hD16, _⟩ := woveOk_yes hw
    obtain ⟨A, rfl⟩ := Int.eq_ofNat_of_zero_le h3
    obtain ⟨N, rfl⟩ := Int.eq_ofNat_of_zero_le (show 0 ≤ n by omega)
    rw [nearI_yes h']
    refine ⟨by omega, by omega, ?_, fun hN => ?_⟩
    · have := Wv.near_one (n := s.size) (d := D) (a := A) (m := N) hD1 (by omega) (by omega)
      omega
    · have := Wv.near_far (n := s.size) (d := D) (a := A) (m := N) hD1 (by omega) (by omega) (by
        have h5 : ((s.size : Int) / (D : Int)) = ((s.size / D : Nat) : Int) := by simp
        rw [h5] at hN
        omega)
      omega
theorem near_bd (s : ByteArray) (d a n : Int) (h : s.size ≤ 600) : nearI s d a n ≤ 600 := by
  unfold nearI
  split
  · have := Wv.nearN_le s.size d.toNat a.toNat n.toNat
    omega
  · omega
end Go.Proofs.Ytgofmegjanekhab
