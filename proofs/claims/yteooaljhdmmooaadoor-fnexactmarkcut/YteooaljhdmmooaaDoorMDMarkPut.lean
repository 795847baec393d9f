/- Chapter 13, plainly: the slot that a mark comes into. -/
import Derived.Test.YteooaljhdmmooaaDoorMDMarkImplA
import Derived.Test.YteooaljhdmmooaaDoorMDTextBase
namespace Go.Proofs.YteooaljhdmmooaaDoor
open Go.RowKit

def intoV (o : Option Nat) : Int := match o with | some k => (k : Int) | none => -1
theorem newest_at {l : List ByteArray} {m : Mk} {k : Nat} (h : newestF l = some (m, k)) : k = 0 ∨ k = 1 := by
  unfold newestF at h
  split at h
  · split at h
    · revert h
      generalize readM _ = x
      generalize readM _ = y
      intro h
      unfold newM at h
      split at h
      · split at h <;> (injection h with h; injection h with h1 h2; omega)
      · injection h with h; injection h with h1 h2; omega
      · injection h with h; injection h with h1 h2; omega
      · cases h
    · cases h
  · cases h
theorem into_at {l : List ByteArray} {m : Mi} {k : Nat} (h : intoF l m = some k) : slotsOk l = true ∧ miIn m = true ∧ l.length = 2 ∧ k < 2 := by
  unfold intoF at h
  split at h
  · rename_i hc
    simp only [Bool.and_eq_true] at hc
    refine ⟨hc.1, hc.2, ?_, ?_⟩
    · have := hc.1
      unfold slotsOk at this
      simp at this
      exact this.1
    · split at h
      · split at h
        · cases h
        · injection h with h; omega
      · injection h with h; omega
  · cases h
theorem OwnTexts.put {lo hi : Nat} {w : World} {b off n k : Nat} {ts : List ByteArray} (h : OwnTexts lo hi w (some ⟨b, off, none⟩) n ts) (hk : k < n) (s : ByteArray) : OwnTexts lo hi (w.setCell ⟨b, off + k, none⟩ (.string s)) (some ⟨b, off, none⟩) n (ts.set k s) := by
  refine ⟨by simp [h.1], (h.2.set hk (.string s)).congr fun i hi => ?_⟩
  unfold cellT
  by_cases e : i = k
  · subst e
    rw [if_pos rfl, List.getD_eq_getElem?_getD, List.getElem?_set_self (by rw [h.1]; exact hk)]
    rfl
  · rw [if_neg e, List.getD_eq_getElem?_getD, List.getD_eq_getElem?_getD, List.getElem?_set_ne (fun h => e h.symm)]
theorem own_wide {lo lo' hi : Nat} {w : World} {a : Option Addr} {n : Nat} {ts : List ByteArray} (h : OwnTexts lo hi w a n ts) (hl : lo' ≤ lo) : OwnTexts lo' hi w a n ts :=
  ⟨h.1, h.2.1, fun hn => by
    obtain ⟨b, off, e, h1, h2, h3⟩ := h.2.2 hn
    exact ⟨b, off, e, by omega, h2, h3⟩⟩
theorem own_end {lo hi : Nat} {w : World} {a : Option Addr} {n : Nat} {ts : List ByteArray} (h : OwnTexts lo hi w a n ts) : OwnTexts lo w.heap.size w a n ts :=
  ⟨h.1, Nat.le_refl _, fun hn => by
    have hz := h.2.1
    obtain ⟨b, off, e, h1, h2, h3⟩ := h.2.2 hn
    exact ⟨b, off, e, h1, by omega, h3⟩⟩
theorem own_set {lo hi : Nat} {w : World} {p : Addr} {v : Value} {a : Option Addr} {n : Nat} {ts : List ByteArray} (h : OwnTexts lo hi (w.setCell p v) a n ts) : OwnTexts lo (w.setCell p v).heap.size (w.setCell p v) a n ts := own_end h
theorem showF_size {m : Mi} (h : miIn m = true) : (showF m).size ≤ 19 := by
  have h2 := h
  simp only [miIn, Bool.and_eq_true, decide_eq_true_eq] at h2
  unfold showF
  rw [if_pos h]
  exact showN_size (by omega) (by omega)
theorem marked_length (l : List ByteArray) (m : Mi) : (markedF l m).length ≤ l.length := by
  unfold markedF
  split
  · split <;> simp
  · simp
theorem markCut_length (l : List ByteArray) (m : Mi) (z : Int) : (markCutF l m z).length = l.length := by
  unfold markCutF
  split <;> simp
end Go.Proofs.YteooaljhdmmooaaDoor
