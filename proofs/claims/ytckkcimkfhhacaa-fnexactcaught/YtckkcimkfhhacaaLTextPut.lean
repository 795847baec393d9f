/- Texts of one's own: one of them set; their blocks told wider. -/
import Derived.Test.YtckkcimkfhhacaaLTextBase
namespace Go.Proofs.Ytckkcimkfhhacaa
open Go.RowKit
set_option linter.unusedVariables false
theorem OwnTexts.put {lo hi : Nat} {w : World} {b off n k : Nat} {ts : List ByteArray} (h : OwnTexts lo hi w (some ⟨b, off, none⟩) n ts) (hk : k < n) (s : ByteArray) : OwnTexts lo hi (w.setCell ⟨b, off + k, none⟩ (.string s)) (some ⟨b, off, none⟩) n (ts.set k s) := by
  refine ⟨by simp [h.1], (h.2.set hk (.string s)).congr fun i hi => ?_⟩
  unfold cellT
  by_cases e : i = k
  · subst e
    rw [if_pos rfl, List.getD_eq_getElem?_getD, List.getElem?_set_self (by rw [h.1]; exact hk)]
    rfl
  · rw [if_neg e, List.getD_eq_getElem?_getD, List.getD_eq_getElem?_getD, List.getElem?_set_ne (fun h => e h.symm)]
theorem own_wide {lo lo' hi : Nat} {w : World} {a : Option Addr} {n : Nat} {ts : List ByteArray} (h : OwnTexts lo hi w a n ts) (hl : lo' ≤ lo) : OwnTexts lo' hi w a n ts :=
  ⟨h.1, h.2.1, fun hn => by
    obtain ⟨b, off, e, h1, h2, h3⟩ := h.2.2 hn
    exact ⟨b, off, e, by omega, h2, h3⟩⟩
theorem own_end {lo hi : Nat} {w : World} {a : Option Addr} {n : Nat} {ts : List ByteArray} (h : OwnTexts lo hi w a n ts) : OwnTexts lo w.heap.size w a n ts :=
  ⟨h.1, Nat.le_refl _, fun hn => by
    have hz := h.2.1
    obtain ⟨b, off, e, h1, h2, h3⟩ := h.2.2 hn
    exact ⟨b, off, e, h1, by omega, h3⟩⟩
theorem own_set {lo hi : Nat} {w : World} {p : Addr} {v : Value} {a : Option Addr} {n : Nat} {ts : List ByteArray} (h : OwnTexts lo hi (w.setCell p v) a n ts) : OwnTexts lo (w.setCell p v).heap.size (w.setCell p v) a n ts := own_end h
end Go.Proofs.Ytckkcimkfhhacaa
