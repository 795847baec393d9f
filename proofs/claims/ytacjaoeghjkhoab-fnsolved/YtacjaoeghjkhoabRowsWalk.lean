/- The walks of the small functions that the exact laws go through, of slices of slices of int64. -/
import Derived.Test.YtacjaoeghjkhoabTextBase
import Derived.Test.YtacjaoeghjkhoabWalkM
import Derived.Deep.RegionWith
namespace Go.Proofs.Ytacjaoeghjkhoab
open Go.RowKit
set_option linter.unusedVariables false
set_option linter.unusedSimpArgs false
set_option maxRecDepth 20000

theorem Try.infoSI : (Try.prog.info? 44).map (fun i => (i.zero, i.size, i.bytes)) = some (some (.slice none 0 0), 1, 24) := by kernel_rfl
theorem aside_newR {lo hi : Nat} {w w' : World} (h : Below w.heap.size w w') : Aside lo hi w w' := ⟨h.os, h.tape, h.output, h.size, fun k hk _ => h.block k hk⟩
theorem Reads.wide {lo hi lo' hi' n : Nat} {w : World} {a : Option Addr} {f : Nat → Value} (h : Reads lo hi w a n f) (h1 : lo' ≤ lo) (h2 : hi ≤ hi') (h3 : hi' ≤ w.heap.size) : Reads lo' hi' w a n f :=
  ⟨h3, fun hn => by
    obtain ⟨b, off, e, h4, h5, h6⟩ := h.2 hn
    exact ⟨b, off, e, by omega, by omega, h6⟩⟩
theorem Ints.wide {lo hi lo' hi' n : Nat} {w : World} {a : Option Addr} {xs : List Int} (h : Ints lo hi w a n xs) (h1 : lo' ≤ lo) (h2 : hi ≤ hi') (h3 : hi' ≤ w.heap.size) : Ints lo' hi' w a n xs := ⟨h.1, h.2.wide h1 h2 h3⟩
theorem Aside.wide {lo hi lo' hi' : Nat} {w w' : World} (h : Aside lo hi w w') (h1 : lo' ≤ lo) (h2 : hi ≤ hi') : Aside lo' hi' w w' := ⟨h.os, h.tape, h.output, h.size, fun k hk h' => h.block k hk (by omega)⟩
/-- Rows of int64 of one's own: each in blocks of its own, one behind the other. -/
def OwnRows (lo hi : Nat) (w : World) (a : Option Addr) (n : Nat) (xss : List (List Int)) : Prop :=
  xss.length = n ∧ ∃ (H : Nat → Nat) (A : Nat → Option Addr) (C : Nat → Nat), lo ≤ H 0 ∧ (∀ i j, i ≤ j → j ≤ n → H i ≤ H j) ∧ H n ≤ hi ∧ hi ≤ w.heap.size ∧
    Owned lo (H 0) w a n (fun i => .slice (A i) (xss.getD i []).length (C i)) ∧ ∀ i, i < n → OwnInts (H i) (H (i + 1)) w (A i) (xss.getD i []).length (xss.getD i [])
theorem OwnRows.rows {lo hi n : Nat} {w : World} {a : Option Addr} {xss : List (List Int)} (h : OwnRows lo hi w a n xss) : Rows2 lo hi w a n xss := by
  obtain ⟨h1, H, A, C, h2, h3, h4, h5, h6, h7⟩ := h
  have h0 := h3 0 n (by omega) (Nat.le_refl _)
  exact ⟨h1, A, C, h6.reads.wide (Nat.le_refl _) (by omega) h5, fun i hi => (h7 i hi).ints.wide (Nat.le_trans h2 (h3 0 i (by omega) (by omega))) (Nat.le_trans (h3 (i + 1) n (by omega) (Nat.le_refl _)) h4) h5⟩
theorem OwnRows.later {lo hi n : Nat} {w w' : World} {a : Option Addr} {xss : List (List Int)} (h : OwnRows lo hi w a n xss) {B : Nat} (hb : Below B w w') (hB : hi ≤ B) : OwnRows lo hi w' a n xss := by
  obtain ⟨h1, H, A, C, h2, h3, h4, h5, h6, h7⟩ := h
  have h0 := h3 0 n (by omega) (Nat.le_refl _)
  exact ⟨h1, H, A, C, h2, h3, h4, Nat.le_trans h5 hb.size, h6.later hb (by omega), fun i hi => (h7 i hi).later hb (by have := h3 (i + 1) n (by omega) (Nat.le_refl _); omega)⟩

/-- All numbers of the rows. -/
def totalI (xss : List (List Int)) : Nat := (xss.map (·.length)).sum
theorem totalI_take (ts : List (List Int)) (k : Nat) (h : k < ts.length) : totalI (ts.take (k + 1)) = totalI (ts.take k) + (ts.getD k []).length := by
  unfold totalI
  rw [List.take_succ_eq_append_getElem h, List.getD_eq_getElem?_getD, List.getElem?_eq_getElem h, List.map_append, List.sum_append]
  rfl
theorem totalI_le {ts : List (List Int)} {s : List Int} (h : s ∈ ts) : s.length ≤ totalI ts := by
  unfold totalI
  induction ts with
  | nil => cases h
  | cons t ts ih =>
    rw [List.map_cons, List.sum_cons]
    rcases List.mem_cons.1 h with e | e
    · subst e; omega
    · have := ih e; omega
theorem totalI_whole (ts : List (List Int)) (k : Nat) : totalI (ts.take k) ≤ totalI ts := by
  unfold totalI
  conv => rhs; rw [← List.take_append_drop k ts, List.map_append, List.sum_append]
  omega
theorem getR_mem {ts : List (List Int)} {k : Nat} (h : k < ts.length) : ts.getD k [] ∈ ts := by
  rw [List.getD_eq_getElem?_getD, List.getElem?_eq_getElem h]; exact List.getElem_mem _

theorem takeR_step {xs ys : List (List Int)} {n k : Nat} (hx : xs.length = n) (hy : ys.length = n) (hk : k < n) (ht : xs.take k = ys.take k) (he : xs.getD k [] = ys.getD k []) : xs.take (k + 1) = ys.take (k + 1) := by
  rw [List.getD_eq_getElem?_getD, List.getD_eq_getElem?_getD, List.getElem?_eq_getElem (by omega), List.getElem?_eq_getElem (by omega)] at he
  simp only [Option.getD_some] at he
  rw [List.take_succ_eq_append_getElem (by omega), List.take_succ_eq_append_getElem (by omega), ht, he]
theorem takeR_fall {xs ys : List (List Int)} {k : Nat} (he : xs.getD k [] ≠ ys.getD k []) : decide (xs = ys) = false := by
  simp; intro e; subst e; exact he rfl
theorem takeR_whole {xs ys : List (List Int)} {n k : Nat} (hx : xs.length = n) (hy : ys.length = n) (hk : n ≤ k) (ht : xs.take k = ys.take k) : decide (xs = ys) = true := by
  rw [List.take_of_length_le (by omega), List.take_of_length_le (by omega)] at ht
  simpa using ht

end Go.Proofs.Ytacjaoeghjkhoab
