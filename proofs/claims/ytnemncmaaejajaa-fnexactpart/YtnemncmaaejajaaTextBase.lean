/- Slices of texts: what they read as, and how an argument is read. -/
import Derived.Test.YtnemncmaaejajaaBase
import Derived.SliceStrings
import Derived.Deep.Matrix
namespace Go.Proofs.Ytnemncmaaejajaa
open Go.RowKit Go.ChangeShapes Go.Deep
set_option linter.unusedVariables false

/-- A list of texts as cells. -/
def cellT (ts : List ByteArray) (i : Nat) : Value := .string (ts.getD i ByteArray.empty)
def Texts (lo hi : Nat) (w : World) (a : Option Addr) (n : Nat) (ts : List ByteArray) : Prop := ts.length = n ∧ Reads lo hi w a n (cellT ts)
def OwnTexts (lo hi : Nat) (w : World) (a : Option Addr) (n : Nat) (ts : List ByteArray) : Prop := ts.length = n ∧ Owned lo hi w a n (cellT ts)
section
variable {lo hi : Nat} {w w' : World} {a : Option Addr} {n : Nat} {ts : List ByteArray}
theorem OwnTexts.texts (h : OwnTexts lo hi w a n ts) : Texts lo hi w a n ts := ⟨h.1, h.2.reads⟩
theorem Texts.later (h : Texts lo hi w a n ts) {B : Nat} (hb : Below B w w') (hB : hi ≤ B) : Texts lo hi w' a n ts := ⟨h.1, h.2.later hb hB⟩
theorem OwnTexts.later (h : OwnTexts lo hi w a n ts) {B : Nat} (hb : Below B w w') (hB : hi ≤ B) : OwnTexts lo hi w' a n ts := ⟨h.1, h.2.later hb hB⟩
theorem Texts.aside (h : Texts lo hi w a n ts) {l r : Nat} (hb : Aside l r w w') (hB : hi ≤ l ∨ r ≤ lo) : Texts lo hi w' a n ts := ⟨h.1, h.2.aside hb hB⟩
theorem OwnTexts.aside (h : OwnTexts lo hi w a n ts) {l r : Nat} (hb : Aside l r w w') (hB : hi ≤ l ∨ r ≤ lo) : OwnTexts lo hi w' a n ts := ⟨h.1, h.2.aside hb hB⟩
end
/-- Of an address with cells: it lies in a block. -/
theorem add_plain {w : World} {x : Addr} {i : Nat} {v u : Value} (h0 : w.cell? (x.add 0) = some v) (h : w.cell? (x.add i) = some u) : ∃ b off, x = ⟨b, off, none⟩ ∧ b < w.heap.size ∧ w.cell? ⟨b, off + i, none⟩ = some u := by
  obtain ⟨b, off, spot⟩ := x
  have hs : spot = none := by simpa [Addr.add] using World.cell?_spot h0
  subst hs
  refine ⟨b, off, rfl, World.block_lt_of_cell? _ _ h0, ?_⟩
  simp only [Addr.add] at h
  split at h
  · rename_i e; subst e; exact h
  · exact h
theorem reads_of {w : World} {x : Addr} {n : Nat} {f : Nat → Value} (hc : ∀ i, i < n → w.cell? (x.add i) = some (f i)) : Reads 0 w.heap.size w (some x) n f := by
  refine ⟨Nat.le_refl _, fun hn => ?_⟩
  obtain ⟨b, off, rfl, hb, _⟩ := add_plain (hc 0 hn) (hc 0 hn)
  refine ⟨b, off, rfl, Nat.zero_le _, hb, fun i hi => ?_⟩
  obtain ⟨b', off', e, _, h⟩ := add_plain (hc 0 hn) (hc i hi)
  cases e
  exact h
/-- An argument that is a slice of texts. -/
theorem texts_read {H : Type} {enc : TypeId × Value → H} {P : Program} {W : World} {t e : TypeId} {a : Option Addr} {len cap : Nat} {d : DataW H} {ps : List MemPlace} (ht : P.underlying t = some (.slice e)) (he : P.underlying e = some .string) (hc : P.cellsOf e = 1)
    (h : DataW.Trod enc P W 0 (fun _ => true) true t (.slice a len cap) d ps) : ∃ ts, Texts 0 W.heap.size W a len ts ∧ (∀ s ∈ ts, s.size ≤ maxLen) ∧ len ≤ maxLen := by
  obtain ⟨fuel, hf⟩ := h
  rcases open_strings ht he hc hf with ⟨hcs, _⟩ | ⟨x, l, c, ss, hcs, _, hl, hm, hz, _, hcell, hsz⟩
  · simp [Value.cells] at hcs
    obtain ⟨rfl, rfl, rfl⟩ := hcs
    exact ⟨[], ⟨rfl, Nat.le_refl _, fun h => absurd h (Nat.lt_irrefl _)⟩, by simp, Nat.zero_le _⟩
  · simp [Value.cells] at hcs
    obtain ⟨rfl, rfl, rfl⟩ := hcs
    simp only [if_true] at hz
    refine ⟨ss.take len, ⟨by rw [List.length_take]; omega, reads_of fun i hi => ?_⟩, fun s hs => hsz s (List.mem_of_mem_take hs), by omega⟩
    rw [hcell i (by omega)]
    unfold cellT
    rw [List.getD_eq_getElem?_getD, List.getD_eq_getElem?_getD, List.getElem?_take, if_pos hi]

/-- A list of booleans as cells. -/
def cellO (bs : List Bool) (i : Nat) : Value := .bool (bs.getD i false)

/-- Rows of int64. -/
def Rows2 (lo hi : Nat) (w : World) (a : Option Addr) (n : Nat) (xss : List (List Int)) : Prop :=
  xss.length = n ∧ ∃ (A : Nat → Option Addr) (C : Nat → Nat), Reads lo hi w a n (fun i => .slice (A i) (xss.getD i []).length (C i)) ∧ ∀ i, i < n → Ints lo hi w (A i) (xss.getD i []).length (xss.getD i [])
theorem Rows2.later {lo hi n : Nat} {w w' : World} {a : Option Addr} {xss : List (List Int)} (h : Rows2 lo hi w a n xss) {B : Nat} (hb : Below B w w') (hB : hi ≤ B) : Rows2 lo hi w' a n xss := by
  obtain ⟨h1, A, C, h2, h3⟩ := h
  exact ⟨h1, A, C, h2.later hb hB, fun i hi => (h3 i hi).later hb hB⟩
theorem Rows2.aside {lo hi n : Nat} {w w' : World} {a : Option Addr} {xss : List (List Int)} (h : Rows2 lo hi w a n xss) {l r : Nat} (hb : Aside l r w w') (hB : hi ≤ l ∨ r ≤ lo) : Rows2 lo hi w' a n xss := by
  obtain ⟨h1, A, C, h2, h3⟩ := h
  exact ⟨h1, A, C, h2.aside hb hB, fun i hi => (h3 i hi).aside hb hB⟩
/-- An argument that is a slice of slices of int64. -/
theorem rows2_read {H : Type} {enc : TypeId × Value → H} {P : Program} {W : World} {t e q : TypeId} {a : Option Addr} {len cap : Nat} {d : DataW H} {ps : List MemPlace} (ht : P.underlying t = some (.slice e)) (he : P.underlying e = some (.slice q)) (hq : P.underlying q = some (.int .i64)) (ce : P.cellsOf e = 1) (cq : P.cellsOf q = 1)
    (h : DataW.Trod enc P W 0 (fun _ => true) true t (.slice a len cap) d ps) : ∃ xss, Rows2 0 W.heap.size W a len xss ∧ (∀ xs ∈ xss, xs.length ≤ maxLen) ∧ len ≤ maxLen ∧ ∀ xs ∈ xss, ∀ x ∈ xs, (Lit.int .i64 x).wf = true := by
  obtain ⟨fuel, hf⟩ := h
  rcases open_int_rows ht he hq ce cq hf with ⟨hcs, _⟩ | ⟨x, l, c, A, L, C, Z, hcs, _, hl, hm, _, hr⟩
  · simp [Value.cells] at hcs
    obtain ⟨rfl, rfl, rfl⟩ := hcs
    exact ⟨[], ⟨rfl, fun _ => none, fun _ => 0, ⟨Nat.le_refl _, fun h => absurd h (Nat.lt_irrefl _)⟩, fun i hi => absurd hi (by omega)⟩, by simp, Nat.zero_le _, by simp⟩
  · simp [Value.cells] at hcs
    obtain ⟨rfl, rfl, rfl⟩ := hcs
    have hg : ∀ i, i < len → ((List.range len).map fun r => (Z r).take (L r)).getD i [] = (Z i).take (L i) := fun i hi => by
      rw [List.getD_eq_getElem?_getD, List.getElem?_map, List.getElem?_range hi]; rfl
    have hlen : ∀ i, i < len → ((Z i).take (L i)).length = L i := fun i hi => by
      obtain ⟨_, h2, _, h4, _⟩ := hr i (by omega)
      rw [List.length_take]; omega
    refine ⟨(List.range len).map fun r => (Z r).take (L r), ⟨by simp, A, C, reads_of fun i hi => ?_, fun i hi => ?_⟩, ?_, by omega, ?_⟩
    · rw [hg i hi, hlen i hi]; exact (hr i (by omega)).1
    · obtain ⟨_, h2, h3, h4, h5, h6, h7⟩ := hr i (by omega)
      rw [hg i hi]
      refine ⟨rfl, ?_⟩
      rw [hlen i hi]
      cases ha : A i with
      | none =>
        have := h6 ha
        exact ⟨Nat.le_refl _, fun h => absurd h (by omega)⟩
      | some y =>
        refine reads_of fun j hj => ?_
        rw [(h7 y ha).2 j (by omega)]
        unfold cellI
        rw [List.getD_eq_getElem?_getD, List.getD_eq_getElem?_getD, List.getElem?_take, if_pos hj]
    · intro xs hxs
      obtain ⟨r, hrr, rfl⟩ := List.mem_map.1 hxs
      rw [List.mem_range] at hrr
      obtain ⟨_, h2, h3, _⟩ := hr r (by omega)
      rw [hlen r hrr]; omega
    · intro xs hxs z hz
      obtain ⟨r, hrr, rfl⟩ := List.mem_map.1 hxs
      rw [List.mem_range] at hrr
      obtain ⟨_, _, _, _, h5, _⟩ := hr r (by omega)
      exact h5 z (List.mem_of_mem_take hz)
end Go.Proofs.Ytnemncmaaejajaa
