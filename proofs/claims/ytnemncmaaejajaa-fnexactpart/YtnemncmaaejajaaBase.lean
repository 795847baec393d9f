/- Words on memory for this seat's walks: what a slice reads, what it owns, and how both stay behind calls that turn other blocks. Nothing of Go's text here. -/
import Derived.WalkKit
import Derived.WalkSpells
import Derived.WalkLawsBesides
import Derived.WalkSmall
import Derived.Below
import Derived.Deep.OwnRows
namespace Go.Proofs.Ytnemncmaaejajaa
open Go.RowKit

theorem hide {p : Prop} (h : p) : Hid p := h

/-- What stays where only blocks from lo to hi are written, and new ones are made. -/
structure Aside (lo hi : Nat) (w w' : World) : Prop where
  os : w'.os = w.os
  tape : w'.tape = w.tape
  output : w'.output = w.output
  size : w.heap.size ≤ w'.heap.size
  block : ∀ k, k < w.heap.size → k < lo ∨ hi ≤ k → w'.heap[k]? = w.heap[k]?

theorem Aside.refl (lo hi : Nat) (w : World) : Aside lo hi w w := ⟨rfl, rfl, rfl, Nat.le_refl _, fun _ _ _ => rfl⟩
theorem Aside.trans {lo hi : Nat} {a b c : World} (h : Aside lo hi a b) (k : Aside lo hi b c) : Aside lo hi a c :=
  ⟨k.os.trans h.os, k.tape.trans h.tape, k.output.trans h.output, Nat.le_trans h.size k.size, fun i hi h' => (k.block i (Nat.lt_of_lt_of_le hi h.size) h').trans (h.block i hi h')⟩
theorem Aside.setCell {lo hi : Nat} {a w : World} (h : Aside lo hi a w) {p : Addr} (h1 : lo ≤ p.block) (h2 : p.block < hi) (u : Value) : Aside lo hi a (w.setCell p u) :=
  h.trans ⟨rfl, rfl, rfl, by rw [Go.Deep.nblk_setCell]; exact Nat.le_refl _, fun k _ hk => Go.Deep.blk_setCell_other _ _ _ _ (by omega)⟩
theorem Aside.below {lo hi : Nat} {w w' : World} (h : Aside lo hi w w') {B : Nat} (hB : B ≤ lo) (hw : B ≤ w.heap.size) : Below B w w' :=
  ⟨h.os, h.tape, h.output, h.size, fun k hk => h.block k (by omega) (.inl (by omega))⟩
theorem below_here {w w' w'' : World} (h : Below w.heap.size w w') (k : Below w'.heap.size w' w'') : Below w.heap.size w w'' := h.trans (k.mono h.size)

/-- A slice whose cells lie one to an element: n of them, f of each, in a block from lo to below hi. -/
def Reads (lo hi : Nat) (w : World) (a : Option Addr) (n : Nat) (f : Nat → Value) : Prop :=
  hi ≤ w.heap.size ∧ (0 < n → ∃ b off, a = some ⟨b, off, none⟩ ∧ lo ≤ b ∧ b < hi ∧ ∀ i, i < n → w.cell? ⟨b, off + i, none⟩ = some (f i))
/-- .. and none of them is frozen. -/
def Owned (lo hi : Nat) (w : World) (a : Option Addr) (n : Nat) (f : Nat → Value) : Prop :=
  hi ≤ w.heap.size ∧ (0 < n → ∃ b off, a = some ⟨b, off, none⟩ ∧ lo ≤ b ∧ b < hi ∧ ∀ i, i < n → w.cell? ⟨b, off + i, none⟩ = some (f i) ∧ w.frozen? ⟨b, off + i, none⟩ = false)

section
variable {lo hi : Nat} {w w' : World} {a : Option Addr} {n : Nat} {f g : Nat → Value}
theorem Owned.reads (h : Owned lo hi w a n f) : Reads lo hi w a n f :=
  ⟨h.1, fun hn => by obtain ⟨b, off, h1, h2, h3, h4⟩ := h.2 hn; exact ⟨b, off, h1, h2, h3, fun i hi => (h4 i hi).1⟩⟩
theorem Reads.congr (h : Reads lo hi w a n f) (e : ∀ i, i < n → f i = g i) : Reads lo hi w a n g :=
  ⟨h.1, fun hn => by obtain ⟨b, off, h1, h2, h3, h4⟩ := h.2 hn; exact ⟨b, off, h1, h2, h3, fun i hi => by rw [h4 i hi, e i hi]⟩⟩
theorem Owned.congr (h : Owned lo hi w a n f) (e : ∀ i, i < n → f i = g i) : Owned lo hi w a n g :=
  ⟨h.1, fun hn => by obtain ⟨b, off, h1, h2, h3, h4⟩ := h.2 hn; exact ⟨b, off, h1, h2, h3, fun i hi => by rw [(h4 i hi).1, e i hi]; exact ⟨rfl, (h4 i hi).2⟩⟩⟩
theorem Reads.of (h : Reads lo hi w a n f) (hs : w.heap.size ≤ w'.heap.size) (hb : ∀ k, lo ≤ k → k < hi → w'.heap[k]? = w.heap[k]?) : Reads lo hi w' a n f :=
  ⟨Nat.le_trans h.1 hs, fun hn => by
    obtain ⟨b, off, h1, h2, h3, h4⟩ := h.2 hn
    exact ⟨b, off, h1, h2, h3, fun i hi => (World.cell?_of_block (w := w) (a := ⟨b, off + i, none⟩) (hb b h2 h3)).trans (h4 i hi)⟩⟩
theorem Owned.of (h : Owned lo hi w a n f) (hs : w.heap.size ≤ w'.heap.size) (hb : ∀ k, lo ≤ k → k < hi → w'.heap[k]? = w.heap[k]?) : Owned lo hi w' a n f :=
  ⟨Nat.le_trans h.1 hs, fun hn => by
    obtain ⟨b, off, h1, h2, h3, h4⟩ := h.2 hn
    exact ⟨b, off, h1, h2, h3, fun i hi => ⟨(World.cell?_of_block (w := w) (a := ⟨b, off + i, none⟩) (hb b h2 h3)).trans (h4 i hi).1, (World.frozen?_of_block (w := w) (a := ⟨b, off + i, none⟩) (hb b h2 h3)).trans (h4 i hi).2⟩⟩⟩
theorem Reads.later (h : Reads lo hi w a n f) {B : Nat} (hb : Below B w w') (hB : hi ≤ B) : Reads lo hi w' a n f := h.of hb.size fun k _ hk => hb.block k (by omega)
theorem Owned.later (h : Owned lo hi w a n f) {B : Nat} (hb : Below B w w') (hB : hi ≤ B) : Owned lo hi w' a n f := h.of hb.size fun k _ hk => hb.block k (by omega)
theorem Reads.aside (h : Reads lo hi w a n f) {l r : Nat} (hb : Aside l r w w') (hB : hi ≤ l ∨ r ≤ lo) : Reads lo hi w' a n f :=
  h.of hb.size fun k h1 h2 => hb.block k (by have := h.1; omega) (by omega)
theorem Owned.aside (h : Owned lo hi w a n f) {l r : Nat} (hb : Aside l r w w') (hB : hi ≤ l ∨ r ≤ lo) : Owned lo hi w' a n f :=
  h.of hb.size fun k h1 h2 => hb.block k (by have := h.1; omega) (by omega)
/-- A cut of it: from k on. -/
theorem Reads.drop {b off : Nat} (h : Reads lo hi w (some ⟨b, off, none⟩) n f) (k : Nat) : Reads lo hi w (some ⟨b, off + k, none⟩) (n - k) (fun i => f (k + i)) :=
  ⟨h.1, fun hn => by
    obtain ⟨b', off', h1, h2, h3, h4⟩ := h.2 (by omega)
    simp only [Option.some.injEq, Addr.mk.injEq, and_true] at h1
    obtain ⟨rfl, rfl⟩ := h1
    exact ⟨b, off + k, rfl, h2, h3, fun i hi => by rw [Nat.add_assoc]; exact h4 (k + i) (by omega)⟩⟩
/-- A store into one of them. -/
theorem Owned.set {b off : Nat} (h : Owned lo hi w (some ⟨b, off, none⟩) n f) {i : Nat} (hi' : i < n) (v : Value) :
    Owned lo hi (w.setCell ⟨b, off + i, none⟩ v) (some ⟨b, off, none⟩) n (fun j => if j = i then v else f j) :=
  ⟨by rw [Go.Deep.nblk_setCell]; exact h.1, fun hn => by
    obtain ⟨b', off', h1, h2, h3, h4⟩ := h.2 hn
    simp only [Option.some.injEq, Addr.mk.injEq, and_true] at h1
    obtain ⟨rfl, rfl⟩ := h1
    refine ⟨b, off, rfl, h2, h3, fun j hj => ⟨?_, by rw [World.frozen?_setCell]; exact (h4 j hj).2⟩⟩
    by_cases e : j = i
    · subst e
      simp only [if_true]
      exact World.cell?_setCell_same _ _ _ (h4 j hj).1
    · simp only [if_neg e]
      rw [World.cell?_setCell_other _ _ _ _ (by intro e'; simp only [Addr.mk.injEq] at e'; omega)]
      exact (h4 j hj).1⟩
theorem owned_of_row {b t : Nat} (h : w.rowIs b t n f) (h1 : lo ≤ b) (h2 : b < hi) (h3 : hi ≤ w.heap.size) : Owned lo hi w (some ⟨b, 0, none⟩) n f :=
  ⟨h3, fun _ => ⟨b, 0, rfl, h1, h2, fun i hi => ⟨by simpa using h.cell hi, h.frozen _⟩⟩⟩
end

theorem Owned.at0 {lo hi : Nat} {w : World} {b n : Nat} {f : Nat → Value} (h : Owned lo hi w (some ⟨b, 0, none⟩) n f) {i : Nat} (hi' : i < n) : w.cell? ⟨b, i, none⟩ = some (f i) ∧ w.frozen? ⟨b, i, none⟩ = false ∧ lo ≤ b ∧ b < hi := by
  obtain ⟨b', off', h1, h2, h3, h4⟩ := h.2 (by omega)
  simp only [Option.some.injEq, Addr.mk.injEq, and_true] at h1
  obtain ⟨rfl, rfl⟩ := h1
  have := h4 i hi'
  simp only [Nat.zero_add] at this
  exact ⟨this.1, this.2, h2, h3⟩
theorem Owned.set0 {lo hi : Nat} {w : World} {b n : Nat} {f : Nat → Value} (h : Owned lo hi w (some ⟨b, 0, none⟩) n f) {i : Nat} (hi' : i < n) (v : Value) :
    Owned lo hi (w.setCell ⟨b, i, none⟩ v) (some ⟨b, 0, none⟩) n (fun j => if j = i then v else f j) := by
  have := h.set hi' v
  simpa using this
theorem Owned.drew {lo hi : Nat} {w : World} {a : Option Addr} {n : Nat} {f : Nat → Value} (h : Owned lo hi w a n f) : Owned lo hi w.drew a n f := h


/-- A list of int64 as cells. -/
def cellI (xs : List Int) (i : Nat) : Value := .int .i64 (xs.getD i 0)
def Ints (lo hi : Nat) (w : World) (a : Option Addr) (n : Nat) (xs : List Int) : Prop := xs.length = n ∧ Reads lo hi w a n (cellI xs)
def OwnInts (lo hi : Nat) (w : World) (a : Option Addr) (n : Nat) (xs : List Int) : Prop := xs.length = n ∧ Owned lo hi w a n (cellI xs)
section
variable {lo hi : Nat} {w w' : World} {a : Option Addr} {n : Nat} {xs : List Int}
theorem OwnInts.ints (h : OwnInts lo hi w a n xs) : Ints lo hi w a n xs := ⟨h.1, h.2.reads⟩
theorem Ints.later (h : Ints lo hi w a n xs) {B : Nat} (hb : Below B w w') (hB : hi ≤ B) : Ints lo hi w' a n xs := ⟨h.1, h.2.later hb hB⟩
theorem OwnInts.later (h : OwnInts lo hi w a n xs) {B : Nat} (hb : Below B w w') (hB : hi ≤ B) : OwnInts lo hi w' a n xs := ⟨h.1, h.2.later hb hB⟩
theorem Ints.aside (h : Ints lo hi w a n xs) {l r : Nat} (hb : Aside l r w w') (hB : hi ≤ l ∨ r ≤ lo) : Ints lo hi w' a n xs := ⟨h.1, h.2.aside hb hB⟩
theorem OwnInts.aside (h : OwnInts lo hi w a n xs) {l r : Nat} (hb : Aside l r w w') (hB : hi ≤ l ∨ r ≤ lo) : OwnInts lo hi w' a n xs := ⟨h.1, h.2.aside hb hB⟩
end

theorem ints_of {w : World} {a : Option Addr} {len cap : Nat} {zs : List Int}
    (h : (a = none ∧ len = 0 ∧ cap = 0 ∧ zs = []) ∨ ∃ x, a = some x ∧ len ≤ cap ∧ cap ≤ maxLen ∧ zs.length = cap ∧ (∀ i, i < zs.length → w.cell? (x.add i) = some (.int .i64 (zs.getD i 0))) ∧ ∀ n ∈ zs, (Lit.int .i64 n).wf = true) :
    Ints 0 w.heap.size w a len (zs.take len) := by
  rcases h with ⟨rfl, rfl, rfl, rfl⟩ | ⟨x, rfl, hl, hm, hz, hc, _⟩
  · exact ⟨rfl, Nat.le_refl _, fun h => absurd h (Nat.lt_irrefl _)⟩
  · refine ⟨by rw [List.length_take]; omega, Nat.le_refl _, fun hn => ?_⟩
    obtain ⟨b, off, spot⟩ := x
    have h0 := hc 0 (by omega)
    have hs : spot = none := by simpa [Addr.add] using World.cell?_spot h0
    subst hs
    refine ⟨b, off, rfl, Nat.zero_le _, World.block_lt_of_cell? _ _ h0, fun i hi => ?_⟩
    have hi' : w.cell? ⟨b, off + i, none⟩ = some (.int .i64 (zs.getD i 0)) := by
      have hi'' := hc i (by omega)
      simp only [Addr.add] at hi''
      split at hi''
      · rename_i e; subst e; exact hi''
      · exact hi''
    rw [hi', cellI, List.getD_eq_getElem?_getD, List.getD_eq_getElem?_getD, List.getElem?_take, if_pos hi]

/-- An empty slice of the call's own, as 'append' wants it. -/
theorem own_made0 (w : World) (t : TypeId) : (w.alloc (.cells #[] t)).ownsRow w.heap.size t 1 (.slice (some ⟨w.heap.size, 0, none⟩) 0 0) 0 [] := by
  have hb : (w.alloc (.cells #[] t)).heap[w.heap.size]? = some (.cells #[] t (0, 0)) := by
    show (w.heap.push _)[w.heap.size]? = _
    simp
  exact ⟨rfl, .inr ⟨w.heap.size, 0, #[], rfl, Nat.le_refl _, hb, Nat.le_refl _, Nat.zero_le _, rfl, rfl⟩⟩
theorem own_block {B g n c : Nat} (h : B ≤ g) : ∀ k, (Value.slice (some ⟨g, 0, none⟩) n c).ownBlock = some k → B ≤ k := by
  intro k e
  have e' : some g = some k := e
  simp only [Option.some.injEq] at e'
  omega
/-- What an appended slice owns, told by its cells. -/
theorem owned_of_own {w : World} {base e n : Nat} {v : Value} {xs : List Value} (h : w.ownsRow base e 1 v n xs) :
    ∃ a cap, v = .slice a n cap ∧ n ≤ cap ∧ xs.length = n ∧ (0 < n → ∃ g, a = some ⟨g, 0, none⟩) ∧ Owned base w.heap.size w a n (fun i => xs.getD i (.int .i64 0)) := by
  obtain ⟨hlen, h⟩ := h
  rcases h with ⟨rfl, rfl⟩ | ⟨g, cap, cur, rfl, hg1, hg2, hn, _, hcs, htake⟩
  · exact ⟨none, 0, rfl, Nat.le_refl _, by simpa using hlen, fun h => absurd h (Nat.lt_irrefl _), Nat.le_refl _, fun h => absurd h (Nat.lt_irrefl _)⟩
  · have hlt : g < w.heap.size := (Array.getElem?_eq_some_iff.1 hg2).1
    refine ⟨_, cap, rfl, hn, by simpa using hlen, fun _ => ⟨g, rfl⟩, Nat.le_refl _, fun _ => ⟨g, 0, rfl, hg1, hlt, fun i hi => ⟨?_, ?_⟩⟩⟩
    · have h1 : i < cur.size := by omega
      simp only [World.cell?, hg2, Nat.zero_add]
      rw [← htake, Nat.mul_one, List.getD_eq_getElem?_getD, List.getElem?_take, if_pos hi]
      simp [h1]
    · simp [World.frozen?, hg2]
theorem news_of {w : World} {a : Option Addr} {lo hi n : Nat} {xs : List Int} (h : Ints lo hi w a n xs) {b off : Nat} (ha : a = some ⟨b, off, none⟩) :
    ∀ j u, (xs.map (Value.int .i64))[j]? = some u → w.cell? ((⟨b, off, none⟩ : Addr).add j) = some u := by
  intro j u hj
  obtain ⟨hl, _, hx⟩ := h
  rw [List.getElem?_map] at hj
  by_cases hjl : j < xs.length
  · rw [List.getElem?_eq_getElem hjl] at hj
    simp at hj
    subst hj
    obtain ⟨b', off', e, _, _, hc⟩ := hx (by omega)
    rw [ha] at e
    simp only [Option.some.injEq, Addr.mk.injEq, and_true] at e
    obtain ⟨rfl, rfl⟩ := e
    have hadd : (⟨b, off, none⟩ : Addr).add j = ⟨b, off + j, none⟩ := by unfold Addr.add; split <;> simp_all
    rw [hadd, hc j (by omega), cellI, List.getD_eq_getElem?_getD, List.getElem?_eq_getElem hjl]; rfl
  · rw [List.getElem?_eq_none (by omega)] at hj; simp at hj
theorem ints_one (xs : List Int) : ∀ u ∈ xs.map (Value.int .i64), u.oneCell' = true := by
  intro u hu; rw [List.mem_map] at hu; obtain ⟨x, _, rfl⟩ := hu; rfl
theorem map_cell (xs : List Int) (i : Nat) (h : i < xs.length) : (xs.map (Value.int .i64)).getD i (.int .i64 0) = cellI xs i := by
  simp [cellI, List.getD_eq_getElem?_getD, List.getElem?_eq_getElem h]

theorem row_step (xs : List Int) (k j : Nat) (v : Value) (hv : v = cellI xs k) : (if j = k then v else if j < k then cellI xs j else .int .i64 0) = (if j < k + 1 then cellI xs j else .int .i64 0) := by
  by_cases e : j = k
  · subst e; simp [hv]
  · rw [if_neg e]
    by_cases h : j < k
    · rw [if_pos h, if_pos (by omega)]
    · rw [if_neg h, if_neg (by omega)]

theorem mark_step (xs : List Int) (m : Int) (k j : Nat) : (if j = k then Value.int .i64 (m + k) else if j < k then .int .i64 (m + j) else cellI xs j) = (if j < k + 1 then .int .i64 (m + j) else cellI xs j) := by
  by_cases e : j = k
  · subst e; simp
  · rw [if_neg e]
    by_cases h : j < k
    · rw [if_pos h, if_pos (by omega)]
    · rw [if_neg h, if_neg (by omega)]

theorem ret_bool {a b : Bool} (h : a = b) : Ending.returned (.bool a) = .returned (.bool b) := by rw [h]
theorem ret_slice {a : Option Addr} {n n' c : Nat} (h : n = n') : Ending.returned (.slice a n c) = .returned (.slice a n' c) := by rw [h]
theorem ret_i64 {a b : Int} (h : a = b) : Ending.returned (.int .i64 a) = .returned (.int .i64 b) := by rw [h]

/-! ### Lists, plainly -/
theorem take_snoc (xs : List Int) (k : Nat) (h : k < xs.length) : xs.take (k + 1) = xs.take k ++ [xs.getD k 0] := by
  rw [List.take_succ_eq_append_getElem h, List.getD_eq_getElem?_getD, List.getElem?_eq_getElem h]; rfl
theorem take_step {xs ys : List Int} {n k : Nat} (hx : xs.length = n) (hy : ys.length = n) (hk : k < n) (ht : xs.take k = ys.take k) (he : xs.getD k 0 = ys.getD k 0) : xs.take (k + 1) = ys.take (k + 1) := by
  rw [take_snoc xs k (by omega), take_snoc ys k (by omega), ht, he]
theorem take_fall {xs ys : List Int} {k : Nat} (he : xs.getD k 0 ≠ ys.getD k 0) : decide (xs = ys) = false := by
  simp; intro h; subst h; exact he rfl
theorem take_whole {xs ys : List Int} {n k : Nat} (hx : xs.length = n) (hy : ys.length = n) (hk : n ≤ k) (ht : xs.take k = ys.take k) : decide (xs = ys) = true := by
  rw [List.take_of_length_le (by omega), List.take_of_length_le (by omega)] at ht
  simpa using ht
/-- n numbers from k on. -/
def marks (k : Int) (n : Nat) : List Int := (List.range n).map fun i : Nat => k + (i : Int)
theorem marks_length (k : Int) (n : Nat) : (marks k n).length = n := by simp [marks]
theorem marks_getD (k : Int) (n i : Nat) (h : i < n) : (marks k n).getD i 0 = k + (i : Int) := by
  rw [List.getD_eq_getElem?_getD]; simp [marks, h]
def inB (x lo hi : Int) : Bool := decide (lo ≤ x) && decide (x ≤ hi)

/-! ### Bits, plainly -/
def bit (b : Int) : Bool := b == 0 || b == 1
def bitsOk (xs : List Int) : Bool := decide (xs.length ≤ 4096) && xs.all bit
theorem all_step (xs : List Int) (k : Nat) (h : k < xs.length) (ha : (xs.take k).all bit = true) (hb : bit (xs.getD k 0) = true) : (xs.take (k + 1)).all bit = true := by
  rw [take_snoc xs k h]; simp [List.all_append, ha] at *; simpa using hb
theorem all_fall (xs : List Int) (k : Nat) (h : k < xs.length) (hb : bit (xs.getD k 0) = false) : bitsOk xs = false := by
  unfold bitsOk
  have : xs.all bit = false := by
    rw [List.all_eq_false]
    refine ⟨xs[k], List.getElem_mem h, ?_⟩
    rw [List.getD_eq_getElem?_getD, List.getElem?_eq_getElem h] at hb
    simpa using hb
  simp [this]
theorem all_whole (xs : List Int) (hl : xs.length ≤ 4096) (ha : (xs.take xs.length).all bit = true) : bitsOk xs = true := by
  rw [List.take_length] at ha
  simp [bitsOk, hl, ha]
end Go.Proofs.Ytnemncmaaejajaa
