/- What Rebuilt answers, plainly: which are lost, which spares are there, what mends; it is one. -/
import Derived.Test.YtbgjagmnpfcfaakCauchyMath
import Derived.Test.YtbgjagmnpfcfaakSpareSpec3
namespace Go.Proofs.Ytbgjagmnpfcfaak
open Go.RowKit
set_option linter.unusedVariables false
set_option linter.unusedSimpArgs false

namespace Sv
open Go.Proofs.Ytbgjagmnpfcfaak.Field
/-- The sum over those of which p says yes. -/
def part (p : Nat → Bool) (f y : Nat → Nat) : Nat → Nat
  | 0 => 0
  | i + 1 => part p f y i ^^^ (if p i then mul (f i) (y i) else 0)
/-- Those of the first C of which p says no. -/
def rest (p : Nat → Bool) (C : Nat) : List Nat := (List.range C).filter fun i => !p i
theorem rest_succ (p : Nat → Bool) (C : Nat) : rest p (C + 1) = rest p C ++ (if p C then [] else [C]) := by
  unfold rest
  rw [List.range_succ, List.filter_append]
  congr 1
  cases h : p C <;> simp [h]
theorem getD_left {l r : List Nat} {k : Nat} (h : k < l.length) : (l ++ r).getD k 0 = l.getD k 0 := by
  rw [List.getD_eq_getElem?_getD, List.getD_eq_getElem?_getD, List.getElem?_append_left h]
theorem getD_last {l : List Nat} {c : Nat} : (l ++ [c]).getD l.length 0 = c := by
  rw [List.getD_eq_getElem?_getD, List.getElem?_append_right (Nat.le_refl _)]; simp
theorem dot_parts (p : Nat → Bool) (f y : Nat → Nat) : ∀ C, dot f y C = part p f y C ^^^ dot (fun k => f ((rest p C).getD k 0)) (fun k => y ((rest p C).getD k 0)) (rest p C).length
  | 0 => by simp [dot, part, rest]
  | C + 1 => by
    have ih := dot_parts p f y C
    rw [rest_succ]
    cases h : p C
    · simp only [Bool.false_eq_true, if_false, List.length_append, List.length_singleton, dot, part, h, Nat.xor_zero, getD_last]
      rw [ih, Nat.xor_assoc]
      congr 2
      exact dot_congr (fun j hj => by rw [getD_left hj]) (fun j hj => by rw [getD_left hj])
    · simp only [if_true, List.append_nil, dot, part, h]
      rw [ih, Nat.xor_assoc, Nat.xor_assoc, Nat.xor_comm (mul (f C) (y C))]
theorem part_zero (p : Nat → Bool) (f y : Nat → Nat) : ∀ C, (∀ i, i < C → p i = true → y i = 0) → part p f y C = 0
  | 0, _ => rfl
  | C + 1, h => by
    unfold part
    rw [part_zero p f y C (fun i hi => h i (by omega))]
    cases e : p C
    · simp
    · rw [h C (by omega) e, mul_zero]; simp
theorem part_congr (p : Nat → Bool) (f y y' : Nat → Nat) : ∀ C, (∀ i, i < C → p i = true → y i = y' i) → part p f y C = part p f y' C
  | 0, _ => rfl
  | C + 1, h => by
    unfold part
    rw [part_congr p f y y' C (fun i hi => h i (by omega))]
    cases e : p C
    · simp
    · rw [h C (by omega) e]
theorem dot_right {f x y : Nat → Nat} : ∀ n, dot f (fun j => x j ^^^ y j) n = dot f x n ^^^ dot f y n
  | 0 => by simp [dot]
  | n + 1 => by
    unfold dot
    rw [dot_right n, mul_right, xor4]
theorem rest_lt {p : Nat → Bool} {C k : Nat} (h : k < (rest p C).length) : (rest p C).getD k 0 < C ∧ p ((rest p C).getD k 0) = false := by
  have hm : (rest p C).getD k 0 ∈ rest p C := by rw [List.getD_eq_getElem?_getD, List.getElem?_eq_getElem h]; exact List.getElem_mem _
  unfold rest at hm
  rw [List.mem_filter, List.mem_range] at hm
  exact ⟨hm.1, by simpa [rest] using hm.2⟩
theorem rest_apart {p : Nat → Bool} {C i j : Nat} (hi : i < (rest p C).length) (hj : j < (rest p C).length) (h : i ≠ j) : (rest p C).getD i 0 ≠ (rest p C).getD j 0 := by
  have hn : (rest p C).Nodup := List.nodup_range.filter _
  rw [List.getD_eq_getElem?_getD, List.getD_eq_getElem?_getD, List.getElem?_eq_getElem hi, List.getElem?_eq_getElem hj]
  simp only [Option.getD_some]
  have hp := List.pairwise_iff_getElem.1 hn
  rcases Nat.lt_or_gt_of_ne h with h1 | h1
  · exact hp i j hi hj h1
  · exact fun e => hp j i hj hi h1 e.symm
theorem rest_has {p : Nat → Bool} {C i : Nat} (h : i < C) (hp : p i = false) : ∃ k, k < (rest p C).length ∧ (rest p C).getD k 0 = i := by
  have hm : i ∈ rest p C := by unfold rest; rw [List.mem_filter, List.mem_range]; exact ⟨h, by simp [hp]⟩
  obtain ⟨k, hk, e⟩ := List.getElem_of_mem hm
  exact ⟨k, hk, by rw [List.getD_eq_getElem?_getD, List.getElem?_eq_getElem hk]; exact e⟩
/-- What is nought in the rows of lost ones and spares is nought. -/
theorem lost_nought {p q : Nat → Bool} {C D : Nat} (hC : C ≤ 16) (hD : D ≤ 16) (hle : (rest p C).length ≤ (rest q D).length) {x : Nat → Nat} (hx : El (rest p C).length x)
    (h : ∀ r, r < (rest p C).length → dot (fun k => factor ((rest p C).getD k 0) ((rest q D).getD r 0)) x (rest p C).length = 0) : ∀ k, k < (rest p C).length → x k = 0 := by
  refine cauchy (rest p C).length (fun k => (rest p C).getD k 0) (fun r => 16 + (rest q D).getD r 0) x (fun k hk => ?_) (fun k hk => ?_) hx (fun i j hi hj e => rest_apart hi hj e) (fun i j hi hj e => ?_) (fun i j hi hj => ?_) h
  · have := (rest_lt hk).1; dsimp only; omega
  · have := (rest_lt (p := q) (C := D) (k := k) (by omega)).1; dsimp only; omega
  · have := rest_apart (p := q) (C := D) (i := i) (j := j) (by omega) (by omega) e; omega
  · have := (rest_lt hi).1; omega
/-- So Solved tells a solution. -/
theorem lost_told {p q : Nat → Bool} {C D : Nat} (hC : C ≤ 16) (hD : D ≤ 16) (hle : (rest p C).length ≤ (rest q D).length) {m : Mat} {o : List Int} {b : Bool}
    (hm : ∀ i k, i < (rest p C).length → k < (rest p C).length → m i k = factor ((rest p C).getD k 0) ((rest q D).getD i 0)) (ht : Told (rest p C).length m o b) : b = true := by
  rcases ht with ⟨rfl, _⟩ | ⟨rfl, _, v, hv, hv0, ⟨j, hj, hvj⟩, hn⟩
  · rfl
  · exfalso
    refine hvj (lost_nought hC hD hle (hv.mono (by omega)) (fun r hr => ?_) j hj)
    have := hn r hr
    simp only [dot, hv0, mul_zero, Nat.xor_zero] at this
    exact (dot_congr (fun k hk => (hm r k hr hk).symm) (fun _ _ => rfl)).trans this
end Sv
theorem spareN_dot (ts : List ByteArray) (j k : Nat) : ∀ i, spareN ts j i k = Sv.dot (fun i => factor i j) (fun i => byteN (ts.getD i ByteArray.empty) k) i
  | 0 => rfl
  | i + 1 => by
    show spareN ts j i k ^^^ _ = Sv.dot _ _ i ^^^ _
    rw [spareN_dot ts j k i]

def isThere (bs : List Bool) (i : Nat) : Bool := bs.getD i false
def lostL (bs : List Bool) (C : Nat) : List Nat := Sv.rest (isThere bs) C
def sparesL (bs : List Bool) (C n : Nat) : List Nat := Sv.rest (fun j => !isThere bs (C + j)) (n - C)
def haveL (ts : List ByteArray) (bs : List Bool) : List ByteArray := ((List.range ts.length).filter (isThere bs)).map fun i => ts.getD i ByteArray.empty
def mendOk (ts : List ByteArray) (bs : List Bool) (c : Int) : Bool :=
  inB c 1 8 && (inB (ts.length : Int) (c + 1) (c + 4) && (decide (bs.length = ts.length) && (decide ((lostL bs c.toNat).length ≤ (sparesL bs c.toNat ts.length).length) && (decide (0 < (haveL ts bs).length) && alikeB (haveL ts bs)))))
/-- Columns that go with those that are there, and with the spares. -/
structure Mended (ts : List ByteArray) (bs : List Bool) (C L : Nat) (out : List ByteArray) : Prop where
  len : out.length = C
  size : ∀ i, i < C → (out.getD i ByteArray.empty).size = L
  same : ∀ i, i < C → isThere bs i = true → out.getD i ByteArray.empty = ts.getD i ByteArray.empty
  sums : ∀ r, r < (lostL bs C).length → ∀ k, k < L → spareN out ((sparesL bs C ts.length).getD r 0) C k = byteN (ts.getD (C + (sparesL bs C ts.length).getD r 0) ByteArray.empty) k
theorem text_ext {s t : ByteArray} {L : Nat} (h1 : s.size = L) (h2 : t.size = L) (h : ∀ k, k < L → byteN s k = byteN t k) : s = t := by
  obtain ⟨a⟩ := s
  obtain ⟨b⟩ := t
  congr 1
  have e1 : a.size = L := h1
  have e2 : b.size = L := h2
  apply Array.ext (by omega)
  intro i hi hj
  have := h i (by omega)
  unfold byteN at this
  rw [List.getD_eq_getElem?_getD, List.getD_eq_getElem?_getD, List.getElem?_eq_getElem (by simpa using hi), List.getElem?_eq_getElem (by simpa using hj)] at this
  simp only [Option.getD_some, Array.getElem_toList] at this
  exact UInt8.toNat_inj.1 this
theorem Mended.one {ts : List ByteArray} {bs : List Bool} {C L : Nat} {o o' : List ByteArray} (hC : C ≤ 8) (hn : ts.length ≤ C + 4) (hle : (lostL bs C).length ≤ (sparesL bs C ts.length).length) (h : Mended ts bs C L o) (h' : Mended ts bs C L o') : o = o' := by
  have hd : ∀ i, i < C → o.getD i ByteArray.empty = o'.getD i ByteArray.empty := by
    intro i hi
    cases ht : isThere bs i
    · refine text_ext (h.size i hi) (h'.size i hi) fun k hk => ?_
      have key := Sv.lost_nought (p := isThere bs) (q := fun j => !isThere bs (C + j)) (C := C) (D := ts.length - C) (by omega) (by omega) hle
        (x := fun q => byteN (o.getD ((lostL bs C).getD q 0) ByteArray.empty) k ^^^ byteN (o'.getD ((lostL bs C).getD q 0) ByteArray.empty) k) (fun q hq => Field.xor_lt (byteN_lt _ _) (byteN_lt _ _)) (fun r hr => ?_)
      · obtain ⟨q, hq, e⟩ := Sv.rest_has (p := isThere bs) hi ht
        have := key q hq
        unfold lostL at this
        rw [e] at this
        exact Sv.xor_nought this
      · have h1 := h.sums r hr k hk
        have h2 := h'.sums r hr k hk
        rw [spareN_dot] at h1 h2
        have h3 : Sv.dot (fun i => factor i ((sparesL bs C ts.length).getD r 0)) (fun i => byteN (o.getD i ByteArray.empty) k ^^^ byteN (o'.getD i ByteArray.empty) k) C = 0 := by
          rw [Sv.dot_right, h1, h2, Nat.xor_self]
        rw [Sv.dot_parts (isThere bs), Sv.part_zero _ _ _ _ (fun i hi hp => by rw [h.same i hi hp, h'.same i hi hp, Nat.xor_self]), Nat.zero_xor] at h3
        exact h3
    · rw [h.same i hi ht, h'.same i hi ht]
  apply List.ext_getElem (by rw [h.len, h'.len])
  intro i h1 h2
  have := hd i (by rw [← h.len]; exact h1)
  rw [List.getD_eq_getElem?_getD, List.getD_eq_getElem?_getD, List.getElem?_eq_getElem h1, List.getElem?_eq_getElem h2] at this
  exact this
/-- What Rebuilt tells. -/
def MendAnswer (ts : List ByteArray) (bs : List Bool) (c : Int) (out : List ByteArray) (b : Bool) : Prop :=
  (mendOk ts bs c = false ∧ out = [] ∧ b = false) ∨ (mendOk ts bs c = true ∧ b = true ∧ Mended ts bs c.toNat ((haveL ts bs).getD 0 ByteArray.empty).size out)
theorem mendOk_iff {ts : List ByteArray} {bs : List Bool} {c : Int} : mendOk ts bs c = true ↔ (inB c 1 8 = true ∧ inB (ts.length : Int) (c + 1) (c + 4) = true ∧ bs.length = ts.length ∧ (lostL bs c.toNat).length ≤ (sparesL bs c.toNat ts.length).length ∧ 0 < (haveL ts bs).length ∧ alikeB (haveL ts bs) = true) := by
  simp [mendOk]
theorem MendAnswer.one {ts : List ByteArray} {bs : List Bool} {c : Int} {o o' : List ByteArray} {b b' : Bool} (h : MendAnswer ts bs c o b) (h' : MendAnswer ts bs c o' b') : o = o' ∧ b = b' := by
  rcases h with ⟨h1, rfl, rfl⟩ | ⟨h1, rfl, h2⟩ <;> rcases h' with ⟨h1', rfl, rfl⟩ | ⟨h1', rfl, h2'⟩
  · exact ⟨rfl, rfl⟩
  · rw [h1] at h1'; cases h1'
  · rw [h1] at h1'; cases h1'
  · obtain ⟨g1, g2, _, g4, _⟩ := mendOk_iff.1 h1
    have c1 : 1 ≤ c ∧ c ≤ 8 := by simpa [inB] using g1
    have c2 : c + 1 ≤ (ts.length : Int) ∧ (ts.length : Int) ≤ c + 4 := by simpa [inB] using g2
    exact ⟨h2.one (by omega) (by omega) g4 h2', rfl⟩
/-- What a call of Rebuilt leaves. -/
def MendedTo (ts : List ByteArray) (bs : List Bool) (c : Int) (w : World) (e : Ending) (w' : World) : Prop :=
  ∃ p m cap out b, e = .returned (.tuple #[.slice p m cap, .bool b]) ∧ m ≤ 8 ∧ OwnTexts w.heap.size w'.heap.size w' p m out ∧ MendAnswer ts bs c out b ∧ Below w.heap.size w w'
end Go.Proofs.Ytbgjagmnpfcfaak
