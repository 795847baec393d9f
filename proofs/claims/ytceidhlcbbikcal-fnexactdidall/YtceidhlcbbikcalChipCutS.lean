/- The model's l8Cut: a Job within which power fails. -/
import Derived.Test.YtceidhlcbbikcalChipDoS
import Derived.Test.YtceidhlcbbikcalQuietTail
namespace Go.Proofs.Ytceidhlcbbikcal
open Go.RowKit
set_option linter.unusedVariables false
set_option maxRecDepth 20000

/-- How many bytes of n are there where power failed behind b. -/
def partN (n : Nat) (b : Int) : Nat := if b < 1 then 1 else if b ≤ (n : Int) then b.toNat else n
def part (s : ByteArray) (b : Int) : ByteArray := s.extract 0 (partN s.size b)
theorem partN_le {n : Nat} (b : Int) (h : 1 ≤ n) : 1 ≤ partN n b ∧ partN n b ≤ n := by
  unfold partN
  split
  · omega
  · split <;> omega
theorem part_size {s : ByteArray} (b : Int) (h : 1 ≤ s.size) : 1 ≤ (part s b).size ∧ (part s b).size ≤ s.size := by
  have := partN_le (n := s.size) b h
  unfold part
  rw [ByteArray.size_extract]
  omega
def sqCut (q : Sq) (kd : Int) (tx : ByteArray) (b : Int) : Sq := if kd = 1 then (q.1 ++ [part tx b], q.2.1, q.2.2) else if kd = 2 then (q.1.map (part · b), q.2.1 + 1, q.2.2) else q
def cutJ (z : Int) (qs : List Sq) (j : Jb) (b : Int) : List Sq := if canJ z qs j then qs.set j.2.1.toNat (sqCut (sqAt qs j.2.1.toNat) j.1 j.2.2 b) else qs
theorem cutJ_yes {z : Int} {qs : List Sq} {kd : Int} {i : Nat} {tx : ByteArray} {b : Int} (h : canJ z qs (kd, (i : Int), tx) = true) : cutJ z qs (kd, (i : Int), tx) b = qs.set i (sqCut (sqAt qs i) kd tx b) := by
  unfold cutJ; rw [if_pos h]; simp
theorem cutJ_no {z : Int} {qs : List Sq} {j : Jb} {b : Int} (h : canJ z qs j = false) : cutJ z qs j b = qs := by
  unfold cutJ; rw [if_neg (by rw [h]; simp)]
theorem set_sqAt (qs : List Sq) {i : Nat} (h : i < qs.length) : qs.set i (sqAt qs i) = qs := by
  unfold sqAt
  rw [List.getD_eq_getElem?_getD, List.getElem?_eq_getElem h]
  exact List.set_getElem_self h
theorem sqCut_ok {z : Int} {q : Sq} {kd : Int} {tx : ByteArray} {b : Int} (h : sqOk z q = true) (hk : canK z q kd tx = true) : sqOk z (sqCut q kd tx b) = true := by
  have h0 := h
  unfold sqOk inB at h ⊢
  simp only [Bool.and_eq_true, decide_eq_true_eq, List.all_eq_true] at h ⊢
  obtain ⟨h1, ⟨h2, h3⟩, h4⟩ := h
  have hp : ∀ s : ByteArray, txOk s = true → txOk (part s b) = true := fun s hs => by
    unfold txOk at hs ⊢
    simp only [Bool.and_eq_true, decide_eq_true_eq] at hs ⊢
    have := part_size b hs.1
    omega
  rcases canK_kind hk with ⟨rfl, k1, k2, k3⟩ | ⟨rfl, k1⟩ | rfl
  · unfold sqCut
    rw [if_pos rfl]
    refine ⟨by simp; omega, ⟨h2, h3⟩, fun s hs => ?_⟩
    simp only [List.mem_append, List.mem_singleton] at hs
    rcases hs with hs | rfl
    · exact h4 s hs
    · exact hp tx (by unfold txOk; simp [k2, k3])
  · unfold sqCut
    rw [if_neg (by decide), if_pos rfl]
    refine ⟨by simpa using h1, ⟨by show 0 ≤ q.2.1 + 1; omega, by show q.2.1 + 1 ≤ 1000000; omega⟩, fun s hs => ?_⟩
    obtain ⟨t, ht, rfl⟩ := List.mem_map.1 hs
    exact hp t (h4 t ht)
  · unfold sqCut
    rw [if_neg (by decide), if_neg (by decide)]
    exact ⟨h1, ⟨h2, h3⟩, h4⟩
theorem cutJ_ok {z : Int} {qs : List Sq} {j : Jb} {b : Int} (h : chipOk z qs = true) : chipOk z (cutJ z qs j b) = true := by
  cases hc : canJ z qs j with
  | false => rw [cutJ_no hc]; exact h
  | true =>
    obtain ⟨i, hi, hl, _, hk⟩ := canJ_parts hc
    obtain ⟨kd, sq, tx⟩ := j
    dsimp only at hi hk
    subst hi
    rw [cutJ_yes hc]
    exact set_ok h (sqCut_ok (chipOk_at h hl) hk)
/-- The first k turned by f. -/
def mixL (f : ByteArray → ByteArray) (ts : List ByteArray) (k : Nat) : List ByteArray := (ts.take k).map f ++ ts.drop k
theorem mixL_zero (f : ByteArray → ByteArray) (ts : List ByteArray) : mixL f ts 0 = ts := by simp [mixL]
theorem mixL_all (f : ByteArray → ByteArray) (ts : List ByteArray) : mixL f ts ts.length = ts.map f := by simp [mixL]
theorem mixL_length (f : ByteArray → ByteArray) (ts : List ByteArray) (k : Nat) : (mixL f ts k).length = ts.length := by simp [mixL]; omega
theorem mixL_at (f : ByteArray → ByteArray) {ts : List ByteArray} {k : Nat} (h : k < ts.length) : (mixL f ts k)[k]? = some (ts.getD k ByteArray.empty) := by
  unfold mixL
  rw [List.getElem?_append_right (by simp; omega), List.length_map, List.length_take, Nat.min_eq_left (by omega), Nat.sub_self, List.getElem?_drop, Nat.add_zero, List.getD_eq_getElem?_getD, List.getElem?_eq_getElem h]
  rfl
theorem mixL_step (f : ByteArray → ByteArray) {ts : List ByteArray} {k : Nat} (h : k < ts.length) : (mixL f ts k).set k (f (ts.getD k ByteArray.empty)) = mixL f ts (k + 1) := by
  unfold mixL
  rw [List.set_append_right _ _ (by simp; omega), List.length_map, List.length_take, Nat.min_eq_left (by omega), Nat.sub_self, List.drop_eq_getElem_cons h, List.set_cons_zero, List.take_succ_eq_append_getElem h, List.map_append, List.getD_eq_getElem?_getD, List.getElem?_eq_getElem h]
  simp
theorem getD_memT {ts : List ByteArray} {k : Nat} (h : k < ts.length) : ts.getD k ByteArray.empty ∈ ts := by
  rw [List.getD_eq_getElem?_getD, List.getElem?_eq_getElem h]; exact List.getElem_mem h

end Go.Proofs.Ytceidhlcbbikcal
