/- Weaving, plainly: the order in which a text's bytes are woven. Nothing of Go's text here. -/
import Derived.Test.YtbgjagmnpfcfaalDoorBase
namespace Go.Proofs.YtbgjagmnpfcfaalDoor
namespace Wv
/-- How many of the numbers below n leave r when divided by d. -/
def cnt (n d r : Nat) : Nat := (n - r + (d - 1)) / d
def row (d r j : Nat) : List Nat := (List.range j).map fun t => r + d * t
def orderTo (n d R : Nat) : List Nat := (List.range R).flatMap fun r => row d r (cnt n d r)
def order (n d : Nat) : List Nat := orderTo n d d
def st (n d R : Nat) : Nat := (orderTo n d R).length
theorem row_succ (d r j : Nat) : row d r (j + 1) = row d r j ++ [r + d * j] := by simp [row, List.range_succ]
theorem row_length (d r j : Nat) : (row d r j).length = j := by simp [row]
theorem orderTo_succ (n d R : Nat) : orderTo n d (R + 1) = orderTo n d R ++ row d R (cnt n d R) := by simp [orderTo, List.range_succ, List.flatMap_append]
theorem st_succ (n d R : Nat) : st n d (R + 1) = st n d R + cnt n d R := by simp [st, orderTo_succ, row_length]
theorem st_mono (n d : Nat) {a b : Nat} (h : a ≤ b) : st n d a ≤ st n d b := by
  induction b with
  | zero => obtain rfl : a = 0 := by omega
            exact Nat.le_refl _
  | succ b ih =>
    rcases Nat.lt_or_ge a (b + 1) with h' | h'
    · have := ih (by omega)
      rw [st_succ]; omega
    · obtain rfl : a = b + 1 := by omega
      exact Nat.le_refl _
theorem cnt_lt {n d r t : Nat} (hd : 0 < d) : t < cnt n d r ↔ r + d * t < n := by
  unfold cnt
  rw [Nat.lt_iff_add_one_le, Nat.le_div_iff_mul_le hd, Nat.add_mul, Nat.one_mul, Nat.mul_comm t d]
  generalize d * t = q
  omega
theorem cnt_ge {n d r : Nat} (hr : r < d) : n / d ≤ cnt n d r := by
  unfold cnt
  rcases Nat.lt_or_ge n r with h | h
  · rw [Nat.div_eq_of_lt (by omega)]; exact Nat.zero_le _
  · exact Nat.div_le_div_right (by omega)
theorem mem_row {d r j x : Nat} : x ∈ row d r j ↔ ∃ t, t < j ∧ x = r + d * t := by
  simp only [row, List.mem_map, List.mem_range]
  constructor
  · rintro ⟨t, h, rfl⟩; exact ⟨t, h, rfl⟩
  · rintro ⟨t, h, rfl⟩; exact ⟨t, h, rfl⟩
theorem mem_order {n d x : Nat} (hd : 0 < d) : x ∈ order n d ↔ x < n := by
  unfold order orderTo
  simp only [List.mem_flatMap, List.mem_range, mem_row]
  constructor
  · rintro ⟨r, hr, t, ht, rfl⟩
    exact (cnt_lt hd).1 ht
  · intro hx
    refine ⟨x % d, Nat.mod_lt _ hd, x / d, (cnt_lt hd).2 ?_, ?_⟩ <;> rw [Nat.mod_add_div]
    exact hx
theorem nodup_row {d r j : Nat} (hd : 0 < d) : (row d r j).Nodup := by
  unfold row
  rw [List.nodup_iff_pairwise_ne, List.pairwise_map]
  exact (List.nodup_iff_pairwise_ne.1 List.nodup_range).imp fun {a b} h e => h (Nat.eq_of_mul_eq_mul_left hd (by omega))
theorem nodup_orderTo {n d : Nat} (hd : 0 < d) : ∀ R, R ≤ d → (orderTo n d R).Nodup
  | 0, _ => by simp [orderTo]
  | R + 1, h => by
    rw [orderTo_succ, List.nodup_append]
    refine ⟨nodup_orderTo hd R (by omega), nodup_row hd, fun a ha b hb e => ?_⟩
    subst e
    unfold orderTo at ha
    simp only [List.mem_flatMap, List.mem_range, mem_row] at ha
    obtain ⟨r, hr, t, _, rfl⟩ := ha
    obtain ⟨u, _, e⟩ := mem_row.1 hb
    have h1 : (r + d * t) % d = r := by rw [Nat.add_mul_mod_self_left, Nat.mod_eq_of_lt (by omega)]
    have h2 : (R + d * u) % d = R := by rw [Nat.add_mul_mod_self_left, Nat.mod_eq_of_lt (by omega)]
    rw [e, h2] at h1
    omega
theorem nodup_order {n d : Nat} (hd : 0 < d) : (order n d).Nodup := nodup_orderTo hd d (Nat.le_refl _)
theorem order_perm {n d : Nat} (hd : 0 < d) : (order n d).Perm (List.range n) :=
  (List.perm_ext_iff_of_nodup (nodup_order hd) List.nodup_range).2 fun x => by rw [mem_order hd, List.mem_range]
theorem order_length {n d : Nat} (hd : 0 < d) : (order n d).length = n := by rw [(order_perm hd).length_eq, List.length_range]
theorem orderTo_at {n d r t : Nat} (ht : t < cnt n d r) : ∀ R, r < R → (orderTo n d R)[st n d r + t]? = some (r + d * t)
  | 0, h => by omega
  | R + 1, h => by
    rw [orderTo_succ]
    rcases Nat.lt_or_ge r R with h' | h'
    · have h1 : st n d (r + 1) ≤ st n d R := st_mono n d (by omega)
      rw [st_succ] at h1
      rw [List.getElem?_append_left (by show _ < st n d R; omega)]
      exact orderTo_at ht R h'
    · obtain rfl : r = R := by omega
      rw [List.getElem?_append_right (by show st n d r ≤ _; omega), show st n d r + t - (orderTo n d r).length = t by show st n d r + t - st n d r = t; omega]
      unfold row
      rw [List.getElem?_map, List.getElem?_range ht]
      rfl
theorem orderTo_pos {n d k : Nat} : ∀ R, k < st n d R → ∃ r t, r < R ∧ t < cnt n d r ∧ k = st n d r + t
  | 0, h => by simp [st, orderTo] at h
  | R + 1, h => by
    rcases Nat.lt_or_ge k (st n d R) with h' | h'
    · obtain ⟨r, t, h1, h2, h3⟩ := orderTo_pos R h'
      exact ⟨r, t, by omega, h2, h3⟩
    · rw [st_succ] at h
      exact ⟨R, k - st n d R, by omega, by omega, by omega⟩
/-- The number whose byte comes to k. -/
def num (n d k : Nat) : Nat := (order n d).getD k 0
theorem num_pos {n d k : Nat} (hd : 0 < d) (hk : k < n) : ∃ r t, r < d ∧ t < cnt n d r ∧ k = st n d r + t ∧ num n d k = r + d * t := by
  have hk' : k < st n d d := by show k < (order n d).length; rw [order_length hd]; exact hk
  obtain ⟨r, t, h1, h2, rfl⟩ := orderTo_pos d hk'
  refine ⟨r, t, h1, h2, rfl, ?_⟩
  unfold num order
  rw [List.getD_eq_getElem?_getD, orderTo_at h2 d h1]
  rfl
theorem num_lt {n d k : Nat} (hd : 0 < d) (hk : k < n) : num n d k < n := by
  obtain ⟨r, t, _, h2, _, h4⟩ := num_pos hd hk
  rw [h4]; exact (cnt_lt hd).1 h2
theorem num_inj {n d i k : Nat} (hd : 0 < d) (hi : i < n) (hk : k < n) (h : num n d i = num n d k) : i = k := by
  have hl := order_length (n := n) hd
  unfold num at h
  rw [List.getD_eq_getElem?_getD, List.getD_eq_getElem?_getD, List.getElem?_eq_getElem (by omega), List.getElem?_eq_getElem (by omega)] at h
  exact (List.getElem_inj (nodup_order (n := n) hd)).1 h
theorem num_onto {n d x : Nat} (hd : 0 < d) (hx : x < n) : ∃ k, k < n ∧ num n d k = x := by
  obtain ⟨k, hk, e⟩ := List.getElem_of_mem ((mem_order (n := n) hd).2 hx)
  refine ⟨k, by rw [order_length hd] at hk; exact hk, ?_⟩
  unfold num
  rw [List.getD_eq_getElem?_getD, List.getElem?_eq_getElem hk, e]
  rfl
def dist (a b : Nat) : Nat := (a - b) + (b - a)
theorem num_apart {n d i k : Nat} (hd : 0 < d) (hi : i < n) (hk : k < i) : 1 ≤ dist (num n d i) (num n d k) := by
  unfold dist
  have := fun e => num_inj (n := n) (d := d) (i := i) (k := k) hd hi (by omega) e
  rcases Nat.lt_or_ge (num n d i) (num n d k) with h | h
  · omega
  · rcases Nat.lt_or_ge (num n d k) (num n d i) with h' | h'
    · omega
    · have := this (by omega); omega
theorem num_far {n d i k m : Nat} (hd : 0 < d) (hi : i < n) (hk : k < i) (hm : i < k + m) (hmn : m ≤ n / d) : d - 1 ≤ dist (num n d i) (num n d k) := by
  obtain ⟨r, t, hr, ht, e1, e2⟩ := num_pos (n := n) hd (show k < n by omega)
  obtain ⟨r', t', hr', ht', e1', e2'⟩ := num_pos (n := n) hd hi
  have hle : r ≤ r' := by
    rcases Nat.lt_or_ge r' r with h | h
    · have := st_mono n d (show r' + 1 ≤ r by omega)
      rw [st_succ] at this; omega
    · exact h
  rw [e2, e2']
  unfold dist
  rcases Nat.lt_or_ge r r' with h | h
  · rcases Nat.lt_or_ge (r + 1) r' with h2 | h2
    · exfalso
      have h3 := st_mono n d (show r + 2 ≤ r' by omega)
      rw [st_succ, st_succ] at h3
      have := cnt_ge (n := n) (show r + 1 < d by omega)
      omega
    · obtain rfl : r' = r + 1 := by omega
      have h3 := cnt_ge (n := n) hr
      rw [st_succ] at e1'
      have htt : t' + 1 ≤ t := by omega
      have h4 : d * (t' + 1) ≤ d * t := Nat.mul_le_mul_left d htt
      rw [Nat.mul_add, Nat.mul_one] at h4
      omega
  · obtain rfl : r' = r := by omega
    have htt : t + 1 ≤ t' := by omega
    have h4 : d * (t + 1) ≤ d * t' := Nat.mul_le_mul_left d htt
    rw [Nat.mul_add, Nat.mul_one] at h4
    omega
/-- The number to which x's byte comes. -/
def pos (n d x : Nat) : Nat := (order n d).idxOf x
theorem num_of_idx {n d x : Nat} (hm : x ∈ order n d) : num n d ((order n d).idxOf x) = x := by
  have h := List.idxOf_lt_length_iff.2 hm
  unfold num
  rw [List.getD_eq_getElem?_getD, List.getElem?_eq_getElem h, List.getElem_idxOf]
  rfl
theorem pos_num {n d k : Nat} (hd : 0 < d) (hk : k < n) : pos n d (num n d k) = k := by
  have hl := order_length (n := n) hd
  have hm : num n d k ∈ order n d := (mem_order hd).2 (num_lt hd hk)
  have hlt : pos n d (num n d k) < n := by
    have := List.idxOf_lt_length_iff.2 hm
    rw [hl] at this
    exact this
  exact num_inj (n := n) hd hlt hk (num_of_idx hm)
theorem pos_lt {n d x : Nat} (hd : 0 < d) (hx : x < n) : pos n d x < n := by
  obtain ⟨k, hk, rfl⟩ := num_onto (n := n) hd hx
  rw [pos_num hd hk]; exact hk
theorem num_of_pos {n d x : Nat} (hd : 0 < d) (hx : x < n) : num n d (pos n d x) = x := by
  obtain ⟨k, hk, rfl⟩ := num_onto (n := n) hd hx
  rw [pos_num hd hk]
theorem num_one {n k : Nat} (hk : k < n) : num n 1 k = k := by
  obtain ⟨r, t, hr, ht, e1, e2⟩ := num_pos (n := n) (d := 1) (by omega) hk
  obtain rfl : r = 0 := by omega
  rw [e2, e1]
  simp [st, orderTo]
/-- A text woven, unwoven. -/
def wovenL (l : List UInt8) (d : Nat) : List UInt8 := (List.range l.length).map fun k => l.getD (num l.length d k) 0
def unwovenL (l : List UInt8) (d : Nat) : List UInt8 := (List.range l.length).map fun x => l.getD (pos l.length d x) 0
theorem wovenL_length (l : List UInt8) (d : Nat) : (wovenL l d).length = l.length := by simp [wovenL]
theorem unwovenL_length (l : List UInt8) (d : Nat) : (unwovenL l d).length = l.length := by simp [unwovenL]
theorem wovenL_at (l : List UInt8) (d k : Nat) (hk : k < l.length) : (wovenL l d).getD k 0 = l.getD (num l.length d k) 0 := by
  unfold wovenL
  rw [List.getD_eq_getElem?_getD, List.getElem?_map, List.getElem?_range hk]
  rfl
theorem unwovenL_at (l : List UInt8) (d k : Nat) (hk : k < l.length) : (unwovenL l d).getD k 0 = l.getD (pos l.length d k) 0 := by
  unfold unwovenL
  rw [List.getD_eq_getElem?_getD, List.getElem?_map, List.getElem?_range hk]
  rfl
theorem ext_getD {l m : List UInt8} (hl : l.length = m.length) (h : ∀ k, k < m.length → l.getD k 0 = m.getD k 0) : l = m := by
  apply List.ext_getElem hl
  intro k h1 h2
  have := h k h2
  rwa [List.getD_eq_getElem?_getD, List.getD_eq_getElem?_getD, List.getElem?_eq_getElem h1, List.getElem?_eq_getElem h2] at this
theorem unwoven_woven (l : List UInt8) {d : Nat} (hd : 0 < d) : unwovenL (wovenL l d) d = l := by
  apply ext_getD (by rw [unwovenL_length, wovenL_length])
  intro k hk
  rw [unwovenL_at _ _ _ (by rw [wovenL_length]; exact hk), wovenL_length, wovenL_at _ _ _ (pos_lt hd hk), num_of_pos hd hk]
theorem woven_unwoven (l : List UInt8) {d : Nat} (hd : 0 < d) : wovenL (unwovenL l d) d = l := by
  apply ext_getD (by rw [wovenL_length, unwovenL_length])
  intro k hk
  rw [wovenL_at _ _ _ (by rw [unwovenL_length]; exact hk), unwovenL_length, unwovenL_at _ _ _ (num_lt hd hk), pos_num hd hk]
theorem woven_one (l : List UInt8) : wovenL l 1 = l := by
  apply ext_getD (wovenL_length _ _)
  intro k hk
  rw [wovenL_at _ _ _ hk, num_one hk]
/-- The least distance: through the first m of the numbers from at on. -/
def nearK (n d at' i best : Nat) : Nat → Nat
  | 0 => best
  | m + 1 => min (nearK n d at' i best m) (dist (num n d i) (num n d (at' + m)))
def nearN (n d at' : Nat) : Nat → Nat
  | 0 => n
  | m + 1 => nearK n d at' (at' + m) (nearN n d at' m) m
theorem nearK_le (n d a i best : Nat) : ∀ m, nearK n d a i best m ≤ best
  | 0 => Nat.le_refl _
  | m + 1 => Nat.le_trans (Nat.min_le_left _ _) (nearK_le n d a i best m)
theorem nearN_le (n d a : Nat) : ∀ m, nearN n d a m ≤ n
  | 0 => Nat.le_refl _
  | m + 1 => Nat.le_trans (nearK_le _ _ _ _ _ m) (nearN_le n d a m)
theorem nearK_ge {n d a i best B : Nat} (hb : B ≤ best) : ∀ m, (∀ k, a ≤ k → k < a + m → B ≤ dist (num n d i) (num n d k)) → B ≤ nearK n d a i best m
  | 0, _ => hb
  | m + 1, h => Nat.le_min.2 ⟨nearK_ge hb m fun k h1 h2 => h k h1 (by omega), h _ (by omega) (by omega)⟩
theorem nearN_ge {n d a B : Nat} (hb : B ≤ n) : ∀ m, (∀ i k, a ≤ k → k < i → i < a + m → B ≤ dist (num n d i) (num n d k)) → B ≤ nearN n d a m
  | 0, _ => hb
  | m + 1, h => nearK_ge (nearN_ge hb m fun i k h1 h2 h3 => h i k h1 h2 (by omega)) m fun k h1 h2 => h _ k h1 h2 (by omega)
theorem near_one {n d a m : Nat} (hd : 0 < d) (hm : 0 < m) (h : a + m ≤ n) : 1 ≤ nearN n d a m :=
  nearN_ge (by omega) m fun i k h1 h2 h3 => num_apart hd (by omega) h2
theorem near_far {n d a m : Nat} (hd : 0 < d) (hm : 0 < m) (h : a + m ≤ n) (hmn : m ≤ n / d) : d - 1 ≤ nearN n d a m := by
  refine nearN_ge ?_ m fun i k h1 h2 h3 => num_far hd (by omega) h2 (m := m) (by omega) hmn
  have h1 : 1 ≤ n / d := by omega
  have := (Nat.le_div_iff_mul_le hd).1 h1
  omega
end Wv
end Go.Proofs.YtbgjagmnpfcfaalDoor
