/- Solving plainly, over the field of 256: steps of a row keep what solves; what is left in the end tells the one solution, or one that is not alone. Nothing of Go's text here. -/
import Derived.Test.YtbgjagmnpfcfaakFieldMath
namespace Go.Proofs.Ytbgjagmnpfcfaak
namespace Sv
open Go.Proofs.Ytbgjagmnpfcfaak.Field
set_option linter.unusedVariables false
theorem xor_nought {a b : Nat} (h : a ^^^ b = 0) : a = b := by
  have := congrArg (· ^^^ b) h
  simpa [Nat.xor_assoc] using this
/-- The sum of a's elements times y's, the first k. -/
def dot (a y : Nat → Nat) : Nat → Nat
  | 0 => 0
  | k + 1 => dot a y k ^^^ mul (a k) (y k)
/-- Elements, the first k. -/
def El (k : Nat) (a : Nat → Nat) : Prop := ∀ j, j < k → a j < 256
theorem El.mono {k j : Nat} {a : Nat → Nat} (h : El k a) (hj : j ≤ k) : El j a := fun i hi => h i (by omega)
theorem dot_lt {a y : Nat → Nat} : ∀ {k : Nat}, El k a → dot a y k < 256
  | 0, _ => by simp [dot]
  | k + 1, h => xor_lt (dot_lt (h.mono (by omega))) (mul_lt (h k (by omega)))
theorem dot_congr {a b x y : Nat → Nat} : ∀ {k : Nat}, (∀ j, j < k → a j = b j) → (∀ j, j < k → x j = y j) → dot a x k = dot b y k
  | 0, _, _ => rfl
  | k + 1, h, g => by
    unfold dot
    rw [dot_congr (fun j hj => h j (by omega)) (fun j hj => g j (by omega)), h k (by omega), g k (by omega)]
theorem dot_add {a b y : Nat → Nat} : ∀ {k : Nat}, El k a → El k b → dot (fun j => a j ^^^ b j) y k = dot a y k ^^^ dot b y k
  | 0, _, _ => by simp [dot]
  | k + 1, h, g => by
    unfold dot
    rw [dot_add (h.mono (by omega)) (g.mono (by omega)), mul_left _ (h k (by omega)) (g k (by omega)), xor4]
theorem dot_scale {f : Nat} {a y : Nat → Nat} (hf : f < 256) : ∀ {k : Nat}, El k a → El k y → dot (fun j => mul f (a j)) y k = mul f (dot a y k)
  | 0, _, _ => (mul_zero f).symm
  | k + 1, h, g => by
    unfold dot
    rw [dot_scale hf (h.mono (by omega)) (g.mono (by omega)), mul_right, mul_assoc hf (h k (by omega)) (g k (by omega))]
theorem dot_zero {a y : Nat → Nat} : ∀ {k : Nat}, El k y → (∀ j, j < k → a j = 0 ∨ y j = 0) → dot a y k = 0
  | 0, _, _ => rfl
  | k + 1, g, h => by
    unfold dot
    rw [dot_zero (g.mono (by omega)) (fun j hj => h j (by omega))]
    rcases h k (by omega) with e | e
    · rw [e, zero_mul (g k (by omega))]; rfl
    · rw [e, mul_zero]; rfl
theorem dot_unit {a y : Nat → Nat} {i : Nat} : ∀ {k : Nat}, El k y → (∀ j, j < k → a j = if i = j then 1 else 0) → dot a y k = if i < k then y i else 0
  | 0, _, _ => by simp [dot]
  | k + 1, g, h => by
    unfold dot
    rw [dot_unit (i := i) (g.mono (by omega)) (fun j hj => h j (by omega)), h k (by omega)]
    by_cases e : i = k
    · subst e
      simp [one_mul (g i (by omega))]
    · rw [if_neg e, zero_mul (g k (by omega))]
      by_cases h' : i < k
      · rw [if_pos h', if_pos (by omega)]; simp
      · rw [if_neg h', if_neg (by omega)]; rfl

/-- Rows of n elements, and one more: what is right. -/
abbrev Mat : Type := Nat → Nat → Nat
def Good (n : Nat) (m : Mat) : Prop := ∀ i, i < n → El (n + 1) (m i)
/-- y, whose last element says how often what is right counts, is nought in all rows. -/
def Nil (n : Nat) (m : Mat) (y : Nat → Nat) : Prop := ∀ i, i < n → dot (m i) y (n + 1) = 0
theorem Nil.congr {n : Nat} {m m' : Mat} {y : Nat → Nat} (h : ∀ i, i < n → ∀ k, k < n + 1 → m i k = m' i k) : Nil n m y ↔ Nil n m' y := by
  constructor
  · intro g i hi
    rw [← dot_congr (h i hi) (fun _ _ => rfl)]; exact g i hi
  · intro g i hi
    rw [dot_congr (h i hi) (fun _ _ => rfl)]; exact g i hi
def swap (m : Mat) (p q : Nat) : Mat := fun i => if i = p then m q else if i = q then m p else m i
def scale (m : Mat) (p f : Nat) : Mat := fun i k => if i = p then mul f (m p k) else m i k
def elim (m : Mat) (p : Nat) : Mat := fun i k => if i = p then m p k else m i k ^^^ mul (m i p) (m p k)
theorem Good.swap {n p q : Nat} {m : Mat} (h : Good n m) (hp : p < n) (hq : q < n) : Good n (swap m p q) := by
  intro i hi
  unfold Sv.swap
  split
  · exact h q hq
  · split
    · exact h p hp
    · exact h i hi
theorem Good.scale {n p f : Nat} {m : Mat} (h : Good n m) (hp : p < n) (hf : f < 256) : Good n (scale m p f) := by
  intro i hi k hk
  unfold Sv.scale
  split
  · exact mul_lt hf
  · exact h i hi k hk
theorem Good.elim {n p : Nat} {m : Mat} (h : Good n m) (hp : p < n) : Good n (elim m p) := by
  intro i hi k hk
  unfold Sv.elim
  split
  · exact h p hp k hk
  · exact xor_lt (h i hi k hk) (mul_lt (h i hi p (by omega)))
theorem nil_swap {n p q : Nat} {m : Mat} {y : Nat → Nat} (hp : p < n) (hq : q < n) : Nil n (swap m p q) y ↔ Nil n m y := by
  constructor
  · intro g i hi
    by_cases e : i = p
    · have := g q hq
      unfold swap at this
      by_cases e2 : q = p
      · rw [if_pos e2] at this; rw [e, ← e2]; exact this
      · rw [if_neg e2, if_pos rfl] at this; rw [e]; exact this
    · by_cases e2 : i = q
      · have := g p hp
        unfold swap at this
        rw [if_pos rfl] at this; rw [e2]; exact this
      · have := g i hi
        unfold swap at this
        rw [if_neg e, if_neg e2] at this; exact this
  · intro g i hi
    unfold swap
    split
    · exact g q hq
    · split
      · exact g p hp
      · exact g i hi
theorem nil_scale {n p f : Nat} {m : Mat} {y : Nat → Nat} (h : Good n m) (hy : El (n + 1) y) (hp : p < n) (hf : f < 256) (h0 : f ≠ 0) : Nil n (scale m p f) y ↔ Nil n m y := by
  have hr : dot (scale m p f p) y (n + 1) = mul f (dot (m p) y (n + 1)) := by
    rw [← dot_scale hf (h p hp) hy]
    exact dot_congr (fun j _ => by simp [scale]) (fun _ _ => rfl)
  have ho : ∀ i, i ≠ p → dot (scale m p f i) y (n + 1) = dot (m i) y (n + 1) := fun i e => dot_congr (fun j _ => by simp [scale, e]) (fun _ _ => rfl)
  constructor
  · intro g i hi
    by_cases e : i = p
    · subst e
      have := g i hi
      rw [hr] at this
      rcases mul_nought hf (dot_lt (h i hi)) this with e | e
      · exact absurd e h0
      · exact e
    · rw [← ho i e]; exact g i hi
  · intro g i hi
    by_cases e : i = p
    · subst e
      rw [hr, g i hi, mul_zero]
    · rw [ho i e]; exact g i hi
theorem nil_elim {n p : Nat} {m : Mat} {y : Nat → Nat} (h : Good n m) (hy : El (n + 1) y) (hp : p < n) : Nil n (elim m p) y ↔ Nil n m y := by
  have hr : dot (elim m p p) y (n + 1) = dot (m p) y (n + 1) := dot_congr (fun j _ => by simp [elim]) (fun _ _ => rfl)
  have ho : ∀ i, i < n → i ≠ p → dot (elim m p i) y (n + 1) = dot (m i) y (n + 1) ^^^ mul (m i p) (dot (m p) y (n + 1)) := by
    intro i hi e
    rw [← dot_scale (h i hi p (by omega)) (h p hp) hy, ← dot_add (h i hi) (fun j _ => mul_lt (h i hi p (by omega)))]
    exact dot_congr (fun j _ => by simp [elim, e]) (fun _ _ => rfl)
  constructor
  · intro g i hi
    have gp := g p hp
    rw [hr] at gp
    by_cases e : i = p
    · rw [e]; exact gp
    · have := g i hi
      rw [ho i hi e, gp, mul_zero] at this
      simpa using this
  · intro g i hi
    by_cases e : i = p
    · rw [e, hr]; exact g p hp
    · rw [ho i hi e, g i hi, g p hp, mul_zero]; rfl
/-- The first c columns are those of the unit. -/
def Unit' (n c : Nat) (m : Mat) : Prop := ∀ j, j < c → ∀ i, i < n → m i j = if i = j then 1 else 0
/-- What one column's turn makes of a matrix: row 'at' comes to its place, is divided by its element, and is taken off all others. -/
def turn (m : Mat) (c at' : Nat) : Mat := elim (scale (swap m at' c) c (inv (m at' c))) c
theorem Good.turn {n c at' : Nat} {m : Mat} (h : Good n m) (hc : c < n) (ha : at' < n) : Good n (turn m c at') :=
  ((h.swap ha hc).scale hc (inv_lt (h at' ha c (by omega)))).elim hc
theorem inv_ne {a : Nat} (h : a < 256) (h0 : a ≠ 0) : inv a ≠ 0 := by
  intro e
  have := mul_inv h h0
  rw [e, mul_zero] at this
  omega
theorem nil_turn {n c at' : Nat} {m : Mat} {y : Nat → Nat} (h : Good n m) (hy : El (n + 1) y) (hc : c < n) (ha : at' < n) (h0 : m at' c ≠ 0) : Nil n (turn m c at') y ↔ Nil n m y := by
  have hi := h at' ha c (by omega)
  unfold turn
  rw [nil_elim ((h.swap ha hc).scale hc (inv_lt hi)) hy hc, nil_scale (h.swap ha hc) hy hc (inv_lt hi) (inv_ne hi h0), nil_swap ha hc]
theorem swap_at (m : Mat) (c at' : Nat) : swap m at' c c = m at' := by
  unfold swap
  split
  · rename_i e; rw [e]
  · simp
theorem unit_turn {n c at' : Nat} {m : Mat} (h : Good n m) (hu : Unit' n c m) (hc : c < n) (ha : at' < n) (hca : c ≤ at') (h0 : m at' c ≠ 0) : Unit' n (c + 1) (turn m c at') := by
  have hi := h at' ha c (by omega)
  have hg := (h.swap ha hc).scale hc (inv_lt hi)
  -- the row of the turn
  have hrow : ∀ k, scale (swap m at' c) c (inv (m at' c)) c k = mul (inv (m at' c)) (m at' k) := fun k => by
    unfold scale
    rw [if_pos rfl, swap_at]
  have hone : scale (swap m at' c) c (inv (m at' c)) c c = 1 := by rw [hrow, mul_comm (inv_lt hi) hi, mul_inv hi h0]
  have hlow : ∀ j, j < c → ∀ i, i < n → scale (swap m at' c) c (inv (m at' c)) i j = if i = j then 1 else 0 := by
    intro j hj i hin
    by_cases e : i = c
    · subst e
      rw [hrow, hu j hj at' ha, if_neg (by omega), mul_zero, if_neg (by omega)]
    · unfold scale
      rw [if_neg e]
      unfold swap
      by_cases e2 : i = at'
      · rw [if_pos e2, hu j hj c hc, if_neg (by omega), if_neg (by omega)]
      · rw [if_neg e2, if_neg e]; exact hu j hj i hin
  intro j hj i hin
  unfold turn
  generalize scale (swap m at' c) c (inv (m at' c)) = m1 at hg hrow hone hlow
  unfold elim
  rcases Nat.lt_or_ge j c with hjc | hjc
  · by_cases e : i = c
    · rw [if_pos e, hlow j hjc c hc, if_neg (by omega), if_neg (by omega)]
    · rw [if_neg e, hlow j hjc c hc, if_neg (show c ≠ j by omega), mul_zero, hlow j hjc i hin]; simp
  · obtain rfl : j = c := by omega
    by_cases e : i = j
    · rw [if_pos e, if_pos e]; exact hone
    · rw [if_neg e, if_neg e, hone, mul_one (hg i hin j (by omega))]; simp
/-- In the end: just what the last column says. -/
theorem nil_unit {n : Nat} {m : Mat} {y : Nat → Nat} (h : Good n m) (hu : Unit' n n m) (hy : El (n + 1) y) : Nil n m y ↔ ∀ i, i < n → y i = mul (m i n) (y n) := by
  have hd : ∀ i, i < n → dot (m i) y (n + 1) = y i ^^^ mul (m i n) (y n) := by
    intro i hi
    show dot (m i) y n ^^^ _ = _
    rw [dot_unit (i := i) (hy.mono (by omega)) (fun j hj => hu j hj i hi), if_pos hi]
  constructor
  · intro g i hi
    have := g i hi
    rw [hd i hi] at this
    exact xor_nought this
  · intro g i hi
    rw [hd i hi, g i hi]; exact Nat.xor_self _
/-- No row is left for a column: then there is one that is nought. -/
theorem nil_stuck {n c : Nat} {m : Mat} (h : Good n m) (hu : Unit' n c m) (hc : c < n) (hz : ∀ i, c ≤ i → i < n → m i c = 0) : ∃ v, El (n + 1) v ∧ v n = 0 ∧ v c ≠ 0 ∧ Nil n m v := by
  refine ⟨fun j => if j < c then m j c else if j = c then 1 else 0, ?_, ?_, ?_, ?_⟩
  · intro j hj
    dsimp only
    split
    · exact h j (by omega) c (by omega)
    · split <;> omega
  · dsimp only
    rw [if_neg (by omega), if_neg (by omega)]
  · dsimp only
    rw [if_neg (by omega), if_pos rfl]; omega
  · have hv : El (n + 1) (fun j => if j < c then m j c else if j = c then 1 else 0) := by
      intro j hj
      dsimp only
      split
      · exact h j (by omega) c (by omega)
      · split <;> omega
    -- behind c nothing counts
    have hcut : ∀ (a : Nat → Nat) (k : Nat), dot a (fun j => if j < c then m j c else if j = c then 1 else 0) (c + 1 + k) = dot a (fun j => if j < c then m j c else if j = c then 1 else 0) (c + 1) := by
      intro a k
      induction k with
      | zero => rfl
      | succ k ih =>
        show dot a _ (c + 1 + k) ^^^ mul (a (c + 1 + k)) (if c + 1 + k < c then m (c + 1 + k) c else if c + 1 + k = c then 1 else 0) = _
        rw [if_neg (by omega), if_neg (by omega), mul_zero, ih]; simp
    intro i hi
    obtain ⟨k, hk⟩ : ∃ k, n + 1 = c + 1 + k := ⟨n - c, by omega⟩
    rw [hk, hcut]
    show dot (m i) _ c ^^^ mul (m i c) (if c < c then m c c else if c = c then 1 else 0) = 0
    rw [if_neg (by omega), if_pos rfl, mul_one (h i hi c (by omega)), dot_unit (i := i) (hv.mono (by omega)) (fun j hj => hu j hj i hi)]
    by_cases e : i < c
    · rw [if_pos e, if_pos e]; exact Nat.xor_self _
    · rw [if_neg e, hz i (by omega) hi]; rfl
/-- What is told of rows and what is right: the one solution, or none where another one is nought. -/
def Told (n : Nat) (m : Mat) (out : List Int) (is : Bool) : Prop :=
  (is = true ∧ ∃ x : Nat → Nat, El n x ∧ out = (List.range n).map (fun i => (x i : Int)) ∧ ∀ y, El (n + 1) y → (Nil n m y ↔ ∀ i, i < n → y i = mul (x i) (y n))) ∨
  (is = false ∧ out = [] ∧ ∃ v, El (n + 1) v ∧ v n = 0 ∧ (∃ j, j < n ∧ v j ≠ 0) ∧ Nil n m v)
theorem Told.one {n : Nat} {m : Mat} {o o' : List Int} {b b' : Bool} (h : Told n m o b) (h' : Told n m o' b') : o = o' ∧ b = b' := by
  rcases h with ⟨rfl, x, hx, rfl, h1⟩ | ⟨rfl, rfl, v, hv, hv0, ⟨j, hj, hvj⟩, h1⟩ <;> rcases h' with ⟨rfl, x', hx', rfl, h1'⟩ | ⟨rfl, rfl, v', hv', hv0', ⟨j', hj', hvj'⟩, h1'⟩
  · refine ⟨?_, rfl⟩
    have hy : El (n + 1) (fun i => if i < n then x i else 1) := by
      intro j hj; dsimp only; split
      · exact hx j (by assumption)
      · omega
    have hn := (h1 _ hy).2 (fun i hi => by rw [if_pos hi, if_neg (by omega), mul_one (hx i hi)])
    have h2 := (h1' _ hy).1 hn
    apply List.map_congr_left
    intro i hi
    rw [List.mem_range] at hi
    have := h2 i hi
    rw [if_pos hi, if_neg (by omega), mul_one (hx' i hi)] at this
    rw [this]
  · exfalso
    have := (h1 v' hv').1 h1' j' hj'
    rw [hv0', mul_zero] at this
    exact hvj' this
  · exfalso
    have := (h1' v hv).1 h1 j hj
    rw [hv0, mul_zero] at this
    exact hvj this
  · exact ⟨rfl, rfl⟩
/-- On the way: a matrix that has the same solutions, its first c columns the unit's. -/
structure Way (n c : Nat) (m0 m : Mat) : Prop where
  good : Good n m
  unit : Unit' n c m
  same : ∀ y, El (n + 1) y → (Nil n m y ↔ Nil n m0 y)
theorem Way.start {n : Nat} {m : Mat} (h : Good n m) : Way n 0 m m := ⟨h, fun j hj => absurd hj (by omega), fun _ _ => Iff.rfl⟩
theorem Way.step {n c at' : Nat} {m0 m : Mat} (h : Way n c m0 m) (hc : c < n) (ha : at' < n) (hca : c ≤ at') (h0 : m at' c ≠ 0) : Way n (c + 1) m0 (turn m c at') :=
  ⟨h.good.turn hc ha, unit_turn h.good h.unit hc ha hca h0, fun y hy => (nil_turn h.good hy hc ha h0).trans (h.same y hy)⟩
theorem Way.congr {n c : Nat} {m0 m m' : Mat} (h : Way n c m0 m) (e : ∀ i, i < n → ∀ k, k < n + 1 → m i k = m' i k) (hc : c ≤ n) : Way n c m0 m' :=
  ⟨fun i hi k hk => by rw [← e i hi k hk]; exact h.good i hi k hk, fun j hj i hi => by rw [← e i hi j (by omega)]; exact h.unit j hj i hi, fun y hy => (Nil.congr e).symm.trans (h.same y hy)⟩
theorem Way.stuck {n c : Nat} {m0 m : Mat} (h : Way n c m0 m) (hc : c < n) (hz : ∀ i, c ≤ i → i < n → m i c = 0) : Told n m0 [] false := by
  obtain ⟨v, hv, hv0, hvc, hn⟩ := nil_stuck h.good h.unit hc hz
  exact .inr ⟨rfl, rfl, v, hv, hv0, ⟨c, hc, hvc⟩, (h.same v hv).1 hn⟩
theorem Way.done {n : Nat} {m0 m : Mat} (h : Way n n m0 m) : Told n m0 ((List.range n).map fun i => (m i n : Int)) true :=
  .inl ⟨rfl, fun i => m i n, fun i hi => h.good i hi n (by omega), rfl, fun y hy => (h.same y hy).symm.trans (nil_unit h.good h.unit hy)⟩
/-- Something is always told. -/
theorem told_from {n : Nat} {m0 : Mat} : ∀ (k c : Nat) (m : Mat), c + k = n → Way n c m0 m → ∃ o b, Told n m0 o b
  | 0, c, m, e, h => by
    obtain rfl : c = n := by omega
    exact ⟨_, _, h.done⟩
  | k + 1, c, m, e, h => by
    by_cases hz : ∀ i, c ≤ i → i < n → m i c = 0
    · exact ⟨_, _, h.stuck (by omega) hz⟩
    · obtain ⟨i, h1⟩ := Classical.not_forall.1 hz
      obtain ⟨h2, h3⟩ := Classical.not_imp.1 h1
      obtain ⟨h4, h5⟩ := Classical.not_imp.1 h3
      exact told_from k (c + 1) _ (by omega) (h.step (by omega) h4 h2 h5)
theorem told_all {n : Nat} {m : Mat} (h : Good n m) : ∃ o b, Told n m o b := told_from n 0 m (by omega) (Way.start h)
/-- Where two rows are alike there is no one solution. -/
theorem told_alike {n : Nat} {m : Mat} (h : Good n m) {p q : Nat} (hp : p < n) (hq : q < n) (hpq : p ≠ q) (ha : ∀ k, k < n → m p k = m q k) {o : List Int} : ¬ Told n m o true := by
  rintro (⟨_, x, hx, _, h1⟩ | ⟨h0, _⟩)
  · -- another right side, that parts the two rows
    have hg : Good n (fun i k => if k < n then m i k else if i = p then 1 else 0) := by
      intro i hi k hk
      dsimp only
      split
      · exact h i hi k hk
      · split <;> omega
    obtain ⟨o', b', ht⟩ := told_all hg
    rcases ht with ⟨_, x', hx', _, h2⟩ | ⟨_, _, v, hv, hv0, ⟨j, hj, hvj⟩, hn⟩
    · have hy : El (n + 1) (fun i => if i < n then x' i else 1) := by
        intro j hj; dsimp only; split
        · exact hx' j (by assumption)
        · omega
      have hn := (h2 _ hy).2 (fun i hi => by rw [if_pos hi, if_neg (by omega), mul_one (hx' i hi)])
      have h3 : ∀ i, i < n → dot (m i) x' n = if i = p then 1 else 0 := by
        intro i hi
        have := hn i hi
        simp only [dot] at this
        rw [dot_congr (b := m i) (y := x') (fun j hj => by simp [hj]) (fun j hj => by simp [hj])] at this
        simp only [Nat.lt_irrefl, if_false] at this
        have h4 := xor_nought this
        rw [h4]
        split
        · exact mul_one (by omega)
        · exact zero_mul (by omega)
      have h5 := h3 p hp
      have h6 := h3 q hq
      rw [if_pos rfl] at h5
      rw [if_neg (fun e => hpq e.symm), ← dot_congr (a := m p) (fun j hj => ha j hj) (fun _ _ => rfl)] at h6
      omega
    · have hn' : Nil n m v := by
        intro i hi
        have := hn i hi
        simp only [dot] at this ⊢
        rw [hv0, mul_zero] at this ⊢
        rw [← this]
        congr 1
        exact dot_congr (fun j hj => by simp [hj]) (fun _ _ => rfl)
      have := (h1 v hv).1 hn' j hj
      rw [hv0, mul_zero] at this
      exact hvj this
  · cases h0
/-- The one solution solves. -/
theorem told_solves {n : Nat} {m : Mat} {o : List Int} (h : Told n m o true) : ∃ x : Nat → Nat, El n x ∧ o = (List.range n).map (fun i => (x i : Int)) ∧ ∀ i, i < n → dot (m i) x n = mul (m i n) 1 := by
  rcases h with ⟨_, x, hx, rfl, h1⟩ | ⟨h0, _⟩
  · refine ⟨x, hx, rfl, fun i hi => ?_⟩
    have hy : El (n + 1) (fun i => if i < n then x i else 1) := by
      intro j hj; dsimp only; split
      · exact hx j (by assumption)
      · omega
    have hn := (h1 _ hy).2 (fun i hi => by rw [if_pos hi, if_neg (by omega), mul_one (hx i hi)]) i hi
    simp only [dot] at hn
    rw [dot_congr (b := m i) (y := x) (fun j hj => rfl) (fun j hj => by simp [hj])] at hn
    simp only [Nat.lt_irrefl, if_false] at hn
    exact xor_nought hn
  · cases h0
end Sv
end Go.Proofs.Ytbgjagmnpfcfaak
