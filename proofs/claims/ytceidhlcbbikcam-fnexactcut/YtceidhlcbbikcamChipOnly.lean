/- What a Job leaves of all else; what is done, plainly. Nothing of Go's text here. -/
import Derived.Test.YtceidhlcbbikcamChipCopyS
import Derived.Test.YtceidhlcbbikcamChipCan
namespace Go.Proofs.Ytceidhlcbbikcam
open Go.RowKit
set_option linter.unusedVariables false

/-- Only the row g and rows of texts are written, none below B. -/
structure Only (B g : Nat) (w w' : World) : Prop where
  below : Below B w w'
  other : ∀ k cs T fr, k ≠ g → T ≠ 9 → w.heap[k]? = some (.cells cs T fr) → w'.heap[k]? = some (.cells cs T fr)
section
variable {B g : Nat} {w w1 w2 : World}
theorem Only.refl (B g : Nat) (w : World) : Only B g w w := ⟨Below.refl _ _, fun _ _ _ _ _ _ h => h⟩
theorem Only.trans (h : Only B g w w1) (k : Only B g w1 w2) : Only B g w w2 := ⟨h.below.trans k.below, fun q cs T fr h1 h2 h3 => k.other q cs T fr h1 h2 (h.other q cs T fr h1 h2 h3)⟩
theorem Only.on (h : Only B g w w1) (hb : Below w1.heap.size w1 w2) (hB : B ≤ w1.heap.size) : Only B g w w2 :=
  ⟨h.below.trans (hb.mono hB), fun q cs T fr h1 h2 h3 => block_on (h.other q cs T fr h1 h2 h3) hb⟩
theorem only_of_below (h : Below w.heap.size w w1) (hB : B ≤ w.heap.size) : Only B g w w1 := (Only.refl B g w).on h hB
theorem Only.grown (h : Only B g w w1) {a : Option Addr} {c : Nat} {ts : List ByteArray} (hp : PgOwn B w1 a c ts) (hg : w1.grownBy w2 (oB a)) (hB : B ≤ w1.heap.size) : Only B g w w2 :=
  ⟨h.below.grown hg hB (fun k hk => (pg_lt hp k hk).1), fun q cs T fr h1 h2 h3 => by
    have h4 := h.other q cs T fr h1 h2 h3
    rw [hg.block q (Array.getElem?_eq_some_iff.1 h4).1 (fun e => pg_ne hp h4 h2 e.symm)]
    exact h4⟩
theorem Only.set (h : Only B g w w1) (hg : B ≤ g) (j : Nat) (v : Value) : Only B g w (w1.setCell ⟨g, j, none⟩ v) :=
  ⟨h.below.setCell (p := ⟨g, j, none⟩) hg v, fun q cs T fr h1 h2 h3 => set_other (h.other q cs T fr h1 h2 h3) (Ne.symm h1) v⟩
theorem Only.setPg (h : Only B g w w1) {p c : Nat} {ts : List ByteArray} (hp : PgOwn B w1 (some ⟨p, 0, none⟩) c ts) (k : Nat) (v : Value) : Only B g w (w1.setCell ⟨p, k, none⟩ v) :=
  ⟨h.below.setCell (p := ⟨p, k, none⟩) (pg_lt hp p rfl).1 v, fun q cs T fr h1 h2 h3 => by
    have h4 := h.other q cs T fr h1 h2 h3
    exact set_other h4 (fun e => pg_ne hp h4 h2 (by rw [← e]; rfl)) v⟩
end

/-- A Square behind a Job that is taken. -/
def sqDo (q : Sq) (kd : Int) (tx : ByteArray) : Sq := if kd = 1 then (q.1 ++ [tx], q.2.1, q.2.2) else if kd = 2 then ([], q.2.1 + 1, q.2.2) else (q.1, q.2.1, true)
def doJ (z : Int) (qs : List Sq) (j : Jb) : List Sq := if canJ z qs j then qs.set j.2.1.toNat (sqDo (sqAt qs j.2.1.toNat) j.1 j.2.2) else qs
theorem canJ_parts {z : Int} {qs : List Sq} {j : Jb} (h : canJ z qs j = true) : ∃ i : Nat, j.2.1 = (i : Int) ∧ i < qs.length ∧ (sqAt qs i).2.2 = false ∧ canK z (sqAt qs i) j.1 j.2.2 = true := by
  unfold canJ inB at h
  simp only [Bool.and_eq_true, decide_eq_true_eq, Bool.not_eq_true'] at h
  obtain ⟨⟨h1, h2⟩, h3, h4⟩ := h
  exact ⟨j.2.1.toNat, by omega, by omega, h3, h4⟩
theorem canK_kind {z : Int} {q : Sq} {kd : Int} {tx : ByteArray} (h : canK z q kd tx = true) : (kd = 1 ∧ (q.1.length : Int) < z ∧ 1 ≤ tx.size ∧ tx.size ≤ 200) ∨ (kd = 2 ∧ q.2.1 < 1000000) ∨ kd = 3 := by
  unfold canK txOk at h
  by_cases h1 : kd = 1
  · rw [if_pos h1] at h
    simp only [Bool.and_eq_true, decide_eq_true_eq] at h
    exact .inl ⟨h1, h.1, h.2.1, h.2.2⟩
  · rw [if_neg h1] at h
    by_cases h2 : kd = 2
    · rw [if_pos h2] at h
      exact .inr (.inl ⟨h2, by simpa using h⟩)
    · rw [if_neg h2] at h
      exact .inr (.inr (by simpa using h))
theorem doJ_yes {z : Int} {qs : List Sq} {kd : Int} {i : Nat} {tx : ByteArray} (h : canJ z qs (kd, (i : Int), tx) = true) : doJ z qs (kd, (i : Int), tx) = qs.set i (sqDo (sqAt qs i) kd tx) := by
  unfold doJ; rw [if_pos h]; simp
theorem doJ_no {z : Int} {qs : List Sq} {j : Jb} (h : canJ z qs j = false) : doJ z qs j = qs := by
  unfold doJ; rw [if_neg (by rw [h]; simp)]
theorem doJ_length (z : Int) (qs : List Sq) (j : Jb) : (doJ z qs j).length = qs.length := by
  unfold doJ; split <;> simp
theorem set_ok {z : Int} {qs : List Sq} {i : Nat} {x : Sq} (h : chipOk z qs = true) (hx : sqOk z x = true) : chipOk z (qs.set i x) = true := by
  obtain ⟨h1, h2, h3, h4, h5⟩ := chipOk_parts h
  unfold chipOk inB
  simp only [Bool.and_eq_true, decide_eq_true_eq, List.all_eq_true, List.length_set]
  refine ⟨⟨h1, h2⟩, h3, h4, fun q hq => ?_⟩
  rcases List.mem_or_eq_of_mem_set hq with h | h
  · exact h5 q h
  · rw [h]; exact hx
theorem sqDo_ok {z : Int} {q : Sq} {kd : Int} {tx : ByteArray} (h : sqOk z q = true) (hk : canK z q kd tx = true) (hz : 1 ≤ z) : sqOk z (sqDo q kd tx) = true := by
  have h0 := h
  unfold sqOk inB at h ⊢
  simp only [Bool.and_eq_true, decide_eq_true_eq, List.all_eq_true] at h ⊢
  obtain ⟨h1, ⟨h2, h3⟩, h4⟩ := h
  rcases canK_kind hk with ⟨rfl, k1, k2, k3⟩ | ⟨rfl, k1⟩ | rfl
  · unfold sqDo
    rw [if_pos rfl]
    refine ⟨by simp; omega, ⟨h2, h3⟩, fun s hs => ?_⟩
    simp only [List.mem_append, List.mem_singleton] at hs
    rcases hs with hs | rfl
    · exact h4 s hs
    · unfold txOk; simp [k2, k3]
  · unfold sqDo
    rw [if_neg (by decide), if_pos rfl]
    exact ⟨by simp; omega, ⟨by show 0 ≤ q.2.1 + 1; omega, by show q.2.1 + 1 ≤ 1000000; omega⟩, fun s hs => absurd hs (by simp)⟩
  · unfold sqDo
    rw [if_neg (by decide), if_neg (by decide)]
    exact ⟨h1, ⟨h2, h3⟩, h4⟩
theorem doJ_ok {z : Int} {qs : List Sq} {j : Jb} (h : chipOk z qs = true) : chipOk z (doJ z qs j) = true := by
  cases hc : canJ z qs j with
  | false => rw [doJ_no hc]; exact h
  | true =>
    obtain ⟨i, hi, hl, _, hk⟩ := canJ_parts hc
    obtain ⟨kd, sq, tx⟩ := j
    dsimp only at hi hk
    subst hi
    rw [doJ_yes hc]
    exact set_ok h (sqDo_ok (chipOk_at h hl) hk (chipOk_parts h).1)
/-- A right Chip is small. -/
theorem total_small {ts : List ByteArray} {n : Nat} (hl : ts.length ≤ n) (h : ∀ s ∈ ts, s.size ≤ 200) : total ts ≤ n * 200 := by
  induction ts generalizing n with
  | nil => simp [total]
  | cons t ts ih =>
    cases n with
    | zero => simp at hl
    | succ n =>
      have h1 := ih (n := n) (by simpa using hl) (fun s hs => h s (by simp [hs]))
      have h2 := h t (by simp)
      unfold total at h1 ⊢
      simp only [List.map_cons, List.sum_cons]
      omega
theorem weight_small {qs : List Sq} {n : Nat} (hl : qs.length ≤ n) (h : ∀ q ∈ qs, q.1.length + total q.1 ≤ 1608) : weight qs ≤ n * 1608 := by
  induction qs generalizing n with
  | nil => simp [weight]
  | cons t ts ih =>
    cases n with
    | zero => simp at hl
    | succ n =>
      have h1 := ih (n := n) (by simpa using hl) (fun s hs => h s (by simp [hs]))
      have h2 := h t (by simp)
      unfold weight at h1 ⊢
      simp only [List.map_cons, List.sum_cons]
      omega
theorem chipOk_fit {z : Int} {qs : List Sq} (h : chipOk z qs = true) : qs.length + weight qs ≤ 1048576 := by
  obtain ⟨h1, h2, h3, h4, h5⟩ := chipOk_parts h
  have := weight_small (n := 12) h4 (fun q hq => by
    obtain ⟨k1, _, _, k4⟩ := sqOk_parts (h5 q hq)
    have k5 : q.1.length ≤ 8 := by omega
    have := total_small k5 (fun s hs => (k4 s hs).2)
    omega)
  omega
end Go.Proofs.Ytceidhlcbbikcam
