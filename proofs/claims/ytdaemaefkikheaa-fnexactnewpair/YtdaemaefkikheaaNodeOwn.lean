/- Nodes of one's own that may grow: eleven cells each. -/
import Derived.Test.YtdaemaefkikheaaNodeMark
import Derived.Test.YtdaemaefkikheaaPutApp
namespace Go.Proofs.Ytdaemaefkikheaa
open Go.RowKit
set_option linter.unusedVariables false
set_option linter.unusedSimpArgs false
set_option maxRecDepth 20000

/-- A Node with what its Values are, as cells. -/
def ndL (x : Nd × Value) : List Value := [.int .i64 x.1.e, .bool x.1.l, .bool x.1.r, .bool x.1.b, .bool x.1.f, .bool x.1.w, .int .i64 x.1.s, x.2, .int .i64 x.1.p.1, .int .i64 x.1.p.2.1, .string x.1.p.2.2]
def ndLL (xs : List (Nd × Value)) : List Value := xs.flatMap ndL
theorem ndL_length (x : Nd × Value) : (ndL x).length = 11 := rfl
theorem ndLL_append (xs ys : List (Nd × Value)) : ndLL (xs ++ ys) = ndLL xs ++ ndLL ys := List.flatMap_append
theorem ndLL_length (xs : List (Nd × Value)) : (ndLL xs).length = xs.length * 11 := by
  induction xs with
  | nil => rfl
  | cons y ys ih => show (ndL y ++ ndLL ys).length = _; rw [List.length_append, ih, ndL_length]; simp; omega
theorem ndL_at (x : Nd × Value) {j : Nat} (h : j < 11) : (ndL x)[j]? = some (ndJ x.1 x.2 j) := by
  have : j = 0 ∨ j = 1 ∨ j = 2 ∨ j = 3 ∨ j = 4 ∨ j = 5 ∨ j = 6 ∨ j = 7 ∨ j = 8 ∨ j = 9 ∨ j = 10 := by omega
  rcases this with rfl | rfl | rfl | rfl | rfl | rfl | rfl | rfl | rfl | rfl | rfl <;> rfl
def ndF (xs : List (Nd × Value)) (d : Nd × Value) (k : Nat) : Nd × Value := xs.getD k d
theorem ndLL_at (xs : List (Nd × Value)) (d : Nd × Value) {j : Nat} (h : j < xs.length * 11) : (ndLL xs)[j]? = some (ndC (fun k => (ndF xs d k).1) (fun k => (ndF xs d k).2) j) := by
  induction xs generalizing j with
  | nil => simp at h
  | cons y ys ih =>
    have e : ndLL (y :: ys) = ndL y ++ ndLL ys := rfl
    rw [e]
    by_cases h3 : j < 11
    · rw [List.getElem?_append_left (by rw [ndL_length]; omega), ndL_at y h3]
      unfold ndC
      rw [show j / 11 = 0 by omega, show j % 11 = j by omega]
      rfl
    · simp only [List.length_cons] at h
      rw [List.getElem?_append_right (by rw [ndL_length]; omega), ndL_length, ih (by omega)]
      unfold ndC
      rw [show (j - 11) % 11 = j % 11 by omega, show j / 11 = (j - 11) / 11 + 1 by omega]
      rfl
/-- A Value of one cell. -/
def oneC (v : Value) : Prop := v.oneCell' = true
theorem ndL_one {x : Nd × Value} (h : oneC x.2) : ∀ u ∈ ndL x, u.oneCell' = true := by
  intro u hu
  simp only [ndL, List.mem_cons, List.not_mem_nil, or_false] at hu
  rcases hu with rfl | rfl | rfl | rfl | rfl | rfl | rfl | rfl | rfl | rfl | rfl
  all_goals first | rfl | exact h
abbrev NdOwn (B : Nat) (w : World) (v : Value) (xs : List (Nd × Value)) : Prop := w.ownsRow B 53 11 v xs.length (ndLL xs)
theorem nd_nil (B : Nat) (w : World) : NdOwn B w (.slice none 0 0) [] := ⟨rfl, .inl ⟨rfl, rfl⟩⟩
theorem nd_later {B : Nat} {w w' : World} {v : Value} {xs : List (Nd × Value)} (h : NdOwn B w v xs) (hb : Below w.heap.size w w') : NdOwn B w' v xs := by
  refine ⟨h.1, ?_⟩
  rcases h.2 with h1 | ⟨g, cap, cur, e, h2, hg, h3⟩
  · exact .inl h1
  · exact .inr ⟨g, cap, cur, e, h2, (hb.block g (Array.getElem?_eq_some_iff.1 hg).1).trans hg, h3⟩
theorem nd_some {B : Nat} {w : World} {v : Value} {xs : List (Nd × Value)} (h : NdOwn B w v xs) (h1 : 1 ≤ xs.length) : ∃ g c, v = .slice (some ⟨g, 0, none⟩) xs.length c ∧ xs.length ≤ c ∧ B ≤ g ∧ g < w.heap.size ∧ ∃ cur, w.heap[g]? = some (.cells cur 53 (0, 0)) := by
  rcases h.2 with ⟨e, h0⟩ | ⟨g, cap, cur, e, hb, hgg, hn, _⟩
  · omega
  · exact ⟨g, cap, e, hn, hb, (Array.getElem?_eq_some_iff.1 hgg).1, cur, hgg⟩
theorem nd_form {B : Nat} {w : World} {v : Value} {xs : List (Nd × Value)} (h : NdOwn B w v xs) : ∃ a c, v = .slice a xs.length c ∧ xs.length ≤ c := by
  rcases h.2 with ⟨e, h0⟩ | ⟨g, cap, cur, e, _, _, hn, _⟩
  · exact ⟨none, 0, by rw [e, h0], by omega⟩
  · exact ⟨_, cap, e, hn⟩
theorem nd_owned {B : Nat} {w : World} {g n c : Nat} {xs : List (Nd × Value)} (d : Nd × Value) (h : NdOwn B w (.slice (some ⟨g, 0, none⟩) n c) xs) : Owned g (g + 1) w (some ⟨g, 0, none⟩) (xs.length * 11) (ndC (fun k => (ndF xs d k).1) (fun k => (ndF xs d k).2)) := by
  rcases h.2 with ⟨e, h1⟩ | ⟨g', cap, cur, e, hg, hgg, _⟩
  · simp at e
  · simp only [Value.slice.injEq, Option.some.injEq, Addr.mk.injEq, and_true] at e
    obtain ⟨rfl, rfl, rfl⟩ := e
    exact ⟨(Array.getElem?_eq_some_iff.1 hgg).1, fun _ => ⟨g, 0, rfl, Nat.le_refl _, Nat.lt_succ_self _, fun i hi => ⟨by rw [Nat.zero_add, h.cellAt i (by omega), ndLL_at xs d (by omega)], by rw [Nat.zero_add]; exact h.frozenAt i⟩⟩⟩
theorem Try.infoNd : (Try.prog.info? 53).map (fun i => (i.zero, i.size, i.bytes)) = some (some (.agg #[.int .i64 0, .bool false, .bool false, .bool false, .bool false, .bool false, .int .i64 0, .slice none 0 0, .int .i64 0, .int .i64 0, .string ByteArray.empty]), 11, 80) := by kernel_rfl
/-- 'append(own, x)': one Node behind one's own. -/
theorem append_node {P : Program} {B9 : Nat} (hB9 : B9 ≤ 1000) (hinfo : (P.info? 53).map (fun i => (i.zero, i.size, i.bytes)) = some (some (.agg #[.int .i64 0, .bool false, .bool false, .bool false, .bool false, .bool false, .int .i64 0, .slice none 0 0, .int .i64 0, .int .i64 0, .string ByteArray.empty]), 11, B9)) {t : TypeId} (ht : P.underlying t = some (.slice 53))
    {B L : Nat} {W : World} {v : Value} {xs : List (Nd × Value)} {x : Nd × Value} (ho : NdOwn B W v xs) (hB : B ≤ W.heap.size) (hn : xs.length ≤ 1000000) (hone : oneC x.2) (hL : W.heap[L]? = some (.cells (ndL x).toArray 53)) :
    ∃ v' w', (Builtin.append_ #[t, t] t #[v, .slice (some ⟨L, 0, none⟩) 1 1]).run P W = .ok v' w' ∧ NdOwn B w' v' (xs ++ [x]) ∧ W.grownBy w' v.ownBlock ∧ (v'.ownBlock = v.ownBlock ∨ v'.ownBlock = some W.heap.size) := by
  obtain ⟨i0, hi0, hz0, hz1, hz2⟩ := info_parts hinfo
  have hnews : ∀ (j : Nat) u, (ndL x)[j]? = some u → W.cell? ((⟨L, 0, none⟩ : Addr).add j) = some u := by
    intro j u hj
    have hadd : (⟨L, 0, none⟩ : Addr).add j = ⟨L, j, none⟩ := by unfold Addr.add; split <;> simp_all
    rw [hadd]
    simp [World.cell?, hL, hj]
  obtain ⟨v', w', h1, h2, h3, h4, h5⟩ := run_append_own_at (P := P) W B t t 53 i0 (.agg #[.int .i64 0, .bool false, .bool false, .bool false, .bool false, .bool false, .int .i64 0, .slice none 0 0, .int .i64 0, .int .i64 0, .string ByteArray.empty]) 11 B9 ht hi0 hz0 hz1 hz2 rfl (by decide) v xs.length (ndLL xs) ho ⟨L, 0, none⟩ 1 1 (ndL x) (by rw [ndL_length]) hnews
    (ndL_one hone) (by unfold maxLen; omega) (by have : (xs.length + 1) * B9 ≤ 1000001 * 1000 := Nat.mul_le_mul (by omega) hB9; omega) hB
  refine ⟨v', w', h1, ?_, h3, h5⟩
  show World.ownsRow _ _ _ _ _ (xs ++ [x]).length _
  rw [List.length_append, ndLL_append]
  have e : ndLL [x] = ndL x := by simp [ndLL]
  rw [e]
  exact h2
end Go.Proofs.Ytdaemaefkikheaa
