/- Chapter 19: operations of a call's own, that may grow. -/
import Derived.Test.YtnemncmaaejajaaHistBase
import Derived.Maps.AppendAt
import Derived.OwnWalk
namespace Go.Proofs.Ytnemncmaaejajaa
open Go.RowKit
set_option linter.unusedVariables false
set_option linter.unusedSimpArgs false
set_option maxRecDepth 20000

def o9V (x : O9) : List Value := [.int .i64 x.a, .bool x.w, .string x.t, .int .i64 x.b, .int .i64 x.e]
def o9L (ys : List O9) : List Value := ys.flatMap o9V
theorem o9L_append (xs ys : List O9) : o9L (xs ++ ys) = o9L xs ++ o9L ys := List.flatMap_append
theorem o9L_length (ys : List O9) : (o9L ys).length = ys.length * 5 := by
  induction ys with
  | nil => rfl
  | cons y ys ih => show (o9V y ++ o9L ys).length = _; rw [List.length_append, ih]; simp [o9V]; omega
theorem o9L_at (ys : List O9) {j : Nat} (h : j < ys.length * 5) : (o9L ys)[j]? = some (o9C ys j) := by
  induction ys generalizing j with
  | nil => simp at h
  | cons y ys ih =>
    have e : o9L (y :: ys) = o9V y ++ o9L ys := rfl
    rw [e]
    by_cases h3 : j < 5
    · rw [List.getElem?_append_left (by simp [o9V]; omega)]
      have : j = 0 ∨ j = 1 ∨ j = 2 ∨ j = 3 ∨ j = 4 := by omega
      rcases this with rfl | rfl | rfl | rfl | rfl <;> rfl
    · rw [List.getElem?_append_right (by simp [o9V]; omega)]
      have hl : (o9V y).length = 5 := rfl
      simp only [List.length_cons] at h
      rw [hl, ih (by omega)]
      congr 1
      unfold o9C
      rw [show (j - 5) % 5 = j % 5 by omega]
      have hq : o9At ys ((j - 5) / 5) = o9At (y :: ys) (j / 5) := by
        unfold o9At
        rw [show j / 5 = (j - 5) / 5 + 1 by omega]
        rfl
      rw [hq]
theorem o9V_one (x : O9) : ∀ u ∈ o9V x, u.oneCell' = true := by
  intro u hu
  simp only [o9V, List.mem_cons, List.not_mem_nil, or_false] at hu
  rcases hu with rfl | rfl | rfl | rfl | rfl <;> rfl
theorem o9L_one (ys : List O9) : ∀ u ∈ o9L ys, u.oneCell' = true := by
  intro u hu
  obtain ⟨y, _, hy⟩ := List.mem_flatMap.1 hu
  exact o9V_one y u hy
def OwnOps9 (lo hi : Nat) (w : World) (a : Option Addr) (n : Nat) (L : List O9) : Prop := L.length = n ∧ Owned lo hi w a (n * 5) (o9C L)
theorem OwnOps9.ops {lo hi n : Nat} {w : World} {a : Option Addr} {L : List O9} (h : OwnOps9 lo hi w a n L) : Ops9 lo hi w a n L := ⟨h.1, h.2.reads⟩
theorem OwnOps9.later {lo hi n B : Nat} {w w' : World} {a : Option Addr} {L : List O9} (h : OwnOps9 lo hi w a n L) (hb : Below B w w') (hB : hi ≤ B) : OwnOps9 lo hi w' a n L := ⟨h.1, h.2.later hb hB⟩
abbrev O9Own (B : Nat) (w : World) (v : Value) (ys : List O9) : Prop := w.ownsRow B 45 5 v ys.length (o9L ys)
theorem o9_made0 (w : World) : O9Own w.heap.size (w.alloc (.cells #[] 45)) (.slice (some ⟨w.heap.size, 0, none⟩) 0 0) [] := by
  have hb : (w.alloc (.cells #[] 45)).heap[w.heap.size]? = some (.cells #[] 45 (0, 0)) := heap_new _ _
  exact ⟨rfl, .inr ⟨w.heap.size, 0, #[], rfl, Nat.le_refl _, hb, Nat.le_refl _, Nat.zero_le _, rfl, rfl⟩⟩
theorem o9_nil (B : Nat) (w : World) : O9Own B w (.slice none 0 0) [] := ⟨rfl, .inl ⟨rfl, rfl⟩⟩
theorem o9_form {B : Nat} {w : World} {v : Value} {ys : List O9} (h : O9Own B w v ys) : ∃ a c, v = .slice a ys.length c ∧ ys.length ≤ c := by
  rcases h.2 with ⟨e, h0⟩ | ⟨g, cap, cur, e, _, _, hn, _⟩
  · exact ⟨none, 0, by rw [e, h0], by omega⟩
  · exact ⟨_, cap, e, hn⟩
theorem o9_own {B : Nat} {w : World} {a : Option Addr} {n c : Nat} {ys : List O9} (h : O9Own B w (.slice a n c) ys) : OwnOps9 B w.heap.size w a ys.length ys := by
  refine ⟨rfl, Nat.le_refl _, fun h0 => ?_⟩
  rcases h.2 with ⟨_, h1⟩ | ⟨g, cap, cur, e, hg, hgg, _⟩
  · omega
  · simp only [Value.slice.injEq] at e
    obtain ⟨rfl, rfl, rfl⟩ := e
    refine ⟨g, 0, rfl, hg, (Array.getElem?_eq_some_iff.1 hgg).1, fun i hi => ⟨?_, by rw [Nat.zero_add]; exact h.frozenAt i⟩⟩
    rw [Nat.zero_add, h.cellAt i (by omega), o9L_at ys (by omega)]
theorem o9_mono {B B' : Nat} {w : World} {v : Value} {ys : List O9} (h : O9Own B w v ys) (hB : B' ≤ B) : O9Own B' w v ys := ⟨h.1, h.2.imp id fun ⟨g, cap, cur, a, b, c⟩ => ⟨g, cap, cur, a, Nat.le_trans hB b, c⟩⟩
theorem o9_later {B : Nat} {w w' : World} {v : Value} {ys : List O9} (h : O9Own B w v ys) (hb : Below w.heap.size w w') : O9Own B w' v ys := by
  refine ⟨h.1, ?_⟩
  rcases h.2 with h1 | ⟨g, cap, cur, e, h2, hg, h3⟩
  · exact .inl h1
  · exact .inr ⟨g, cap, cur, e, h2, (hb.block g (Array.getElem?_eq_some_iff.1 hg).1).trans hg, h3⟩
theorem o9_alloc {B : Nat} {w : World} {v : Value} {ys : List O9} (h : O9Own B w v ys) (X : Obj) : O9Own B (w.alloc X) v ys := o9_later h ((Below.refl _ _).alloc (Nat.le_refl _) X)
theorem Try.infoO9 : (Try.prog.info? 45).map (fun i => (i.zero, i.size, i.bytes)) = some (some (.agg #[.int .i64 0, .bool false, .string ByteArray.empty, .int .i64 0, .int .i64 0]), 5, 48) := by kernel_rfl
/-- 'append(own, o)': one operation behind one's own. -/
theorem append_op {t : TypeId} (ht : Try.prog.underlying t = some (.slice 45)) {B : Nat} {w : World} {a0 : Option Addr} {n0 c0 : Nat} {ys : List O9} (ho : O9Own B w (.slice a0 n0 c0) ys) (hB : B ≤ w.heap.size) {g c : Nat} {x : O9} {T : TypeId} {fr : Nat × Nat}
    (hg : w.heap[g]? = some (.cells #[.int .i64 x.a, .bool x.w, .string x.t, .int .i64 x.b, .int .i64 x.e] T fr)) (hn : n0 ≤ 1000) :
    ∃ v' w', (Builtin.append_ #[t, t] t #[.slice a0 n0 c0, .slice (some ⟨g, 0, none⟩) 1 c]).run Try.prog w = .ok v' w' ∧ O9Own B w' v' (ys ++ [x]) ∧ w.grownBy w' (Value.slice a0 n0 c0).ownBlock := by
  obtain ⟨i0, hi0, hz0, hz1, hz2⟩ := info_parts Try.infoO9
  have hn0 : n0 = ys.length := by
    obtain ⟨a1, c1, e, _⟩ := o9_form ho
    simp only [Value.slice.injEq] at e
    exact e.2.1
  have hnews : ∀ (j : Nat) u, (o9V x)[j]? = some u → w.cell? ((⟨g, 0, none⟩ : Addr).add j) = some u := by
    intro j u hj
    have hjl : j < 5 := by
      rcases Nat.lt_or_ge j 5 with h | h
      · exact h
      · rw [List.getElem?_eq_none (by simpa [o9V] using h)] at hj; simp at hj
    have : j = 0 ∨ j = 1 ∨ j = 2 ∨ j = 3 ∨ j = 4 := by omega
    rcases this with rfl | rfl | rfl | rfl | rfl <;> (simp [o9V] at hj; subst hj; simp [Addr.add, World.cell?, hg])
  obtain ⟨v', w', h1, h2, h3, _, _⟩ := run_append_own_at (P := Try.prog) w B t t 45 i0 (.agg #[.int .i64 0, .bool false, .string ByteArray.empty, .int .i64 0, .int .i64 0]) 5 48 ht hi0 hz0 hz1 hz2 rfl (by decide) _ ys.length (o9L ys) ho ⟨g, 0, none⟩ 1 c (o9V x) rfl hnews
    (o9V_one x) (by unfold maxLen; omega) (by omega) hB
  refine ⟨v', w', h1, ?_, h3⟩
  show World.ownsRow _ _ _ _ _ (ys ++ [x]).length _
  rw [List.length_append, o9L_append, show o9L [x] = o9V x from List.append_nil _]
  exact h2
end Go.Proofs.Ytnemncmaaejajaa
