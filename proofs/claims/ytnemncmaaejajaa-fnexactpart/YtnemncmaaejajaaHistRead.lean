/- Chapter 19: operations that came in. -/
import Derived.Test.YtnemncmaaejajaaChipBase
import Derived.Test.YtnemncmaaejajaaHistBase
namespace Go.Proofs.Ytnemncmaaejajaa
open Go.RowKit Go.ChangeShapes Go.WideShapes Go.ChangeAt Go.Deep
set_option linter.unusedVariables false
set_option linter.unusedSimpArgs false
def o9Fits (x : O9) : Prop := x.t.size ≤ maxLen
theorem ops_read {H : Type} {enc : TypeId × Value → H} {P : Program} {W : World} {t e : TypeId} {f0 f1 f2 f3 f4 : Field} {a : Option Addr} {len cap : Nat} {d : DataW H} {ps : List MemPlace}
    (ht : P.underlying t = some (.slice e)) (he : P.underlying e = some (.struct #[f0, f1, f2, f3, f4])) (ce : P.cellsOf e = 5) (hone : oneCellFields P #[f0, f1, f2, f3, f4] = true)
    (h0 : P.underlying f0.type = some (.int .i64)) (h1 : P.underlying f1.type = some .bool) (h2 : P.underlying f2.type = some .string) (h3 : P.underlying f3.type = some (.int .i64)) (h4 : P.underlying f4.type = some (.int .i64))
    (h : DataW.Trod enc P W 0 (fun _ => true) true t (.slice a len cap) d ps) :
    ∃ L, Ops9 0 W.heap.size W a len L ∧ (∀ x ∈ L, o9Fits x) ∧ len ≤ maxLen := by
  obtain ⟨fuel, hh⟩ := h
  rcases open_slice ht hh with ⟨hcs, _⟩ | ⟨x, l, c, m, k, D, Pl, hcs, _, hl, hm, hmm, _, hr⟩
  · simp [Value.cells] at hcs
    obtain ⟨rfl, rfl, rfl⟩ := hcs
    exact ⟨[], ⟨rfl, Nat.le_refl _, fun h => absurd h (by omega)⟩, by simp, Nat.zero_le _⟩
  · simp [Value.cells] at hcs
    obtain ⟨rfl, rfl, rfl⟩ := hcs
    simp only [if_true] at hmm
    obtain ⟨o0, k0⟩ := hone_of hone 0 f0 rfl
    obtain ⟨o1, k1⟩ := hone_of hone 1 f1 rfl
    obtain ⟨o2, k2⟩ := hone_of hone 2 f2 rfl
    obtain ⟨o3, k3⟩ := hone_of hone 3 f3 rfl
    obtain ⟨o4, k4⟩ := hone_of hone 4 f4 rfl
    obtain ⟨f, hf⟩ := pick_below (α := O9) (p := fun i z => W.cell? (x.add (i * 5)) = some (.int .i64 z.a) ∧ W.cell? (x.add (i * 5 + 1)) = some (.bool z.w) ∧ W.cell? (x.add (i * 5 + 2)) = some (.string z.t) ∧ W.cell? (x.add (i * 5 + 3)) = some (.int .i64 z.b) ∧ W.cell? (x.add (i * 5 + 4)) = some (.int .i64 z.e) ∧ o9Fits z) (n := len) ⟨0, false, ByteArray.empty, 0, 0⟩ (fun i hi => by
      obtain ⟨cs', hc, hd⟩ := hr i (by omega)
      rw [ce] at hc
      obtain ⟨_, hlen, hcell⟩ := World.cells?_some hc
      obtain ⟨xs, n', _, _, _, hlx, hg⟩ := DataW.trod_struct he hd
      have hl5 : xs.length = 5 := hlx
      clear hlx
      obtain ⟨y0, y1, y2, y3, y4, rfl⟩ : ∃ y0 y1 y2 y3 y4, xs = [y0, y1, y2, y3, y4] := by
        match xs, hl5 with
        | [y0, y1, y2, y3, y4], _ => exact ⟨y0, y1, y2, y3, y4, rfl⟩
      match cs', hlen with
      | [v0, v1, v2, v3, v4], _ =>
        have g0 := hg 0 f0 rfl
        have g1 := hg 1 f1 rfl
        have g2 := hg 2 f2 rfl
        have g3 := hg 3 f3 rfl
        have g4 := hg 4 f4 rfl
        simp [o0, o1, o2, o3, o4, k0, k1, k2, k3, k4] at g0 g1 g2 g3 g4
        obtain ⟨z, e0, _, w0⟩ := DataW.trod_int h0 g0
        obtain ⟨b, e1, _⟩ := DataW.trod_bool h1 g1
        obtain ⟨u, e2, _, w2⟩ := DataW.trod_string h2 g2
        obtain ⟨y, e3, _, w3⟩ := DataW.trod_int h3 g3
        obtain ⟨q, e4, _, w4⟩ := DataW.trod_int h4 g4
        simp only [List.cons.injEq, and_true] at e0 e1 e2 e3 e4
        subst e0; subst e1; subst e2; subst e3; subst e4
        have hadd : ∀ j, j < 5 → (x.add (i * 5)).add j = x.add (i * 5 + j) := fun j _ => add_add _ _ _
        have c0 := hcell 0 (by omega)
        have c1 := hcell 1 (by omega)
        have c2 := hcell 2 (by omega)
        have c3 := hcell 3 (by omega)
        have c4 := hcell 4 (by omega)
        rw [hadd 0 (by omega)] at c0
        rw [hadd 1 (by omega)] at c1
        rw [hadd 2 (by omega)] at c2
        rw [hadd 3 (by omega)] at c3
        rw [hadd 4 (by omega)] at c4
        simp at c0 c1 c2 c3 c4
        exact ⟨⟨z, b, u, y, q⟩, c0, c1, c2, c3, c4, w2⟩)
    have hg : ∀ i, i < len → o9At ((List.range len).map f) i = f i := fun i hi => by
      unfold o9At
      rw [List.getD_eq_getElem?_getD, List.getElem?_map, List.getElem?_range hi]; rfl
    refine ⟨(List.range len).map f, ⟨by simp, reads_of fun j hj => ?_⟩, ?_, by omega⟩
    · have e : j = j / 5 * 5 ∨ j = j / 5 * 5 + 1 ∨ j = j / 5 * 5 + 2 ∨ j = j / 5 * 5 + 3 ∨ j = j / 5 * 5 + 4 := by omega
      have hq := hf (j / 5) (by omega)
      unfold o9C
      rw [hg _ (by omega)]
      rcases e with e | e | e | e | e
      · rw [show j % 5 = 0 by omega]; rw [← e] at hq; exact hq.1
      · rw [show j % 5 = 1 by omega]; rw [← e] at hq; exact hq.2.1
      · rw [show j % 5 = 2 by omega]; rw [← e] at hq; exact hq.2.2.1
      · rw [show j % 5 = 3 by omega]; rw [← e] at hq; exact hq.2.2.2.1
      · rw [show j % 5 = 4 by omega]; rw [← e] at hq; exact hq.2.2.2.2.1
    · intro o ho
      obtain ⟨i, hi, rfl⟩ := List.mem_map.1 ho
      exact (hf i (List.mem_range.1 hi)).2.2.2.2.2
end Go.Proofs.Ytnemncmaaejajaa
