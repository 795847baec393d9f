/- Chapter 19: an order copied, and one number behind it. -/
import Derived.Test.YtnemncmaaejajaaHistFind
import Derived.Test.YtnemncmaaejajaaInfo
import Derived.Maps.AppendAt
namespace Go.Proofs.Ytnemncmaaejajaa
open Go.RowKit
set_option linter.unusedVariables false
set_option linter.unusedSimpArgs false

theorem cells_of_ints {lo hi n : Nat} {W : World} {a : Addr} {xs : List Int} (h : Ints lo hi W (some a) n xs) : ∀ (j : Nat) u, (xs.map (Value.int .i64))[j]? = some u → W.cell? (a.add j) = some u := by
  intro j u hj
  have hl := h.1
  have hjl : j < xs.length := by
    rcases Nat.lt_or_ge j xs.length with h | h
    · exact h
    · rw [List.getElem?_eq_none (by rw [List.length_map]; exact h)] at hj; cases hj
  obtain ⟨b, off, e, _, _, hc⟩ := h.2.2 (by omega)
  simp only [Option.some.injEq] at e
  subst e
  have hadd : (⟨b, off, none⟩ : Addr).add j = ⟨b, off + j, none⟩ := by unfold Addr.add; split <;> simp_all
  rw [hadd, hc j (by omega), ← hj]
  unfold cellI
  rw [List.getElem?_map, List.getD_eq_getElem?_getD, List.getElem?_eq_getElem hjl]
  rfl
/-- 'append([]int64{}, xs...)': a row of one's own. -/
theorem copied_ints {W : World} {B g m c : Nat} {a : Option Addr} {xs : List Int} {lo hi : Nat} (ho : W.ownsRow B 2 1 (.slice (some ⟨g, 0, none⟩) 0 0) 0 []) (hx : Ints lo hi W a m xs) (hn : m ≤ 1048576) (hB : B ≤ W.heap.size) :
    ∃ v' w', (Builtin.append_ #[31, 31] 31 #[.slice (some ⟨g, 0, none⟩) 0 0, .slice a m c]).run Try.prog W = .ok v' w' ∧ w'.ownsRow B 2 1 v' m (xs.map (Value.int .i64)) ∧ W.grownBy w' (some g) := by
  obtain ⟨i0, hi0, hz0, hz1, hz2⟩ := info_parts Try.infoI64
  cases a with
  | none =>
    have h0 : m = 0 := by
      rcases Nat.eq_zero_or_pos m with h | h
      · exact h
      · obtain ⟨b, off, e, _⟩ := hx.2.2 h; cases e
    subst h0
    have hxs : xs = [] := List.eq_nil_of_length_eq_zero hx.1
    subst hxs
    refine ⟨.slice (some ⟨g, 0, none⟩) 0 0, W, ?_, ho, ⟨rfl, rfl, rfl, Nat.le_refl _, fun _ _ _ => rfl⟩⟩
    simp [Builtin.append_, run_underlying Try.underlying31, sizeOf, typeInfo, hi0, Builtin.lenOf, Builtin.firstCells, storeCells]
  | some x =>
    obtain ⟨v', w', h1, h2, h3, _, _⟩ := run_append_own_at (P := Try.prog) W B 31 31 2 i0 (.int .i64 0) 1 8 Try.underlying31 hi0 hz0 hz1 hz2 rfl (by decide) _ 0 [] ho x m c (xs.map (Value.int .i64)) (by rw [List.length_map, hx.1]; omega) (cells_of_ints hx)
      (by intro u hu; obtain ⟨y, _, rfl⟩ := List.mem_map.1 hu; rfl) (by unfold maxLen; omega) (by omega) hB
    rw [Nat.zero_add, List.nil_append] at h2
    exact ⟨v', w', h1, h2, h3⟩
/-- One number behind a row of one's own. -/
theorem added_int {W : World} {B g n c : Nat} {v : Value} {zs : List Int} {x : Int} {t : TypeId} {fz : Nat × Nat} (ho : W.ownsRow B 2 1 v n (zs.map (Value.int .i64))) (hg : W.heap[g]? = some (.cells #[.int .i64 x] t fz)) (hn : n ≤ 1048576) (hB : B ≤ W.heap.size) :
    ∃ v' w', (Builtin.append_ #[31, 31] 31 #[v, .slice (some ⟨g, 0, none⟩) 1 c]).run Try.prog W = .ok v' w' ∧ w'.ownsRow B 2 1 v' (n + 1) ((zs ++ [x]).map (Value.int .i64)) ∧ W.grownBy w' v.ownBlock := by
  obtain ⟨i0, hi0, hz0, hz1, hz2⟩ := info_parts Try.infoI64
  obtain ⟨v', w', h1, h2, h3, _, _⟩ := run_append_own_at (P := Try.prog) W B 31 31 2 i0 (.int .i64 0) 1 8 Try.underlying31 hi0 hz0 hz1 hz2 rfl (by decide) _ n _ ho ⟨g, 0, none⟩ 1 c [.int .i64 x] rfl
    (fun j u hj => by
      match j, hj with
      | 0, hj => simp only [List.getElem?_cons_zero, Option.some.injEq] at hj; subst hj; simp [Addr.add, World.cell?, hg])
    (by intro u hu; simp only [List.mem_singleton] at hu; subst hu; rfl) (by unfold maxLen; omega) (by omega) hB
  rw [List.map_append]
  exact ⟨v', w', h1, h2, h3⟩
end Go.Proofs.Ytnemncmaaejajaa
