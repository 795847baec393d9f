/- The program's ranking: Push and Pop; its methods behind the interface. -/
import Derived.Test.YtceidhlcbbikcamHeapImplA
import Derived.Test.YtceidhlcbbikcamChipCopyS
import Derived.Test.YtceidhlcbbikcamRowBase
import Derived.Deep.RegionLaw
import Derived.Deep.AppendLies
namespace Go.Proofs.Ytceidhlcbbikcam
open Go.RowKit
set_option linter.unusedVariables false
set_option maxRecDepth 20000

abbrev rkV (x : Rk) : Value := .agg #[.int .i64 x.1, .int .i64 x.2.1, .int .i64 x.2.2]
theorem Try.infoRk : (Try.prog.info? 91).map (fun i => (i.zero, i.size, i.bytes)) = some (some (.agg #[.int .i64 0, .int .i64 0, .int .i64 0]), 3, 24) := by kernel_rfl
theorem Try.asRk (v : Value) (w : World) : (Instr.typeAssert (.iface 91 v) 20 91 false).run Try.prog w = .ok v w := by kernel_rfl
theorem Try.toLess (p : Nat) (v : Value) (w : World) (h : w.cell? ⟨p, 0, none⟩ = some v) : (Go.method 244 86 (.pointer (some ⟨p, 0, none⟩)) "Less").run Try.prog w = .ok (106, v) w := by
  have e : ∀ w, (Go.method 244 86 (.pointer (some ⟨p, 0, none⟩)) "Less").run Try.prog w = ((do let v ← loadVar 88 ⟨p, 0, none⟩; pure (106, v)) : Sem (FuncId × Value)).run Try.prog w := fun w => by kernel_rfl
  rw [e]
  simp [loadVar, isAgg, run_underlying (show Try.prog.underlying 88 = some (.slice 91) from rfl), h]
theorem Try.toSwap (p : Nat) (v : Value) (w : World) (h : w.cell? ⟨p, 0, none⟩ = some v) : (Go.method 244 86 (.pointer (some ⟨p, 0, none⟩)) "Swap").run Try.prog w = .ok (109, v) w := by
  have e : ∀ w, (Go.method 244 86 (.pointer (some ⟨p, 0, none⟩)) "Swap").run Try.prog w = ((do let v ← loadVar 88 ⟨p, 0, none⟩; pure (109, v)) : Sem (FuncId × Value)).run Try.prog w := fun w => by kernel_rfl
  rw [e]
  simp [loadVar, isAgg, run_underlying (show Try.prog.underlying 88 = some (.slice 91) from rfl), h]
theorem Try.toPush (p : Nat) (w : World) : (Go.method 244 86 (.pointer (some ⟨p, 0, none⟩)) "Push").run Try.prog w = .ok (108, .pointer (some ⟨p, 0, none⟩)) w := by kernel_rfl
theorem Try.toPop (p : Nat) (w : World) : (Go.method 244 86 (.pointer (some ⟨p, 0, none⟩)) "Pop").run Try.prog w = .ok (107, .pointer (some ⟨p, 0, none⟩)) w := by kernel_rfl

theorem Rkg.setCell {B : Nat} {w : World} {p g n cap : Nat} {f : Nat → Rk} (h : RkRow B w g n cap f) {v : Value} (hp : w.heap[p]? = some (.cells #[v] 88 (0, 0))) (hB : B ≤ p) : Rkg B (w.setCell ⟨p, 0, none⟩ (.slice (some ⟨g, 0, none⟩) n cap)) p g n cap f := by
  have hne : g ≠ p := by
    intro e
    obtain ⟨c, fz, h1⟩ := rk_kind h
    rw [e, hp] at h1
    simp only [Option.some.injEq, Obj.cells.injEq] at h1
    exact absurd h1.2.1 (by decide)
  exact ⟨rk_keep h (Go.Deep.blk_setCell_other _ _ _ _ hne), set_block hp 0 _ (by simp), hB⟩

set_option maxHeartbeats 1600000 in
theorem rkPop_any (B p g n cap : Nat) (f : Nat → Rk) (w : World) (h : Rkg B w p g (n + 1) cap f) (hn : n < 1048576) :
    Calls Try.prog 107 #[.pointer (some ⟨p, 0, none⟩)] w fun e w' => e = .returned (.iface 91 (rkV (f n))) ∧ Rkg B w' p g n cap f ∧ Aside p (p + 1) w w' := by
  obtain ⟨c0, c1, c2⟩ := rk_cells h.row (Nat.lt_succ_self n)
  have hp := rk_cell1 h.cell
  have hf := four_frozen h.cell 0
  have HP := hide h.ltP
  have hpn : p < w.heap.size := h.ltP
  have hcap : n + 1 ≤ cap := by
    rcases h.row.2 with ⟨e, _⟩ | ⟨p, cap', cur, e, h1, h2, h3, h4, h5, h6⟩
    · simp at e
    · simp only [Value.slice.injEq] at e
      omega
  have HR := hide h
  clear h
  obtain ⟨x, hx⟩ : ∃ x, f n = x := ⟨_, rfl⟩
  have HX := hide hx
  rw [hx] at c0 c1 c2
  rw [hx]
  clear hx
  obtain ⟨x0, x1, x2⟩ := x
  dsimp only at c0 c1 c2
  have hi2 : (n : Int) < (n : Int) + 1 := by omega
  have HS := hide (Rkg.setCell (rk_cut HR.out.row) HR.out.cell HR.out.atP)
  have HA := hide ((Aside.refl p (p + 1) w).setCell (p := ⟨p, 0, none⟩) (Nat.le_refl _) (Nat.lt_succ_self _) (.slice (some ⟨g, 0, none⟩) n cap))
  go_enter Try.func107, Try.ntmps107
  go_wp2_with fail
  go_ret
  exact ⟨rfl, HS.out.later ((Below.refl _ _).alloc (Nat.le_refl _) _), HA.out.thenAlloc _⟩

theorem three_news (w : World) (x : Rk) (t : TypeId) : ∀ j u, [Value.int .i64 x.1, .int .i64 x.2.1, .int .i64 x.2.2][j]? = some u → (w.alloc (.cells #[.int .i64 x.1, .int .i64 x.2.1, .int .i64 x.2.2] t)).cell? ((⟨w.heap.size, 0, none⟩ : Addr).add j) = some u := by
  intro j u hj
  have h := heap_new w (.cells #[.int .i64 x.1, .int .i64 x.2.1, .int .i64 x.2.2] t)
  obtain ⟨c0, c1, c2⟩ := three_cells h
  have hadd : (⟨w.heap.size, 0, none⟩ : Addr).add j = ⟨w.heap.size, j, none⟩ := by unfold Addr.add; split <;> simp_all
  rw [hadd]
  match j, hj with
  | 0, hj => rw [c0]; exact hj
  | 1, hj => rw [c1]; exact hj
  | 2, hj => rw [c2]; exact hj
  | j + 3, hj => simp at hj
theorem rk_one (x : Rk) : ∀ u ∈ [Value.int .i64 x.1, .int .i64 x.2.1, .int .i64 x.2.2], u.oneCell' = true := by
  intro u hu
  simp only [List.mem_cons, List.not_mem_nil, or_false] at hu
  rcases hu with rfl | rfl | rfl <;> rfl

set_option maxHeartbeats 1600000 in
theorem rkPush_any (B p g n cap : Nat) (f : Nat → Rk) (x : Rk) (w : World) (h : Rkg B w p g n cap f) (hn : n < 1048576) (hB : B ≤ w.heap.size) :
    Calls Try.prog 108 #[.pointer (some ⟨p, 0, none⟩), .iface 91 (rkV x)] w fun e w' => e = .returned (.tuple #[]) ∧ ∃ g' cap', Rkg B w' p g' (n + 1) cap' (upd f n x) ∧ Below B w w' := by
  have hp := rk_cell1 h.cell
  have hf := four_frozen h.cell 0
  have hpn : p < w.heap.size := h.ltP
  have q0 := Try.asRk (rkV x)
  obtain ⟨i0, hi0, hzz0, hzz1, hzz2⟩ := info_parts Try.infoRk
  obtain ⟨wA, hwA⟩ : ∃ wA, wA = w.alloc (.cells #[.int .i64 x.1, .int .i64 x.2.1, .int .i64 x.2.2] 91) := ⟨_, rfl⟩
  have hzA : wA.heap.size = w.heap.size + 1 := by rw [hwA]; simp
  have HBA : Hid (Below w.heap.size w wA) := by rw [hwA]; exact (Below.refl _ _).alloc (Nat.le_refl _) _
  have HRA := hide (h.later HBA.out)
  have HNW := hide (three_news w x 91)
  rw [← hwA] at HNW
  have HNE : Hid (some p ≠ (Value.slice (some ⟨g, 0, none⟩) n cap).ownBlock) := by show _ ≠ _; intro e; simp only [Value.ownBlock, Option.some.injEq] at e; exact h.apart e.symm
  have tA : (w.alloc (.cells #[.int .i64 x.1, .int .i64 x.2.1, .int .i64 x.2.2] 91)).cell? ⟨p, 0, none⟩ = some (.slice (some ⟨g, 0, none⟩) n cap) := by rw [← hwA]; exact rk_cell1 HRA.out.cell
  have tF : (w.alloc (.cells #[.int .i64 x.1, .int .i64 x.2.1, .int .i64 x.2.2] 91)).frozen? ⟨p, 0, none⟩ = false := by rw [← hwA]; exact four_frozen HRA.out.cell 0
  have HR := hide h
  clear h
  go_enter Try.func108, Try.ntmps108
  go_wp2_with fail
  go_region_law (first
    | (refine step_append_lies _ (by rfl) _ _ _ (by rfl) B 91 i0 (.agg #[.int .i64 0, .int .i64 0, .int .i64 0]) 3 24 Try.underlying88 hi0 hzz0 hzz1 hzz2 rfl (by decide) (.slice (some ⟨g, 0, none⟩) n cap) n (rkL n f) (by rfl) (by rw [← hwA]; exact HRA.out.row) ⟨w.heap.size, 0, none⟩ 1 1 [.int .i64 x.1, .int .i64 x.2.1, .int .i64 x.2.2] (by rfl) rfl (by rw [← hwA]; exact HNW.out) (rk_one x) (by omega) (by unfold maxLen; omega) (by omega) (by rw [← hwA]; show B ≤ wA.heap.size; omega) (w.heap.size + 1) (by simp) ?_; intro g' c' w5 hown5 hgr5 hat5 hlt5; have c5 := (hgr5.cell_far ⟨p, 0, none⟩ (by simp; omega) HNE.out).trans tA; have f5 := (hgr5.frozen_far ⟨p, 0, none⟩ (by simp; omega) HNE.out).trans tF; have HO5 := hide hown5; have HR5 := hide hgr5; clear hown5 hgr5 hat5))
  all_goals
    have HR6 : Hid (wA.grownBy w5 (some g)) := by rw [hwA]; exact ⟨HR5.out.os, HR5.out.tape, HR5.out.output, HR5.out.size, HR5.out.block⟩
    have HN5 : Hid (RkRow B w5 g' (n + 1) c' (upd f n x)) := by have h9 := HO5.out; rw [rkL_snoc] at h9; exact h9
    have HP5 : Hid (w5.heap[p]? = some (.cells #[.slice (some ⟨g, 0, none⟩) n cap] 88 (0, 0))) := (HR6.out.block p (by omega) HNE.out).trans HRA.out.cell
    have HF := hide (Rkg.setCell HN5.out HP5.out HR.out.atP)
    have HB5 := hide (((HBA.out.mono hB).grown HR6.out (by omega) (fun k hk => (HRA.out.row.lt k hk).1)).setCell (p := ⟨p, 0, none⟩) HR.out.atP (.slice (some ⟨g', 0, none⟩) (n + 1) c'))
    go_wp2_with fail
    go_end0
    exact ⟨rfl, g', c', HF.out, HB5.out⟩
end Go.Proofs.Ytceidhlcbbikcam
