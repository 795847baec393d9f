/- 'append' of Puts in a region that draws its order. -/
import Derived.Test.YtdaemaefkikheaaPutOwn
namespace Go.Proofs.Ytdaemaefkikheaa
open Go.RowKit
set_option linter.unusedVariables false
set_option linter.unusedSimpArgs false
set_option maxRecDepth 20000

theorem bq_alloc {q W : World} (h : Below q.heap.size q W) (X : Obj) : Below q.heap.size q (W.alloc X) := h.alloc h.size X
theorem bq_drew {q W : World} (h : Below q.heap.size q W) : Below q.heap.size q W.drew := h.drew
theorem bq_set {q W : World} (h : Below q.heap.size q W) {b o : Nat} (hb : q.heap.size ≤ b) (v : Value) : Below q.heap.size q (W.setCell ⟨b, o, none⟩ v) := h.setCell (p := ⟨b, o, none⟩) hb v
theorem pt_alloc {B : Nat} {w : World} {v : Value} {ys : List Jb} (h : PtOwn B w v ys) (X : Obj) : PtOwn B (w.alloc X) v ys := pt_later h ((Below.refl _ _).alloc (Nat.le_refl _) X)
/-- 'append' at a step of a region that draws; what it comes to is told by an existential. -/
theorem step_app2 {P : Program} {ops : Array Oper} {o : Oper} {a : Act} {w : World} {K : Act → World → Prop} {Q : Exit → Act → World → Prop} {E : Prop}
    (hg : o.guard = none) (s x : Operand) (t : TypeId) (hop : o.op = Op.call { callee := Callee.builtin Builtin.append, args := #[s, x], argTypes := #[t, t] })
    (v1 v2 : Value) (hs : a.eval s = v1) (hx : a.eval x = v2) {G : Value → World → Prop} (hrun : ∃ v' w', (Builtin.append_ #[t, t] o.type #[v1, v2]).run P w = .ok v' w' ∧ G v' w')
    (hK : ∀ v' w', G v' w' → K (a.put o.dst v') w') : if Region.wanted o (yielded ops a.tmps) = true then Oper.wp P o a w K Q else E := by
  obtain ⟨v', w', h1, h2⟩ := hrun
  exact step_app hg s x t hop v1 v2 v' w' hs hx h1 (hK v' w' h2)
/-- Puts behind an empty list of one's own. -/
theorem app_first {P : Program} (hinfo : (P.info? 51).map (fun i => (i.zero, i.size, i.bytes)) = some (some (.agg #[.int .i64 0, .int .i64 0, .string ByteArray.empty]), 3, 32)) {t : TypeId} (ht : P.underlying t = some (.slice 51)) {q : World} {lo hi : Nat} {a : Option Addr} {n cap : Nat} {ps : List Jb} (hx : Jobs lo hi q a n ps) (hhi : hi ≤ q.heap.size) (hn : n ≤ 1000)
    (W : World) (L : Nat) (hb : Below q.heap.size q W) (hL : q.heap.size ≤ L) (hh : W.heap[L]? = some (.cells #[] 51)) :
    ∃ v' w', (Builtin.append_ #[t, t] t #[.slice (some ⟨L, 0, none⟩) 0 0, .slice a n cap]).run P W = .ok v' w' ∧ (∃ a5 c5, v' = .slice a5 n c5 ∧ PtOwn q.heap.size w' (.slice a5 n c5) ps ∧ Below q.heap.size q w' ∧ (∀ k X, W.heap[k]? = some X → k ≠ L → w'.heap[k]? = some X)) := by
  have ho : PtOwn q.heap.size W (.slice (some ⟨L, 0, none⟩) 0 0) [] := ⟨rfl, .inr ⟨L, 0, #[], rfl, hL, hh, Nat.le_refl _, Nat.zero_le _, rfl, rfl⟩⟩
  obtain ⟨a5, c5, w5, hap, hpo, hgr, _⟩ := append_puts (P := P) hinfo ht ho hb.size (c := cap) (jl_later hx hb hhi) (by omega)
  rw [Nat.zero_add] at hap hpo
  rw [List.nil_append] at hpo
  refine ⟨_, w5, hap, a5, c5, rfl, hpo, hb.grown hgr hb.size (fun k e => by have e' : some L = some k := e; simp only [Option.some.injEq] at e'; omega), fun k X hk hne => ?_⟩
  exact (hgr.block k (Array.getElem?_eq_some_iff.1 hk).1 (fun e => hne (by have e' : some k = some L := e; simp only [Option.some.injEq] at e'; exact e'))).trans hk
/-- One Put behind them. -/
theorem app_next {P : Program} (hinfo : (P.info? 51).map (fun i => (i.zero, i.size, i.bytes)) = some (some (.agg #[.int .i64 0, .int .i64 0, .string ByteArray.empty]), 3, 32)) {t : TypeId} (ht : P.underlying t = some (.slice 51)) {q : World} {n : Nat} {ps : List Jb} {kd sq : Int} {tx : ByteArray} (hn : n ≤ 1000) (hl : ps.length = n)
    (W : World) (a5 : Option Addr) (c5 L : Nat) (hb : Below q.heap.size q W) (ho : PtOwn q.heap.size W (.slice a5 n c5) ps) (hh : W.heap[L]? = some (.cells #[.int .i64 kd, .int .i64 sq, .string tx] 51)) :
    ∃ v' w', (Builtin.append_ #[t, t] t #[.slice a5 n c5, .slice (some ⟨L, 0, none⟩) 1 1]).run P W = .ok v' w' ∧ (∃ g c cur, v' = .slice (some ⟨g, 0, none⟩) (n + 1) c ∧ n + 1 ≤ c ∧ q.heap.size ≤ g ∧ w'.heap[g]? = some (.cells cur 51 (0, 0)) ∧ OwnJobs g (g + 1) w' (some ⟨g, 0, none⟩) (n + 1) (ps ++ [(kd, sq, tx)]) ∧ Below q.heap.size q w' ∧ (∀ (k : Nat) (cs : Array Value) (T : TypeId) (fr : Nat × Nat), T ≠ 51 → W.heap[k]? = some (Obj.cells cs T fr) → w'.heap[k]? = some (Obj.cells cs T fr))) := by
  obtain ⟨a7, c7, w7, hap, hpo, hgr, _⟩ := append_puts (P := P) hinfo ht ho hb.size (c := 1) (jobs_one hh (Nat.zero_le _)) (by omega)
  have hlen : (ps ++ [(kd, sq, tx)]).length = n + 1 := by rw [List.length_append, hl]; rfl
  obtain ⟨g, c9, hga, hc9, hg1, hg2⟩ := pt_some hpo (by rw [hlen]; omega)
  simp only [Value.slice.injEq] at hga
  obtain ⟨rfl, _, rfl⟩ := hga
  obtain ⟨cur, hcur⟩ : ∃ cur, w7.heap[g]? = some (.cells cur 51 (0, 0)) := by
    rcases hpo.2 with ⟨e, _⟩ | ⟨g', cap', cur, e, _, hgg, _⟩
    · simp at e
    · simp only [Value.slice.injEq, Option.some.injEq, Addr.mk.injEq, and_true] at e
      obtain ⟨rfl, _⟩ := e
      exact ⟨cur, hgg⟩
  have how := pt_own hpo
  rw [hlen] at how
  refine ⟨_, w7, hap, g, c7, cur, rfl, by rw [hlen] at hc9; exact hc9, hg1, hcur, ?_, hb.grown hgr hb.size (fun k e => (World.ownsRow.lt ho k e).1), fun k cs T fr hT hk => ?_⟩
  · refine ⟨how.1, by omega, fun h0 => ?_⟩
    obtain ⟨b, off, e, _, _, h3⟩ := how.2.2 h0
    simp only [Option.some.injEq, Addr.mk.injEq, and_true] at e
    obtain ⟨rfl, rfl⟩ := e
    exact ⟨g, 0, rfl, Nat.le_refl _, Nat.lt_succ_self _, h3⟩
  · refine (hgr.block k (Array.getElem?_eq_some_iff.1 hk).1 (fun e => ?_)).trans hk
    rcases ho.2 with ⟨e5, _⟩ | ⟨g5, cap5, cur5, e5, _, hg5, _⟩
    · rw [e5] at e; cases e
    · rw [e5] at e
      have e' : some k = some g5 := e
      simp only [Option.some.injEq] at e'
      subst e'
      rw [hk] at hg5
      simp only [Option.some.injEq, Obj.cells.injEq] at hg5
      exact hT hg5.2.1
theorem oj_set2 {g L n : Nat} {w : World} {a : Option Addr} {js : List Jb} (h : OwnJobs g (g + 1) w a n js) (hne : g ≠ L) (v0 v1 : Value) : OwnJobs g (g + 1) ((w.setCell ⟨L, 0, none⟩ v0).setCell ⟨L, 1, none⟩ v1) a n js :=
  oj_aside h (((Aside.refl L (L + 1) w).setCell (p := ⟨L, 0, none⟩) (Nat.le_refl _) (Nat.lt_succ_self _) v0).setCell (p := ⟨L, 1, none⟩) (Nat.le_refl _) (Nat.lt_succ_self _) v1) (by omega)
end Go.Proofs.Ytdaemaefkikheaa
