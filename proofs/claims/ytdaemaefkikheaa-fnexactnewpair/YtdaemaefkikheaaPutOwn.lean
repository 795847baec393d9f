/- Puts of a call's own, that may grow. -/
import Derived.Test.YtdaemaefkikheaaLogPut
import Derived.Maps.AppendAt
import Derived.OwnWalk
namespace Go.Proofs.Ytdaemaefkikheaa
open Go.RowKit
set_option linter.unusedVariables false
set_option linter.unusedSimpArgs false
set_option maxRecDepth 20000

/-- A Put as cells; Puts as cells. -/
def ptV (x : Jb) : List Value := [.int .i64 x.1, .int .i64 x.2.1, .string x.2.2]
def ptL (ys : List Jb) : List Value := ys.flatMap ptV
theorem ptL_append (xs ys : List Jb) : ptL (xs ++ ys) = ptL xs ++ ptL ys := List.flatMap_append
theorem ptL_length (ys : List Jb) : (ptL ys).length = ys.length * 3 := by
  induction ys with
  | nil => rfl
  | cons y ys ih => show (ptV y ++ ptL ys).length = _; rw [List.length_append, ih]; simp [ptV]; omega
theorem ptL_at (ys : List Jb) {j : Nat} (h : j < ys.length * 3) : (ptL ys)[j]? = some (cellJ ys j) := by
  induction ys generalizing j with
  | nil => simp at h
  | cons y ys ih =>
    have e : ptL (y :: ys) = ptV y ++ ptL ys := rfl
    rw [e]
    by_cases h3 : j < 3
    · rw [List.getElem?_append_left (by simp [ptV]; omega)]
      have : j = 0 ∨ j = 1 ∨ j = 2 := by omega
      rcases this with rfl | rfl | rfl <;> rfl
    · rw [List.getElem?_append_right (by simp [ptV]; omega)]
      have hl : (ptV y).length = 3 := rfl
      simp only [List.length_cons] at h
      rw [hl, ih (by omega)]
      congr 1
      unfold cellJ
      rw [show (j - 3) % 3 = j % 3 by omega]
      have hq : jbAt ys ((j - 3) / 3) = jbAt (y :: ys) (j / 3) := by
        unfold jbAt
        rw [show j / 3 = (j - 3) / 3 + 1 by omega]
        rfl
      rw [hq]
theorem ptL_one (ys : List Jb) : ∀ u ∈ ptL ys, u.oneCell' = true := by
  intro u hu
  obtain ⟨y, _, hy⟩ := List.mem_flatMap.1 hu
  simp only [ptV, List.mem_cons, List.not_mem_nil, or_false] at hy
  rcases hy with rfl | rfl | rfl <;> rfl
theorem ptV_one (x : Jb) : ∀ u ∈ ptV x, u.oneCell' = true := by
  intro u hu
  simp only [ptV, List.mem_cons, List.not_mem_nil, or_false] at hu
  rcases hu with rfl | rfl | rfl <;> rfl
abbrev PtOwn (B : Nat) (w : World) (v : Value) (ys : List Jb) : Prop := w.ownsRow B 51 3 v ys.length (ptL ys)
theorem pt_made0 (w : World) : PtOwn w.heap.size (w.alloc (.cells #[] 51)) (.slice (some ⟨w.heap.size, 0, none⟩) 0 0) [] := by
  have hb : (w.alloc (.cells #[] 51)).heap[w.heap.size]? = some (.cells #[] 51 (0, 0)) := heap_new _ _
  exact ⟨rfl, .inr ⟨w.heap.size, 0, #[], rfl, Nat.le_refl _, hb, Nat.le_refl _, Nat.zero_le _, rfl, rfl⟩⟩
theorem pt_nil (B : Nat) (w : World) : PtOwn B w (.slice none 0 0) [] := ⟨rfl, .inl ⟨rfl, rfl⟩⟩
theorem pt_form {B : Nat} {w : World} {v : Value} {ys : List Jb} (h : PtOwn B w v ys) : ∃ a c, v = .slice a ys.length c ∧ ys.length ≤ c := by
  rcases h.2 with ⟨e, h0⟩ | ⟨g, cap, cur, e, _, _, hn, _⟩
  · exact ⟨none, 0, by rw [e, h0], by omega⟩
  · exact ⟨_, cap, e, hn⟩
theorem pt_own {B : Nat} {w : World} {a : Option Addr} {n c : Nat} {ys : List Jb} (h : PtOwn B w (.slice a n c) ys) : OwnJobs B w.heap.size w a ys.length ys := by
  refine ⟨rfl, Nat.le_refl _, fun h0 => ?_⟩
  rcases h.2 with ⟨_, h1⟩ | ⟨g, cap, cur, e, hg, hgg, _⟩
  · omega
  · simp only [Value.slice.injEq] at e
    obtain ⟨rfl, rfl, rfl⟩ := e
    refine ⟨g, 0, rfl, hg, (Array.getElem?_eq_some_iff.1 hgg).1, fun i hi => ⟨?_, by rw [Nat.zero_add]; exact h.frozenAt i⟩⟩
    rw [Nat.zero_add, h.cellAt i (by omega), ptL_at ys (by omega)]
theorem pt_some {B : Nat} {w : World} {v : Value} {ys : List Jb} (h : PtOwn B w v ys) (h1 : 1 ≤ ys.length) : ∃ g c, v = .slice (some ⟨g, 0, none⟩) ys.length c ∧ ys.length ≤ c ∧ B ≤ g ∧ g < w.heap.size := by
  rcases h.2 with ⟨e, h0⟩ | ⟨g, cap, cur, e, hb, hgg, hn, _⟩
  · omega
  · exact ⟨g, cap, e, hn, hb, (Array.getElem?_eq_some_iff.1 hgg).1⟩
/-- One Item, read out of Jobs. -/
theorem pt_read {lo hi n k : Nat} {w : World} {a : Option Addr} {ys : List Jb} (h : Jobs lo hi w a n ys) (hk : k < n) : ∃ b off, a = some ⟨b, off, none⟩ ∧ lo ≤ b ∧ b < hi ∧ w.cell? ⟨b, off + k * 3, none⟩ = some (.int .i64 (jbAt ys k).1) ∧ w.cell? ⟨b, off + k * 3 + 1, none⟩ = some (.int .i64 (jbAt ys k).2.1) ∧ w.cell? ⟨b, off + k * 3 + 2, none⟩ = some (.string (jbAt ys k).2.2) := by
  obtain ⟨b, off, e, h1, h2, h3⟩ := h.2.2 (by omega)
  refine ⟨b, off, e, h1, h2, ?_, ?_, ?_⟩
  · rw [show off + k * 3 = off + 3 * k by omega, h3 _ (by omega), cellJ0]
  · rw [show off + k * 3 + 1 = off + (3 * k + 1) by omega, h3 _ (by omega), cellJ1]
  · rw [show off + k * 3 + 2 = off + (3 * k + 2) by omega, h3 _ (by omega), cellJ2]
theorem Try.infoPtI : (Try.prog.info? 51).map (fun i => (i.zero, i.size, i.bytes)) = some (some (.agg #[.int .i64 0, .int .i64 0, .string ByteArray.empty]), 3, 32) := by kernel_rfl
/-- 'append(own, s...)': Jobs behind one's own. -/
theorem append_puts {P : Program} (hinfo : (P.info? 51).map (fun i => (i.zero, i.size, i.bytes)) = some (some (.agg #[.int .i64 0, .int .i64 0, .string ByteArray.empty]), 3, 32)) {t : TypeId} (ht : P.underlying t = some (.slice 51)) {B : Nat} {w : World} {a0 : Option Addr} {n0 c0 : Nat} {ys : List Jb} (ho : PtOwn B w (.slice a0 n0 c0) ys) (hB : B ≤ w.heap.size)
    {lo hi : Nat} {a : Option Addr} {n c : Nat} {xs : List Jb} (hx : Jobs lo hi w a n xs) (hn : n0 + n ≤ 1048576) :
    ∃ a' c' w', (Builtin.append_ #[t, t] t #[.slice a0 n0 c0, .slice a n c]).run P w = .ok (.slice a' (n0 + n) c') w' ∧ PtOwn B w' (.slice a' (n0 + n) c') (ys ++ xs) ∧ w.grownBy w' (Value.slice a0 n0 c0).ownBlock ∧ ((Value.slice a' (n0 + n) c').ownBlock = (Value.slice a0 n0 c0).ownBlock ∨ (Value.slice a' (n0 + n) c').ownBlock = some w.heap.size) := by
  obtain ⟨i0, hi0, hz0, hz1, hz2⟩ := info_parts hinfo
  obtain ⟨hl, _, hx⟩ := hx
  subst hl
  have hn0 : n0 = ys.length := by
    obtain ⟨a1, c1, e, _⟩ := pt_form ho
    simp only [Value.slice.injEq] at e
    exact e.2.1
  by_cases h0 : xs.length = 0
  · have hts : xs = [] := List.eq_nil_of_length_eq_zero h0
    subst hts
    refine ⟨a0, c0, w, ?_, by rw [List.append_nil]; exact ho, ⟨rfl, rfl, rfl, Nat.le_refl _, fun _ _ _ => rfl⟩, .inl rfl⟩
    obtain ⟨a1, c1, e, hc1⟩ := pt_form ho
    simp only [Value.slice.injEq] at e
    obtain ⟨rfl, _, rfl⟩ := e
    cases a0 with
    | none =>
      rcases ho.2 with ⟨e, h1⟩ | ⟨g, cap, cur, e, _⟩
      · simp only [Value.slice.injEq, true_and] at e
        obtain ⟨rfl, rfl⟩ := e
        cases a <;> simp [Builtin.append_, run_underlying ht, sizeOf, typeInfo, hi0, Builtin.lenOf, Builtin.firstCells, storeCells, loadCells, loadCellsFrom]
      · simp at e
    | some x => cases a <;> simp [Builtin.append_, run_underlying ht, sizeOf, typeInfo, hi0, Builtin.lenOf, Builtin.firstCells, storeCells, loadCells, loadCellsFrom, hn0, hc1]
  · obtain ⟨b, off, rfl, _, _, hc⟩ := hx (by omega)
    have hnews : ∀ (j : Nat) u, (ptL xs)[j]? = some u → w.cell? ((⟨b, off, none⟩ : Addr).add j) = some u := by
      intro j u hj
      have hjl : j < xs.length * 3 := by
        rcases Nat.lt_or_ge j (xs.length * 3) with h | h
        · exact h
        · rw [List.getElem?_eq_none (by rw [ptL_length]; exact h)] at hj; simp at hj
      have hadd : (⟨b, off, none⟩ : Addr).add j = ⟨b, off + j, none⟩ := by unfold Addr.add; split <;> simp_all
      rw [hadd, hc j (by omega), ← hj, ptL_at xs hjl]
    obtain ⟨v', w', h1, h2, h3, h4, h5⟩ := run_append_own_at (P := P) w B t t 51 i0 (.agg #[.int .i64 0, .int .i64 0, .string ByteArray.empty]) 3 32 ht hi0 hz0 hz1 hz2 rfl (by decide) _ ys.length (ptL ys) ho ⟨b, off, none⟩ xs.length c (ptL xs) (by rw [ptL_length]) hnews
      (ptL_one xs) (by unfold maxLen; omega) (by omega) hB
    rw [← ptL_append] at h2
    have h2' : PtOwn B w' v' (ys ++ xs) := by
      show World.ownsRow _ _ _ _ _ (ys ++ xs).length _
      rw [List.length_append]
      exact h2
    obtain ⟨a', c', rfl, _⟩ := pt_form h2'
    rw [List.length_append, ← hn0] at h1 h2' h5
    exact ⟨a', c', w', h1, h2', h3, h5⟩
theorem pt_later {B : Nat} {w w' : World} {v : Value} {ys : List Jb} (h : PtOwn B w v ys) (hb : Below w.heap.size w w') : PtOwn B w' v ys := by
  refine ⟨h.1, ?_⟩
  rcases h.2 with h1 | ⟨g, cap, cur, e, h2, hg, h3⟩
  · exact .inl h1
  · exact .inr ⟨g, cap, cur, e, h2, (hb.block g (Array.getElem?_eq_some_iff.1 hg).1).trans hg, h3⟩
theorem jbAt_drop (ps : List Jb) (k i : Nat) : jbAt (ps.drop k) i = jbAt ps (k + i) := by
  unfold jbAt
  rw [List.getD_eq_getElem?_getD, List.getD_eq_getElem?_getD, List.getElem?_drop]
theorem cellJ_drop (ps : List Jb) (k j : Nat) : cellJ (ps.drop k) j = cellJ ps (3 * k + j) := by
  unfold cellJ
  rw [jbAt_drop, show (3 * k + j) % 3 = j % 3 by omega, show (3 * k + j) / 3 = k + j / 3 by omega]
theorem jobs_drop {lo hi n k b off : Nat} {w : World} {ps : List Jb} (h : Jobs lo hi w (some ⟨b, off, none⟩) n ps) (hk : k ≤ n) : Jobs lo hi w (some ⟨b, off + k * 3, none⟩) (n - k) (ps.drop k) := by
  refine ⟨by rw [List.length_drop, h.1], h.2.1, fun h0 => ?_⟩
  obtain ⟨b', off', e, h1, h2, h3⟩ := h.2.2 (by omega)
  simp only [Option.some.injEq, Addr.mk.injEq, and_true] at e
  obtain ⟨rfl, rfl⟩ := e
  refine ⟨b, off + k * 3, rfl, h1, h2, fun i hi => ?_⟩
  rw [cellJ_drop, ← h3 (3 * k + i) (by omega)]
  congr 2
  omega
theorem own_drop {lo hi n k b off : Nat} {w : World} {ps : List Jb} (h : OwnJobs lo hi w (some ⟨b, off, none⟩) n ps) (hk : k ≤ n) : OwnJobs lo hi w (some ⟨b, off + k * 3, none⟩) (n - k) (ps.drop k) := by
  refine ⟨by rw [List.length_drop, h.1], h.2.1, fun h0 => ?_⟩
  obtain ⟨b', off', e, h1, h2, h3⟩ := h.2.2 (by omega)
  simp only [Option.some.injEq, Addr.mk.injEq, and_true] at e
  obtain ⟨rfl, rfl⟩ := e
  refine ⟨b, off + k * 3, rfl, h1, h2, fun i hi => ?_⟩
  have := h3 (3 * k + i) (by omega)
  rw [← cellJ_drop, show off + (3 * k + i) = off + k * 3 + i by omega] at this
  exact this
theorem jobs_one {lo : Nat} {w : World} {b : Nat} {kd sq : Int} {tx : ByteArray} {t : TypeId} {fr : Nat × Nat} (h : w.heap[b]? = some (.cells #[.int .i64 kd, .int .i64 sq, .string tx] t fr)) (hl : lo ≤ b) : Jobs lo w.heap.size w (some ⟨b, 0, none⟩) 1 [(kd, sq, tx)] := by
  refine ⟨rfl, Nat.le_refl _, fun _ => ⟨b, 0, rfl, hl, (Array.getElem?_eq_some_iff.1 h).1, fun i hi => ?_⟩⟩
  have : i = 0 ∨ i = 1 ∨ i = 2 := by omega
  rcases this with rfl | rfl | rfl <;> simp [World.cell?, h, cellJ, jbAt]
theorem jobs_wide {lo hi lo' n : Nat} {w : World} {a : Option Addr} {ps : List Jb} (h : Jobs lo hi w a n ps) (hl : lo' ≤ lo) : Jobs lo' w.heap.size w a n ps :=
  ⟨h.1, Nat.le_refl _, fun hn => by
    have hz := h.2.1
    obtain ⟨b, off, e, h1, h2, h3⟩ := h.2.2 hn
    exact ⟨b, off, e, by omega, by omega, h3⟩⟩
theorem oj_wide {lo hi lo' n : Nat} {w : World} {a : Option Addr} {ps : List Jb} (h : OwnJobs lo hi w a n ps) (hl : lo' ≤ lo) : OwnJobs lo' w.heap.size w a n ps :=
  ⟨h.1, Nat.le_refl _, fun hn => by
    have hz := h.2.1
    obtain ⟨b, off, e, h1, h2, h3⟩ := h.2.2 hn
    exact ⟨b, off, e, by omega, by omega, h3⟩⟩
theorem jl_own {lo hi n : Nat} {w : World} {a : Option Addr} {js : List Jb} (h : OwnJobs lo hi w a n js) : Jobs lo hi w a n js := ⟨h.1, h.2.reads⟩
theorem jl_later {lo hi n B : Nat} {w w' : World} {a : Option Addr} {js : List Jb} (h : Jobs lo hi w a n js) (hb : Below B w w') (hB : hi ≤ B) : Jobs lo hi w' a n js := ⟨h.1, h.2.later hb hB⟩
theorem oj_later {lo hi n B : Nat} {w w' : World} {a : Option Addr} {js : List Jb} (h : OwnJobs lo hi w a n js) (hb : Below B w w') (hB : hi ≤ B) : OwnJobs lo hi w' a n js := ⟨h.1, h.2.later hb hB⟩
theorem oj_aside {lo hi n l r : Nat} {w w' : World} {a : Option Addr} {js : List Jb} (h : OwnJobs lo hi w a n js) (hb : Aside l r w w') (hB : hi ≤ l ∨ r ≤ lo) : OwnJobs lo hi w' a n js := ⟨h.1, h.2.aside hb hB⟩
theorem oj_none {lo : Nat} {w : World} : OwnJobs lo w.heap.size w none 0 [] := ⟨rfl, Nat.le_refl _, fun h => absurd h (by decide)⟩
theorem oj_nil {lo : Nat} {w : World} {a : Option Addr} : OwnJobs lo w.heap.size w a 0 [] := ⟨rfl, Nat.le_refl _, fun h => absurd h (by decide)⟩
theorem step_app {P : Program} {ops : Array Oper} {o : Oper} {a : Act} {w : World} {K : Act → World → Prop} {Q : Exit → Act → World → Prop} {E : Prop}
    (hg : o.guard = none) (s x : Operand) (t : TypeId) (hop : o.op = Op.call { callee := Callee.builtin Builtin.append, args := #[s, x], argTypes := #[t, t] })
    (v1 v2 v' : Value) (w' : World) (hs : a.eval s = v1) (hx : a.eval x = v2) (hrun : (Builtin.append_ #[t, t] o.type #[v1, v2]).run P w = .ok v' w')
    (hK : K (a.put o.dst v') w') : if Region.wanted o (yielded ops a.tmps) = true then Oper.wp P o a w K Q else E := by
  have hw : Region.wanted o (yielded ops a.tmps) = true := by simp [Region.wanted, hg]
  rw [if_pos hw]
  unfold Oper.wp
  simp [execOp, hop, resolve, invoke, builtin, hs, hx, hrun, Result.andThen]
  exact hK
end Go.Proofs.Ytdaemaefkikheaa
