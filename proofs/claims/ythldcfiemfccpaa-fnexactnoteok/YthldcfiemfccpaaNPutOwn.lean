/- Several texts in one: PutOwn, ChipOkS, NoteLaw. -/
import Derived.Test.YthldcfiemfccpaaNChipOwn2
import Derived.Maps.AppendAt
import Derived.OwnWalk
import Derived.Test.YthldcfiemfccpaaNInfo
import Derived.Test.YthldcfiemfccpaaNTextWalk
import Derived.Test.YthldcfiemfccpaaNTextBase
section
namespace Go.Proofs.Ythldcfiemfccpaa
open Go.RowKit
set_option linter.unusedVariables false
set_option linter.unusedSimpArgs false
set_option maxRecDepth 20000

/-- A Put as cells; Puts as cells. -/
def ptV (x : Jb) : List Value := [.int .i64 x.1, .int .i64 x.2.1, .string x.2.2]
def ptL (ys : List Jb) : List Value := ys.flatMap ptV
theorem ptL_append (xs ys : List Jb) : ptL (xs ++ ys) = ptL xs ++ ptL ys := List.flatMap_append
theorem ptL_length (ys : List Jb) : (ptL ys).length = ys.length * 3 := by
  induction ys with
  | nil => rfl
  | cons y ys ih => show (ptV y ++ ptL ys).length = _; rw [List.length_append, ih]; simp [ptV]; omega
theorem ptL_at (ys : List Jb) {j : Nat} (h : j < ys.length * 3) : (ptL ys)[j]? = some (cellJ ys j) := by
  induction ys generalizing j with
  | nil => simp at h
  | cons y ys ih =>
    have e : ptL (y :: ys) = ptV y ++ ptL ys := rfl
    rw [e]
    by_cases h3 : j < 3
    · rw [List.getElem?_append_left (by simp [ptV]; omega)]
      have : j = 0 ∨ j = 1 ∨ j = 2 := by omega
      rcases this with rfl | rfl | rfl <;> rfl
    · rw [List.getElem?_append_right (by simp [ptV]; omega)]
      have hl : (ptV y).length = 3 := rfl
      simp only [List.length_cons] at h
      rw [hl, ih (by omega)]
      congr 1
      unfold cellJ
      rw [show (j - 3) % 3 = j % 3 by omega]
      have hq : jbAt ys ((j - 3) / 3) = jbAt (y :: ys) (j / 3) := by
        unfold jbAt
        rw [show j / 3 = (j - 3) / 3 + 1 by omega]
        rfl
      rw [hq]
theorem ptL_one (ys : List Jb) : ∀ u ∈ ptL ys, u.oneCell' = true := by
  intro u hu
  obtain ⟨y, _, hy⟩ := List.mem_flatMap.1 hu
  simp only [ptV, List.mem_cons, List.not_mem_nil, or_false] at hy
  rcases hy with rfl | rfl | rfl <;> rfl
theorem ptV_one (x : Jb) : ∀ u ∈ ptV x, u.oneCell' = true := by
  intro u hu
  simp only [ptV, List.mem_cons, List.not_mem_nil, or_false] at hu
  rcases hu with rfl | rfl | rfl <;> rfl
/-- One Item, read out of Jobs. -/
theorem pt_read {lo hi n k : Nat} {w : World} {a : Option Addr} {ys : List Jb} (h : Jobs lo hi w a n ys) (hk : k < n) : ∃ b off, a = some ⟨b, off, none⟩ ∧ lo ≤ b ∧ b < hi ∧ w.cell? ⟨b, off + k * 3, none⟩ = some (.int .i64 (jbAt ys k).1) ∧ w.cell? ⟨b, off + k * 3 + 1, none⟩ = some (.int .i64 (jbAt ys k).2.1) ∧ w.cell? ⟨b, off + k * 3 + 2, none⟩ = some (.string (jbAt ys k).2.2) := by
  obtain ⟨b, off, e, h1, h2, h3⟩ := h.2.2 (by omega)
  refine ⟨b, off, e, h1, h2, ?_, ?_, ?_⟩
  · rw [show off + k * 3 = off + 3 * k by omega, h3 _ (by omega), cellJ0]
  · rw [show off + k * 3 + 1 = off + (3 * k + 1) by omega, h3 _ (by omega), cellJ1]
  · rw [show off + k * 3 + 2 = off + (3 * k + 2) by omega, h3 _ (by omega), cellJ2]
theorem jbAt_drop (ps : List Jb) (k i : Nat) : jbAt (ps.drop k) i = jbAt ps (k + i) := by
  unfold jbAt
  rw [List.getD_eq_getElem?_getD, List.getD_eq_getElem?_getD, List.getElem?_drop]
theorem cellJ_drop (ps : List Jb) (k j : Nat) : cellJ (ps.drop k) j = cellJ ps (3 * k + j) := by
  unfold cellJ
  rw [jbAt_drop, show (3 * k + j) % 3 = j % 3 by omega, show (3 * k + j) / 3 = k + j / 3 by omega]
theorem jobs_drop {lo hi n k b off : Nat} {w : World} {ps : List Jb} (h : Jobs lo hi w (some ⟨b, off, none⟩) n ps) (hk : k ≤ n) : Jobs lo hi w (some ⟨b, off + k * 3, none⟩) (n - k) (ps.drop k) := by
  refine ⟨by rw [List.length_drop, h.1], h.2.1, fun h0 => ?_⟩
  obtain ⟨b', off', e, h1, h2, h3⟩ := h.2.2 (by omega)
  simp only [Option.some.injEq, Addr.mk.injEq, and_true] at e
  obtain ⟨rfl, rfl⟩ := e
  refine ⟨b, off + k * 3, rfl, h1, h2, fun i hi => ?_⟩
  rw [cellJ_drop, ← h3 (3 * k + i) (by omega)]
  congr 2
  omega
theorem own_drop {lo hi n k b off : Nat} {w : World} {ps : List Jb} (h : OwnJobs lo hi w (some ⟨b, off, none⟩) n ps) (hk : k ≤ n) : OwnJobs lo hi w (some ⟨b, off + k * 3, none⟩) (n - k) (ps.drop k) := by
  refine ⟨by rw [List.length_drop, h.1], h.2.1, fun h0 => ?_⟩
  obtain ⟨b', off', e, h1, h2, h3⟩ := h.2.2 (by omega)
  simp only [Option.some.injEq, Addr.mk.injEq, and_true] at e
  obtain ⟨rfl, rfl⟩ := e
  refine ⟨b, off + k * 3, rfl, h1, h2, fun i hi => ?_⟩
  have := h3 (3 * k + i) (by omega)
  rw [← cellJ_drop, show off + (3 * k + i) = off + k * 3 + i by omega] at this
  exact this
theorem jobs_one {lo : Nat} {w : World} {b : Nat} {kd sq : Int} {tx : ByteArray} {t : TypeId} {fr : Nat × Nat} (h : w.heap[b]? = some (.cells #[.int .i64 kd, .int .i64 sq, .string tx] t fr)) (hl : lo ≤ b) : Jobs lo w.heap.size w (some ⟨b, 0, none⟩) 1 [(kd, sq, tx)] := by
  refine ⟨rfl, Nat.le_refl _, fun _ => ⟨b, 0, rfl, hl, (Array.getElem?_eq_some_iff.1 h).1, fun i hi => ?_⟩⟩
  have : i = 0 ∨ i = 1 ∨ i = 2 := by omega
  rcases this with rfl | rfl | rfl <;> simp [World.cell?, h, cellJ, jbAt]
theorem jobs_wide {lo hi lo' n : Nat} {w : World} {a : Option Addr} {ps : List Jb} (h : Jobs lo hi w a n ps) (hl : lo' ≤ lo) : Jobs lo' w.heap.size w a n ps :=
  ⟨h.1, Nat.le_refl _, fun hn => by
    have hz := h.2.1
    obtain ⟨b, off, e, h1, h2, h3⟩ := h.2.2 hn
    exact ⟨b, off, e, by omega, by omega, h3⟩⟩
theorem oj_wide {lo hi lo' n : Nat} {w : World} {a : Option Addr} {ps : List Jb} (h : OwnJobs lo hi w a n ps) (hl : lo' ≤ lo) : OwnJobs lo' w.heap.size w a n ps :=
  ⟨h.1, Nat.le_refl _, fun hn => by
    have hz := h.2.1
    obtain ⟨b, off, e, h1, h2, h3⟩ := h.2.2 hn
    exact ⟨b, off, e, by omega, by omega, h3⟩⟩
theorem jl_own {lo hi n : Nat} {w : World} {a : Option Addr} {js : List Jb} (h : OwnJobs lo hi w a n js) : Jobs lo hi w a n js := ⟨h.1, h.2.reads⟩
theorem jl_later {lo hi n B : Nat} {w w' : World} {a : Option Addr} {js : List Jb} (h : Jobs lo hi w a n js) (hb : Below B w w') (hB : hi ≤ B) : Jobs lo hi w' a n js := ⟨h.1, h.2.later hb hB⟩
theorem oj_later {lo hi n B : Nat} {w w' : World} {a : Option Addr} {js : List Jb} (h : OwnJobs lo hi w a n js) (hb : Below B w w') (hB : hi ≤ B) : OwnJobs lo hi w' a n js := ⟨h.1, h.2.later hb hB⟩
theorem oj_aside {lo hi n l r : Nat} {w w' : World} {a : Option Addr} {js : List Jb} (h : OwnJobs lo hi w a n js) (hb : Aside l r w w') (hB : hi ≤ l ∨ r ≤ lo) : OwnJobs lo hi w' a n js := ⟨h.1, h.2.aside hb hB⟩
theorem oj_none {lo : Nat} {w : World} : OwnJobs lo w.heap.size w none 0 [] := ⟨rfl, Nat.le_refl _, fun h => absurd h (by decide)⟩
theorem oj_nil {lo : Nat} {w : World} {a : Option Addr} : OwnJobs lo w.heap.size w a 0 [] := ⟨rfl, Nat.le_refl _, fun h => absurd h (by decide)⟩
theorem step_app {P : Program} {ops : Array Oper} {o : Oper} {a : Act} {w : World} {K : Act → World → Prop} {Q : Exit → Act → World → Prop} {E : Prop}
    (hg : o.guard = none) (s x : Operand) (t : TypeId) (hop : o.op = Op.call { callee := Callee.builtin Builtin.append, args := #[s, x], argTypes := #[t, t] })
    (v1 v2 v' : Value) (w' : World) (hs : a.eval s = v1) (hx : a.eval x = v2) (hrun : (Builtin.append_ #[t, t] o.type #[v1, v2]).run P w = .ok v' w')
    (hK : K (a.put o.dst v') w') : if Region.wanted o (yielded ops a.tmps) = true then Oper.wp P o a w K Q else E := by
  have hw : Region.wanted o (yielded ops a.tmps) = true := by simp [Region.wanted, hg]
  rw [if_pos hw]
  unfold Oper.wp
  simp [execOp, hop, resolve, invoke, builtin, hs, hx, hrun, Result.andThen]
  exact hK
end Go.Proofs.Ythldcfiemfccpaa
end

section
namespace Go.Proofs.Ythldcfiemfccpaa
open Go.RowKit
set_option linter.unusedVariables false
set_option maxRecDepth 20000

def txOk (s : ByteArray) : Bool := decide (1 ≤ s.size) && decide (s.size ≤ 200)
def sqOk (z : Int) (q : Sq) : Bool := decide ((q.1.length : Int) ≤ z) && (inB q.2.1 0 1000000 && q.1.all txOk)
def chipOk (z : Int) (qs : List Sq) : Bool := inB z 1 8 && (decide (1 ≤ qs.length) && (decide (qs.length ≤ 12) && qs.all (sqOk z)))
theorem sq_all_step {z : Int} {qs : List Sq} {k : Nat} (h : k < qs.length) (h1 : (qs.take k).all (sqOk z) = true) (h2 : sqOk z (sqAt qs k) = true) : (qs.take (k + 1)).all (sqOk z) = true := by
  rw [List.take_succ_eq_append_getElem h, List.all_append, h1]
  unfold sqAt at h2
  rw [List.getD_eq_getElem?_getD, List.getElem?_eq_getElem h] at h2
  simpa using h2
theorem sq_all_fall {z : Int} {qs : List Sq} {k : Nat} (h : k < qs.length) (h2 : sqOk z (sqAt qs k) = false) : chipOk z qs = false := by
  have : qs.all (sqOk z) = false := by
    rw [List.all_eq_false]
    unfold sqAt at h2
    rw [List.getD_eq_getElem?_getD, List.getElem?_eq_getElem h] at h2
    exact ⟨qs[k], List.getElem_mem h, by simpa using h2⟩
  unfold chipOk
  rw [this]; simp
theorem tx_all_step {ts : List ByteArray} {k : Nat} (h : k < ts.length) (h1 : (ts.take k).all txOk = true) (h2 : txOk (ts.getD k ByteArray.empty) = true) : (ts.take (k + 1)).all txOk = true := by
  rw [List.take_succ_eq_append_getElem h, List.all_append, h1]
  rw [List.getD_eq_getElem?_getD, List.getElem?_eq_getElem h] at h2
  simpa using h2
theorem tx_all_fall {ts : List ByteArray} {k : Nat} (h : k < ts.length) (h2 : txOk (ts.getD k ByteArray.empty) = false) : ts.all txOk = false := by
  rw [List.all_eq_false]
  rw [List.getD_eq_getElem?_getD, List.getElem?_eq_getElem h] at h2
  exact ⟨ts[k], List.getElem_mem h, by simpa using h2⟩

end Go.Proofs.Ythldcfiemfccpaa
end

section
namespace Go.Proofs.Ythldcfiemfccpaa
open Go.RowKit
set_option linter.unusedVariables false
set_option linter.unusedSimpArgs false
set_option maxRecDepth 20000

set_option maxHeartbeats 1600000 in
theorem szNote_any (k tt e s a : Int) (tx : ByteArray) (vs : List ByteArray) (av : Option Addr) (n cap : Nat) (L : Int) (w : World) {lo hi : Nat} (h : Texts lo hi w av n vs) (hn : n ≤ maxLen) (hts : ∀ y ∈ vs, y.size ≤ maxLen) (hx : tx.size ≤ maxLen) (hL0 : 0 ≤ L) (hL : L ≤ 1048576) :
    Calls Try.prog 4 #[.agg #[.int .i64 k, .int .i64 tt, .int .i64 e, .int .i64 s, .int .i64 a, .string tx, .slice av n cap], .int .i64 L] w fun r w' => (∃ q : Int, r = .returned (.int .i64 q) ∧ -1 ≤ q ∧ q ≤ 1048576 ∧ (0 ≤ q → q = L - (tx.size : Int) - (n : Int) - (total vs : Int))) ∧ Below w.heap.size w w' := by
  have HB := hide ((Below.refl w.heap.size w).alloc (Nat.le_refl _) (.cells #[.int .i64 k, .int .i64 tt, .int .i64 e, .int .i64 s, .int .i64 a, .string tx, .slice av n cap] 24))
  have hx2 : tx.size ≤ 9223372036854775807 := by unfold maxLen at hx; omega
  have hh := h.2.1
  go_enter Try.func4, Try.ntmps4
  by_cases h0 : L - (tx.size : Int) < 0
  · go_wp2_with fail
    go_ret
    exact ⟨⟨-1, rfl, by omega, by omega, by omega⟩, HB.out⟩
  · go_wp2_with fail
    refine (szT_from av n cap vs (L - (tx.size : Int)) _ (h.later HB.out hh) hn hts (by omega) (by omega)).mono ?_
    rintro r w1 ⟨⟨q, rfl, h1, h2, h3⟩, rfl⟩
    have H3 := hide h3
    clear h3
    by_cases hq : q < 0
    · go_wp2_with fail
      go_ret
      exact ⟨⟨-1, rfl, by omega, by omega, by omega⟩, HB.out⟩
    · go_wp2_with fail
      go_ret
      exact ⟨⟨q, rfl, h1, h2, H3.out⟩, HB.out⟩

set_option maxHeartbeats 1600000 in
theorem eqNote_same (k tt e s a : Int) (tx : ByteArray) (vs : List ByteArray) (av av' : Option Addr) (n cap cap' : Nat) (w : World) {lo hi lo' hi' : Nat} (h : Texts lo hi w av n vs) (h' : Texts lo' hi' w av' n vs) (hn : n ≤ 1048576) :
    Calls Try.prog 8 #[.agg #[.int .i64 k, .int .i64 tt, .int .i64 e, .int .i64 s, .int .i64 a, .string tx, .slice av n cap], .agg #[.int .i64 k, .int .i64 tt, .int .i64 e, .int .i64 s, .int .i64 a, .string tx, .slice av' n cap']] w fun r w' => r = .returned (.bool true) ∧ Below w.heap.size w w' := by
  obtain ⟨wA, hwA⟩ : ∃ wA, wA = (w.alloc (.cells #[.int .i64 k, .int .i64 tt, .int .i64 e, .int .i64 s, .int .i64 a, .string tx, .slice av n cap] 27)).alloc (.cells #[.int .i64 k, .int .i64 tt, .int .i64 e, .int .i64 s, .int .i64 a, .string tx, .slice av' n cap'] 27) := ⟨_, rfl⟩
  have HBA : Hid (Below w.heap.size w wA) := by rw [hwA]; exact (((Below.refl _ _).alloc (Nat.le_refl _) _).alloc (by simp) _)
  have HTA := hide (h.later HBA.out h.2.1)
  have HTB := hide (h'.later HBA.out h'.2.1)
  have hbt := text_same tx
  clear h h'
  go_enter Try.func8, Try.ntmps8
  go_wp2_with fail
  rw [← hwA]
  clear hwA
  refine (eqT_any av n cap vs av' n cap' vs wA HTA.out HTB.out hn hn).mono ?_
  rintro r w1 ⟨rfl, b1⟩
  have HB1 := hide (below_here HBA.out b1)
  clear b1
  simp only [decide_true]
  go_wp2_with fail
  go_ret
  exact ⟨rfl, HB1.out⟩

set_option maxHeartbeats 1600000 in
theorem toNote_any (k tt e s a : Int) (tx : ByteArray) (vs : List ByteArray) (av : Option Addr) (n cap : Nat) (w : World) {lo hi : Nat} (h : Texts lo hi w av n vs) (hn : n ≤ 1048576) :
    Calls Try.prog 6 #[.agg #[.int .i64 k, .int .i64 tt, .int .i64 e, .int .i64 s, .int .i64 a, .string tx, .slice av n cap]] w fun r w' => ∃ p, r = .returned (.agg #[.int .i64 k, .int .i64 tt, .int .i64 e, .int .i64 s, .int .i64 a, .string tx, .slice p n n]) ∧ OwnTexts w.heap.size w'.heap.size w' p n vs ∧ Below w.heap.size w w' := by
  obtain ⟨wA, hwA⟩ : ∃ wA, wA = ((w.alloc (.cells #[.int .i64 k, .int .i64 tt, .int .i64 e, .int .i64 s, .int .i64 a, .string tx, .slice av n cap] 24)).alloc (.cells #[.int .i64 0, .int .i64 0, .int .i64 0, .int .i64 0, .int .i64 0, .string ⟨#[]⟩, .slice none 0 0] 27)).alloc (.cells #[.int .i64 k, .int .i64 tt, .int .i64 e, .int .i64 s, .int .i64 a, .string tx, .slice none 0 0] 27) := ⟨_, rfl⟩
  have hzA : wA.heap.size = w.heap.size + 1 + 1 + 1 := by rw [hwA]; simp
  have HBA : Hid (Below w.heap.size w wA) := by rw [hwA]; exact ((((Below.refl _ _).alloc (Nat.le_refl _) _).alloc (by simp) _).alloc (by simp; omega) _)
  have H1 : Hid (wA.heap[w.heap.size + 1]? = some (.cells #[.int .i64 0, .int .i64 0, .int .i64 0, .int .i64 0, .int .i64 0, .string ⟨#[]⟩, .slice none 0 0] 27)) := by rw [hwA]; exact heap_old (heap_at (by simp))
  have H2 : Hid (wA.heap[w.heap.size + 1 + 1]? = some (.cells #[.int .i64 k, .int .i64 tt, .int .i64 e, .int .i64 s, .int .i64 a, .string tx, .slice none 0 0] 27)) := by rw [hwA]; exact heap_at (by simp)
  have HTA := hide (h.later HBA.out h.2.1)
  clear h
  go_enter Try.func6, Try.ntmps6
  go_wp2_with fail
  rw [← hwA]
  clear hwA
  refine (toT_any av n cap vs wA HTA.out hn).mono ?_
  rintro r w1 ⟨p, rfl, hown, b1⟩
  have K1 := hide (block_on H1.out b1)
  have K2 := hide (block_on H2.out b1)
  have hs1 := b1.size
  have HB1 := hide (below_here HBA.out b1)
  obtain ⟨d0, d1, d2, d3, d4, d5, d6⟩ := note_cells K1.out
  obtain ⟨e0, e1, e2, e3, e4, e5, e6⟩ := note_cells K2.out
  have f0 := four_frozen K1.out 0
  have f1 := four_frozen K1.out 1
  have f2 := four_frozen K1.out 2
  have f3 := four_frozen K1.out 3
  have f4 := four_frozen K1.out 4
  have f5 := four_frozen K1.out 5
  have f6 := four_frozen K1.out 6
  have g6 := four_frozen K2.out 6
  have HOW := hide hown
  clear hown b1 H1 H2 HTA
  have HAS := hide (note_aside (b := w.heap.size + 1) ((Aside.refl w.heap.size (w.heap.size + 3) w1).setCell (p := ⟨w.heap.size + 1 + 1, 6, none⟩) (by simp; omega) (by simp) (.slice p n n)) (by omega) (by omega) (.int .i64 k) (.int .i64 tt) (.int .i64 e) (.int .i64 s) (.int .i64 a) (.string tx) (.slice p n n))
  have HRS := hide (note_set (set_other K1.out (show w.heap.size + 1 + 1 ≠ w.heap.size + 1 by omega) (o := 6) (.slice p n n)) (.int .i64 k) (.int .i64 tt) (.int .i64 e) (.int .i64 s) (.int .i64 a) (.string tx) (.slice p n n))
  clear K1 K2
  go_wp2_with fail
  have hsz := HAS.out.size
  refine bodyPost_ret (results_cell rfl rfl (run_loadVar_row _ _ _ _ _ _ _ HRS.out Try.underlying27 rfl (by kernel_rfl))) rfl ⟨p, rfl, own_end (own_wide (HOW.out.aside HAS.out (.inr (by omega))) (by omega)), HB1.out.trans (HAS.out.below (Nat.le_refl _) (by omega))⟩
end Go.Proofs.Ythldcfiemfccpaa
end

