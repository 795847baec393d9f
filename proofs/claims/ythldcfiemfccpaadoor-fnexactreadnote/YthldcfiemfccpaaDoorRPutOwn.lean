/- Several texts in one: PutOwn, ChipOkS, SpareSpec2. -/
import Derived.Test.YthldcfiemfccpaaDoorRChipOwn2
import Derived.Maps.AppendAt
import Derived.OwnWalk
import Derived.Test.YthldcfiemfccpaaDoorRInfo
import Derived.Test.YthldcfiemfccpaaDoorRTextWalk
import Derived.Test.YthldcfiemfccpaaDoorRCopyBase
section
namespace Go.Proofs.YthldcfiemfccpaaDoor
open Go.RowKit
set_option linter.unusedVariables false
set_option linter.unusedSimpArgs false
set_option maxRecDepth 20000

/-- A Put as cells; Puts as cells. -/
def ptV (x : Jb) : List Value := [.int .i64 x.1, .int .i64 x.2.1, .string x.2.2]
def ptL (ys : List Jb) : List Value := ys.flatMap ptV
theorem ptL_append (xs ys : List Jb) : ptL (xs ++ ys) = ptL xs ++ ptL ys := List.flatMap_append
theorem ptL_length (ys : List Jb) : (ptL ys).length = ys.length * 3 := by
  induction ys with
  | nil => rfl
  | cons y ys ih => show (ptV y ++ ptL ys).length = _; rw [List.length_append, ih]; simp [ptV]; omega
theorem ptL_at (ys : List Jb) {j : Nat} (h : j < ys.length * 3) : (ptL ys)[j]? = some (cellJ ys j) := by
  induction ys generalizing j with
  | nil => simp at h
  | cons y ys ih =>
    have e : ptL (y :: ys) = ptV y ++ ptL ys := rfl
    rw [e]
    by_cases h3 : j < 3
    · rw [List.getElem?_append_left (by simp [ptV]; omega)]
      have : j = 0 ∨ j = 1 ∨ j = 2 := by omega
      rcases this with rfl | rfl | rfl <;> rfl
    · rw [List.getElem?_append_right (by simp [ptV]; omega)]
      have hl : (ptV y).length = 3 := rfl
      simp only [List.length_cons] at h
      rw [hl, ih (by omega)]
      congr 1
      unfold cellJ
      rw [show (j - 3) % 3 = j % 3 by omega]
      have hq : jbAt ys ((j - 3) / 3) = jbAt (y :: ys) (j / 3) := by
        unfold jbAt
        rw [show j / 3 = (j - 3) / 3 + 1 by omega]
        rfl
      rw [hq]
theorem ptL_one (ys : List Jb) : ∀ u ∈ ptL ys, u.oneCell' = true := by
  intro u hu
  obtain ⟨y, _, hy⟩ := List.mem_flatMap.1 hu
  simp only [ptV, List.mem_cons, List.not_mem_nil, or_false] at hy
  rcases hy with rfl | rfl | rfl <;> rfl
theorem ptV_one (x : Jb) : ∀ u ∈ ptV x, u.oneCell' = true := by
  intro u hu
  simp only [ptV, List.mem_cons, List.not_mem_nil, or_false] at hu
  rcases hu with rfl | rfl | rfl <;> rfl
/-- One Item, read out of Jobs. -/
theorem pt_read {lo hi n k : Nat} {w : World} {a : Option Addr} {ys : List Jb} (h : Jobs lo hi w a n ys) (hk : k < n) : ∃ b off, a = some ⟨b, off, none⟩ ∧ lo ≤ b ∧ b < hi ∧ w.cell? ⟨b, off + k * 3, none⟩ = some (.int .i64 (jbAt ys k).1) ∧ w.cell? ⟨b, off + k * 3 + 1, none⟩ = some (.int .i64 (jbAt ys k).2.1) ∧ w.cell? ⟨b, off + k * 3 + 2, none⟩ = some (.string (jbAt ys k).2.2) := by
  obtain ⟨b, off, e, h1, h2, h3⟩ := h.2.2 (by omega)
  refine ⟨b, off, e, h1, h2, ?_, ?_, ?_⟩
  · rw [show off + k * 3 = off + 3 * k by omega, h3 _ (by omega), cellJ0]
  · rw [show off + k * 3 + 1 = off + (3 * k + 1) by omega, h3 _ (by omega), cellJ1]
  · rw [show off + k * 3 + 2 = off + (3 * k + 2) by omega, h3 _ (by omega), cellJ2]
theorem jbAt_drop (ps : List Jb) (k i : Nat) : jbAt (ps.drop k) i = jbAt ps (k + i) := by
  unfold jbAt
  rw [List.getD_eq_getElem?_getD, List.getD_eq_getElem?_getD, List.getElem?_drop]
theorem cellJ_drop (ps : List Jb) (k j : Nat) : cellJ (ps.drop k) j = cellJ ps (3 * k + j) := by
  unfold cellJ
  rw [jbAt_drop, show (3 * k + j) % 3 = j % 3 by omega, show (3 * k + j) / 3 = k + j / 3 by omega]
theorem jobs_drop {lo hi n k b off : Nat} {w : World} {ps : List Jb} (h : Jobs lo hi w (some ⟨b, off, none⟩) n ps) (hk : k ≤ n) : Jobs lo hi w (some ⟨b, off + k * 3, none⟩) (n - k) (ps.drop k) := by
  refine ⟨by rw [List.length_drop, h.1], h.2.1, fun h0 => ?_⟩
  obtain ⟨b', off', e, h1, h2, h3⟩ := h.2.2 (by omega)
  simp only [Option.some.injEq, Addr.mk.injEq, and_true] at e
  obtain ⟨rfl, rfl⟩ := e
  refine ⟨b, off + k * 3, rfl, h1, h2, fun i hi => ?_⟩
  rw [cellJ_drop, ← h3 (3 * k + i) (by omega)]
  congr 2
  omega
theorem own_drop {lo hi n k b off : Nat} {w : World} {ps : List Jb} (h : OwnJobs lo hi w (some ⟨b, off, none⟩) n ps) (hk : k ≤ n) : OwnJobs lo hi w (some ⟨b, off + k * 3, none⟩) (n - k) (ps.drop k) := by
  refine ⟨by rw [List.length_drop, h.1], h.2.1, fun h0 => ?_⟩
  obtain ⟨b', off', e, h1, h2, h3⟩ := h.2.2 (by omega)
  simp only [Option.some.injEq, Addr.mk.injEq, and_true] at e
  obtain ⟨rfl, rfl⟩ := e
  refine ⟨b, off + k * 3, rfl, h1, h2, fun i hi => ?_⟩
  have := h3 (3 * k + i) (by omega)
  rw [← cellJ_drop, show off + (3 * k + i) = off + k * 3 + i by omega] at this
  exact this
theorem jobs_one {lo : Nat} {w : World} {b : Nat} {kd sq : Int} {tx : ByteArray} {t : TypeId} {fr : Nat × Nat} (h : w.heap[b]? = some (.cells #[.int .i64 kd, .int .i64 sq, .string tx] t fr)) (hl : lo ≤ b) : Jobs lo w.heap.size w (some ⟨b, 0, none⟩) 1 [(kd, sq, tx)] := by
  refine ⟨rfl, Nat.le_refl _, fun _ => ⟨b, 0, rfl, hl, (Array.getElem?_eq_some_iff.1 h).1, fun i hi => ?_⟩⟩
  have : i = 0 ∨ i = 1 ∨ i = 2 := by omega
  rcases this with rfl | rfl | rfl <;> simp [World.cell?, h, cellJ, jbAt]
theorem jobs_wide {lo hi lo' n : Nat} {w : World} {a : Option Addr} {ps : List Jb} (h : Jobs lo hi w a n ps) (hl : lo' ≤ lo) : Jobs lo' w.heap.size w a n ps :=
  ⟨h.1, Nat.le_refl _, fun hn => by
    have hz := h.2.1
    obtain ⟨b, off, e, h1, h2, h3⟩ := h.2.2 hn
    exact ⟨b, off, e, by omega, by omega, h3⟩⟩
theorem oj_wide {lo hi lo' n : Nat} {w : World} {a : Option Addr} {ps : List Jb} (h : OwnJobs lo hi w a n ps) (hl : lo' ≤ lo) : OwnJobs lo' w.heap.size w a n ps :=
  ⟨h.1, Nat.le_refl _, fun hn => by
    have hz := h.2.1
    obtain ⟨b, off, e, h1, h2, h3⟩ := h.2.2 hn
    exact ⟨b, off, e, by omega, by omega, h3⟩⟩
theorem jl_own {lo hi n : Nat} {w : World} {a : Option Addr} {js : List Jb} (h : OwnJobs lo hi w a n js) : Jobs lo hi w a n js := ⟨h.1, h.2.reads⟩
theorem jl_later {lo hi n B : Nat} {w w' : World} {a : Option Addr} {js : List Jb} (h : Jobs lo hi w a n js) (hb : Below B w w') (hB : hi ≤ B) : Jobs lo hi w' a n js := ⟨h.1, h.2.later hb hB⟩
theorem oj_later {lo hi n B : Nat} {w w' : World} {a : Option Addr} {js : List Jb} (h : OwnJobs lo hi w a n js) (hb : Below B w w') (hB : hi ≤ B) : OwnJobs lo hi w' a n js := ⟨h.1, h.2.later hb hB⟩
theorem oj_aside {lo hi n l r : Nat} {w w' : World} {a : Option Addr} {js : List Jb} (h : OwnJobs lo hi w a n js) (hb : Aside l r w w') (hB : hi ≤ l ∨ r ≤ lo) : OwnJobs lo hi w' a n js := ⟨h.1, h.2.aside hb hB⟩
theorem oj_none {lo : Nat} {w : World} : OwnJobs lo w.heap.size w none 0 [] := ⟨rfl, Nat.le_refl _, fun h => absurd h (by decide)⟩
theorem oj_nil {lo : Nat} {w : World} {a : Option Addr} : OwnJobs lo w.heap.size w a 0 [] := ⟨rfl, Nat.le_refl _, fun h => absurd h (by decide)⟩
theorem step_app {P : Program} {ops : Array Oper} {o : Oper} {a : Act} {w : World} {K : Act → World → Prop} {Q : Exit → Act → World → Prop} {E : Prop}
    (hg : o.guard = none) (s x : Operand) (t : TypeId) (hop : o.op = Op.call { callee := Callee.builtin Builtin.append, args := #[s, x], argTypes := #[t, t] })
    (v1 v2 v' : Value) (w' : World) (hs : a.eval s = v1) (hx : a.eval x = v2) (hrun : (Builtin.append_ #[t, t] o.type #[v1, v2]).run P w = .ok v' w')
    (hK : K (a.put o.dst v') w') : if Region.wanted o (yielded ops a.tmps) = true then Oper.wp P o a w K Q else E := by
  have hw : Region.wanted o (yielded ops a.tmps) = true := by simp [Region.wanted, hg]
  rw [if_pos hw]
  unfold Oper.wp
  simp [execOp, hop, resolve, invoke, builtin, hs, hx, hrun, Result.andThen]
  exact hK
end Go.Proofs.YthldcfiemfccpaaDoor
end

section
namespace Go.Proofs.YthldcfiemfccpaaDoor
open Go.RowKit
set_option linter.unusedVariables false
set_option maxRecDepth 20000

def txOk (s : ByteArray) : Bool := decide (1 ≤ s.size) && decide (s.size ≤ 200)
def sqOk (z : Int) (q : Sq) : Bool := decide ((q.1.length : Int) ≤ z) && (inB q.2.1 0 1000000 && q.1.all txOk)
def chipOk (z : Int) (qs : List Sq) : Bool := inB z 1 8 && (decide (1 ≤ qs.length) && (decide (qs.length ≤ 12) && qs.all (sqOk z)))
theorem sq_all_step {z : Int} {qs : List Sq} {k : Nat} (h : k < qs.length) (h1 : (qs.take k).all (sqOk z) = true) (h2 : sqOk z (sqAt qs k) = true) : (qs.take (k + 1)).all (sqOk z) = true := by
  rw [List.take_succ_eq_append_getElem h, List.all_append, h1]
  unfold sqAt at h2
  rw [List.getD_eq_getElem?_getD, List.getElem?_eq_getElem h] at h2
  simpa using h2
theorem sq_all_fall {z : Int} {qs : List Sq} {k : Nat} (h : k < qs.length) (h2 : sqOk z (sqAt qs k) = false) : chipOk z qs = false := by
  have : qs.all (sqOk z) = false := by
    rw [List.all_eq_false]
    unfold sqAt at h2
    rw [List.getD_eq_getElem?_getD, List.getElem?_eq_getElem h] at h2
    exact ⟨qs[k], List.getElem_mem h, by simpa using h2⟩
  unfold chipOk
  rw [this]; simp
theorem tx_all_step {ts : List ByteArray} {k : Nat} (h : k < ts.length) (h1 : (ts.take k).all txOk = true) (h2 : txOk (ts.getD k ByteArray.empty) = true) : (ts.take (k + 1)).all txOk = true := by
  rw [List.take_succ_eq_append_getElem h, List.all_append, h1]
  rw [List.getD_eq_getElem?_getD, List.getElem?_eq_getElem h] at h2
  simpa using h2
theorem tx_all_fall {ts : List ByteArray} {k : Nat} (h : k < ts.length) (h2 : txOk (ts.getD k ByteArray.empty) = false) : ts.all txOk = false := by
  rw [List.all_eq_false]
  rw [List.getD_eq_getElem?_getD, List.getElem?_eq_getElem h] at h2
  exact ⟨ts[k], List.getElem_mem h, by simpa using h2⟩

end Go.Proofs.YthldcfiemfccpaaDoor
end

section
namespace Go.Proofs.YthldcfiemfccpaaDoor
open Go.RowKit
set_option linter.unusedVariables false
set_option linter.unusedSimpArgs false
set_option maxRecDepth 20000

theorem Tryd.infoU8s : (Tryd.prog.info? 5).map (fun i => (i.zero, i.size, i.bytes)) = some (some (.int .u8 0), 1, 1) := by kernel_rfl
/-- What a column's byte counts in a spare. -/
def factor (i j : Nat) : Nat := Field.inv (i ^^^ (16 + j))
theorem xor_small {i j : Nat} (hi : i < 16) (hj : j < 16) : i ^^^ (16 + j) < 256 ∧ i ^^^ (16 + j) ≠ 0 := by
  refine ⟨Field.xor_lt (by omega) (by omega), fun e => ?_⟩
  have := congrArg (· ^^^ (16 + j)) e
  simp [Nat.xor_assoc] at this
  omega
theorem factor_lt {i j : Nat} (hi : i < 16) (hj : j < 16) : factor i j < 256 := Field.inv_lt (xor_small hi hj).1
theorem invI_of {a : Nat} (ha : a < 256) (h0 : a ≠ 0) : invI (a : Int) = (Field.inv a : Int) := invI_nat ha h0

theorem index_atT {P : Program} (t : TypeId) (ht : P.underlying t = some .string) (s : ByteArray) (k : Nat) (h : k < s.size) (A : Nat) (hA : A = (s.data.toList.getD k 0).toNat) :
    ∀ w, (Instr.index t (.string s) (.int .i64 (k : Int))).run P w = .ok (.int .u8 (A : Int)) w := by
  intro w
  rw [byte_at s k h] at hA
  subst hA
  rw [run_index_string (P := P) w t s .i64 (k : Int) ht]
  simp [h]
/-- A byte as a number. -/
def byteN (s : ByteArray) (k : Nat) : Nat := (s.data.toList.getD k 0).toNat
theorem byteN_lt (s : ByteArray) (k : Nat) : byteN s k < 256 := UInt8.toNat_lt _
/-- What the first i columns give to spare j at place k. -/
def spareN (ts : List ByteArray) (j : Nat) : Nat → Nat → Nat
  | 0, _ => 0
  | i + 1, k => spareN ts j i k ^^^ Field.mul (factor i j) (byteN (ts.getD i ByteArray.empty) k)
theorem spareN_lt (ts : List ByteArray) {j : Nat} (hj : j < 16) : ∀ i k, i ≤ 16 → spareN ts j i k < 256
  | 0, _, _ => by simp [spareN]
  | i + 1, k, h => Field.xor_lt (spareN_lt ts hj i k (by omega)) (Field.mul_lt (factor_lt (by omega) hj))
def spareT (ts : List ByteArray) (j : Nat) : ByteArray := str ((List.range (ts.getD 0 ByteArray.empty).size).map fun k => UInt8.ofNat (spareN ts j ts.length k))
theorem u8_xor (a b : Nat) (ha : a < 256) (hb : b < 256) : bits .xor .u8 (a : Int) (b : Int) = ((a ^^^ b : Nat) : Int) := by
  have h := xor_byte (UInt8.ofNat a) (UInt8.ofNat b)
  rw [UInt8.toNat_ofNat', UInt8.toNat_ofNat', Nat.mod_eq_of_lt ha, Nat.mod_eq_of_lt hb] at h
  rw [h, UInt8.toNat_xor, UInt8.toNat_ofNat', UInt8.toNat_ofNat', Nat.mod_eq_of_lt ha, Nat.mod_eq_of_lt hb]
theorem columnsOk_iff {ts : List ByteArray} : columnsOk ts = true ↔ (1 ≤ ts.length ∧ ts.length ≤ 8) ∧ alikeB ts = true := by simp [columnsOk]

end Go.Proofs.YthldcfiemfccpaaDoor
end

