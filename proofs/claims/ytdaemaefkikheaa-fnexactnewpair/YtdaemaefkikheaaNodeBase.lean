/- A Node, plainly, and two Nodes in memory: eleven cells each. -/
import Derived.Test.YtdaemaefkikheaaMarkKit
import Derived.Test.YtdaemaefkikheaaLogPut
import Derived.Test.YtdaemaefkikheaaTextWalk
import Derived.Deep.Cut
namespace Go.Proofs.Ytdaemaefkikheaa
open Go.RowKit
set_option linter.unusedVariables false
set_option linter.unusedSimpArgs false
set_option maxRecDepth 20000

/-- A Node: Epoch, Leads, Ready, Both, Fresh, Waits, Seq, Values, Put. -/
structure Nd where
  e : Int
  l : Bool
  r : Bool
  b : Bool
  f : Bool
  w : Bool
  s : Int
  vs : List ByteArray
  p : Jb
def ndJ (x : Nd) (v : Value) : Nat → Value
  | 0 => .int .i64 x.e
  | 1 => .bool x.l
  | 2 => .bool x.r
  | 3 => .bool x.b
  | 4 => .bool x.f
  | 5 => .bool x.w
  | 6 => .int .i64 x.s
  | 7 => v
  | 8 => .int .i64 x.p.1
  | 9 => .int .i64 x.p.2.1
  | _ => .string x.p.2.2
abbrev ndV (x : Nd) (v : Value) : Value := .agg #[.int .i64 x.e, .bool x.l, .bool x.r, .bool x.b, .bool x.f, .bool x.w, .int .i64 x.s, v, .int .i64 x.p.1, .int .i64 x.p.2.1, .string x.p.2.2]
def ndC (xs : Nat → Nd) (vs : Nat → Value) (i : Nat) : Value := ndJ (xs (i / 11)) (vs (i / 11)) (i % 11)
theorem ndC_at (xs : Nat → Nd) (vs : Nat → Value) (k j : Nat) (h : j < 11) : ndC xs vs (k * 11 + j) = ndJ (xs k) (vs k) j := by
  unfold ndC
  rw [show (k * 11 + j) / 11 = k by omega, show (k * 11 + j) % 11 = j by omega]
theorem nd_cells {W : World} {b : Nat} {c0 c1 c2 c3 c4 c5 c6 c7 c8 c9 c10 : Value} {t : TypeId} {fr : Nat × Nat} (h : W.heap[b]? = some (.cells #[c0, c1, c2, c3, c4, c5, c6, c7, c8, c9, c10] t fr)) :
    W.cell? ⟨b, 0, none⟩ = some c0 ∧ W.cell? ⟨b, 1, none⟩ = some c1 ∧ W.cell? ⟨b, 2, none⟩ = some c2 ∧ W.cell? ⟨b, 3, none⟩ = some c3 ∧ W.cell? ⟨b, 4, none⟩ = some c4 ∧ W.cell? ⟨b, 5, none⟩ = some c5 ∧ W.cell? ⟨b, 6, none⟩ = some c6 ∧ W.cell? ⟨b, 7, none⟩ = some c7 ∧ W.cell? ⟨b, 8, none⟩ = some c8 ∧ W.cell? ⟨b, 9, none⟩ = some c9 ∧ W.cell? ⟨b, 10, none⟩ = some c10 := by
  simp [World.cell?, h]
/-- One Node's cells out of a row. -/
theorem nd_row {xs : Nat → Nd} {vs : Nat → Value} {w : World} {b off n k : Nat} (hc : ∀ i, i < n * 11 → w.cell? ⟨b, off + i, none⟩ = some (ndC xs vs i)) (hk : k < n) :
    w.cell? ⟨b, off + k * 11, none⟩ = some (.int .i64 (xs k).e) ∧ w.cell? ⟨b, off + k * 11 + 1, none⟩ = some (.bool (xs k).l) ∧ w.cell? ⟨b, off + k * 11 + 2, none⟩ = some (.bool (xs k).r) ∧ w.cell? ⟨b, off + k * 11 + 3, none⟩ = some (.bool (xs k).b) ∧ w.cell? ⟨b, off + k * 11 + 4, none⟩ = some (.bool (xs k).f) ∧ w.cell? ⟨b, off + k * 11 + 5, none⟩ = some (.bool (xs k).w) ∧ w.cell? ⟨b, off + k * 11 + 6, none⟩ = some (.int .i64 (xs k).s) ∧ w.cell? ⟨b, off + k * 11 + 7, none⟩ = some (vs k) ∧ w.cell? ⟨b, off + k * 11 + 8, none⟩ = some (.int .i64 (xs k).p.1) ∧ w.cell? ⟨b, off + k * 11 + 9, none⟩ = some (.int .i64 (xs k).p.2.1) ∧ w.cell? ⟨b, off + k * 11 + 10, none⟩ = some (.string (xs k).p.2.2) := by
  have g : ∀ j, j < 11 → w.cell? ⟨b, off + k * 11 + j, none⟩ = some (ndJ (xs k) (vs k) j) := fun j hj => by
    rw [Nat.add_assoc, hc (k * 11 + j) (by omega), ndC_at xs vs k j hj]
  exact ⟨g 0 (by omega), g 1 (by omega), g 2 (by omega), g 3 (by omega), g 4 (by omega), g 5 (by omega), g 6 (by omega), g 7 (by omega), g 8 (by omega), g 9 (by omega), g 10 (by omega)⟩

set_option maxHeartbeats 1600000 in
theorem eqNode_same (e : Int) (l r b f v : Bool) (s : Int) (ts : List ByteArray) (k q : Int) (x : ByteArray) (a : Option Addr) (n c : Nat) (a' : Option Addr) (n' c' : Nat) (w : World) {lo hi lo' hi' : Nat} (h : Texts lo hi w a n ts) (h' : Texts lo' hi' w a' n' ts) (hn : n ≤ 1048576) (hn' : n' ≤ 1048576) :
    Calls Try.prog 71 #[.agg #[.int .i64 e, .bool l, .bool r, .bool b, .bool f, .bool v, .int .i64 s, .slice a n c, .int .i64 k, .int .i64 q, .string x], .agg #[.int .i64 e, .bool l, .bool r, .bool b, .bool f, .bool v, .int .i64 s, .slice a' n' c', .int .i64 k, .int .i64 q, .string x]] w fun o w' => o = .returned (.bool true) ∧ Below w.heap.size w w' := by
  obtain ⟨w1, hw1⟩ : ∃ w1, w1 = (w.alloc (.cells #[.int .i64 e, .bool l, .bool r, .bool b, .bool f, .bool v, .int .i64 s, .slice a n c, .int .i64 k, .int .i64 q, .string x] 53)).alloc (.cells #[.int .i64 e, .bool l, .bool r, .bool b, .bool f, .bool v, .int .i64 s, .slice a' n' c', .int .i64 k, .int .i64 q, .string x] 53) := ⟨_, rfl⟩
  have HB1 : Hid (Below w.heap.size w w1) := by rw [hw1]; exact ((Below.refl _ _).alloc (Nat.le_refl _) _).alloc (by simp) _
  have HA1 : Hid (w1.heap[w.heap.size]? = some (.cells #[.int .i64 e, .bool l, .bool r, .bool b, .bool f, .bool v, .int .i64 s, .slice a n c, .int .i64 k, .int .i64 q, .string x] 53)) := by rw [hw1]; exact heap_old (heap_new _ _)
  have HR1 : Hid (w1.heap[w.heap.size + 1]? = some (.cells #[.int .i64 e, .bool l, .bool r, .bool b, .bool f, .bool v, .int .i64 s, .slice a' n' c', .int .i64 k, .int .i64 q, .string x] 53)) := by rw [hw1]; exact heap_at (by simp)
  have HS := hide (h.later HB1.out h.2.1)
  have HS' := hide (h'.later HB1.out h'.2.1)
  clear h h'
  obtain ⟨a0, a1, a2, a3, a4, a5, a6, a7, a8, a9, a10⟩ := nd_cells HA1.out
  obtain ⟨b0, b1, b2, b3, b4, b5, b6, b7, b8, b9, b10⟩ := nd_cells HR1.out
  have e1 : (e != e) = false := by simp
  have e2 : (l != l) = false := by simp
  have e3 : (r != r) = false := by simp
  have e4 : (b != b) = false := by simp
  have e5 : (f != f) = false := by simp
  have e6 : (v != v) = false := by simp
  have e7 : (s != s) = false := by simp
  go_enter Try.func71, Try.ntmps71
  go_upto_region 1 with fail
  rw [← hw1]
  clear hw1
  go_wp2_with fail
  refine (eqT_any _ _ _ _ _ _ _ _ _ HS.out HS'.out hn hn').mono ?_
  rintro o w2 ⟨rfl, hb⟩
  have hA2 := block_on HA1.out hb
  have hR2 := block_on HR1.out hb
  have HB2 := hide (below_here HB1.out hb)
  clear a0 a1 a2 a3 a4 a5 a6 a7 a8 a9 a10 b0 b1 b2 b3 b4 b5 b6 b7 b8 b9 b10 hb HB1 HA1 HR1
  obtain ⟨-, -, -, -, -, -, -, -, a8, a9, a10⟩ := nd_cells hA2
  obtain ⟨-, -, -, -, -, -, -, -, b8, b9, b10⟩ := nd_cells hR2
  simp only [decide_true]
  clear hA2 hR2
  go_wp2_with fail
  refine (eqPut_same k q x w2).mono ?_
  rintro o w3 ⟨rfl, hb⟩
  have HB3 := hide (below_here HB2.out hb)
  clear a8 a9 a10 b8 b9 b10 hb HB2
  go_wp2_with fail
  go_ret
  exact ⟨rfl, HB3.out⟩
end Go.Proofs.Ytdaemaefkikheaa
