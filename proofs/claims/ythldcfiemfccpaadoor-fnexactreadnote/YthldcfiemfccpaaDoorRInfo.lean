/- Several texts in one: Info, WalkIn, SumSpec, FieldSpec, HamSpec, HamSpec2, OctBase. -/
import Derived.Test.YthldcfiemfccpaaDoorRows
import Derived.Test.YthldcfiemfccpaaDoorRBase
import Derived.Deep.QuietTactic
import Derived.BigQuiet
import Derived.OwnWalk
import Derived.Laws.BitsAllLaws
section
namespace Go.Proofs.YthldcfiemfccpaaDoor
open Go.RowKit

theorem Tryd.infoI64 : (Tryd.prog.info? 2).map (fun i => (i.zero, i.size, i.bytes)) = some (some (.int .i64 0), 1, 8) := by kernel_rfl
end Go.Proofs.YthldcfiemfccpaaDoor
end

section
namespace Go.Proofs.YthldcfiemfccpaaDoor
open Go.RowKit
set_option linter.unusedVariables false
set_option maxRecDepth 20000

set_option maxHeartbeats 400000 in
theorem l1In_any (x lo hi : Int) (w : World) :
    Calls Tryd.prog 28 #[.int .i64 x, .int .i64 lo, .int .i64 hi] w fun e w' => e = .returned (.bool (inB x lo hi)) ∧ w = w' := by
  by_cases h1 : lo ≤ x
  · go_enter Tryd.func28, Tryd.ntmps28
    go_wp2
    go_ret
    exact ⟨by simp [inB, h1], rfl⟩
  · have h1' : decide (lo ≤ x) = false := by simpa using h1
    go_enter Tryd.func28, Tryd.ntmps28
    go_wp2
    go_ret
    exact ⟨by simp [inB, h1'], rfl⟩
end Go.Proofs.YthldcfiemfccpaaDoor
end

section
namespace Go.Proofs.YthldcfiemfccpaaDoor
open Go.RowKit
set_option linter.unusedVariables false
set_option maxRecDepth 20000

def elem (x : Int) : Bool := inB x 0 255
theorem elem_nat {x : Int} (h : elem x = true) : ∃ a : Nat, x = (a : Int) ∧ a < 256 := by
  simp [elem, inB] at h
  exact ⟨x.toNat, by omega, by omega⟩
theorem nat_elem {a : Nat} (h : a < 256) : elem (a : Int) = true := by simp [elem, inB]; omega
theorem elem_out {x : Int} (h : elem x = false) : x < 0 ∨ 255 < x := by simp [elem, inB] at h; omega
def sumI (x y : Int) : Int := if elem x = true ∧ elem y = true then ((x.toNat ^^^ y.toNat : Nat) : Int) else -1
theorem sumI_nat {a b : Nat} (ha : a < 256) (hb : b < 256) : sumI a b = ((a ^^^ b : Nat) : Int) := by simp [sumI, nat_elem ha, nat_elem hb]
theorem sumI_no {x y : Int} (h : elem x = false ∨ elem y = false) : sumI x y = -1 := by rcases h with h | h <;> simp [sumI, h]

end Go.Proofs.YthldcfiemfccpaaDoor
end

section
namespace Go.Proofs.YthldcfiemfccpaaDoor
open Go.RowKit
set_option linter.unusedVariables false
set_option maxRecDepth 20000

theorem i64_xor_301 (a : Nat) (ha : a < 4294967296) : bits .xor .i64 (a : Int) 301 = ((a ^^^ 301 : Nat) : Int) := i64_xor_nat a 301 ha (by omega)

def mulI (x y : Int) : Int := if elem x = true ∧ elem y = true then (Field.mul x.toNat y.toNat : Int) else -1
def powI (x n : Int) : Int := if elem x = true ∧ 0 ≤ n then (Field.pow x.toNat n.toNat : Int) else -1
def invI (x : Int) : Int := if elem x = true ∧ x ≠ 0 then (Field.inv x.toNat : Int) else -1
def overI (x y : Int) : Int := if elem x = true ∧ elem y = true ∧ y ≠ 0 then (Field.mul x.toNat (Field.inv y.toNat) : Int) else -1
theorem mulI_nat {a b : Nat} (ha : a < 256) (hb : b < 256) : mulI a b = (Field.mul a b : Int) := by simp [mulI, nat_elem ha, nat_elem hb]
theorem powI_nat {a n : Nat} (ha : a < 256) : powI a n = (Field.pow a n : Int) := by simp [powI, nat_elem ha]
theorem invI_nat {a : Nat} (ha : a < 256) (h0 : a ≠ 0) : invI a = (Field.inv a : Int) := by simp [invI, nat_elem ha, h0]
theorem overI_nat {a b : Nat} (ha : a < 256) (hb : b < 256) (h0 : b ≠ 0) : overI a b = (Field.mul a (Field.inv b) : Int) := by simp [overI, nat_elem ha, nat_elem hb, h0]
theorem mulI_no {x y : Int} (h : elem x = false ∨ elem y = false) : mulI x y = -1 := by rcases h with h | h <;> simp [mulI, h]

end Go.Proofs.YthldcfiemfccpaaDoor
end

section
namespace Go.Proofs.YthldcfiemfccpaaDoor
open Go.RowKit
set_option linter.unusedVariables false
set_option maxRecDepth 20000

theorem i64_or_nat (a b : Nat) (ha : a < 4294967296) (hb : b < 4294967296) : bits .or .i64 (a : Int) (b : Int) = ((a ||| b : Nat) : Int) := by
  have hx : a ||| b < 2 ^ 32 := Nat.or_lt_two_pow (by omega) (by omega)
  show IntKind.i64.wrap ((BitVec.ofInt 64 (a : Int) ||| BitVec.ofInt 64 (b : Int)).toNat : Int) = _
  rw [BitVec.toNat_or, ofInt_u64 a (by omega), ofInt_u64 b (by omega)]
  simp [IntKind.wrap, IntKind.bits, IntKind.signed]
  omega
theorem shr_bitN (x i : Nat) : ((x : Int) / 2 ^ i).tmod 2 = (Ham.bitN x i : Int) := by
  have hp : ((x : Int) / 2 ^ i) = ((x / 2 ^ i : Nat) : Int) := by simp
  rw [hp]
  unfold Ham.bitN
  generalize x / 2 ^ i = q
  rw [Int.tmod_eq_emod_of_nonneg (by omega)]
  omega

theorem shl_bit (d q : Nat) (hd : d < 2) (hq : q < 13) : wrap64 ((d : Int) * 2 ^ q) = ((d * 2 ^ q : Nat) : Int) := by
  have h := Ham.bit_pow_lt hd hq
  have hp : ((d : Int) * 2 ^ q) = ((d * 2 ^ q : Nat) : Int) := by simp
  rw [hp]
  generalize d * 2 ^ q = r at *
  unfold wrap64
  omega
theorem or_shl (n d q : Nat) (hn : n < 8192) (hd : d < 2) (hq : q < 13) : bits .or .i64 (n : Int) (wrap64 ((d : Int) * 2 ^ q)) = ((n ||| d * 2 ^ q : Nat) : Int) := by
  have h := Ham.bit_pow_lt hd hq
  rw [shl_bit d q hd hq, i64_or_nat _ _ (by omega) (Nat.lt_trans h (by omega))]

end Go.Proofs.YthldcfiemfccpaaDoor
end

section
namespace Go.Proofs.YthldcfiemfccpaaDoor
open Go.RowKit
set_option linter.unusedVariables false
set_option maxRecDepth 20000

def spreadI (b : Int) : Int := if elem b = true then (Ham.spread b.toNat : Int) else -1
theorem spreadI_nat {b : Nat} (h : b < 256) : spreadI (b : Int) = (Ham.spread b : Int) := by simp [spreadI, nat_elem h]
theorem spreadI_no {b : Int} (h : elem b = false) : spreadI b = -1 := by simp [spreadI, h]
def word (x : Int) : Bool := inB x 0 8191
theorem word_nat {x : Int} (h : word x = true) : ∃ n : Nat, x = (n : Int) ∧ n < 8192 := by
  simp [word, inB] at h
  exact ⟨x.toNat, by omega, by omega⟩
theorem nat_word {n : Nat} (h : n < 8192) : word (n : Int) = true := by simp [word, inB]; omega
def oddI (x : Int) : Int := if word x = true then (Ham.odd x.toNat : Int) else -1
theorem oddI_nat {n : Nat} (h : n < 8192) : oddI (n : Int) = (Ham.odd n : Int) := by simp [oddI, nat_word h]
theorem oddI_no {x : Int} (h : word x = false) : oddI x = -1 := by simp [oddI, h]
def healedI (x : Int) : Int × Int := if word x = true then Ham.healed x.toNat else (-1, 2)
theorem healedI_nat {n : Nat} (h : n < 8192) : healedI (n : Int) = Ham.healed n := by simp [healedI, nat_word h]
theorem healedI_no {x : Int} (h : word x = false) : healedI x = (-1, 2) := by simp [healedI, h]
/-- A pair of numbers, as a call answers it. -/
def pairV (p : Int × Int) : Value := .tuple #[.int .i64 p.1, .int .i64 p.2]


theorem or_shl8 (n d q : Nat) (hn : n < 256) (hd : d < 2) (hq : q < 8) : bits .or .i64 (n : Int) (wrap64 ((d : Int) * 2 ^ q)) = ((n ||| d * 2 ^ q : Nat) : Int) := or_shl n d q (by omega) hd (by omega)
theorem xor_shl (x o : Nat) (hx : x < 8192) (ho : o < 13) : bits .xor .i64 (x : Int) (wrap64 (2 ^ o)) = ((x ^^^ 2 ^ o : Nat) : Int) := by
  have h := Ham.two_lt ho
  have hp : wrap64 ((2 : Int) ^ o) = ((2 ^ o : Nat) : Int) := by
    have := shl_bit 1 o (by omega) ho
    simpa using this
  rw [hp, i64_xor_nat _ _ (by omega) (by omega)]

end Go.Proofs.YthldcfiemfccpaaDoor
end

section
namespace Go.Proofs.YthldcfiemfccpaaDoor
open Go.RowKit
set_option linter.unusedVariables false
set_option maxRecDepth 20000

def oct (x0 x1 x2 x3 x4 x5 x6 x7 : Int) : Value := .agg #[.int .i64 x0, .int .i64 x1, .int .i64 x2, .int .i64 x3, .int .i64 x4, .int .i64 x5, .int .i64 x6, .int .i64 x7]
theorem row_of_oct (w : World) (t : Nat) (x0 x1 x2 x3 x4 x5 x6 x7 : Int) : (w.alloc (.cells #[.int .i64 x0, .int .i64 x1, .int .i64 x2, .int .i64 x3, .int .i64 x4, .int .i64 x5, .int .i64 x6, .int .i64 x7] t)).rowIs w.heap.size t 8 (cellI [x0, x1, x2, x3, x4, x5, x6, x7]) :=
  World.rowIs_alloc w _ t _ (fun i hi => by
    match i, hi with
    | 0, _ | 1, _ | 2, _ | 3, _ | 4, _ | 5, _ | 6, _ | 7, _ => rfl)

theorem row_of_block {w w' : World} {b t n : Nat} {f : Nat → Value} (h : w.rowIs b t n f) {B : Nat} (hb : Below B w w') (hB : b < B) : w'.rowIs b t n f := h.of_block (hb.block b hB)
theorem row_asideO {w w' : World} {b t n : Nat} {f : Nat → Value} (h : w.rowIs b t n f) {l r : Nat} (hb : Aside l r w w') (hB : b < l ∨ r ≤ b) : w'.rowIs b t n f := h.of_block (hb.block b h.lt hB)
theorem row_zero8 (w : World) (t : Nat) : (w.alloc (.cells #[.int .i64 0, .int .i64 0, .int .i64 0, .int .i64 0, .int .i64 0, .int .i64 0, .int .i64 0, .int .i64 0] t)).rowIs w.heap.size t 8 (cellI []) :=
  World.rowIs_alloc w _ t _ (fun i hi => by
    match i, hi with
    | 0, _ | 1, _ | 2, _ | 3, _ | 4, _ | 5, _ | 6, _ | 7, _ => rfl)

theorem oct_index (x0 x1 x2 x3 x4 x5 x6 x7 : Int) : ∀ k, k < 8 → ∀ w, (Instr.index 95 (.agg #[.int .i64 x0, .int .i64 x1, .int .i64 x2, .int .i64 x3, .int .i64 x4, .int .i64 x5, .int .i64 x6, .int .i64 x7]) (.int .i64 (k : Nat))).run Tryd.prog w = .ok (.int .i64 ([x0, x1, x2, x3, x4, x5, x6, x7].getD k 0)) w := by
  have e0 : ∀ w, (Instr.index 95 (.agg #[.int .i64 x0, .int .i64 x1, .int .i64 x2, .int .i64 x3, .int .i64 x4, .int .i64 x5, .int .i64 x6, .int .i64 x7]) (.int .i64 0)).run Tryd.prog w = .ok (.int .i64 x0) w := fun _ => by kernel_rfl
  have e1 : ∀ w, (Instr.index 95 (.agg #[.int .i64 x0, .int .i64 x1, .int .i64 x2, .int .i64 x3, .int .i64 x4, .int .i64 x5, .int .i64 x6, .int .i64 x7]) (.int .i64 1)).run Tryd.prog w = .ok (.int .i64 x1) w := fun _ => by kernel_rfl
  have e2 : ∀ w, (Instr.index 95 (.agg #[.int .i64 x0, .int .i64 x1, .int .i64 x2, .int .i64 x3, .int .i64 x4, .int .i64 x5, .int .i64 x6, .int .i64 x7]) (.int .i64 2)).run Tryd.prog w = .ok (.int .i64 x2) w := fun _ => by kernel_rfl
  have e3 : ∀ w, (Instr.index 95 (.agg #[.int .i64 x0, .int .i64 x1, .int .i64 x2, .int .i64 x3, .int .i64 x4, .int .i64 x5, .int .i64 x6, .int .i64 x7]) (.int .i64 3)).run Tryd.prog w = .ok (.int .i64 x3) w := fun _ => by kernel_rfl
  have e4 : ∀ w, (Instr.index 95 (.agg #[.int .i64 x0, .int .i64 x1, .int .i64 x2, .int .i64 x3, .int .i64 x4, .int .i64 x5, .int .i64 x6, .int .i64 x7]) (.int .i64 4)).run Tryd.prog w = .ok (.int .i64 x4) w := fun _ => by kernel_rfl
  have e5 : ∀ w, (Instr.index 95 (.agg #[.int .i64 x0, .int .i64 x1, .int .i64 x2, .int .i64 x3, .int .i64 x4, .int .i64 x5, .int .i64 x6, .int .i64 x7]) (.int .i64 5)).run Tryd.prog w = .ok (.int .i64 x5) w := fun _ => by kernel_rfl
  have e6 : ∀ w, (Instr.index 95 (.agg #[.int .i64 x0, .int .i64 x1, .int .i64 x2, .int .i64 x3, .int .i64 x4, .int .i64 x5, .int .i64 x6, .int .i64 x7]) (.int .i64 6)).run Tryd.prog w = .ok (.int .i64 x6) w := fun _ => by kernel_rfl
  have e7 : ∀ w, (Instr.index 95 (.agg #[.int .i64 x0, .int .i64 x1, .int .i64 x2, .int .i64 x3, .int .i64 x4, .int .i64 x5, .int .i64 x6, .int .i64 x7]) (.int .i64 7)).run Tryd.prog w = .ok (.int .i64 x7) w := fun _ => by kernel_rfl
  intro k hk w
  match k, hk with
  | 0, _ => exact e0 w
  | 1, _ => exact e1 w
  | 2, _ => exact e2 w
  | 3, _ => exact e3 w
  | 4, _ => exact e4 w
  | 5, _ => exact e5 w
  | 6, _ => exact e6 w
  | 7, _ => exact e7 w
end Go.Proofs.YthldcfiemfccpaaDoor
end

