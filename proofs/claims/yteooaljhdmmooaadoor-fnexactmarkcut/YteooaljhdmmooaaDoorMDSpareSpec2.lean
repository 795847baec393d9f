/- The walks of chapter 6's model: a spare, Spares. -/
import Derived.Test.YteooaljhdmmooaaDoorMDTextWalk
import Derived.Test.YteooaljhdmmooaaDoorMDInfo
import Derived.Test.YteooaljhdmmooaaDoorMDCopyBase
namespace Go.Proofs.YteooaljhdmmooaaDoor
open Go.RowKit
set_option linter.unusedVariables false
set_option linter.unusedSimpArgs false
set_option maxRecDepth 20000

theorem Tryd.infoU8s : (Tryd.prog.info? 5).map (fun i => (i.zero, i.size, i.bytes)) = some (some (.int .u8 0), 1, 1) := by kernel_rfl
/-- What a column's byte counts in a spare. -/
def factor (i j : Nat) : Nat := Field.inv (i ^^^ (16 + j))
theorem xor_small {i j : Nat} (hi : i < 16) (hj : j < 16) : i ^^^ (16 + j) < 256 ∧ i ^^^ (16 + j) ≠ 0 := by
  refine ⟨Field.xor_lt (by omega) (by omega), fun e => ?_⟩
  have := congrArg (· ^^^ (16 + j)) e
  simp [Nat.xor_assoc] at this
  omega
theorem factor_lt {i j : Nat} (hi : i < 16) (hj : j < 16) : factor i j < 256 := Field.inv_lt (xor_small hi hj).1
theorem invI_of {a : Nat} (ha : a < 256) (h0 : a ≠ 0) : invI (a : Int) = (Field.inv a : Int) := invI_nat ha h0

theorem index_atT {P : Program} (t : TypeId) (ht : P.underlying t = some .string) (s : ByteArray) (k : Nat) (h : k < s.size) (A : Nat) (hA : A = (s.data.toList.getD k 0).toNat) :
    ∀ w, (Instr.index t (.string s) (.int .i64 (k : Int))).run P w = .ok (.int .u8 (A : Int)) w := by
  intro w
  rw [byte_at s k h] at hA
  subst hA
  rw [run_index_string (P := P) w t s .i64 (k : Int) ht]
  simp [h]
/-- A byte as a number. -/
def byteN (s : ByteArray) (k : Nat) : Nat := (s.data.toList.getD k 0).toNat
theorem byteN_lt (s : ByteArray) (k : Nat) : byteN s k < 256 := UInt8.toNat_lt _
/-- What the first i columns give to spare j at place k. -/
def spareN (ts : List ByteArray) (j : Nat) : Nat → Nat → Nat
  | 0, _ => 0
  | i + 1, k => spareN ts j i k ^^^ Field.mul (factor i j) (byteN (ts.getD i ByteArray.empty) k)
theorem spareN_lt (ts : List ByteArray) {j : Nat} (hj : j < 16) : ∀ i k, i ≤ 16 → spareN ts j i k < 256
  | 0, _, _ => by simp [spareN]
  | i + 1, k, h => Field.xor_lt (spareN_lt ts hj i k (by omega)) (Field.mul_lt (factor_lt (by omega) hj))
def spareT (ts : List ByteArray) (j : Nat) : ByteArray := str ((List.range (ts.getD 0 ByteArray.empty).size).map fun k => UInt8.ofNat (spareN ts j ts.length k))
theorem u8_xor (a b : Nat) (ha : a < 256) (hb : b < 256) : bits .xor .u8 (a : Int) (b : Int) = ((a ^^^ b : Nat) : Int) := by
  have h := xor_byte (UInt8.ofNat a) (UInt8.ofNat b)
  rw [UInt8.toNat_ofNat', UInt8.toNat_ofNat', Nat.mod_eq_of_lt ha, Nat.mod_eq_of_lt hb] at h
  rw [h, UInt8.toNat_xor, UInt8.toNat_ofNat', UInt8.toNat_ofNat', Nat.mod_eq_of_lt ha, Nat.mod_eq_of_lt hb]
theorem columnsOk_iff {ts : List ByteArray} : columnsOk ts = true ↔ (1 ≤ ts.length ∧ ts.length ≤ 8) ∧ alikeB ts = true := by simp [columnsOk]

end Go.Proofs.YteooaljhdmmooaaDoor
