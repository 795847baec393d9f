/- The walks of chapter 4's model: Spread, Odd, Healed. -/
import Derived.Test.YtbgjagmnpfcfaakDoorHamSpec
namespace Go.Proofs.YtbgjagmnpfcfaakDoor
open Go.RowKit
set_option linter.unusedVariables false
set_option maxRecDepth 20000

def spreadI (b : Int) : Int := if elem b = true then (Ham.spread b.toNat : Int) else -1
theorem spreadI_nat {b : Nat} (h : b < 256) : spreadI (b : Int) = (Ham.spread b : Int) := by simp [spreadI, nat_elem h]
theorem spreadI_no {b : Int} (h : elem b = false) : spreadI b = -1 := by simp [spreadI, h]
def word (x : Int) : Bool := inB x 0 8191
theorem word_nat {x : Int} (h : word x = true) : ∃ n : Nat, x = (n : Int) ∧ n < 8192 := by
  simp [word, inB] at h
  exact ⟨x.toNat, by omega, by omega⟩
theorem nat_word {n : Nat} (h : n < 8192) : word (n : Int) = true := by simp [word, inB]; omega
def oddI (x : Int) : Int := if word x = true then (Ham.odd x.toNat : Int) else -1
theorem oddI_nat {n : Nat} (h : n < 8192) : oddI (n : Int) = (Ham.odd n : Int) := by simp [oddI, nat_word h]
theorem oddI_no {x : Int} (h : word x = false) : oddI x = -1 := by simp [oddI, h]
def healedI (x : Int) : Int × Int := if word x = true then Ham.healed x.toNat else (-1, 2)
theorem healedI_nat {n : Nat} (h : n < 8192) : healedI (n : Int) = Ham.healed n := by simp [healedI, nat_word h]
theorem healedI_no {x : Int} (h : word x = false) : healedI x = (-1, 2) := by simp [healedI, h]
/-- A pair of numbers, as a call answers it. -/
def pairV (p : Int × Int) : Value := .tuple #[.int .i64 p.1, .int .i64 p.2]


theorem or_shl8 (n d q : Nat) (hn : n < 256) (hd : d < 2) (hq : q < 8) : bits .or .i64 (n : Int) (wrap64 ((d : Int) * 2 ^ q)) = ((n ||| d * 2 ^ q : Nat) : Int) := or_shl n d q (by omega) hd (by omega)
theorem xor_shl (x o : Nat) (hx : x < 8192) (ho : o < 13) : bits .xor .i64 (x : Int) (wrap64 (2 ^ o)) = ((x ^^^ 2 ^ o : Nat) : Int) := by
  have h := Ham.two_lt ho
  have hp : wrap64 ((2 : Int) ^ o) = ((2 ^ o : Nat) : Int) := by
    have := shl_bit 1 o (by omega) ho
    simpa using this
  rw [hp, i64_xor_nat _ _ (by omega) (by omega)]

end Go.Proofs.YtbgjagmnpfcfaakDoor
