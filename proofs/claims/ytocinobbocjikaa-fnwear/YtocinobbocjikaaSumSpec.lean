/- The walk of the model's Sum of chapter 2. -/
import Derived.Test.YtocinobbocjikaaJInfo
import Derived.Test.YtocinobbocjikaaXor64
namespace Go.Proofs.Ytocinobbocjikaa
open Go.RowKit
set_option linter.unusedVariables false
set_option maxRecDepth 20000

def elem (x : Int) : Bool := inB x 0 255
theorem elem_nat {x : Int} (h : elem x = true) : ∃ a : Nat, x = (a : Int) ∧ a < 256 := by
  simp [elem, inB] at h
  exact ⟨x.toNat, by omega, by omega⟩
theorem nat_elem {a : Nat} (h : a < 256) : elem (a : Int) = true := by simp [elem, inB]; omega
theorem elem_out {x : Int} (h : elem x = false) : x < 0 ∨ 255 < x := by simp [elem, inB] at h; omega
def sumI (x y : Int) : Int := if elem x = true ∧ elem y = true then ((x.toNat ^^^ y.toNat : Nat) : Int) else -1
theorem sumI_nat {a b : Nat} (ha : a < 256) (hb : b < 256) : sumI a b = ((a ^^^ b : Nat) : Int) := by simp [sumI, nat_elem ha, nat_elem hb]
theorem sumI_no {x y : Int} (h : elem x = false ∨ elem y = false) : sumI x y = -1 := by rcases h with h | h <;> simp [sumI, h]

end Go.Proofs.Ytocinobbocjikaa
