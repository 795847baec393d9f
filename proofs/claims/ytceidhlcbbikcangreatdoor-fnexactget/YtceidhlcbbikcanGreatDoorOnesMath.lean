/- bits.OnesCount64 of a word of thirteen bits, plainly. -/
import Derived.Test.YtceidhlcbbikcanGreatDoorJBase
import Derived.OwnWalk
namespace Go.Proofs.YtceidhlcbbikcanGreatDoor
open Go.RowKit
set_option linter.unusedVariables false
set_option maxRecDepth 20000

namespace Ones
def o1 (x : Int) : Int := IntKind.u64.wrap (bits .and .u64 (x / 2) 6148914691236517205 + bits .and .u64 x 6148914691236517205)
def o2 (x : Int) : Int := IntKind.u64.wrap (bits .and .u64 (x / 4) 3689348814741910323 + bits .and .u64 x 3689348814741910323)
def o3 (x : Int) : Int := bits .and .u64 (IntKind.u64.wrap (x / 16 + x)) 1085102592571150095
def o4 (x : Int) : Int := IntKind.u64.wrap (x + x / 256)
def o5 (x : Int) : Int := IntKind.u64.wrap (x + x / 65536)
def o6 (x : Int) : Int := IntKind.u64.wrap (x + x / 4294967296)
def o7 (x : Int) : Int := bits .and .i64 (wrap64 x) 127
def ones (x : Int) : Int := o7 (o6 (o5 (o4 (o3 (o2 (o1 x))))))
/-- A look at 2^d numbers, those from a * 2^d on. -/
def chk (p : Nat → Bool) : Nat → Nat → Bool
  | 0, a => p a
  | d + 1, a => chk p d (2 * a) && chk p d (2 * a + 1)
theorem chk_at (p : Nat → Bool) : ∀ (d a : Nat), chk p d a = true → ∀ x, a * 2 ^ d ≤ x → x < (a + 1) * 2 ^ d → p x = true
  | 0, a, h, x, h1, h2 => by obtain rfl : x = a := by omega
                             exact h
  | d + 1, a, h, x, h1, h2 => by
    simp only [chk, Bool.and_eq_true] at h
    rw [Nat.pow_succ] at h1 h2
    by_cases hx : x < (2 * a + 1) * 2 ^ d
    · exact chk_at p d (2 * a) h.1 x (by rw [show 2 * a * 2 ^ d = a * (2 ^ d * 2) by rw [Nat.mul_comm 2 a, Nat.mul_assoc, Nat.mul_comm 2]]; exact h1) hx
    · exact chk_at p d (2 * a + 1) h.2 x (by omega) (by rw [show (2 * a + 1 + 1) * 2 ^ d = (a + 1) * (2 ^ d * 2) by rw [show 2 * a + 1 + 1 = (a + 1) * 2 by omega, Nat.mul_assoc, Nat.mul_comm 2]]; exact h2)
theorem ones_chk : chk (fun x => decide (ones (x : Int) = (Ham.wt x : Int))) 13 0 = true := by decide +kernel
theorem ones_wt (x : Nat) (h : x < 8192) : ones (x : Int) = (Ham.wt x : Int) := of_decide_eq_true (chk_at _ 13 0 ones_chk x (by omega) (by omega))
end Ones

end Go.Proofs.YtceidhlcbbikcanGreatDoor
