/- Bits as a number, plainly. -/
import Derived.Test.YtbojjpdbjfiocaiBytesBase
import Derived.Test.YtbojjpdbjfiocaiBitsMath
namespace Go.Proofs.Ytbojjpdbjfiocai
open Go.RowKit

/-- Bits as a number, the highest first. -/
def jn (l : List Int) : Int := l.foldl (fun b x => 2 * b + x) 0
theorem jn_snoc (l : List Int) (x : Int) : jn (l ++ [x]) = 2 * jn l + x := by simp [jn]
theorem jn_bd {l : List Int} (h : l.all bit = true) : ∀ k, k ≤ l.length → 0 ≤ jn (l.take k) ∧ jn (l.take k) < 2 ^ k
  | 0, _ => by simp [jn]
  | k + 1, hk => by
    have ih := jn_bd h k (by omega)
    have hb := bit_bd (bit_at h k)
    rw [take_snoc l k (by omega), jn_snoc, Int.pow_succ]
    omega
theorem or_bit_all : ∀ s : Fin 128, ((s.val * 2) ||| 1) = 2 * s.val + 1 := by decide +kernel
theorem or_bit (s x : Int) (h0 : 0 ≤ s) (h1 : s < 128) (x0 : 0 ≤ x) (x1 : x ≤ 1) : bits .or .u8 (s * 2) x = 2 * s + x := by
  rw [u8_or _ _ (by omega) (by omega) (by omega) (by omega)]
  obtain ⟨n, rfl⟩ := Int.eq_ofNat_of_zero_le h0
  have hn : n < 128 := by omega
  have e : ((n : Int) * 2).toNat = n * 2 := by omega
  rw [e]
  rcases (show x = 0 ∨ x = 1 by omega) with rfl | rfl
  · simp; omega
  · have := or_bit_all ⟨n, hn⟩
    simp only at this
    rw [show (1 : Int).toNat = 1 from rfl, this]; omega

end Go.Proofs.Ytbojjpdbjfiocai
