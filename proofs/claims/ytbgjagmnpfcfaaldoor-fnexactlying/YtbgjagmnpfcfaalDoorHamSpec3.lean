/- The walks of chapter 4's model: SpreadAll, HealedAll. -/
import Derived.Test.YtbgjagmnpfcfaalDoorHamAll
import Derived.Test.YtbgjagmnpfcfaalDoorDrawText
import Derived.Test.YtbgjagmnpfcfaalDoorBitsL
import Derived.Deep.RegionHeld3
namespace Go.Proofs.YtbgjagmnpfcfaalDoor
open Go.RowKit
set_option linter.unusedVariables false
set_option maxRecDepth 20000

theorem wordB_vals (x : Nat) (h : x < 8192) : (wordB x).map byteV = [.int .u8 ((x : Int) / 256), .int .u8 ((x : Int) % 256)] := by
  unfold wordB byteV
  simp only [List.map_cons, List.map_nil, UInt8.toNat_ofNat']
  rw [Nat.mod_eq_of_lt (show x / 256 < 2 ^ 8 by omega), Nat.mod_eq_of_lt (show x % 256 < 2 ^ 8 by omega)]
  simp
theorem cells_two_new (w : World) (a b : Value) (t : Nat) : ∀ j u, ([a, b] : List Value)[j]? = some u → (w.alloc (.cells #[a, b] t)).cell? ((⟨w.heap.size, 0, none⟩ : Addr).add j) = some u := by
  intro j u hu
  have hadd : (⟨w.heap.size, 0, none⟩ : Addr).add j = ⟨w.heap.size, j, none⟩ := by unfold Addr.add; split <;> simp_all
  rw [hadd, World.cell?_alloc_new]
  simpa using hu
theorem two_one (x y : Int) : ∀ u ∈ ([.int .u8 x, .int .u8 y] : List Value), u.oneCell' = true := by
  intro u hu
  simp at hu
  rcases hu with rfl | rfl <;> rfl

end Go.Proofs.YtbgjagmnpfcfaalDoor
