/- . -/
import Derived.Test.YtgjoepdfhadmcaaGreatDoorSLawBase
import Derived.ChangeSlices
import Derived.Deep.Grids
namespace Go.Proofs.YtgjoepdfhadmcaaGreatDoor
open Go.RowKit Go.ChangeShapes Go.Deep
set_option linter.unusedVariables false
theorem bytes_read {H : Type} {enc : TypeId × Value -> H} {P : Program} {W : World} {t e : TypeId} {a : Option Addr} {len cap : Nat} {d : DataW H} {ps : List MemPlace} (ht : P.underlying t = some (.slice e)) (he : P.underlying e = some (.int .u8)) (hc : P.cellsOf e = 1)
  (h : DataW.Trod enc P W 0 (fun _ => true) true t (.slice a len cap) d ps) : ∃ xs,Bytes 0 W.heap.size W a len xs ∧ len <= maxLen := by
 obtain ⟨fuel,hf⟩ := h
 rcases open_ints ht he hc hf with ⟨hcs,_⟩ | ⟨x,l,c,zs,hcs,_,hl,hm,hz,_,hcell,hwf⟩
 ·simp [Value.cells] at hcs
  obtain ⟨rfl,rfl,rfl⟩ := hcs
  exact ⟨[],⟨rfl,Nat.le_refl _,fun h => absurd h (Nat.lt_irrefl _)⟩,Nat.zero_le _⟩
 ·simp [Value.cells] at hcs
  obtain ⟨rfl,rfl,rfl⟩ := hcs
  simp only [if_true] at hz
  exact ⟨_,bytes_of (cap := cap) (.inr ⟨x,rfl,hl,hm,hz,hcell,hwf⟩),by omega⟩
end Go.Proofs.YtgjoepdfhadmcaaGreatDoor
