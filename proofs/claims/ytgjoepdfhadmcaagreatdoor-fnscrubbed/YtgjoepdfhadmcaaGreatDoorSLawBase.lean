/- Several texts in one: LawBase, Draw2. -/
import Derived.Test.YtgjoepdfhadmcaaGreatDoorSDrawBase
import Derived.OpenShut
import Derived.Deep.DeepCutAuto
import Derived.Deep.RegionWith
section
namespace Go.Proofs.YtgjoepdfhadmcaaGreatDoor
open Go.RowKit
set_option linter.unusedVariables false
set_option maxRecDepth 20000
theorem bytes_of {w : World} {a : Option Addr} {len cap : Nat} {zs : List Int} (h : (a = none ∧ len = 0 ∧ cap = 0 ∧ zs = []) ∨ ∃ x,a = some x ∧ len <= cap ∧ cap <= maxLen ∧ zs.length = cap ∧ (∀ i,i < zs.length -> w.cell? (x.add i) = some (.int .u8 (zs.getD i 0))) ∧ ∀ n ∈ zs,(Lit.int .u8 n).wf = true) : Bytes 0 w.heap.size w a len ((zs.take len).map fun z => UInt8.ofNat z.toNat) := by
 rcases h with ⟨rfl,rfl,rfl,rfl⟩ | ⟨x,rfl,hl,hm,hz,hc,hw⟩
 ·exact ⟨rfl,Nat.le_refl _,fun h => absurd h (Nat.lt_irrefl _)⟩
 ·refine ⟨by rw [List.length_map,List.length_take]; omega,Nat.le_refl _,fun hn => ?_⟩
  obtain ⟨b,off,spot⟩ := x
  have h0 := hc 0 (by omega)
  have hs : spot = none := by simpa [Addr.add] using World.cell?_spot h0
  subst hs
  refine ⟨b,off,rfl,Nat.zero_le _,World.block_lt_of_cell? _ _ h0,fun i hi => ?_⟩
  have hi' : w.cell? ⟨b,off + i,none⟩ = some (.int .u8 (zs.getD i 0)) := by
   have hi'' := hc i (by omega)
   simp only [Addr.add] at hi''
   split at hi''
   ·rename_i e; subst e; exact hi''
   ·exact hi''
  have hil : i < zs.length := by omega
  have hwf := bounds_u8 (hw (zs.getD i 0) (by rw [List.getD_eq_getElem?_getD,List.getElem?_eq_getElem hil]; exact List.getElem_mem hil))
  have e : ((zs.take len).map fun z => UInt8.ofNat z.toNat).getD i 0 = UInt8.ofNat (zs.getD i 0).toNat := by
   rw [List.getD_eq_getElem?_getD,List.getElem?_map,List.getElem?_take,if_pos hi,List.getD_eq_getElem?_getD,List.getElem?_eq_getElem hil]; rfl
  rw [hi',cellB,e,UInt8.toNat_ofNat']
  congr 2
  omega
set_option maxHeartbeats 400000 in
theorem big_any (a : Option Addr) (n cap : Nat) (w : World) (hn : n <= 9223372036854775807) :
  Calls Tryz.prog 8 #[.slice a n cap] w fun e w' => e = .returned (.bool (decide (4096 < n))) ∧ w = w' := by
 by_cases h : 4096 < n
 ·go_enter Tryz.func8,Tryz.ntmps8
  go_wp2
  go_ret
  exact ⟨by simp [h]; omega,rfl⟩
 ·go_enter Tryz.func8,Tryz.ntmps8
  go_wp2
  go_ret
  exact ⟨by simp [h]; omega,rfl⟩
end Go.Proofs.YtgjoepdfhadmcaaGreatDoor
end

section
namespace Go.Proofs.YtgjoepdfhadmcaaGreatDoor
open Go.RowKit
set_option linter.unusedVariables false
set_option maxRecDepth 20000
end Go.Proofs.YtgjoepdfhadmcaaGreatDoor
end

