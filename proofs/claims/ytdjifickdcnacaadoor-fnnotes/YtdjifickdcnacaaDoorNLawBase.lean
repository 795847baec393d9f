/- . -/
import Derived.Test.YtdjifickdcnacaaDoorNDrawBase
import Derived.OpenShut
namespace Go.Proofs.YtdjifickdcnacaaDoor
open Go.RowKit
set_option linter.unusedVariables false
set_option maxRecDepth 20000
theorem bytes_of {w : World} {a : Option Addr} {len cap : Nat} {zs : List Int} (h : (a = none ∧ len = 0 ∧ cap = 0 ∧ zs = []) ∨ ∃ x,a = some x ∧ len <= cap ∧ cap <= maxLen ∧ zs.length = cap ∧ (∀ i,i < zs.length -> w.cell? (x.add i) = some (.int .u8 (zs.getD i 0))) ∧ ∀ n ∈ zs,(Lit.int .u8 n).wf = true) : Bytes 0 w.heap.size w a len ((zs.take len).map fun z => UInt8.ofNat z.toNat) := by
 rcases h with ⟨rfl,rfl,rfl,rfl⟩ | ⟨x,rfl,hl,hm,hz,hc,hw⟩
 ·exact ⟨rfl,Nat.le_refl _,fun h => absurd h (Nat.lt_irrefl _)⟩
 ·refine ⟨by rw [List.length_map,List.length_take]; omega,Nat.le_refl _,fun hn => ?_⟩
  obtain ⟨b,off,spot⟩ := x
  have h0 := hc 0 (by omega)
  have hs : spot = none := by simpa [Addr.add] using World.cell?_spot h0
  subst hs
  refine ⟨b,off,rfl,Nat.zero_le _,World.block_lt_of_cell? _ _ h0,fun i hi => ?_⟩
  have hi' : w.cell? ⟨b,off + i,none⟩ = some (.int .u8 (zs.getD i 0)) := by
   have hi'' := hc i (by omega)
   simp only [Addr.add] at hi''
   split at hi''
   ·rename_i e; subst e; exact hi''
   ·exact hi''
  have hil : i < zs.length := by omega
  have hwf := bounds_u8 (hw (zs.getD i 0) (by rw [List.getD_eq_getElem?_getD,List.getElem?_eq_getElem hil]; exact List.getElem_mem hil))
  have e : ((zs.take len).map fun z => UInt8.ofNat z.toNat).getD i 0 = UInt8.ofNat (zs.getD i 0).toNat := by
   rw [List.getD_eq_getElem?_getD,List.getElem?_map,List.getElem?_take,if_pos hi,List.getD_eq_getElem?_getD,List.getElem?_eq_getElem hil]; rfl
  rw [hi',cellB,e,UInt8.toNat_ofNat']
  congr 2
  omega
set_option maxHeartbeats 400000 in
theorem big_any (a : Option Addr) (n cap : Nat) (w : World) (hn : n <= 9223372036854775807) :
  Calls Tryd.prog 6 #[.slice a n cap] w fun e w' => e = .returned (.bool (decide (4096 < n))) ∧ w = w' := by
 by_cases h : 4096 < n
 ·go_enter Tryd.func6,Tryd.ntmps6
  go_wp2
  go_ret
  exact ⟨by simp [h]; omega,rfl⟩
 ·go_enter Tryd.func6,Tryd.ntmps6
  go_wp2
  go_ret
  exact ⟨by simp [h]; omega,rfl⟩
set_option maxHeartbeats 400000 in
theorem pick_any (a : Option Addr) (n cap : Nat) (l : List UInt8) (seed m : Int) (w : World) {lo hi : Nat} (hB : Bytes lo hi w a n l) (hn : n <= 4096) (h0 : 0 <= seed) (h1 : seed <= 65536) (m0 : 0 < m) (m1 : m <= 65536) :
  Calls Tryd.prog 16 #[.slice a n cap,.int .i64 seed,.int .i64 m] w fun e w' => ∃ x : Int,e = .returned (.int .i64 x) ∧ 0 <= x ∧ x < m ∧ w = w' := by
 obtain ⟨hl,hsz,hx⟩ := hB
 clear hl
 go_enter Tryd.func16,Tryd.ntmps16
 go_wp2
 go_loop [7,8] (fun t i => ∃ (k : Nat) (h : Int),k <= n ∧ i = .int .i64 k ∧ t = .int .i64 h ∧ 0 <= h ∧ h <= 1000000000) (fun _ i => n - (intOf i).toNat)
 case atStart => exact ⟨0,_,Nat.zero_le _,rfl,rfl,by omega,by omega⟩
 case round =>
  obtain ⟨k,h,hk,rfl,rfl,hh0,hh1⟩ := hrel
  by_cases hlt : k < n
  ·obtain ⟨b,off,rfl,_,hb,hc⟩ := hx (by omega)
   have hck : w.cell? ⟨b,off + k,none⟩ = some (.int .u8 ((l.getD k 0).toNat : Int)) := hc k hlt
   obtain ⟨v,hv⟩ : ∃ v,v = (l.getD k 0).toNat := ⟨_,rfl⟩
   have hv2 : v < 256 := by rw [hv]; exact UInt8.toNat_lt _
   rw [<- hv] at hck
   clear hc hx hv
   go_wp2
   go_round
   case rel => exact ⟨k + 1,_,by omega,by go_num,rfl,by omega,by omega⟩
   case measure => simp [intOf]; omega
  ·have hne : (m == 0) = false := by simp; omega
   go_wp2
   go_ret
   exact ⟨_,rfl,Int.emod_nonneg _ (by omega),Int.emod_lt_of_pos _ m0,rfl⟩
end Go.Proofs.YtdjifickdcnacaaDoor
