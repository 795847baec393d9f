/- . -/
import Derived.Test.YtdjifickdcnacaaDoorNInfo
import Derived.Test.YtdjifickdcnacaaDoorNBytesBase
import Derived.Test.YtdjifickdcnacaaDoorNBase
import Derived.Test.YtdjifickdcnacaaDoorNCopyBase
import Derived.Laws.ResultCell
import Derived.Lib.OthersKept
namespace Go.Proofs.YtdjifickdcnacaaDoor
open Go.RowKit
set_option linter.unusedVariables false
set_option maxRecDepth 20000
set_option maxHeartbeats 1600000 in
theorem l1Bits_own (s : ByteArray) (w : World) (hs : s.size <= 1048576) :
  Calls Tryd.prog 66 #[.string s] w fun e w' => ∃ v,e = .returned v ∧ w'.ownsRow w.heap.size 2 1 v (8 * s.size) ((bitsL s.data.toList).map (Value.int .i64)) ∧ Below w.heap.size w w' := by
 obtain ⟨i0,hi0,hz0,hz1,hz2⟩ := info_parts Tryd.infoI64
 have HO := hide (own_made0 w 2)
 go_enter Tryd.func66,Tryd.ntmps66
 go_wp2
 go_loopw [3,4] (fun v i wr => ∃ j : Nat,j <= s.size ∧ i = .int .i64 j ∧ wr.ownsRow w.heap.size 2 1 v (8 * j) ((bitsL (s.data.toList.take j)).map (Value.int .i64)) ∧ Below w.heap.size w wr) (fun _ i _ => s.size - (intOf i).toNat)
 case atStart => exact ⟨0,Nat.zero_le _,rfl,HO.out,(Below.refl _ _).alloc (Nat.le_refl _) _⟩
 case round =>
  obtain ⟨j,hj,rfl,hown,hbel⟩ := hrel
  clear HO
  by_cases hlt : j < s.size
  ·have HOWN := hide hown
   have HB := hide hbel
   clear hown hbel
   go_wp2
   go_loopw [3,5] (fun v i wi => ∃ q : Nat,q <= 8 ∧ i = .int .i64 ((q : Int) - 1) ∧ wi.ownsRow w.heap.size 2 1 v (8 * j + (8 - q)) ((bitsL (s.data.toList.take j) ++ (bits8 s[j].toNat).take (8 - q)).map (Value.int .i64)) ∧ Below w.heap.size w wi) (fun _ i _ => (intOf i + 1).toNat)
   case atStart => exact ⟨8,Nat.le_refl _,rfl,by simpa using HOWN.out,HB.out⟩
   case round =>
    obtain ⟨q,hq,rfl,hown,hbel⟩ := hrel
    clear HOWN HB
    by_cases hq0 : q = 0
    ·subst hq0
     have HOWN := hide hown
     have HB := hide hbel
     clear hown hbel
     go_wp2
     go_roundw
     case rel => exact ⟨j + 1,by omega,by go_num,by
      have := HOWN.out
      rw [take_snocB s j hlt,bitsL_snoc]
      rw [show 8 * (j + 1) = 8 * j + (8 - 0) by omega]
      simpa [bits8] using this,HB.out⟩
     case measure => simp [intOf]; omega
    ·obtain ⟨p,rfl⟩ : ∃ p,q = p + 1 := ⟨q - 1,by omega⟩
     rw [show (((p + 1 : Nat) : Int) - 1) = (p : Int) by omega]
     have hsl := hbel.size
     have HOWN := hide (hown.alloc (.cells #[.int .i64 (bitOf s[j].toNat (7 - p))] 2))
     have HB := hide (hbel.alloc hsl (.cells #[.int .i64 (bitOf s[j].toNat (7 - p))] 2))
     have hv := shr_rem s[j].toNat p (by omega)
     have hlb := bitOf_bd s[j].toNat (7 - p)
     obtain ⟨l0,l1⟩ := hlb
     clear hown hbel
     go_wp2_with (at_builtin; refine wpList_append_own _ rfl (.tmp 17) (.tmp 26) 68 rfl w.heap.size 2 i0 (.int .i64 0) 1 8 Tryd.underlying68 hi0 hz0 hz1 hz2 rfl (by decide) _ _ _ rfl HOWN.out ⟨wr.heap.size,0,none⟩ 1 1 [.int .i64 (bitOf s[j].toNat (7 - p))] rfl rfl (cell_one_new _ _ _) (by intro u hu; simp at hu; subst hu; rfl) (by unfold maxLen; omega) (by omega) (by simp; omega) ?_; intro v' w1 hown hgrow _; have hB := hide (HB.out.grown hgrow (by simp; omega) (fun k hk => (HOWN.out.lt k hk).1)); have HW := hide hown; clear hown hgrow)
     go_roundw
     case rel => exact ⟨p,by omega,by go_num,by
      have := HW.out
      rw [bits8_next _ p (by omega),<- List.append_assoc,List.map_append,show 8 * j + (8 - p) = 8 * j + (8 - (p + 1)) + 1 by omega]
      exact this,hB.out⟩
     case measure => simp [intOf]
  ·have hjs : j = s.size := by omega
   rw [List.take_of_length_le (by simp; omega),hjs] at hown
   have HOWN := hide hown
   have HB := hide hbel
   clear hown hbel
   go_wp2
   go_ret
   exact ⟨_,rfl,HOWN.out,HB.out⟩
theorem l1Bits_any (s : ByteArray) (w : World) (hs : s.size <= 1048576) :
  Calls Tryd.prog 66 #[.string s] w fun e w' => ∃ a' n' cap',e = .returned (.slice a' n' cap') ∧ n' <= cap' ∧ OwnInts w.heap.size w'.heap.size w' a' n' (bitsL s.data.toList) ∧ Below w.heap.size w w' := by
 refine (l1Bits_own s w hs).mono ?_
 rintro e w' ⟨v,rfl,hown,hbel⟩
 obtain ⟨a',cap',rfl,hcap',hlen,_,how⟩ := owned_of_own hown
 rw [List.length_map] at hlen
 exact ⟨_,_,_,rfl,hcap',⟨hlen,how.congr (fun i hi => map_cell _ i (by omega))⟩,hbel⟩
end Go.Proofs.YtdjifickdcnacaaDoor
