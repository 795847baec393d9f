/- . -/
import Derived.Test.YtdjifickdcnacaaDoorNInfo
import Derived.Test.YtdjifickdcnacaaDoorNWalkB1
import Derived.Test.YtdjifickdcnacaaDoorNDrawBase
import Derived.Test.YtdjifickdcnacaaDoorNBytesBase
namespace Go.Proofs.YtdjifickdcnacaaDoor
open Go.RowKit
set_option linter.unusedVariables false
set_option maxRecDepth 20000
theorem sm_cell {xs : List Int} {p mask k : Nat} (h : p + k < xs.length) (v : Int) (hv : v = xb (xs.getD (p + k) 0) (mbit mask k)) (j : Nat) :
  (if j = p + k then Value.int .i64 v else cellI (smI xs p mask k) j) = cellI (smI xs p mask (k + 1)) j := by
 unfold cellI
 rw [smI_step h]
 by_cases e : j = p + k
 ·subst e; simp [hv]
 ·simp [e]
set_option maxHeartbeats 1600000 in
theorem specSmeared_any (s : ByteArray) (at' mask : Int) (w : World) (hs : s.size <= 1048576) :
  Calls Tryd.prog 15 #[.string s,.int .i64 at',.int .i64 mask] w fun e w' => e = .returned (.string (smeared s at' mask)) ∧ Below w.heap.size w w' := by
 cases hb1 : inB at' 0 (8 * (s.size : Int) - 1)
 ·go_enter Tryd.func15,Tryd.ntmps15
  go_wp2_with fail
  refine (l1In_any _ _ _ _).mono ?_
  rintro e w1 ⟨rfl,rfl⟩
  go_wp2_with fail
  go_ret
  exact ⟨ret_str (smeared_no (by simp [inB] at hb1; omega)).symm,Below.refl _ _⟩
 ·cases hb2 : inB mask 0 65535
  ·go_enter Tryd.func15,Tryd.ntmps15
   go_wp2_with fail
   refine (l1In_any _ _ _ _).mono ?_
   rintro e w1 ⟨rfl,rfl⟩
   go_wp2_with fail
   refine (l1In_any _ _ _ _).mono ?_
   rintro e w1 ⟨rfl,rfl⟩
   go_wp2_with fail
   go_ret
   exact ⟨ret_str (smeared_no (by simp [inB] at hb2; omega)).symm,Below.refl _ _⟩
  ·obtain ⟨p,rfl⟩ : ∃ p : Nat,at' = (p : Int) := ⟨at'.toNat,by simp [inB] at hb1; omega⟩
   obtain ⟨M,rfl⟩ : ∃ M : Nat,mask = (M : Int) := ⟨mask.toNat,by simp [inB] at hb2; omega⟩
   have HP : Hid (p < 8 * s.size) := by show p < 8 * s.size; simp [inB] at hb1; omega
   have HM : Hid (M < 65536) := by show M < 65536; simp [inB] at hb2; omega
   go_enter Tryd.func15,Tryd.ntmps15
   go_wp2_with fail
   refine (l1In_any _ _ _ _).mono ?_
   rintro e w1 ⟨rfl,rfl⟩
   go_wp2_with fail
   refine (l1In_any _ _ _ _).mono ?_
   rintro e w1 ⟨rfl,rfl⟩
   go_wp2_with fail
   refine (l1Bits_any s _ hs).mono ?_
   rintro e w1 ⟨a',n',cap',rfl,hcap,hown,hbel⟩
   obtain ⟨hl,how⟩ := hown
   have hn' : n' = 8 * s.size := by rw [<- hl,bitsL_length]; simp
   subst hn'
   obtain ⟨b,off,rfl,hb1',hb2',_⟩ := how.2 (by have := HP.out; omega)
   have HOW : Hid (Owned w.heap.size w1.heap.size w1 (some ⟨b,off,none⟩) (8 * s.size) (cellI (smI (bitsL s.data.toList) p M 0))) := by rw [smI_zero]; exact how
   have HB := hide hbel
   have HL := hide hl
   clear how hbel hl hb1 hb2
   obtain ⟨xs,hxs⟩ : ∃ xs,xs = bitsL s.data.toList := ⟨_,rfl⟩
   have HALL : Hid (xs.all bit = true) := by rw [hxs]; exact bitsL_all _
   have HXS := hide hxs
   rw [<- hxs] at HOW HL
   clear hxs
   go_wp2_with fail
   go_loopw [8] (fun i wr => ∃ k : Nat,k <= 16 ∧ p + k <= 8 * s.size ∧ i = .int .i64 k ∧ Owned w.heap.size w1.heap.size wr (some ⟨b,off,none⟩) (8 * s.size) (cellI (smI xs p M k)) ∧ Below w.heap.size w wr) (fun i _ => 16 - (intOf i).toNat)
   case atStart => exact ⟨0,Nat.zero_le _,by have := HP.out; omega,rfl,HOW.out,HB.out⟩
   case round =>
    obtain ⟨k,hk,hpk,rfl,how,hbel⟩ := hrel
    clear HOW HB
    by_cases hlt : k < 16
    ·by_cases hlt2 : p + k < 8 * s.size
     ·obtain ⟨b',off',hb',_,_,hc⟩ := how.2 (by omega)
      simp only [Option.some.injEq,Addr.mk.injEq,and_true] at hb'
      obtain ⟨rfl,rfl⟩ := hb'
      obtain ⟨hco,hfo⟩ := hc (p + k) hlt2
      rw [cellI,smI_at] at hco
      have hbit := bit_at HALL.out (p + k)
      have hxr := xor_xb hbit (mbit_lt M k)
      have hsh := shr_mbit M k
      obtain ⟨z,hz⟩ : ∃ z,z = xs.getD (p + k) 0 := ⟨_,rfl⟩
      rw [<- hz] at hco hxr
      have HZ := hide hz
      have HOW := hide how
      have HB := hide hbel
      clear hz hbit hc how hbel
      go_wp2_with fail
      go_roundw
      case rel => exact ⟨k + 1,by omega,by omega,by go_num,(HOW.out.set hlt2 _).congr (fun j _ => sm_cell (by rw [HL.out]; exact hlt2) _ (by rw [HZ.out]) j),HB.out.setCell (p := ⟨b,off + (p + k),none⟩) hb1' _⟩
      case measure => simp [intOf]; omega
     ·have hO : OwnInts w.heap.size w1.heap.size wr (some ⟨b,off,none⟩) (8 * s.size) (smI xs p M k) := ⟨by rw [smI_length,HL.out],how⟩
      have HO := hide hO
      have HB := hide hbel
      clear how hbel hO
      go_wp2_with fail
      refine (specl1Bytes_all _ _ _ (smI xs p M k) _ HO.out.ints (by omega) (smI_all HALL.out _ _ _)).mono ?_
      rintro e w2 ⟨rfl,b2⟩
      go_wp2_with fail
      go_ret
      exact ⟨ret_str (by rw [smeared_yes HP.out HM.out,<- HXS.out,smI_far (by rw [HL.out]; omega) (by omega)]),HB.out.trans (b2.mono HB.out.size)⟩
    ·have hO : OwnInts w.heap.size w1.heap.size wr (some ⟨b,off,none⟩) (8 * s.size) (smI xs p M k) := ⟨by rw [smI_length,HL.out],how⟩
     have HO := hide hO
     have HB := hide hbel
     clear how hbel hO
     go_wp2_with fail
     refine (specl1Bytes_all _ _ _ (smI xs p M k) _ HO.out.ints (by omega) (smI_all HALL.out _ _ _)).mono ?_
     rintro e w2 ⟨rfl,b2⟩
     go_wp2_with fail
     go_ret
     exact ⟨ret_str (by rw [smeared_yes HP.out HM.out,<- HXS.out,show k = 16 by omega]),HB.out.trans (b2.mono HB.out.size)⟩
end Go.Proofs.YtdjifickdcnacaaDoor
