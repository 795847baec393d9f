/- . -/
import Derived.Test.YtdjifickdcnacaaDoorNWalkB1
import Derived.Test.YtdjifickdcnacaaDoorNAppendZ
import Derived.Test.YtdjifickdcnacaaDoorNBase
import Derived.Laws.Strings
namespace Go.Proofs.YtdjifickdcnacaaDoor
open Go.RowKit
set_option linter.unusedVariables false
set_option maxRecDepth 20000
def bitsZ (l : List UInt8) : List Int := bitsL l ++ List.replicate 16 0
def natL (xs : List Int) : List Nat := xs.map Int.toNat
def checkN (s : ByteArray) : Nat := Crc.crc (natL (bitsL s.data.toList))
theorem bitsZ_length (l : List UInt8) : (bitsZ l).length = 8 * l.length + 16 := by simp [bitsZ,bitsL_length]
theorem natL_bitsZ (l : List UInt8) : natL (bitsZ l) = natL (bitsL l) ++ List.replicate 16 0 := by simp [natL,bitsZ]
theorem bits8_01 (n : Nat) : ∀ b ∈ bits8 n,0 <= b ∧ b <= 1 := by
 intro b hb
 simp only [bits8,List.mem_cons,List.not_mem_nil,or_false] at hb
 rcases hb with rfl | rfl | rfl | rfl | rfl | rfl | rfl | rfl <;> exact bitOf_bd _ _
theorem bitsL_01 (l : List UInt8) : ∀ b ∈ bitsL l,0 <= b ∧ b <= 1 := by
 intro b hb
 simp only [bitsL,List.mem_flatMap] at hb
 obtain ⟨c,_,hb⟩ := hb
 exact bits8_01 _ b hb
theorem bitsZ_01 (l : List UInt8) : ∀ b ∈ bitsZ l,0 <= b ∧ b <= 1 := by
 intro b hb
 rcases List.mem_append.1 hb with h | h
 ·exact bitsL_01 l b h
 ·rw [(List.mem_replicate.1 h).2]; omega
theorem natL_bit {xs : List Int} (h : ∀ b ∈ xs,0 <= b ∧ b <= 1) : Crc.bitL (natL xs) := by
 intro b hb
 obtain ⟨c,hc,rfl⟩ := List.mem_map.1 hb
 have := h c hc
 omega
theorem bitZ_at (l : List UInt8) (k : Nat) (hk : k < (bitsZ l).length) : ∃ q : Nat,(bitsZ l).getD k 0 = (q : Int) ∧ q < 2 ∧ (natL (bitsZ l)).take (k + 1) = (natL (bitsZ l)).take k ++ [q] := by
 have hm := bitsZ_01 l (bitsZ l)[k] (List.getElem_mem hk)
 refine ⟨(bitsZ l)[k].toNat,?_,by omega,?_⟩
 ·rw [List.getD_eq_getElem?_getD,List.getElem?_eq_getElem hk]; simp; omega
 ·rw [List.take_succ_eq_append_getElem (by simpa [natL] using hk)]; simp [natL]
theorem run_snoc (l : List Nat) (q r : Nat) : Crc.run r (l ++ [q]) = Crc.stp (Crc.run r l) q := by rw [Crc.run_append]; rfl
set_option maxRecDepth 200000 in
set_option maxHeartbeats 1600000 in
theorem specCheck_any (s : ByteArray) (w : World) (hs : s.size <= 1048576) :
  Calls Tryd.prog 111 #[.string s] w fun e w' => e = .returned (.int .i64 (checkN s : Nat)) ∧ Below w.heap.size w w' := by
 obtain ⟨i0,hi0,hz0,hz1,hz2⟩ := info_parts Tryd.infoI64
 go_enter Tryd.func111,Tryd.ntmps111
 go_wp2_with fail
 refine (l1Bits_own s w hs).mono ?_
 rintro e w1 ⟨v,rfl,hown,hbel⟩
 obtain ⟨v',w2,hr,hown2,hgr⟩ := run_append_own_zeros (P := Tryd.prog) w1 w.heap.size 68 3 68 2 i0 (.int .i64 0) 8 .i64 Tryd.underlying68 Tryd.underlying3 hi0 hz0 hz1 hz2 rfl rfl v _ _ hown 16 (by omega) (by unfold maxLen; omega) (by omega) hbel.size
 have HB := hide (hbel.grown hgr hbel.size (fun k hk => (hown.lt k hk).1))
 obtain ⟨a',cap',rfl,hcap',hlen,_,how⟩ := owned_of_own hown2
 have hmap : (bitsL s.data.toList).map (Value.int .i64) ++ List.replicate 16 (Value.int .i64 0) = (bitsZ s.data.toList).map (Value.int .i64) := by simp [bitsZ]
 have hN : (bitsZ s.data.toList).length = 8 * s.size + 16 := by rw [bitsZ_length]; simp
 rw [hmap] at how
 have HC : Hid (∀ k,k < 8 * s.size + 16 -> ∃ b off,a' = some ⟨b,off,none⟩ ∧ w2.cell? ⟨b,off + k,none⟩ = some (cellI (bitsZ s.data.toList) k)) := by
  intro k hk
  obtain ⟨b,off,e,_,_,hc⟩ := how.2 (by omega)
  refine ⟨b,off,e,?_⟩
  rw [(hc k hk).1]
  exact congrArg some (map_cell _ k (by omega))
 have HN := hide hN
 clear how hlen hown2 hgr hown hbel hmap hN
 go_wp2_with (at_builtin; refine Lib.wpList_append_run _ rfl _ _ _ _ rfl _ _ rfl rfl _ _ hr ?_)
 clear hr
 go_loop [3,5] (fun r i => ∃ k : Nat,k <= 8 * s.size + 16 ∧ i = .int .i64 (k : Int) ∧ r = .int .i64 (Crc.run 0 ((natL (bitsZ s.data.toList)).take k) : Nat)) (fun _ i => 8 * s.size + 16 - (intOf i).toNat)
 case atStart => exact ⟨0,Nat.zero_le _,rfl,rfl⟩
 case round =>
  obtain ⟨k,hk,rfl,rfl⟩ := hrel
  by_cases hlt : k < 8 * s.size + 16
  ·obtain ⟨b,off,rfl,hc⟩ := HC.out k hlt
   obtain ⟨q,hq,hq2,hstep⟩ := bitZ_at s.data.toList k (by rw [HN.out]; exact hlt)
   rw [cellI,hq] at hc
   obtain ⟨R,hR⟩ : ∃ R,R = Crc.run 0 ((natL (bitsZ s.data.toList)).take k) := ⟨_,rfl⟩
   have hRlt : R < 65536 := by rw [hR]; exact Crc.run_lt _ 0 (by omega) (fun b hb => natL_bit (bitsZ_01 s.data.toList) b (List.mem_of_mem_take hb))
   have HS : Hid (Crc.run 0 ((natL (bitsZ s.data.toList)).take (k + 1)) = Crc.stp R q) := by
    show _ = _
    rw [hstep,run_snoc,hR]
   have HX : Hid (bits .xor .i64 (2 * (R : Int) + (q : Int)) 116839 = (((2 * R + q) ^^^ 116839 : Nat) : Int)) := by
    have := i64_xor_nat (2 * R + q) 116839 (by omega) (by omega)
    show _ = _
    rw [<- this]; rfl
   rw [<- hR]
   clear hq hstep hR
   by_cases hbig : 65536 <= 2 * R + q
   ·have hd : decide (65536 <= 2 * (R : Int) + (q : Int)) = true := by simp; omega
    have HBIG := hide hbig
    clear hbig
    go_wp2_with fail
    go_round
    case rel => exact ⟨k + 1,by omega,by go_num,by rw [HX.out,HS.out]; unfold Crc.stp; rw [if_pos HBIG.out]⟩
    case measure => simp [intOf]; omega
   ·have hd : decide (65536 <= 2 * (R : Int) + (q : Int)) = false := by simp; omega
    have HBIG := hide hbig
    clear hbig
    go_wp2_with fail
    go_round
    case rel => exact ⟨k + 1,by omega,by go_num,by rw [HS.out]; unfold Crc.stp; rw [if_neg HBIG.out]; go_num⟩
    case measure => simp [intOf]; omega
  ·go_wp2_with fail
   go_ret
   refine ⟨ret_i64 ?_,HB.out⟩
   rw [List.take_of_length_le (by simp [natL,HN.out]; omega),natL_bitsZ]
   rfl
theorem checkN_lt (s : ByteArray) : checkN s < 65536 := Crc.crc_lt (natL_bit (bitsL_01 _))
def tail2 (c : Nat) : List UInt8 := [UInt8.ofNat (c / 256),UInt8.ofNat (c % 256)]
def checked (s : ByteArray) : ByteArray := s ++ str (tail2 (checkN s))
theorem two_reads (w : World) (c : Nat) (hc : c < 65536) : Bytes w.heap.size (w.heap.size + 1) (w.alloc (.cells #[.int .u8 ((c : Int) / 256),.int .u8 ((c : Int) % 256)] 5)) (some ⟨w.heap.size,0,none⟩) 2 (tail2 c) := by
 refine ⟨rfl,by simp,fun _ => ⟨w.heap.size,0,rfl,Nat.le_refl _,Nat.lt_succ_self _,fun i hi => ?_⟩⟩
 rw [World.cell?_alloc_new,Nat.zero_add]
 have h : i = 0 ∨ i = 1 := by omega
 rcases h with rfl | rfl
 ·simp [cellB,tail2]; omega
 ·simp [cellB,tail2]
set_option maxHeartbeats 800000 in
theorem specChecked_any (s : ByteArray) (w : World) (hs : s.size <= 1048576) :
  Calls Tryd.prog 62 #[.string s] w fun e w' => e = .returned (.string (checked s)) ∧ Below w.heap.size w w' := by
 obtain ⟨c,hc⟩ : ∃ c,c = checkN s := ⟨_,rfl⟩
 have hlt : c < 65536 := by rw [hc]; exact checkN_lt s
 have HC := hide hc
 go_enter Tryd.func62,Tryd.ntmps62
 go_wp2_with fail
 refine (specCheck_any s w hs).mono ?_
 rw [<- hc]
 clear hc
 rintro e w1 ⟨rfl,b1⟩
 have hst := string_of (P := Tryd.prog) (two_reads w1 c hlt) 22 9 5 2 Tryd.underlying22 Tryd.underlying5 Tryd.underlying9
 have h2 : (ByteArray.mk (tail2 c).toArray).size = 2 := rfl
 have HB := hide (b1.alloc b1.size (.cells #[.int .u8 ((c : Int) / 256),.int .u8 ((c : Int) % 256)] 5))
 clear b1
 go_wp2_with fail
 go_ret
 exact ⟨by unfold checked; rw [<- HC.out]; rfl,HB.out⟩
theorem checked_size (s : ByteArray) : (checked s).size = s.size + 2 := by
 unfold checked; rw [ByteArray.size_append]; rfl
theorem text_eq (s t : ByteArray) : (s.toList == t.toList) = decide (s = t) := by
 rw [ByteArray.toList_eq,ByteArray.toList_eq]
 by_cases h : s = t
 ·subst h; simp
 ·have : ¬ s.data = t.data := fun e => h (ByteArray.ext e)
  simp [h,this]
def whole (s : ByteArray) : Bool := decide (2 <= s.size) && decide (checked (s.extract 0 (s.size - 2)) = s)
end Go.Proofs.YtdjifickdcnacaaDoor
