/- Several texts in one: HamImpl3, HamImpl4. -/
import Derived.Test.YtgjoepdfhadmcaaGreatDoorFHamTab
import Derived.Test.YtgjoepdfhadmcaaGreatDoorFWeaveSpec
import Derived.Test.YtgjoepdfhadmcaaGreatDoorFCopyBase
section
namespace Go.Proofs.YtgjoepdfhadmcaaGreatDoor
open Go.RowKit
set_option linter.unusedVariables false
set_option maxRecDepth 20000
theorem make_bytes (l c : Int) (L C : Nat) (hl : l = L) (hc : c = C) (hLC : L <= C) (hC : C <= 16777216) (w : World) :
  (Instr.makeSlice 22 (.int .i64 l) (.int .i64 c)).run Tryz.prog w = .ok (.slice (some ⟨w.heap.size,0,none⟩) L C) (w.alloc (.cells (madeCells #[.int .u8 0] C) 5)) := by
 obtain ⟨i0,hi0,hz0,hz1,hz2⟩ := info_parts Tryz.infoU8d
 exact make_row (P := Tryz.prog) 22 5 (.int .u8 0) 1 Tryz.underlying22 (by rw [hi0]; simp [hz0,hz1,hz2]) rfl l c L C hl hc hLC (by omega) (by omega) w
set_option maxHeartbeats 1600000 in
theorem implSpreadAll_small (s : ByteArray) (w : World) (h : s.size <= 300) (hT : Tab w) :
  Calls Tryz.prog 188 #[.string s] w fun e w' => e = .returned (.string (str (spreadL s.data.toList))) ∧ Below w.heap.size w w' := by
 obtain ⟨i0,hi0,hz0,hz1,hz2⟩ := info_parts Tryz.infoU8d
 have HO := hide (World.ownsRow_made (base := w.heap.size) (size := 1) (e := 5) w (madeCells #[.int .u8 0] (2 * s.size)) (2 * s.size) (Nat.le_refl _) (by unfold maxLen; omega) (by simp [size_madeCells]))
 have hd : decide ((300 : Int) < (s.size : Int)) = false := by simp; omega
 have hmk := make_bytes 0 (2 * (s.size : Int)) 0 (2 * s.size) rfl (by omega) (by omega) (by omega) w
 have HT := hide hT
 clear hT
 go_enter Tryz.func188,Tryz.ntmps188
 go_wp2_with fail
 go_loopw [3,15] (fun v i wr => ∃ k : Nat,k <= s.size ∧ i = .int .i64 (k : Int) ∧ wr.ownsRow w.heap.size 5 1 v (2 * k) ((spreadL (s.data.toList.take k)).map byteV) ∧ Below w.heap.size w wr) (fun _ i _ => s.size - (intOf i).toNat)
 case atStart => exact ⟨0,Nat.zero_le _,rfl,HO.out,(Below.refl _ _).alloc (Nat.le_refl _) _⟩
 case round =>
  obtain ⟨k,hk,rfl,hown,hbel⟩ := hrel
  have HOWN := hide hown
  have HB := hide hbel
  clear hown hbel HO hmk
  by_cases hlt : k < s.size
  ·have hbl := UInt8.toNat_lt s[k]
   have HS : Hid (spreadL (s.data.toList.take (k + 1)) = spreadL (s.data.toList.take k) ++ wordB (Ham.spread s[k].toNat)) := by
    show _ = _
    rw [take_snocB s k hlt,spreadL_snoc]
   obtain ⟨x,hx⟩ : ∃ x,x = Ham.spread s[k].toNat := ⟨_,rfl⟩
   have hx13 : x < 8192 := by rw [hx]; exact Ham.spread_lt hbl
   have HC : Hid (Calls Tryz.prog 217 #[.int .i64 (s[k].toNat : Int)] wr fun e w' => e = .returned (.int .i64 (x : Int)) ∧ Below wr.heap.size wr w') := by
    rw [hx]; exact implSpread_nat s[k].toNat wr hbl (HT.out.here HB.out)
   rw [<- hx] at HS
   clear hx
   go_wp2_with fail
   refine HC.out.mono ?_
   rintro e w1 ⟨rfl,b1⟩
   have hB1 := HB.out.trans (b1.mono HB.out.size)
   have HO1 := hide ((own_aside HOWN.out (aside_of_below (lo := 0) (hi := 0) b1) (by omega)).alloc (.cells #[.int .u8 ((x : Int) / 256),.int .u8 ((x : Int) % 256)] 5))
   have HB1 := hide (hB1.alloc hB1.size (.cells #[.int .u8 ((x : Int) / 256),.int .u8 ((x : Int) % 256)] 5))
   clear hB1 b1 HOWN HB HC
   go_wp2_with (at_builtin; (refine wpList_append_own _ rfl (.tmp 23) (.tmp 30) 22 rfl w.heap.size 5 i0 (.int .u8 0) 1 1 Tryz.underlying22 hi0 hz0 hz1 hz2 rfl (by decide) _ _ _ rfl HO1.out ⟨w1.heap.size,0,none⟩ 2 2 [.int .u8 ((x : Int) / 256),.int .u8 ((x : Int) % 256)] rfl rfl (cells_two_new _ _ _ _) (two_one _ _) (by unfold maxLen; omega) (by omega) HB1.out.size ?_); intro v' w2 hown2 hgrow2 _; have HO2 := hide hown2; have HB2 := hide (HB1.out.grown hgrow2 HB1.out.size (fun k hk => (HO1.out.lt k hk).1)); clear hown2 hgrow2)
   go_roundw
   case rel =>
    refine ⟨k + 1,by omega,by go_num,?_,HB2.out⟩
    rw [HS.out,List.map_append,wordB_vals x hx13,show 2 * (k + 1) = 2 * k + 2 by omega]
    exact HO2.out
   case measure => simp [intOf]; omega
  ·obtain ⟨a,cp,rfl,hcp,hown⟩ := ownBytes_of HOWN.out (Nat.le_refl _)
   have hst := string_of (P := Tryz.prog) ⟨hown.1,hown.2.reads⟩ 22 9 5 cp Tryz.underlying22 Tryz.underlying5 Tryz.underlying9
   clear hown HOWN
   go_wp2_with fail
   go_ret
   exact ⟨ret_str (by rw [List.take_of_length_le (by simp; omega)]; rfl),HB.out⟩
end Go.Proofs.YtgjoepdfhadmcaaGreatDoor
end

section
namespace Go.Proofs.YtgjoepdfhadmcaaGreatDoor
open Go.RowKit
set_option linter.unusedVariables false
set_option maxRecDepth 20000
set_option maxRecDepth 100000 in
set_option maxHeartbeats 1600000 in
theorem implHealedAll_any (s : ByteArray) (w : World) (hT : Tab w) (hs : s.size <= 1048576) :
  Calls Tryz.prog 220 #[.string s] w fun e w' => e = .returned (toldV (healedAll s)) ∧ Below w.heap.size w w' := by
 by_cases h2 : s.size % 2 = 0
 ·have hne : ((s.size : Int).tmod 2 != 0) = false := by rw [Int.tmod_eq_emod_of_nonneg (by omega)]; simp; omega
  by_cases h6 : s.size <= 600
  ·have hd : decide ((600 : Int) < (s.size : Int)) = false := by simp; omega
   obtain ⟨i0,hi0,hz0,hz1,hz2⟩ := info_parts Tryz.infoU8d
   have H2 := hide h2
   obtain ⟨N,hN⟩ : ∃ N,s.size = 2 * N := ⟨s.size / 2,by omega⟩
   have HO := hide (World.ownsRow_made (base := w.heap.size) (size := 1) (e := 5) w (madeCells #[.int .u8 0] N) N (Nat.le_refl _) (by unfold maxLen; omega) (by simp [size_madeCells]))
   have hmk := make_bytes 0 (N : Int) 0 N rfl rfl (by omega) (by omega) w
   have HT := hide hT
   clear h2 hT
   go_enter Tryz.func220,Tryz.ntmps220
   go_wp2_with fail
   go_loopw [5,6,7] (fun v n i wr => ∃ k : Nat,k <= N ∧ i = .int .i64 ((2 * k : Nat) : Int) ∧ goodTo s k ∧ n = .int .i64 (fixedTo s k) ∧ wr.ownsRow w.heap.size 5 1 v k ((bytesTo s k).map byteV) ∧ Below w.heap.size w wr) (fun _ _ i _ => s.size - (intOf i).toNat)
   case atStart => exact ⟨0,Nat.zero_le _,rfl,fun j hj => by omega,rfl,HO.out,(Below.refl _ _).alloc (Nat.le_refl _) _⟩
   case round =>
    obtain ⟨k,hk,rfl,hgood,rfl,hown,hbel⟩ := hrel
    have HOWN := hide hown
    have HB := hide hbel
    have HG := hide hgood
    have hfb := fixedTo_bd s k hgood
    obtain ⟨n,hn⟩ : ∃ n,n = fixedTo s k := ⟨_,rfl⟩
    rw [<- hn] at hfb ⊢
    obtain ⟨f0,f1⟩ := hfb
    have HFX := hide hn
    clear hown hbel HO hgood hn hmk
    by_cases hlt : k < N
    ·obtain ⟨I,hI⟩ : ∃ I,I = 2 * k := ⟨_,rfl⟩
     obtain ⟨r,hr⟩ : ∃ r,r = I + 1 := ⟨_,rfl⟩
     have hIs : I < s.size := by omega
     have hrs : r < s.size := by omega
     have i6 : IntKind.i64.wrap ((I : Int) + 1) = (r : Int) := by rw [IntKind.wrap_i64]; omega
     have HIK := hide hI
     obtain ⟨A,hA⟩ : ∃ A,A = s[I].toNat := ⟨_,rfl⟩
     obtain ⟨B,hB⟩ : ∃ B,B = s[r].toNat := ⟨_,rfl⟩
     have hA8 : A < 256 := by rw [hA]; exact UInt8.toNat_lt _
     have hB8 : B < 256 := by rw [hB]; exact UInt8.toNat_lt _
     have hxI := index_at (P := Tryz.prog) 9 Tryz.underlying9 s I hIs A hA
     have hxr := index_at (P := Tryz.prog) 9 Tryz.underlying9 s r hrs B hB
     have HW : Hid (256 * A + B = wordAt s k) := by
      show _ = _
      unfold wordAt
      rw [<- hI,<- hr,byte_at s I hIs,byte_at s r hrs,hA,hB]
     obtain ⟨X,hX⟩ : ∃ X,X = wordAt s k := ⟨_,rfl⟩
     rw [<- hX] at HW
     obtain ⟨D,hD⟩ : ∃ D,D = 256 * A := ⟨_,rfl⟩
     have j1 : IntKind.i64.wrap (A : Int) = (A : Int) := by rw [IntKind.wrap_i64]; omega
     have j2 : IntKind.i64.wrap (B : Int) = (B : Int) := by rw [IntKind.wrap_i64]; omega
     have j3 : IntKind.i64.wrap (256 * (A : Int)) = (D : Int) := by rw [IntKind.wrap_i64]; omega
     have j4 : IntKind.i64.wrap ((D : Int) + (B : Int)) = (X : Int) := by have := HW.out; rw [IntKind.wrap_i64]; omega
     obtain ⟨p,hp⟩ : ∃ p,p = healedI (wordAt s k) := ⟨_,rfl⟩
     have HTW : Hid (Tab wr.drew) := HT.out.here HB.out.drew
     have HC : ∀ w,Tab w -> Hid (Calls Tryz.prog 234 #[.int .i64 (X : Int)] w fun e w' => e = .returned (.tuple #[.int .i64 p.1,.int .i64 p.2]) ∧ Below w.heap.size w w') := fun w ht => by
      rw [hX,hp]; exact implHealed_any _ w ht
     have hcs := healedI_cases (wordAt s k)
     rw [<- hp] at hcs
     have HCS := hide hcs
     have HN := hide hN
     have HKN := hide hlt
     have HP := hide hp
     rw [<- hI]
     have HIs := hide hIs
     clear hp hI hr hcs hN hlt hk hA hB hX hD hIs hrs hA8 hB8
     go_wp2_with fail
     go_region_held3 (fun _ => True) (trivial) ((go_at_call 234; refine (HC _ HTW.out).out.mono ?_; rintro e w1 ⟨rfl,b1⟩))
     all_goals
      have HB1 := hide (HB.out.drew.trans (b1.mono HB.out.size))
      rcases HCS.out with ⟨b,hb,rfl⟩ | ⟨b,hb,rfl⟩ | rfl
      ·have i9 : k <= 300 := by have h1 := HN.out; have h2 := HKN.out; omega
       obtain ⟨u,hu⟩ : ∃ u : UInt8,b = u.toNat := ⟨UInt8.ofNat b,by rw [UInt8.toNat_ofNat',Nat.mod_eq_of_lt (by omega)]⟩
       have hu8 := UInt8.toNat_lt u
       subst hu
       have HO1 := hide ((own_aside (w := wr.drew) HOWN.out (aside_of_below (lo := 0) (hi := 0) b1) (by omega)).alloc (.cells #[.int .u8 (u.toNat : Int)] 5))
       have HB2 := hide (HB1.out.alloc HB1.out.size (.cells #[.int .u8 (u.toNat : Int)] 5))
       have HFN : Hid (fixedTo s (k + 1) = n + 1) := by show _ = _; rw [fixedTo_succ,<- HP.out,<- HFX.out]
       have HBN : Hid (bytesTo s (k + 1) = bytesTo s k ++ [u]) := by show _ = _; rw [bytesTo_succ,<- HP.out]; simp
       have HGN : Hid (goodTo s (k + 1)) := fun j hj => by
        rcases Nat.lt_or_ge j k with h | h
        ·exact HG.out j h
        ·rw [show j = k by omega,<- HP.out]; simp
       clear HOWN HB HC HP HFX HG b1 HB1 hb hxI hxr
       simp only []
       go_wp2_with (at_builtin; (refine wpList_append_own _ rfl (.tmp 51) (.tmp 54) 22 rfl w.heap.size 5 i0 (.int .u8 0) 1 1 Tryz.underlying22 hi0 hz0 hz1 hz2 rfl (by decide) _ _ _ rfl HO1.out ⟨w1.heap.size,0,none⟩ 1 1 [.int .u8 (u.toNat : Int)] rfl rfl (cell_one_new _ _ _) (byteV_one u) (by unfold maxLen; omega) (by omega) HB2.out.size ?_); intro v' w2 hown2 hgrow2 _; have HO2 := hide hown2; have HB3 := hide (HB2.out.grown hgrow2 HB2.out.size (fun k hk => (HO1.out.lt k hk).1)); clear hown2 hgrow2)
       go_roundw
       case rel => exact ⟨k + 1,by have := HKN.out; omega,by have := HIK.out; go_num,HGN.out,by rw [HFN.out] <;> go_num,by rw [HBN.out,List.map_append]; exact HO2.out,HB3.out⟩
       case measure => have h1 := HIs.out; have h2 := HN.out; have h3 := HIK.out; have h4 := HKN.out; simp [intOf]; omega
      ·have i9 : k <= 300 := by have h1 := HN.out; have h2 := HKN.out; omega
       obtain ⟨u,hu⟩ : ∃ u : UInt8,b = u.toNat := ⟨UInt8.ofNat b,by rw [UInt8.toNat_ofNat',Nat.mod_eq_of_lt (by omega)]⟩
       have hu8 := UInt8.toNat_lt u
       subst hu
       have HO1 := hide ((own_aside (w := wr.drew) HOWN.out (aside_of_below (lo := 0) (hi := 0) b1) (by omega)).alloc (.cells #[.int .u8 (u.toNat : Int)] 5))
       have HB2 := hide (HB1.out.alloc HB1.out.size (.cells #[.int .u8 (u.toNat : Int)] 5))
       have HFN : Hid (fixedTo s (k + 1) = n + 0) := by show _ = _; rw [fixedTo_succ,<- HP.out,<- HFX.out]
       have HBN : Hid (bytesTo s (k + 1) = bytesTo s k ++ [u]) := by show _ = _; rw [bytesTo_succ,<- HP.out]; simp
       have HGN : Hid (goodTo s (k + 1)) := fun j hj => by
        rcases Nat.lt_or_ge j k with h | h
        ·exact HG.out j h
        ·rw [show j = k by omega,<- HP.out]; simp
       clear HOWN HB HC HP HFX HG b1 HB1 hb hxI hxr
       simp only []
       go_wp2_with (at_builtin; (refine wpList_append_own _ rfl (.tmp 51) (.tmp 54) 22 rfl w.heap.size 5 i0 (.int .u8 0) 1 1 Tryz.underlying22 hi0 hz0 hz1 hz2 rfl (by decide) _ _ _ rfl HO1.out ⟨w1.heap.size,0,none⟩ 1 1 [.int .u8 (u.toNat : Int)] rfl rfl (cell_one_new _ _ _) (byteV_one u) (by unfold maxLen; omega) (by omega) HB2.out.size ?_); intro v' w2 hown2 hgrow2 _; have HO2 := hide hown2; have HB3 := hide (HB2.out.grown hgrow2 HB2.out.size (fun k hk => (HO1.out.lt k hk).1)); clear hown2 hgrow2)
       go_roundw
       case rel => exact ⟨k + 1,by have := HKN.out; omega,by have := HIK.out; go_num,HGN.out,by rw [HFN.out] <;> go_num,by rw [HBN.out,List.map_append]; exact HO2.out,HB3.out⟩
       case measure => have h1 := HIs.out; have h2 := HN.out; have h3 := HIK.out; have h4 := HKN.out; simp [intOf]; omega
      ·have HNO : Hid (healedAll s = (⟨#[]⟩,0,false)) := healedAll_no (fun h => h.2.2 k (by have h1 := HN.out; have h2 := HKN.out; omega) (by rw [<- HP.out]))
       clear HOWN HB HC HP HFX HG b1 hxI hxr
       simp only []
       go_wp2_with fail
       go_ret3
       exact ⟨by rw [HNO.out]; rfl,HB1.out⟩
    ·obtain ⟨a,cp,rfl,hcp,hown⟩ := ownBytes_of HOWN.out (Nat.le_refl _)
     have hst := string_of (P := Tryz.prog) ⟨hown.1,hown.2.reads⟩ 22 9 5 cp Tryz.underlying22 Tryz.underlying5 Tryz.underlying9
     have HY : Hid (healedAll s = (str (bytesTo s k),n,true)) := by
      have hkN : s.size / 2 = k := by omega
      have := healedAll_yes (s := s) ⟨H2.out,h6,by rw [hkN]; exact HG.out⟩
      rw [hkN,<- HFX.out] at this
      exact this
     have hnl : decide (((2 * k : Nat) : Int) < (s.size : Int)) = false := by simp; omega
     clear hown HOWN
     go_wp2_with fail
     go_ret3
     exact ⟨by rw [HY.out]; rfl,HB.out⟩
  ·have hd : decide ((600 : Int) < (s.size : Int)) = true := by simp; omega
   have he : (s.size : Int) % 2 = 0 := by omega
   have HNO : Hid (healedAll s = (⟨#[]⟩,0,false)) := healedAll_no (fun h => h6 h.2.1)
   clear h6 h2
   go_enter Tryz.func220,Tryz.ntmps220
   go_wp2_with fail
   go_ret3
   exact ⟨by rw [HNO.out]; rfl,Below.refl _ _⟩
 ·have hne : ((s.size : Int).tmod 2 != 0) = true := by rw [Int.tmod_eq_emod_of_nonneg (by omega)]; simp; omega
  have he : (s.size : Int) % 2 = 1 := by omega
  have HNO : Hid (healedAll s = (⟨#[]⟩,0,false)) := healedAll_no (fun h => h2 h.1)
  clear h2
  go_enter Tryz.func220,Tryz.ntmps220
  go_wp2_with fail
  go_ret3
  exact ⟨by rw [HNO.out]; rfl,Below.refl _ _⟩
end Go.Proofs.YtgjoepdfhadmcaaGreatDoor
end

