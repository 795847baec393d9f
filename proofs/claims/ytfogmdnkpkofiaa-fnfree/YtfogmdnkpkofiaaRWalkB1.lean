/- Several texts in one: WalkB1, WeaveSpec, HamSpec3, LawBase. -/
import Derived.Test.YtfogmdnkpkofiaaRInfo
import Derived.Test.YtfogmdnkpkofiaaRBytesBase
import Derived.Test.YtfogmdnkpkofiaaRBase
import Derived.Test.YtfogmdnkpkofiaaRCopyBase
import Derived.Laws.ResultCell
import Derived.Lib.OthersKept
import Derived.Test.YtfogmdnkpkofiaaRDrawBase
import Derived.Test.YtfogmdnkpkofiaaRPageBase
import Derived.Deep.RegionHeld3
import Derived.OpenShut
section
namespace Go.Proofs.Ytfogmdnkpkofiaa
open Go.RowKit
set_option linter.unusedVariables false
set_option maxRecDepth 20000
set_option maxHeartbeats 1600000 in
theorem l1Bits_own (s : ByteArray) (w : World) (hs : s.size <= 1048576) :
  Calls Try.prog 82 #[.string s] w fun e w' => ∃ v,e = .returned v ∧ w'.ownsRow w.heap.size 2 1 v (8 * s.size) ((bitsL s.data.toList).map (Value.int .i64)) ∧ Below w.heap.size w w' := by
 obtain ⟨i0,hi0,hz0,hz1,hz2⟩ := info_parts Try.infoI64
 have HO := hide (own_made0 w 2)
 go_enter Try.func82,Try.ntmps82
 go_wp2
 go_loopw [3,4] (fun v i wr => ∃ j : Nat,j <= s.size ∧ i = .int .i64 j ∧ wr.ownsRow w.heap.size 2 1 v (8 * j) ((bitsL (s.data.toList.take j)).map (Value.int .i64)) ∧ Below w.heap.size w wr) (fun _ i _ => s.size - (intOf i).toNat)
 case atStart => exact ⟨0,Nat.zero_le _,rfl,HO.out,(Below.refl _ _).alloc (Nat.le_refl _) _⟩
 case round =>
  obtain ⟨j,hj,rfl,hown,hbel⟩ := hrel
  clear HO
  by_cases hlt : j < s.size
  ·have HOWN := hide hown
   have HB := hide hbel
   clear hown hbel
   go_wp2
   go_loopw [3,5] (fun v i wi => ∃ q : Nat,q <= 8 ∧ i = .int .i64 ((q : Int) - 1) ∧ wi.ownsRow w.heap.size 2 1 v (8 * j + (8 - q)) ((bitsL (s.data.toList.take j) ++ (bits8 s[j].toNat).take (8 - q)).map (Value.int .i64)) ∧ Below w.heap.size w wi) (fun _ i _ => (intOf i + 1).toNat)
   case atStart => exact ⟨8,Nat.le_refl _,rfl,by simpa using HOWN.out,HB.out⟩
   case round =>
    obtain ⟨q,hq,rfl,hown,hbel⟩ := hrel
    clear HOWN HB
    by_cases hq0 : q = 0
    ·subst hq0
     have HOWN := hide hown
     have HB := hide hbel
     clear hown hbel
     go_wp2
     go_roundw
     case rel => exact ⟨j + 1,by omega,by go_num,by
      have := HOWN.out
      rw [take_snocB s j hlt,bitsL_snoc]
      rw [show 8 * (j + 1) = 8 * j + (8 - 0) by omega]
      simpa [bits8] using this,HB.out⟩
     case measure => simp [intOf]; omega
    ·obtain ⟨p,rfl⟩ : ∃ p,q = p + 1 := ⟨q - 1,by omega⟩
     rw [show (((p + 1 : Nat) : Int) - 1) = (p : Int) by omega]
     have hsl := hbel.size
     have HOWN := hide (hown.alloc (.cells #[.int .i64 (bitOf s[j].toNat (7 - p))] 2))
     have HB := hide (hbel.alloc hsl (.cells #[.int .i64 (bitOf s[j].toNat (7 - p))] 2))
     have hv := shr_rem s[j].toNat p (by omega)
     have hlb := bitOf_bd s[j].toNat (7 - p)
     obtain ⟨l0,l1⟩ := hlb
     clear hown hbel
     go_wp2_with (at_builtin; refine wpList_append_own _ rfl (.tmp 17) (.tmp 26) 79 rfl w.heap.size 2 i0 (.int .i64 0) 1 8 Try.underlying79 hi0 hz0 hz1 hz2 rfl (by decide) _ _ _ rfl HOWN.out ⟨wr.heap.size,0,none⟩ 1 1 [.int .i64 (bitOf s[j].toNat (7 - p))] rfl rfl (cell_one_new _ _ _) (by intro u hu; simp at hu; subst hu; rfl) (by unfold maxLen; omega) (by omega) (by simp; omega) ?_; intro v' w1 hown hgrow _; have hB := hide (HB.out.grown hgrow (by simp; omega) (fun k hk => (HOWN.out.lt k hk).1)); have HW := hide hown; clear hown hgrow)
     go_roundw
     case rel => exact ⟨p,by omega,by go_num,by
      have := HW.out
      rw [bits8_next _ p (by omega),<- List.append_assoc,List.map_append,show 8 * j + (8 - p) = 8 * j + (8 - (p + 1)) + 1 by omega]
      exact this,hB.out⟩
     case measure => simp [intOf]
  ·have hjs : j = s.size := by omega
   rw [List.take_of_length_le (by simp; omega),hjs] at hown
   have HOWN := hide hown
   have HB := hide hbel
   clear hown hbel
   go_wp2
   go_ret
   exact ⟨_,rfl,HOWN.out,HB.out⟩
end Go.Proofs.Ytfogmdnkpkofiaa
end

section
namespace Go.Proofs.Ytfogmdnkpkofiaa
open Go.RowKit
set_option linter.unusedVariables false
set_option maxRecDepth 20000
def woveOk (s : ByteArray) (d : Int) : Bool := inB d 1 16 && decide (s.size <= 600)
theorem woveOk_yes {s : ByteArray} {d : Int} (h : woveOk s d = true) : ∃ D : Nat,d = (D : Int) ∧ 1 <= D ∧ D <= 16 ∧ s.size <= 600 := by
 simp [woveOk,inB] at h
 exact ⟨d.toNat,by omega,by omega,by omega,by omega⟩
set_option maxHeartbeats 400000 in
theorem l5Told_any (s : ByteArray) (d : Int) (w : World) (hs : s.size <= 1048576) :
  Calls Try.prog 80 #[.string s,.int .i64 d] w fun e w' => e = .returned (.bool (woveOk s d)) ∧ w = w' := by
 cases hb : inB d 1 16
 ·have HE : Hid (woveOk s d = false) := by show _ = _; simp [woveOk,hb]
  go_enter Try.func80,Try.ntmps80
  go_wp2_with fail
  refine (l1In_any _ _ _ _).mono ?_
  rw [hb]
  rintro e w1 ⟨rfl,rfl⟩
  go_wp2_with fail
  go_ret
  exact ⟨ret_bool HE.out.symm,rfl⟩
 ·have HE : Hid (woveOk s d = decide ((s.size : Int) <= 600)) := by show _ = _; simp [woveOk,hb]; omega
  go_enter Try.func80,Try.ntmps80
  go_wp2_with fail
  refine (l1In_any _ _ _ _).mono ?_
  rw [hb]
  rintro e w1 ⟨rfl,rfl⟩
  go_wp2_with fail
  go_ret
  exact ⟨ret_bool HE.out.symm,rfl⟩
def natV (x : Nat) : Value := .int .i64 (x : Int)
set_option maxHeartbeats 1600000 in
theorem l5Order_own (n d : Nat) (w : World) (hn : n <= 600) (hd : 1 <= d) (hd16 : d <= 16) :
  Calls Try.prog 81 #[.int .i64 (n : Int),.int .i64 (d : Int)] w fun e w' => ∃ v,e = .returned v ∧ w'.ownsRow w.heap.size 2 1 v n ((Wv.order n d).map natV) ∧ Below w.heap.size w w' := by
 obtain ⟨i0,hi0,hz0,hz1,hz2⟩ := info_parts Try.infoI64
 have HO := hide (own_made0 w 2)
 go_enter Try.func81,Try.ntmps81
 go_wp2_with fail
 go_loopw [5,6] (fun v r wr => ∃ R : Nat,R <= d ∧ r = .int .i64 (R : Int) ∧ wr.ownsRow w.heap.size 2 1 v (Wv.st n d R) ((Wv.orderTo n d R).map natV) ∧ Below w.heap.size w wr) (fun _ r _ => d - (intOf r).toNat)
 case atStart => exact ⟨0,Nat.zero_le _,rfl,HO.out,(Below.refl _ _).alloc (Nat.le_refl _) _⟩
 case round =>
  obtain ⟨R,hR,rfl,hown,hbel⟩ := hrel
  have HOWN := hide hown
  have HB := hide hbel
  clear hown hbel HO
  by_cases hlt : R < d
  ·go_wp2_with fail
   go_loopw [5,7] (fun v i wr => ∃ j I : Nat,i = .int .i64 (I : Int) ∧ I = R + d * j ∧ j <= Wv.cnt n d R ∧ wr.ownsRow w.heap.size 2 1 v (Wv.st n d R + j) ((Wv.orderTo n d R ++ Wv.row d R j).map natV) ∧ Below w.heap.size w wr) (fun _ i _ => n - (intOf i).toNat)
   case atStart => exact ⟨0,R,rfl,by omega,Nat.zero_le _,by simpa [Wv.row] using HOWN.out,HB.out⟩
   case round =>
    obtain ⟨j,I,rfl,hI,hj,hown,hbel⟩ := hrel
    have hc := Wv.cnt_lt (n := n) (d := d) (r := R) (t := j) (by omega)
    rw [<- hI] at hc
    by_cases hIn : I < n
    ·have HJ := hide (hc.2 hIn)
     have HI := hide hI
     have hl600 : Wv.st n d R + j <= 600 := by
      have h1 := hc.2 hIn
      have h2 := Wv.st_mono n d (show R + 1 <= d by omega)
      have h3 : Wv.st n d d = n := Wv.order_length (by omega)
      rw [Wv.st_succ] at h2
      omega
     obtain ⟨L,hL⟩ : ∃ L,L = Wv.st n d R + j := ⟨_,rfl⟩
     rw [<- hL] at hown hl600
     have HL := hide hL
     have HO1 := hide (hown.alloc (.cells #[.int .i64 (I : Int)] 2))
     have HB1 := hide (hbel.alloc hbel.size (.cells #[.int .i64 (I : Int)] 2))
     clear hown hbel HOWN HB hc hI hj hL
     go_wp2_with (at_builtin; refine wpList_append_own _ rfl (.tmp 21) (.tmp 23) 79 rfl w.heap.size 2 i0 (.int .i64 0) 1 8 Try.underlying79 hi0 hz0 hz1 hz2 rfl (by decide) _ _ _ rfl HO1.out ⟨wr.heap.size,0,none⟩ 1 1 [.int .i64 (I : Int)] rfl rfl (cell_one_new _ _ _) (by intro u hu; simp at hu; subst hu; rfl) (by unfold maxLen; omega) (by omega) HB1.out.size ?_; intro v' w1 hown hgrow _; have HB2 := hide (HB1.out.grown hgrow HB1.out.size (fun k hk => (HO1.out.lt k hk).1)); have HO2 := hide hown; clear hown hgrow)
     go_roundw
     case rel => exact ⟨j + 1,I + d,by go_num,by rw [HI.out,Nat.mul_add,Nat.mul_one]; omega,HJ.out,by
      have := HO2.out
      rw [Wv.row_succ,<- List.append_assoc,List.map_append,<- HI.out,<- Nat.add_assoc,<- HL.out]
      exact this,HB2.out⟩
     case measure => simp [intOf]; omega
    ·have hj' : j = Wv.cnt n d R := by
      rcases Nat.lt_or_ge j (Wv.cnt n d R) with h | h
      ·exact absurd (hc.1 h) hIn
      ·omega
     subst hj'
     have HO1 := hide hown
     have HB1 := hide hbel
     clear hown hbel HOWN HB hc hI hj
     go_wp2_with fail
     go_roundw
     case rel => exact ⟨R + 1,by omega,by go_num,by rw [Wv.st_succ,Wv.orderTo_succ]; exact HO1.out,HB1.out⟩
     case measure => simp [intOf]; omega
  ·obtain rfl : R = d := by omega
   go_wp2_with fail
   go_ret
   have hl : Wv.st n R R = n := Wv.order_length (by omega)
   exact ⟨_,rfl,by have := HOWN.out; rw [hl] at this; exact this,HB.out⟩
end Go.Proofs.Ytfogmdnkpkofiaa
end

section
namespace Go.Proofs.Ytfogmdnkpkofiaa
open Go.RowKit
set_option linter.unusedVariables false
set_option maxRecDepth 20000
theorem wordB_vals (x : Nat) (h : x < 8192) : (wordB x).map byteV = [.int .u8 ((x : Int) / 256),.int .u8 ((x : Int) % 256)] := by
 unfold wordB byteV
 simp only [List.map_cons,List.map_nil,UInt8.toNat_ofNat']
 rw [Nat.mod_eq_of_lt (show x / 256 < 2 ^ 8 by omega),Nat.mod_eq_of_lt (show x % 256 < 2 ^ 8 by omega)]
 simp
theorem cells_two_new (w : World) (a b : Value) (t : Nat) : ∀ j u,([a,b] : List Value)[j]? = some u -> (w.alloc (.cells #[a,b] t)).cell? ((⟨w.heap.size,0,none⟩ : Addr).add j) = some u := by
 intro j u hu
 have hadd : (⟨w.heap.size,0,none⟩ : Addr).add j = ⟨w.heap.size,j,none⟩ := by unfold Addr.add; split <;> simp_all
 rw [hadd,World.cell?_alloc_new]
 simpa using hu
theorem two_one (x y : Int) : ∀ u ∈ ([.int .u8 x,.int .u8 y] : List Value),u.oneCell' = true := by
 intro u hu
 simp at hu
 rcases hu with rfl | rfl <;> rfl
set_option maxHeartbeats 1600000 in
theorem l4SpreadAll_any (s : ByteArray) (w : World) (hs : s.size <= 65536) :
  Calls Try.prog 76 #[.string s] w fun e w' => e = .returned (.string (str (spreadL s.data.toList))) ∧ Below w.heap.size w w' := by
 obtain ⟨i0,hi0,hz0,hz1,hz2⟩ := info_parts Try.infoU8d
 have HO := hide (own_made0 w 5)
 go_enter Try.func76,Try.ntmps76
 go_wp2_with fail
 go_loopw [3,4] (fun v i wr => ∃ k : Nat,k <= s.size ∧ i = .int .i64 (k : Int) ∧ wr.ownsRow w.heap.size 5 1 v (2 * k) ((spreadL (s.data.toList.take k)).map byteV) ∧ Below w.heap.size w wr) (fun _ i _ => s.size - (intOf i).toNat)
 case atStart => exact ⟨0,Nat.zero_le _,rfl,HO.out,(Below.refl _ _).alloc (Nat.le_refl _) _⟩
 case round =>
  obtain ⟨k,hk,rfl,hown,hbel⟩ := hrel
  have HOWN := hide hown
  have HB := hide hbel
  clear hown hbel HO
  by_cases hlt : k < s.size
  ·have hbl := UInt8.toNat_lt s[k]
   have HS : Hid (spreadL (s.data.toList.take (k + 1)) = spreadL (s.data.toList.take k) ++ wordB (Ham.spread s[k].toNat)) := by
    show _ = _
    rw [take_snocB s k hlt,spreadL_snoc]
   obtain ⟨x,hx⟩ : ∃ x,x = Ham.spread s[k].toNat := ⟨_,rfl⟩
   have hx13 : x < 8192 := by rw [hx]; exact Ham.spread_lt hbl
   have HC : ∀ w,Hid (Calls Try.prog 79 #[.int .i64 (s[k].toNat : Int)] w fun e w' => e = .returned (.int .i64 (x : Int)) ∧ Below w.heap.size w w') := fun w => by
    rw [hx]; exact l4Spread_any s[k].toNat w hbl
   rw [<- hx] at HS
   clear hx
   go_wp2_with fail
   refine (HC _).out.mono ?_
   rintro e w1 ⟨rfl,b1⟩
   have hB1 := HB.out.trans (b1.mono HB.out.size)
   have HO1 := hide ((own_aside HOWN.out (aside_of_below (lo := 0) (hi := 0) b1) (by omega)).alloc (.cells #[.int .u8 ((x : Int) / 256),.int .u8 ((x : Int) % 256)] 5))
   have HB1 := hide (hB1.alloc hB1.size (.cells #[.int .u8 ((x : Int) / 256),.int .u8 ((x : Int) % 256)] 5))
   clear hB1 b1 HOWN HB HC
   go_wp2_with (at_builtin; (refine wpList_append_own _ rfl (.tmp 18) (.tmp 25) 22 rfl w.heap.size 5 i0 (.int .u8 0) 1 1 Try.underlying22 hi0 hz0 hz1 hz2 rfl (by decide) _ _ _ rfl HO1.out ⟨w1.heap.size,0,none⟩ 2 2 [.int .u8 ((x : Int) / 256),.int .u8 ((x : Int) % 256)] rfl rfl (cells_two_new _ _ _ _) (two_one _ _) (by unfold maxLen; omega) (by omega) HB1.out.size ?_); intro v' w2 hown2 hgrow2 _; have HO2 := hide hown2; have HB2 := hide (HB1.out.grown hgrow2 HB1.out.size (fun k hk => (HO1.out.lt k hk).1)); clear hown2 hgrow2)
   go_roundw
   case rel =>
    refine ⟨k + 1,by omega,by go_num,?_,HB2.out⟩
    rw [HS.out,List.map_append,wordB_vals x hx13,show 2 * (k + 1) = 2 * k + 2 by omega]
    exact HO2.out
   case measure => simp [intOf]; omega
  ·obtain ⟨a,cp,rfl,hcp,hown⟩ := ownBytes_of HOWN.out (Nat.le_refl _)
   have hst := string_of (P := Try.prog) ⟨hown.1,hown.2.reads⟩ 22 9 5 cp Try.underlying22 Try.underlying5 Try.underlying9
   clear hown HOWN
   go_wp2_with fail
   go_ret
   exact ⟨ret_str (by rw [List.take_of_length_le (by simp; omega)]; rfl),HB.out⟩
end Go.Proofs.Ytfogmdnkpkofiaa
end

section
namespace Go.Proofs.Ytfogmdnkpkofiaa
open Go.RowKit
set_option linter.unusedVariables false
set_option maxRecDepth 20000
theorem bytes_of {w : World} {a : Option Addr} {len cap : Nat} {zs : List Int} (h : (a = none ∧ len = 0 ∧ cap = 0 ∧ zs = []) ∨ ∃ x,a = some x ∧ len <= cap ∧ cap <= maxLen ∧ zs.length = cap ∧ (∀ i,i < zs.length -> w.cell? (x.add i) = some (.int .u8 (zs.getD i 0))) ∧ ∀ n ∈ zs,(Lit.int .u8 n).wf = true) : Bytes 0 w.heap.size w a len ((zs.take len).map fun z => UInt8.ofNat z.toNat) := by
 rcases h with ⟨rfl,rfl,rfl,rfl⟩ | ⟨x,rfl,hl,hm,hz,hc,hw⟩
 ·exact ⟨rfl,Nat.le_refl _,fun h => absurd h (Nat.lt_irrefl _)⟩
 ·refine ⟨by rw [List.length_map,List.length_take]; omega,Nat.le_refl _,fun hn => ?_⟩
  obtain ⟨b,off,spot⟩ := x
  have h0 := hc 0 (by omega)
  have hs : spot = none := by simpa [Addr.add] using World.cell?_spot h0
  subst hs
  refine ⟨b,off,rfl,Nat.zero_le _,World.block_lt_of_cell? _ _ h0,fun i hi => ?_⟩
  have hi' : w.cell? ⟨b,off + i,none⟩ = some (.int .u8 (zs.getD i 0)) := by
   have hi'' := hc i (by omega)
   simp only [Addr.add] at hi''
   split at hi''
   ·rename_i e; subst e; exact hi''
   ·exact hi''
  have hil : i < zs.length := by omega
  have hwf := bounds_u8 (hw (zs.getD i 0) (by rw [List.getD_eq_getElem?_getD,List.getElem?_eq_getElem hil]; exact List.getElem_mem hil))
  have e : ((zs.take len).map fun z => UInt8.ofNat z.toNat).getD i 0 = UInt8.ofNat (zs.getD i 0).toNat := by
   rw [List.getD_eq_getElem?_getD,List.getElem?_map,List.getElem?_take,if_pos hi,List.getD_eq_getElem?_getD,List.getElem?_eq_getElem hil]; rfl
  rw [hi',cellB,e,UInt8.toNat_ofNat']
  congr 2
  omega
set_option maxHeartbeats 400000 in
theorem big_any (a : Option Addr) (n cap : Nat) (w : World) (hn : n <= 9223372036854775807) :
  Calls Try.prog 6 #[.slice a n cap] w fun e w' => e = .returned (.bool (decide (4096 < n))) ∧ w = w' := by
 by_cases h : 4096 < n
 ·go_enter Try.func6,Try.ntmps6
  go_wp2
  go_ret
  exact ⟨by simp [h]; omega,rfl⟩
 ·go_enter Try.func6,Try.ntmps6
  go_wp2
  go_ret
  exact ⟨by simp [h]; omega,rfl⟩
end Go.Proofs.Ytfogmdnkpkofiaa
end

