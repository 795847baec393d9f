/- . -/
import Derived.Test.YtfogmdnkpkofiaaRWalkB1
import Derived.Test.YtfogmdnkpkofiaaRBase
import Derived.Laws.ResultCell
import Derived.RegionTactic
import Derived.BigRegion
namespace Go.Proofs.Ytfogmdnkpkofiaa
open Go.RowKit
set_option linter.unusedVariables false
set_option maxRecDepth 20000
def woven (s : ByteArray) (d : Int) : ByteArray := if woveOk s d = true then str (Wv.wovenL s.data.toList d.toNat) else ⟨#[]⟩
def unwoven (s : ByteArray) (d : Int) : ByteArray := if woveOk s d = true then str (Wv.unwovenL s.data.toList d.toNat) else ⟨#[]⟩
theorem woven_no {s : ByteArray} {d : Int} (h : woveOk s d = false) : woven s d = ⟨#[]⟩ := by simp [woven,h]
theorem woven_yes {s : ByteArray} {D : Nat} (h : woveOk s (D : Int) = true) : woven s (D : Int) = str (Wv.wovenL s.data.toList D) := by simp [woven,h]
theorem index_at' {P : Program} (t : TypeId) (ht : P.underlying t = some .string) (s : ByteArray) (k : Nat) (h : k < s.size) (A : Nat) (hA : A = s[k].toNat) :
  ∀ w,(Instr.index t (.string s) (.int .i64 (k : Int))).run P w = .ok (.int .u8 (A : Int)) w := by
 intro w
 rw [run_index_string (P := P) w t s .i64 (k : Int) ht]
 simp [h,hA]
theorem order_cells {w : World} {base n d : Nat} {v : Value} (h : w.ownsRow base 2 1 v n ((Wv.order n d).map natV)) (hd : 0 < d) :
  ∃ a cap,v = .slice a n cap ∧ n <= cap ∧ Owned base w.heap.size w a n (fun i => .int .i64 (Wv.num n d i : Int)) := by
 obtain ⟨a,cap,rfl,hcap,hlen,_,how⟩ := owned_of_own h
 refine ⟨a,cap,rfl,hcap,how.congr (fun i hi => ?_)⟩
 have hl := Wv.order_length (n := n) hd
 unfold Wv.num
 rw [List.getD_eq_getElem?_getD,List.getD_eq_getElem?_getD,List.getElem?_map,List.getElem?_eq_getElem (by omega)]
 rfl
theorem own_other {w w' : World} {base e n base' e' n' : Nat} {v v' : Value} {xs xs' : List Value} (h : w.ownsRow base e 1 v n xs) (h' : w.ownsRow base' e' 1 v' n' xs') (hg : w.grownBy w' v'.ownBlock) (he : e ≠ e') : w'.ownsRow base e 1 v n xs := by
 obtain ⟨h1,h2⟩ := h
 refine ⟨h1,?_⟩
 rcases h2 with hn | ⟨g,cap,cur,rfl,hbg,hgg,rest⟩
 ·exact .inl hn
 ·refine .inr ⟨g,cap,cur,rfl,hbg,(hg.block g (Array.getElem?_eq_some_iff.1 hgg).1 fun ek => ?_).trans hgg,rest⟩
  rcases h'.2 with ⟨rfl,_⟩ | ⟨g',cap',cur',rfl,_,hgg',_⟩
  ·simp [Value.ownBlock] at ek
  ·simp only [Value.ownBlock,Option.some.injEq] at ek
   subst ek
   rw [hgg] at hgg'
   simp only [Option.some.injEq,Obj.cells.injEq] at hgg'
   exact he hgg'.2.1
set_option maxHeartbeats 1600000 in
theorem specWoven_any (s : ByteArray) (d : Int) (w : World) (hs : s.size <= 1048576) :
  Calls Try.prog 77 #[.string s,.int .i64 d] w fun e w' => e = .returned (.string (woven s d)) ∧ Below w.heap.size w w' := by
 cases hb : woveOk s d
 ·have HE := hide (woven_no hb)
  go_enter Try.func77,Try.ntmps77
  go_wp2_with fail
  refine (l5Told_any _ _ _ hs).mono ?_
  rw [hb]
  rintro e w1 ⟨rfl,rfl⟩
  go_wp2_with fail
  go_ret
  exact ⟨ret_str HE.out.symm,Below.refl _ _⟩
 ·have HB0 := hide hb
  obtain ⟨D,rfl,hD1,hD16,hs6⟩ := woveOk_yes hb
  have HE := hide (woven_yes hb)
  clear hb
  obtain ⟨i0,hi0,hz0,hz1,hz2⟩ := info_parts Try.infoU8d
  have HO := hide (own_made0 w 5)
  go_enter Try.func77,Try.ntmps77
  go_wp2_with fail
  refine (l5Told_any _ _ _ hs).mono ?_
  rw [HB0.out]
  rintro e w1 ⟨rfl,rfl⟩
  go_wp2_with fail
  refine (l5Order_own s.size D _ hs6 hD1 hD16).mono ?_
  rintro e w2 ⟨v,rfl,hown,hbel⟩
  have HO2 := hide (own_aside HO.out (aside_of_below (lo := 0) (hi := 0) hbel) (by omega))
  have HB := hide ((((Below.refl w.heap.size w).alloc (Nat.le_refl _) (.cells #[] 5)).trans (hbel.mono (by simp))))
  obtain ⟨ao,co,rfl,hco,_⟩ := order_cells hown hD1
  have HOR := hide hown
  clear hown hbel HO
  go_wp2_with fail
  go_loopw [5,7] (fun v i wr => ∃ k : Nat,k <= s.size ∧ i = .int .i64 (k : Int) ∧ wr.ownsRow w.heap.size 5 1 v k (((Wv.wovenL s.data.toList D).take k).map byteV) ∧ wr.ownsRow (w.alloc (.cells #[] 5)).heap.size 2 1 (.slice ao s.size co) s.size ((Wv.order s.size D).map natV) ∧ Below w.heap.size w wr) (fun _ i _ => s.size - (intOf i).toNat)
  case atStart => exact ⟨0,Nat.zero_le _,rfl,HO2.out,HOR.out,HB.out⟩
  case round =>
   obtain ⟨k,hk,rfl,hown,hor,hbel⟩ := hrel
   clear HO2 HOR HB
   by_cases hlt : k < s.size
   ·obtain ⟨_,_,e0,_,hcs⟩ := order_cells hor hD1
    simp only [Value.slice.injEq] at e0
    obtain ⟨rfl,_,rfl⟩ := e0
    obtain ⟨b,off,rfl,_,_,hcell⟩ := hcs.2 (by omega)
    have hck : wr.cell? ⟨b,off + k,none⟩ = some (.int .i64 (Wv.num s.size D k : Int)) := (hcell k hlt).1
    have hnl := Wv.num_lt (n := s.size) (d := D) hD1 hlt
    obtain ⟨q,hq⟩ : ∃ q,q = Wv.num s.size D k := ⟨_,rfl⟩
    rw [<- hq] at hck hnl
    obtain ⟨u,hu⟩ : ∃ u,u = s[q] := ⟨_,rfl⟩
    have HU : Hid ((Wv.wovenL s.data.toList D).take (k + 1) = (Wv.wovenL s.data.toList D).take k ++ [u]) := by
     show _ = _
     have hl : (Wv.wovenL s.data.toList D).length = s.size := by rw [Wv.wovenL_length]; simp
     rw [List.take_succ_eq_append_getElem (by omega)]
     congr 2
     have h1 := Wv.wovenL_at s.data.toList D k (by simp; omega)
     rw [List.getD_eq_getElem?_getD,List.getElem?_eq_getElem (by omega)] at h1
     simp only [Option.getD_some] at h1
     rw [h1,hu,show s.data.toList.length = s.size by simp,<- hq,byte_at s q hnl]
    have hx := index_at' (P := Try.prog) 9 Try.underlying9 s q hnl u.toNat (by rw [hu])
    have hu8 := UInt8.toNat_lt u
    have HO1 := hide (hown.alloc (.cells #[.int .u8 (u.toNat : Int)] 5))
    have HR1 := hide (hor.alloc (.cells #[.int .u8 (u.toNat : Int)] 5))
    have HB1 := hide (hbel.alloc hbel.size (.cells #[.int .u8 (u.toNat : Int)] 5))
    have HQ := hide hq
    clear hown hor hbel hcell hcs hq hu
    go_wp2_with (at_builtin; (refine wpList_append_own _ rfl (.tmp 23) (.tmp 30) 22 rfl w.heap.size 5 i0 (.int .u8 0) 1 1 Try.underlying22 hi0 hz0 hz1 hz2 rfl (by decide) _ _ _ rfl HO1.out ⟨wr.heap.size,0,none⟩ 1 1 [.int .u8 (u.toNat : Int)] rfl rfl (cell_one_new _ _ _) (byteV_one u) (by unfold maxLen; omega) (by omega) HB1.out.size ?_); intro v' w3 hown2 hgrow2 _; have HO3 := hide hown2; have HR3 := hide (own_other HR1.out HO1.out hgrow2 (by decide)); have HB3 := hide (HB1.out.grown hgrow2 HB1.out.size (fun k hk => (HO1.out.lt k hk).1)); clear hown2 hgrow2)
    go_roundw
    case rel => exact ⟨k + 1,by omega,by go_num,by rw [HU.out,List.map_append]; exact HO3.out,HR3.out,HB3.out⟩
    case measure => simp [intOf]; omega
   ·obtain ⟨a,cp,rfl,hcp,hown⟩ := ownBytes_of hown (Nat.le_refl _)
    have hst := string_of (P := Try.prog) ⟨hown.1,hown.2.reads⟩ 22 9 5 cp Try.underlying22 Try.underlying5 Try.underlying9
    have HB1 := hide hbel
    clear hown hor hbel
    go_wp2_with fail
    go_ret
    exact ⟨ret_str (by rw [HE.out,List.take_of_length_le (by rw [Wv.wovenL_length]; simp; omega)]; rfl),HB1.out⟩
end Go.Proofs.Ytfogmdnkpkofiaa
