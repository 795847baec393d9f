/- Several texts in one: PageMath, PageLaidS. -/
import Derived.Test.YtfogmdnkpkofiaaRPageBase
import Derived.Test.YtfogmdnkpkofiaaRBase
import Derived.Test.YtfogmdnkpkofiaaRCheckSpec
import Derived.Test.YtfogmdnkpkofiaaRWeaveSpec2
import Derived.Test.YtfogmdnkpkofiaaRWalkB1
section
namespace Go.Proofs.Ytfogmdnkpkofiaa
open Go.RowKit
set_option linter.unusedVariables false
def headL (K A S n : Nat) : List UInt8 := [UInt8.ofNat K,UInt8.ofNat A,UInt8.ofNat (S / 65536),UInt8.ofNat (S / 256 % 256),UInt8.ofNat (S % 256),UInt8.ofNat n]
def bodyB (K A S : Nat) (x : ByteArray) : ByteArray := checked (str (headL K A S x.size) ++ x)
theorem bodyB_size (K A S : Nat) (x : ByteArray) : (bodyB K A S x).size = x.size + 8 := by
 unfold bodyB
 rw [checked_size,ByteArray.size_append]
 show 6 + x.size + 2 = x.size + 8
 omega
def laidB (K A S : Nat) (x : ByteArray) : ByteArray := str (spreadL [UInt8.ofNat (x.size + 8)]) ++ woven (str (spreadL (bodyB K A S x).data.toList)) 2
def laid (k a s : Int) (x : ByteArray) : ByteArray := if pageOk k a s x = true then laidB k.toNat a.toNat s.toNat x else ⟨#[]⟩
theorem lit_reads (w : World) (l : List UInt8) (cs : Array Value) (t : TypeId) (h : cs = (l.map fun b => Value.int .u8 (b.toNat : Int)).toArray) :
  Bytes w.heap.size (w.heap.size + 1) (w.alloc (.cells cs t)) (some ⟨w.heap.size,0,none⟩) l.length l := by
 subst h
 refine ⟨rfl,by simp,fun _ => ⟨w.heap.size,0,rfl,Nat.le_refl _,Nat.lt_succ_self _,fun i hi => ?_⟩⟩
 rw [World.cell?_alloc_new,Nat.zero_add]
 simp [cellB,List.getD_eq_getElem?_getD,List.getElem?_eq_getElem hi]
theorem page_ok {k a s : Int} {x : ByteArray} (h : pageOk k a s x = true) : ∃ K A S : Nat,k = (K : Int) ∧ a = (A : Int) ∧ s = (S : Int) ∧ K <= 2 ∧ A <= 63 ∧ 1 <= S ∧ S <= 1000000 ∧ x.size <= 24 := by
 rw [pageOk_iff] at h
 have h := of_decide_eq_true h
 exact ⟨k.toNat,a.toNat,s.toNat,by omega,by omega,by omega,by omega,by omega,by omega,by omega,by omega⟩
theorem head_cells {K A S n : Nat} (hK : K <= 2) (hA : A <= 63) (hS : S <= 1000000) (hn : n <= 24) :
  #[Value.int .u8 (K : Int),.int .u8 (A : Int),.int .u8 ((S : Int) / 65536),.int .u8 ((S : Int) / 256 % 256),.int .u8 ((S : Int) % 256),.int .u8 (n : Int)] = ((headL K A S n).map fun b => Value.int .u8 (b.toNat : Int)).toArray := by
 simp only [headL,List.map_cons,List.map_nil,UInt8.toNat_ofNat']
 rw [Nat.mod_eq_of_lt (show K < 2 ^ 8 by omega),Nat.mod_eq_of_lt (show A < 2 ^ 8 by omega),Nat.mod_eq_of_lt (show S / 65536 < 2 ^ 8 by omega),Nat.mod_eq_of_lt (show S / 256 % 256 < 2 ^ 8 by omega),Nat.mod_eq_of_lt (show S % 256 < 2 ^ 8 by omega),Nat.mod_eq_of_lt (show n < 2 ^ 8 by omega)]
 simp
theorem one_cell {n : Nat} (hn : n < 256) : #[Value.int .u8 (n : Int)] = (([UInt8.ofNat n] : List UInt8).map fun b => Value.int .u8 (b.toNat : Int)).toArray := by
 simp only [List.map_cons,List.map_nil,UInt8.toNat_ofNat']
 rw [Nat.mod_eq_of_lt (show n < 2 ^ 8 by omega)]
theorem str_size (l : List UInt8) : (str l).size = l.length := rfl
theorem laid_yes {K A S : Nat} {x : ByteArray} (h : pageOk (K : Int) (A : Int) (S : Int) x = true) : laid K A S x = laidB K A S x := by simp [laid,h]
theorem laid_no {k a s : Int} {x : ByteArray} (h : pageOk k a s x = false) : laid k a s x = ⟨#[]⟩ := by simp [laid,h]
theorem woven_size_le (s : ByteArray) (d : Int) : (woven s d).size <= s.size := by
 unfold woven
 split
 ·rw [str_size,Wv.wovenL_length]; simp
 ·exact Nat.zero_le _
theorem spread_len (l : List UInt8) : (str (spreadL l)).size = 2 * l.length := by rw [str_size,spreadL_length]
end Go.Proofs.Ytfogmdnkpkofiaa
end

section
namespace Go.Proofs.Ytfogmdnkpkofiaa
open Go.RowKit
set_option linter.unusedVariables false
set_option maxRecDepth 20000
set_option maxHeartbeats 1600000 in
theorem l7Laid_any (K A S : Nat) (x : ByteArray) (w : World) (hK : K <= 2) (hA : A <= 63) (hS : S <= 1000000) (hx : x.size <= 24) :
  Calls Try.prog 69 #[.agg #[.int .i64 (K : Int),.int .i64 (A : Int),.int .i64 (S : Int),.string x]] w fun e w' => e = .returned (.string (laidB K A S x)) ∧ Below w.heap.size w w' := by
 have hst := string_of (P := Try.prog) (lit_reads (w.alloc (.cells #[.int .i64 (K : Int),.int .i64 (A : Int),.int .i64 (S : Int),.string x] 82)) (headL K A S x.size) _ 5 (head_cells hK hA hS hx)) 22 9 5 6 Try.underlying22 Try.underlying5 Try.underlying9
 rw [show (w.alloc (.cells #[.int .i64 (K : Int),.int .i64 (A : Int),.int .i64 (S : Int),.string x] 82)).heap.size = w.heap.size + 1 from by simp] at hst
 change (convert 22 9 (.slice _ 6 6)).run _ _ = _ at hst
 obtain ⟨h6,h6e⟩ : ∃ h6,h6 = str (headL K A S x.size) := ⟨_,rfl⟩
 rw [show (⟨(headL K A S x.size).toArray⟩ : ByteArray) = h6 from h6e.symm] at hst
 have hz6 : h6.size = 6 := by rw [h6e]; rfl
 have HE : Hid (checked (h6 ++ x) = bodyB K A S x) := by show _ = _; rw [h6e]; rfl
 have HB0 := hide ((((Below.refl w.heap.size w).alloc (Nat.le_refl _) (.cells #[.int .i64 (K : Int),.int .i64 (A : Int),.int .i64 (S : Int),.string x] 82)).alloc (by simp) (.cells #[.int .u8 (K : Int),.int .u8 (A : Int),.int .u8 ((S : Int) / 65536),.int .u8 ((S : Int) / 256 % 256),.int .u8 ((S : Int) % 256),.int .u8 (x.size : Int)] 5)))
 clear h6e
 go_enter Try.func69,Try.ntmps69
 go_wp2_with fail
 refine (specChecked_any _ _ (by rw [ByteArray.size_append]; omega)).mono ?_
 rw [HE.out]
 rintro e w1 ⟨rfl,b1⟩
 have hbz := bodyB_size K A S x
 obtain ⟨bd,hbd⟩ : ∃ bd,bd = bodyB K A S x := ⟨_,rfl⟩
 rw [<- hbd] at hbz ⊢
 have HBD := hide hbd
 have HB1 := hide (below_here HB0.out b1)
 clear hst hbd HE HB0 b1
 have hst := string_of (P := Try.prog) (lit_reads w1 [UInt8.ofNat bd.size] _ 5 (one_cell (by omega))) 22 9 5 1 Try.underlying22 Try.underlying5 Try.underlying9
 change (convert 22 9 (.slice _ 1 1)).run _ _ = _ at hst
 obtain ⟨h1,h1e⟩ : ∃ h1,h1 = str [UInt8.ofNat bd.size] := ⟨_,rfl⟩
 rw [show (⟨([UInt8.ofNat bd.size] : List UInt8).toArray⟩ : ByteArray) = h1 from h1e.symm] at hst
 have hz1 : h1.size = 1 := by rw [h1e]; rfl
 have hbd255 : bd.size <= 255 := by omega
 have HBZ := hide hbz
 have H1E := hide h1e
 have HB2 := hide (HB1.out.alloc HB1.out.size (.cells #[.int .u8 (bd.size : Int)] 5))
 clear hbz h1e HB1
 go_wp2_with fail
 refine (l4SpreadAll_any h1 _ (by omega)).mono ?_
 rintro e w2 ⟨rfl,b2⟩
 have HB3 := hide (below_here HB2.out b2)
 clear b2 HB2 hst
 obtain ⟨t1,ht1⟩ : ∃ t1,t1 = str (spreadL h1.data.toList) := ⟨_,rfl⟩
 rw [<- ht1]
 have hs1 : t1.size = 2 := by rw [ht1,spread_len]; simp; omega
 have HT1 := hide ht1
 clear ht1
 go_wp2_with fail
 refine (l4SpreadAll_any bd _ (by omega)).mono ?_
 rintro e w3 ⟨rfl,b3⟩
 have HB4 := hide (below_here HB3.out b3)
 clear b3 HB3
 obtain ⟨t2,ht2⟩ : ∃ t2,t2 = str (spreadL bd.data.toList) := ⟨_,rfl⟩
 rw [<- ht2]
 have hs2 : t2.size <= 510 := by rw [ht2,spread_len]; simp; omega
 have HT2 := hide ht2
 clear ht2
 go_wp2_with fail
 refine (specWoven_any t2 2 _ (by omega)).mono ?_
 rintro e w4 ⟨rfl,b4⟩
 have HB5 := hide (below_here HB4.out b4)
 clear b4 HB4
 obtain ⟨t3,ht3⟩ : ∃ t3,t3 = woven t2 2 := ⟨_,rfl⟩
 rw [<- ht3]
 have hs3 : t3.size <= 510 := by rw [ht3]; exact Nat.le_trans (woven_size_le _ _) hs2
 have HT3 := hide ht3
 clear ht3
 go_wp2_with fail
 go_ret
 refine ⟨ret_str ?_,HB5.out⟩
 unfold laidB
 rw [HT3.out,HT2.out,HT1.out,H1E.out,HBD.out,bodyB_size]
 rfl
set_option maxHeartbeats 800000 in
theorem specLaid_any (k a s : Int) (x : ByteArray) (w : World) :
  Calls Try.prog 52 #[.agg #[.int .i64 k,.int .i64 a,.int .i64 s,.string x]] w fun e w' => e = .returned (.string (laid k a s x)) ∧ Below w.heap.size w w' := by
 have HO := hide (heap_new w (.cells #[.int .i64 k,.int .i64 a,.int .i64 s,.string x] 82))
 have HZ := hide ((Below.refl w.heap.size w).alloc (Nat.le_refl _) (.cells #[.int .i64 k,.int .i64 a,.int .i64 s,.string x] 82))
 cases hp : pageOk k a s x
 ·have HE := hide (laid_no hp)
  go_enter Try.func52,Try.ntmps52
  go_wp2_with fail
  refine (specPageOk_any k a s x _).mono ?_
  rw [hp]
  rintro e w1 ⟨rfl,b1⟩
  have HB := hide (below_here HZ.out b1)
  clear b1 HZ HO
  go_wp2_with fail
  go_ret
  exact ⟨ret_str HE.out.symm,HB.out⟩
 ·have hok := hp
  obtain ⟨K,A,S,rfl,rfl,rfl,hK,hA,hS1,hS,hx⟩ := page_ok hp
  have HE := hide (laid_yes hok)
  go_enter Try.func52,Try.ntmps52
  go_wp2_with fail
  refine (specPageOk_any _ _ _ x _).mono ?_
  rw [hp]
  rintro e w1 ⟨rfl,b1⟩
  have H1 := hide (block_on HO.out b1)
  have HB := hide (below_here HZ.out b1)
  obtain ⟨c0,c1,c2,c3⟩ := four_cells H1.out
  clear b1 HZ HO
  go_wp2_with fail
  refine (l7Laid_any K A S x _ hK hA hS hx).mono ?_
  rintro e w2 ⟨rfl,b2⟩
  have HB2 := hide (below_here HB.out b2)
  clear b2 HB c0 c1 c2 c3 H1
  go_wp2_with fail
  go_ret
  exact ⟨ret_str HE.out.symm,HB2.out⟩
end Go.Proofs.Ytfogmdnkpkofiaa
end

