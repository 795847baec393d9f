/- . -/
import Derived.Test.YtgjoepdfhadmcaaGreatDoorMPageMath
import Derived.Test.YtgjoepdfhadmcaaGreatDoorMPageBase
import Derived.Test.YtgjoepdfhadmcaaGreatDoorMWalkB1
import Derived.Test.YtgjoepdfhadmcaaGreatDoorMWeaveIter
import Derived.Test.YtgjoepdfhadmcaaGreatDoorMCheckSpec
namespace Go.Proofs.YtgjoepdfhadmcaaGreatDoor
open Go.RowKit
set_option linter.unusedVariables false
set_option maxRecDepth 20000
set_option maxHeartbeats 1600000 in
theorem bodyOf_any (K A S:Nat)(x:ByteArray)(w:World)(hK:K<=2)(hA:A<=63)(hS:S<=1000000)(hx:x.size<=24) :
  Calls Tryz.prog 187 #[.agg #[.int .i64 (K:Int),.int .i64 (A:Int),.int .i64 (S:Int),.string x]] w fun e w'=>e=.returned (.string (bodyB K A S x))∧Below w.heap.size w w':=by
 have hst:=string_of (P:=Tryz.prog) (lit_reads (w.alloc (.cells #[.int .i64 (K:Int),.int .i64 (A:Int),.int .i64 (S:Int),.string x] 31)) (headL K A S x.size) _ 5 (head_cells hK hA hS hx)) 22 9 5 6 Tryz.underlying22 Tryz.underlying5 Tryz.underlying9
 rw[show(w.alloc (.cells #[.int .i64 (K:Int),.int .i64 (A:Int),.int .i64 (S:Int),.string x] 31)).heap.size=w.heap.size+1 from by simp] at hst
 change (convert 22 9 (.slice _ 6 6)).run _ _=_ at hst
 obtain⟨h6,h6e⟩:∃h6,h6=str (headL K A S x.size):=⟨_,rfl⟩
 rw[show(⟨(headL K A S x.size).toArray⟩:ByteArray)=h6 from h6e.symm] at hst
 have hz6:h6.size=6:=by rw[h6e];rfl
 have HE:Hid (checked (h6++x)=bodyB K A S x):=by show _=_;rw[h6e];rfl
 have HB0:=hide ((((Below.refl w.heap.size w).alloc (Nat.le_refl _) (.cells #[.int .i64 (K:Int),.int .i64 (A:Int),.int .i64 (S:Int),.string x] 31)).alloc (by simp) (.cells #[.int .u8 (K:Int),.int .u8 (A:Int),.int .u8 ((S:Int) / 65536),.int .u8 ((S:Int) / 256 % 256),.int .u8 ((S:Int) % 256),.int .u8 (x.size:Int)] 5)))
 clear h6e
 go_enter Tryz.func187,Tryz.ntmps187
 go_wp2_with fail
 refine(implChecked_any _ _ (by rw[ByteArray.size_append];omega)).mono ?_
 rw[HE.out]
 rintro e w1 ⟨rfl,b1⟩
 have HB1:=hide (below_here HB0.out b1)
 clear hst HE HB0 b1
 go_wp2_with fail
 go_ret
 exact⟨rfl,HB1.out⟩
set_option maxHeartbeats 1600000 in
theorem implLaid_any (k a s:Int)(x:ByteArray)(w:World)(hT:Tab w) :
  Calls Tryz.prog 153 #[.agg #[.int .i64 k,.int .i64 a,.int .i64 s,.string x]] w fun e w'=>e=.returned (.string (laid k a s x))∧Below w.heap.size w w':=by
 have HT:=hide hT
 clear hT
 have HO:=hide (heap_new w (.cells #[.int .i64 k,.int .i64 a,.int .i64 s,.string x] 31))
 have HZ:=hide ((Below.refl w.heap.size w).alloc (Nat.le_refl _) (.cells #[.int .i64 k,.int .i64 a,.int .i64 s,.string x] 31))
 cases hp:pageOk k a s x
 ·have HE:=hide (laid_no hp)
  go_enter Tryz.func153,Tryz.ntmps153
  go_wp2_with fail
  refine(implPageOk_any k a s x _).mono ?_
  rw[hp]
  rintro e w1 ⟨rfl,b1⟩
  have HB:=hide (below_here HZ.out b1)
  clear b1 HZ HO
  go_wp2_with fail
  go_ret
  exact⟨ret_str HE.out.symm,HB.out⟩
 ·have hok:=hp
  obtain⟨K,A,S,rfl,rfl,rfl,hK,hA,hS1,hS,hx⟩:=page_ok hp
  have HE:=hide (laid_yes hok)
  go_enter Tryz.func153,Tryz.ntmps153
  go_wp2_with fail
  refine(implPageOk_any _ _ _ x _).mono ?_
  rw[hp]
  rintro e w1 ⟨rfl,b1⟩
  have H1:=hide (block_on HO.out b1)
  have HB:=hide (below_here HZ.out b1)
  obtain⟨c0,c1,c2,c3⟩:=four_cells H1.out
  clear b1 HZ HO
  go_wp2_with fail
  refine(bodyOf_any K A S x _ hK hA hS hx).mono ?_
  rintro e w2 ⟨rfl,b2⟩
  have HB2:=hide (below_here HB.out b2)
  clear b2 HB c0 c1 c2 c3 H1
  have hbz:=bodyB_size K A S x
  obtain⟨bd,hbd⟩:∃bd,bd=bodyB K A S x:=⟨_,rfl⟩
  rw[<- hbd] at hbz ⊢
  have HBD:=hide hbd
  clear hbd
  have hst:=string_of (P:=Tryz.prog) (lit_reads w2 [UInt8.ofNat bd.size] _ 5 (one_cell (by omega))) 22 9 5 1 Tryz.underlying22 Tryz.underlying5 Tryz.underlying9
  change (convert 22 9 (.slice _ 1 1)).run _ _=_ at hst
  obtain⟨h1,h1e⟩:∃h1,h1=str [UInt8.ofNat bd.size]:=⟨_,rfl⟩
  rw[show(⟨([UInt8.ofNat bd.size]:List UInt8).toArray⟩:ByteArray)=h1 from h1e.symm] at hst
  have hz1:h1.size=1:=by rw[h1e];rfl
  have hbd255:bd.size<=255:=by omega
  have HBZ:=hide hbz
  have H1E:=hide h1e
  have HB3:=hide (HB2.out.alloc HB2.out.size (.cells #[.int .u8 (bd.size:Int)] 5))
  clear hbz h1e HB2
  go_wp2_with fail
  refine(implSpreadAll_small h1 _ (by omega) (HT.out.here HB3.out)).mono ?_
  rintro e w3 ⟨rfl,b3⟩
  have HB4:=hide (below_here HB3.out b3)
  clear b3 HB3 hst
  obtain⟨t1,ht1⟩:∃t1,t1=str (spreadL h1.data.toList):=⟨_,rfl⟩
  rw[<- ht1]
  have hs1:t1.size=2:=by rw[ht1,spread_len];simp;omega
  have HT1:=hide ht1
  clear ht1
  go_wp2_with fail
  refine(implSpreadAll_small bd _ (by omega) (HT.out.here HB4.out)).mono ?_
  rintro e w4 ⟨rfl,b4⟩
  have HB5:=hide (below_here HB4.out b4)
  clear b4 HB4
  obtain⟨t2,ht2⟩:∃t2,t2=str (spreadL bd.data.toList):=⟨_,rfl⟩
  rw[<- ht2]
  have hs2:t2.size<=510:=by rw[ht2,spread_len];simp;omega
  have HT2:=hide ht2
  clear ht2
  go_wp2_with fail
  refine(implWoven_any t2 2 _ (by omega)).mono ?_
  rintro e w5 ⟨rfl,b5⟩
  have HB6:=hide (below_here HB5.out b5)
  clear b5 HB5
  obtain⟨t3,ht3⟩:∃t3,t3=woven t2 2:=⟨_,rfl⟩
  rw[<- ht3]
  have hs3:t3.size<=510:=by rw[ht3];exact Nat.le_trans (woven_size_le _ _) hs2
  have HT3:=hide ht3
  clear ht3
  go_wp2_with fail
  go_ret
  refine⟨ret_str ?_,HB6.out⟩
  rw[HE.out]
  unfold laidB
  rw[HT3.out,HT2.out,HT1.out,H1E.out,HBD.out,bodyB_size]
  rfl
end Go.Proofs.YtgjoepdfhadmcaaGreatDoor
