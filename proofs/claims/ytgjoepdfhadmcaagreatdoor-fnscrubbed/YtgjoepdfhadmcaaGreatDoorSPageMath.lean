/- Several texts in one: PageMath, PageLaidS, LyMath, PageLaw, LySpecB2, LySpec. -/
import Derived.Test.YtgjoepdfhadmcaaGreatDoorSPageBase
import Derived.Test.YtgjoepdfhadmcaaGreatDoorSBase
import Derived.Test.YtgjoepdfhadmcaaGreatDoorSCheckSpec
import Derived.Test.YtgjoepdfhadmcaaGreatDoorSWeaveSpec2
import Derived.Test.YtgjoepdfhadmcaaGreatDoorSWeaveSpec
import Derived.BigRegion
import Derived.Lib.QuietBelow
import Derived.BigQuiet
import Derived.Deep.RegionHeld3
section
namespace Go.Proofs.YtgjoepdfhadmcaaGreatDoor
open Go.RowKit
set_option linter.unusedVariables false
def headL (K A S n : Nat) : List UInt8 := [UInt8.ofNat K,UInt8.ofNat A,UInt8.ofNat (S / 65536),UInt8.ofNat (S / 256 % 256),UInt8.ofNat (S % 256),UInt8.ofNat n]
def bodyB (K A S : Nat) (x : ByteArray) : ByteArray := checked (str (headL K A S x.size) ++ x)
theorem bodyB_size (K A S : Nat) (x : ByteArray) : (bodyB K A S x).size = x.size + 8 := by
 unfold bodyB
 rw [checked_size,ByteArray.size_append]
 show 6 + x.size + 2 = x.size + 8
 omega
def laidB (K A S : Nat) (x : ByteArray) : ByteArray := str (spreadL [UInt8.ofNat (x.size + 8)]) ++ woven (str (spreadL (bodyB K A S x).data.toList)) 2
def laid (k a s : Int) (x : ByteArray) : ByteArray := if pageOk k a s x = true then laidB k.toNat a.toNat s.toNat x else ⟨#[]⟩
theorem lit_reads (w : World) (l : List UInt8) (cs : Array Value) (t : TypeId) (h : cs = (l.map fun b => Value.int .u8 (b.toNat : Int)).toArray) :
  Bytes w.heap.size (w.heap.size + 1) (w.alloc (.cells cs t)) (some ⟨w.heap.size,0,none⟩) l.length l := by
 subst h
 refine ⟨rfl,by simp,fun _ => ⟨w.heap.size,0,rfl,Nat.le_refl _,Nat.lt_succ_self _,fun i hi => ?_⟩⟩
 rw [World.cell?_alloc_new,Nat.zero_add]
 simp [cellB,List.getD_eq_getElem?_getD,List.getElem?_eq_getElem hi]
theorem page_ok {k a s : Int} {x : ByteArray} (h : pageOk k a s x = true) : ∃ K A S : Nat,k = (K : Int) ∧ a = (A : Int) ∧ s = (S : Int) ∧ K <= 2 ∧ A <= 63 ∧ 1 <= S ∧ S <= 1000000 ∧ x.size <= 24 := by
 rw [pageOk_iff] at h
 have h := of_decide_eq_true h
 exact ⟨k.toNat,a.toNat,s.toNat,by omega,by omega,by omega,by omega,by omega,by omega,by omega,by omega⟩
theorem head_cells {K A S n : Nat} (hK : K <= 2) (hA : A <= 63) (hS : S <= 1000000) (hn : n <= 24) :
  #[Value.int .u8 (K : Int),.int .u8 (A : Int),.int .u8 ((S : Int) / 65536),.int .u8 ((S : Int) / 256 % 256),.int .u8 ((S : Int) % 256),.int .u8 (n : Int)] = ((headL K A S n).map fun b => Value.int .u8 (b.toNat : Int)).toArray := by
 simp only [headL,List.map_cons,List.map_nil,UInt8.toNat_ofNat']
 rw [Nat.mod_eq_of_lt (show K < 2 ^ 8 by omega),Nat.mod_eq_of_lt (show A < 2 ^ 8 by omega),Nat.mod_eq_of_lt (show S / 65536 < 2 ^ 8 by omega),Nat.mod_eq_of_lt (show S / 256 % 256 < 2 ^ 8 by omega),Nat.mod_eq_of_lt (show S % 256 < 2 ^ 8 by omega),Nat.mod_eq_of_lt (show n < 2 ^ 8 by omega)]
 simp
theorem one_cell {n : Nat} (hn : n < 256) : #[Value.int .u8 (n : Int)] = (([UInt8.ofNat n] : List UInt8).map fun b => Value.int .u8 (b.toNat : Int)).toArray := by
 simp only [List.map_cons,List.map_nil,UInt8.toNat_ofNat']
 rw [Nat.mod_eq_of_lt (show n < 2 ^ 8 by omega)]
theorem str_size (l : List UInt8) : (str l).size = l.length := rfl
theorem laid_yes {K A S : Nat} {x : ByteArray} (h : pageOk (K : Int) (A : Int) (S : Int) x = true) : laid K A S x = laidB K A S x := by simp [laid,h]
theorem laid_no {k a s : Int} {x : ByteArray} (h : pageOk k a s x = false) : laid k a s x = ⟨#[]⟩ := by simp [laid,h]
theorem woven_size_le (s : ByteArray) (d : Int) : (woven s d).size <= s.size := by
 unfold woven
 split
 ·rw [str_size,Wv.wovenL_length]; simp
 ·exact Nat.zero_le _
theorem spread_len (l : List UInt8) : (str (spreadL l)).size = 2 * l.length := by rw [str_size,spreadL_length]
end Go.Proofs.YtgjoepdfhadmcaaGreatDoor
end

section
namespace Go.Proofs.YtgjoepdfhadmcaaGreatDoor
open Go.RowKit
set_option linter.unusedVariables false
set_option maxRecDepth 20000
set_option maxHeartbeats 1600000 in
theorem l7Laid_any (K A S : Nat) (x : ByteArray) (w : World) (hK : K <= 2) (hA : A <= 63) (hS : S <= 1000000) (hx : x.size <= 24) :
  Calls Tryz.prog 159 #[.agg #[.int .i64 (K : Int),.int .i64 (A : Int),.int .i64 (S : Int),.string x]] w fun e w' => e = .returned (.string (laidB K A S x)) ∧ Below w.heap.size w w' := by
 have hst := string_of (P := Tryz.prog) (lit_reads (w.alloc (.cells #[.int .i64 (K : Int),.int .i64 (A : Int),.int .i64 (S : Int),.string x] 31)) (headL K A S x.size) _ 5 (head_cells hK hA hS hx)) 22 9 5 6 Tryz.underlying22 Tryz.underlying5 Tryz.underlying9
 rw [show (w.alloc (.cells #[.int .i64 (K : Int),.int .i64 (A : Int),.int .i64 (S : Int),.string x] 31)).heap.size = w.heap.size + 1 from by simp] at hst
 change (convert 22 9 (.slice _ 6 6)).run _ _ = _ at hst
 obtain ⟨h6,h6e⟩ : ∃ h6,h6 = str (headL K A S x.size) := ⟨_,rfl⟩
 rw [show (⟨(headL K A S x.size).toArray⟩ : ByteArray) = h6 from h6e.symm] at hst
 have hz6 : h6.size = 6 := by rw [h6e]; rfl
 have HE : Hid (checked (h6 ++ x) = bodyB K A S x) := by show _ = _; rw [h6e]; rfl
 have HB0 := hide ((((Below.refl w.heap.size w).alloc (Nat.le_refl _) (.cells #[.int .i64 (K : Int),.int .i64 (A : Int),.int .i64 (S : Int),.string x] 31)).alloc (by simp) (.cells #[.int .u8 (K : Int),.int .u8 (A : Int),.int .u8 ((S : Int) / 65536),.int .u8 ((S : Int) / 256 % 256),.int .u8 ((S : Int) % 256),.int .u8 (x.size : Int)] 5)))
 clear h6e
 go_enter Tryz.func159,Tryz.ntmps159
 go_wp2_with fail
 refine (specChecked_any _ _ (by rw [ByteArray.size_append]; omega)).mono ?_
 rw [HE.out]
 rintro e w1 ⟨rfl,b1⟩
 have hbz := bodyB_size K A S x
 obtain ⟨bd,hbd⟩ : ∃ bd,bd = bodyB K A S x := ⟨_,rfl⟩
 rw [<- hbd] at hbz ⊢
 have HBD := hide hbd
 have HB1 := hide (below_here HB0.out b1)
 clear hst hbd HE HB0 b1
 have hst := string_of (P := Tryz.prog) (lit_reads w1 [UInt8.ofNat bd.size] _ 5 (one_cell (by omega))) 22 9 5 1 Tryz.underlying22 Tryz.underlying5 Tryz.underlying9
 change (convert 22 9 (.slice _ 1 1)).run _ _ = _ at hst
 obtain ⟨h1,h1e⟩ : ∃ h1,h1 = str [UInt8.ofNat bd.size] := ⟨_,rfl⟩
 rw [show (⟨([UInt8.ofNat bd.size] : List UInt8).toArray⟩ : ByteArray) = h1 from h1e.symm] at hst
 have hz1 : h1.size = 1 := by rw [h1e]; rfl
 have hbd255 : bd.size <= 255 := by omega
 have HBZ := hide hbz
 have H1E := hide h1e
 have HB2 := hide (HB1.out.alloc HB1.out.size (.cells #[.int .u8 (bd.size : Int)] 5))
 clear hbz h1e HB1
 go_wp2_with fail
 refine (l4SpreadAll_any h1 _ (by omega)).mono ?_
 rintro e w2 ⟨rfl,b2⟩
 have HB3 := hide (below_here HB2.out b2)
 clear b2 HB2 hst
 obtain ⟨t1,ht1⟩ : ∃ t1,t1 = str (spreadL h1.data.toList) := ⟨_,rfl⟩
 rw [<- ht1]
 have hs1 : t1.size = 2 := by rw [ht1,spread_len]; simp; omega
 have HT1 := hide ht1
 clear ht1
 go_wp2_with fail
 refine (l4SpreadAll_any bd _ (by omega)).mono ?_
 rintro e w3 ⟨rfl,b3⟩
 have HB4 := hide (below_here HB3.out b3)
 clear b3 HB3
 obtain ⟨t2,ht2⟩ : ∃ t2,t2 = str (spreadL bd.data.toList) := ⟨_,rfl⟩
 rw [<- ht2]
 have hs2 : t2.size <= 510 := by rw [ht2,spread_len]; simp; omega
 have HT2 := hide ht2
 clear ht2
 go_wp2_with fail
 refine (specWoven_any t2 2 _ (by omega)).mono ?_
 rintro e w4 ⟨rfl,b4⟩
 have HB5 := hide (below_here HB4.out b4)
 clear b4 HB4
 obtain ⟨t3,ht3⟩ : ∃ t3,t3 = woven t2 2 := ⟨_,rfl⟩
 rw [<- ht3]
 have hs3 : t3.size <= 510 := by rw [ht3]; exact Nat.le_trans (woven_size_le _ _) hs2
 have HT3 := hide ht3
 clear ht3
 go_wp2_with fail
 go_ret
 refine ⟨ret_str ?_,HB5.out⟩
 unfold laidB
 rw [HT3.out,HT2.out,HT1.out,H1E.out,HBD.out,bodyB_size]
 rfl
set_option maxHeartbeats 800000 in
theorem specLaid_any (k a s : Int) (x : ByteArray) (w : World) :
  Calls Tryz.prog 211 #[.agg #[.int .i64 k,.int .i64 a,.int .i64 s,.string x]] w fun e w' => e = .returned (.string (laid k a s x)) ∧ Below w.heap.size w w' := by
 have HO := hide (heap_new w (.cells #[.int .i64 k,.int .i64 a,.int .i64 s,.string x] 31))
 have HZ := hide ((Below.refl w.heap.size w).alloc (Nat.le_refl _) (.cells #[.int .i64 k,.int .i64 a,.int .i64 s,.string x] 31))
 cases hp : pageOk k a s x
 ·have HE := hide (laid_no hp)
  go_enter Tryz.func211,Tryz.ntmps211
  go_wp2_with fail
  refine (specPageOk_any k a s x _).mono ?_
  rw [hp]
  rintro e w1 ⟨rfl,b1⟩
  have HB := hide (below_here HZ.out b1)
  clear b1 HZ HO
  go_wp2_with fail
  go_ret
  exact ⟨ret_str HE.out.symm,HB.out⟩
 ·have hok := hp
  obtain ⟨K,A,S,rfl,rfl,rfl,hK,hA,hS1,hS,hx⟩ := page_ok hp
  have HE := hide (laid_yes hok)
  go_enter Tryz.func211,Tryz.ntmps211
  go_wp2_with fail
  refine (specPageOk_any _ _ _ x _).mono ?_
  rw [hp]
  rintro e w1 ⟨rfl,b1⟩
  have H1 := hide (block_on HO.out b1)
  have HB := hide (below_here HZ.out b1)
  obtain ⟨c0,c1,c2,c3⟩ := four_cells H1.out
  clear b1 HZ HO
  go_wp2_with fail
  refine (l7Laid_any K A S x _ hK hA hS hx).mono ?_
  rintro e w2 ⟨rfl,b2⟩
  have HB2 := hide (below_here HB.out b2)
  clear b2 HB c0 c1 c2 c3 H1
  go_wp2_with fail
  go_ret
  exact ⟨ret_str HE.out.symm,HB2.out⟩
end Go.Proofs.YtgjoepdfhadmcaaGreatDoor
end

section
namespace Go.Proofs.YtgjoepdfhadmcaaGreatDoor
open Go.RowKit
set_option linter.unusedVariables false
def byN (t : ByteArray) (i : Nat) : Nat := (t.data.toList.getD i 0).toNat
theorem byN_lt (t : ByteArray) (i : Nat) : byN t i < 256 := UInt8.toNat_lt _
theorem byN_at (t : ByteArray) (i : Nat) (h : i < t.size) : (t[i]).toNat = byN t i := by rw [byN,byte_at t i h]
def stampN (t : ByteArray) : Nat := byN t 2 * 65536 + byN t 3 * 256 + byN t 4
def textIn (t : ByteArray) : ByteArray := t.extract 6 (t.size - 2)
theorem textIn_size (t : ByteArray) (h : 8 <= t.size) : (textIn t).size = t.size - 8 := by
 unfold textIn
 rw [ByteArray.size_extract]
 omega
def bodyOk (t : ByteArray) : Bool := decide (8 <= t.size) && (whole t && (decide (byN t 5 = t.size - 8) && pageOk (byN t 0) (byN t 1) (stampN t) (textIn t)))
def headT (s : ByteArray) : ByteArray × Int × Bool := healedAll (s.extract 0 2)
def restT (s : ByteArray) : ByteArray × Int × Bool := healedAll (unwoven (s.extract 2 s.size) 2)
def goodL (s : ByteArray) : Bool := decide (2 <= s.size) && ((headT s).2.2 && ((restT s).2.2 && (decide (byN (headT s).1 0 = (restT s).1.size) && bodyOk (restT s).1)))
def lyP (s : ByteArray) : Int × Int × Int × ByteArray × Int :=
 if s.size = 0 then (0,0,0,⟨#[]⟩,0)
 else if goodL s = true then ((byN (restT s).1 0 : Int),(byN (restT s).1 1 : Int),(stampN (restT s).1 : Int),textIn (restT s).1,if 0 < (restT s).2.1 + (headT s).2.1 then 2 else 1)
 else (0,0,0,⟨#[]⟩,3)
def lyV (r : Int × Int × Int × ByteArray × Int) : Value := .tuple #[.agg #[.int .i64 r.1,.int .i64 r.2.1,.int .i64 r.2.2.1,.string r.2.2.2.1],.int .i64 r.2.2.2.2]
theorem lyP_blank {s : ByteArray} (h : s.size = 0) : lyP s = (0,0,0,⟨#[]⟩,0) := if_pos h
theorem lyP_torn {s : ByteArray} (h : s.size ≠ 0) (hg : goodL s = false) : lyP s = (0,0,0,⟨#[]⟩,3) := by
 unfold lyP; rw [if_neg h,if_neg (by simp [hg])]
theorem lyP_good {s : ByteArray} (h : s.size ≠ 0) (hg : goodL s = true) : lyP s = ((byN (restT s).1 0 : Int),(byN (restT s).1 1 : Int),(stampN (restT s).1 : Int),textIn (restT s).1,if 0 < (restT s).2.1 + (headT s).2.1 then 2 else 1) := by
 unfold lyP; rw [if_neg h,if_pos hg]
theorem extract_size2 (s : ByteArray) (h : 2 <= s.size) : (s.extract 0 2).size = 2 := by rw [ByteArray.size_extract]; omega
theorem extract_rest (s : ByteArray) (h : 2 <= s.size) : (s.extract 2 s.size).size = s.size - 2 := by rw [ByteArray.size_extract]; omega
theorem unwoven_size_le (s : ByteArray) (d : Int) : (unwoven s d).size <= s.size := by
 unfold unwoven
 split
 ·rw [str_size,Wv.unwovenL_length]; simp
 ·exact Nat.zero_le _
theorem healed_size {s : ByteArray} (h : (healedAll s).2.2 = true) : s.size = 2 * (healedAll s).1.size := by
 by_cases hc : s.size % 2 = 0 ∧ s.size <= 600 ∧ goodTo s (s.size / 2)
 ·rw [healedAll_yes hc]
  show s.size = 2 * (bytesTo s (s.size / 2)).length
  rw [bytesTo_length]; omega
 ·rw [healedAll_no hc] at h; simp at h
theorem healed_size_le (s : ByteArray) : (healedAll s).1.size <= 300 := by
 by_cases hc : s.size % 2 = 0 ∧ s.size <= 600 ∧ goodTo s (s.size / 2)
 ·rw [healedAll_yes hc]
  show (bytesTo s (s.size / 2)).length <= 300
  rw [bytesTo_length]; omega
 ·rw [healedAll_no hc]; exact Nat.zero_le _
theorem healed_fixed (s : ByteArray) : 0 <= (healedAll s).2.1 ∧ (healedAll s).2.1 <= 300 := by
 by_cases hc : s.size % 2 = 0 ∧ s.size <= 600 ∧ goodTo s (s.size / 2)
 ·rw [healedAll_yes hc]
  have := fixedTo_bd s (s.size / 2) hc.2.2
  show 0 <= fixedTo s (s.size / 2) ∧ fixedTo s (s.size / 2) <= 300
  omega
 ·rw [healedAll_no hc]; exact ⟨Int.le_refl _,by show (0 : Int) <= 300; omega⟩
theorem unwoven_size {s : ByteArray} (h : s.size <= 600) : (unwoven s 2).size = s.size := by
 have hw : woveOk s 2 = true := by simp [woveOk,inB]; omega
 unfold unwoven
 rw [if_pos hw,str_size,Wv.unwovenL_length]; simp
theorem torn_len {s : ByteArray} (h2 : 2 <= s.size) (hne : s.size - 2 ≠ 2 * byN (headT s).1 0) : goodL s = false := by
 cases hg : goodL s
 ·rfl
 ·exfalso
  simp only [goodL,Bool.and_eq_true,decide_eq_true_eq] at hg
  obtain ⟨_,h1,h3,h4,h5⟩ := hg
  have hz := healed_size (s := unwoven (s.extract 2 s.size) 2) h3
  have h8 : 8 <= (restT s).1.size := by simp only [bodyOk,Bool.and_eq_true,decide_eq_true_eq] at h5; exact h5.1
  by_cases h6 : s.size - 2 <= 600
  ·have := unwoven_size (s := s.extract 2 s.size) (by rw [extract_rest s h2]; exact h6)
   rw [extract_rest s h2] at this
   have hr : (restT s).1.size = (healedAll (unwoven (s.extract 2 s.size) 2)).1.size := rfl
   omega
  ·have hw : woveOk (s.extract 2 s.size) 2 = false := by simp [woveOk,inB,extract_rest s h2]; omega
   have : (unwoven (s.extract 2 s.size) 2).size = 0 := by unfold unwoven; rw [if_neg (by simp [hw])]; rfl
   have hr : (restT s).1.size = (healedAll (unwoven (s.extract 2 s.size) 2)).1.size := rfl
   omega
theorem slice_mid {P : Program} (t : TypeId) (ht : P.underlying t = some .string) (s : ByteArray) (I J : Int) (i j : Nat) (hI : I = (i : Int)) (hJ : J = (j : Int)) (hij : i <= j) (hj : j <= s.size) (x : ByteArray) (hx : x = s.extract i j) :
  ∀ w,(Instr.sliceAt t (.string s) (some (.int .i64 I)) (some (.int .i64 J)) none).run P w = .ok (.string x) w := by
 intro w
 subst hI; subst hJ; subst hx
 rw [run_sliceAt_string w t _ _ _ _ ht,run_slice_string (P := P) w t s .i64 .i64 (i : Int) (j : Int) ht (by omega) (by omega) (by omega)]
 simp
theorem slice_mid2 {P : Program} (t : TypeId) (ht : P.underlying t = some .string) (s : ByteArray) (I J : Int) (i j : Nat) (hI : I = (i : Int)) (hJ : J = (j : Int)) (hij : i <= j) (hj : j <= s.size) (x : ByteArray) (hx : x = s.extract i j) :
  ∀ w,(Instr.slice t (.string s) (some (.int .i64 I)) (some (.int .i64 J)) none).run P w = .ok (.string x) w := by
 intro w
 subst hI; subst hJ; subst hx
 rw [run_slice_string (P := P) w t s .i64 .i64 (i : Int) (j : Int) ht (by omega) (by omega) (by omega)]
 simp
end Go.Proofs.YtgjoepdfhadmcaaGreatDoor
end

section
namespace Go.Proofs.YtgjoepdfhadmcaaGreatDoor
open Go.RowKit
set_option linter.unusedVariables false
theorem spread_at : ∀ (l : List UInt8) (i : Nat),i < 2 * l.length -> (spreadL l).getD i 0 = (wordB (Ham.spread (l.getD (i / 2) 0).toNat)).getD (i % 2) 0
 | [],i,h => by simp at h
 | b :: l,0,_ => rfl
 | b :: l,1,_ => rfl
 | b :: l,i + 2,h => by
  have ih := spread_at l i (by simp at h; omega)
  show (wordB (Ham.spread b.toNat) ++ spreadL l).getD (i + 2) 0 = _
  rw [List.getD_eq_getElem?_getD,List.getElem?_append_right (by simp [wordB]),show i + 2 - (wordB (Ham.spread b.toNat)).length = i by simp [wordB],<- List.getD_eq_getElem?_getD,ih,show (i + 2) / 2 = i / 2 + 1 by omega,show (i + 2) % 2 = i % 2 by omega]
  rfl
theorem spread_word (l : List UInt8) {j : Nat} (h : j < l.length) : wordAt (str (spreadL l)) j = Ham.spread (l.getD j 0).toNat := by
 unfold wordAt
 show 256 * ((spreadL l).getD (2 * j) 0).toNat + ((spreadL l).getD (2 * j + 1) 0).toNat = _
 rw [spread_at l (2 * j) (by omega),spread_at l (2 * j + 1) (by omega),show 2 * j / 2 = j by omega,show (2 * j + 1) / 2 = j by omega,show 2 * j % 2 = 0 by omega,show (2 * j + 1) % 2 = 1 by omega]
 have hl : Ham.spread (l.getD j 0).toNat < 8192 := Ham.spread_lt (UInt8.toNat_lt _)
 generalize Ham.spread (l.getD j 0).toNat = x at *
 show 256 * (UInt8.ofNat (x / 256)).toNat + (UInt8.ofNat (x % 256)).toNat = x
 rw [UInt8.toNat_ofNat',UInt8.toNat_ofNat',Nat.mod_eq_of_lt (show x / 256 < 2 ^ 8 by omega),Nat.mod_eq_of_lt (show x % 256 < 2 ^ 8 by omega)]
 omega
theorem healed_spread (l : List UInt8) (h : l.length <= 300) : healedAll (str (spreadL l)) = (str l,0,true) := by
 have hz : (str (spreadL l)).size = 2 * l.length := spread_len l
 have hd : (str (spreadL l)).size / 2 = l.length := by omega
 have hh : ∀ j,j < l.length -> healedI (wordAt (str (spreadL l)) j) = (((l.getD j 0).toNat : Int),0) := fun j hj => by
  rw [spread_word l hj,healedI_nat (Ham.spread_lt (UInt8.toNat_lt _))]
  exact Ham.healed_clean (UInt8.toNat_lt _)
 have hg : goodTo (str (spreadL l)) l.length := fun j hj => by rw [hh j hj]; simp
 have hb : bytesTo (str (spreadL l)) l.length = l := by
  apply List.ext_getElem
  ·rw [bytesTo_length]
  ·intro j h1 h2
   simp only [bytesTo,List.getElem_map,List.getElem_range]
   rw [hh j h2]
   rw [List.getD_eq_getElem?_getD,List.getElem?_eq_getElem h2]
   simp
 have hc : ∀ k,k <= l.length -> fixedTo (str (spreadL l)) k = 0 := by
  intro k
  induction k with
  | zero => intro _; rfl
  | succ k ih => intro hk; rw [fixedTo_succ,ih (by omega),hh k (by omega)]; rfl
 rw [healedAll_yes ⟨by omega,by omega,by rw [hd]; exact hg⟩,hd,hb,hc _ (Nat.le_refl _)]
theorem str_of (s : ByteArray) : str s.data.toList = s := by cases s; simp [str]
theorem unwoven_of {s : ByteArray} (h : s.size <= 600) : unwoven (woven s 2) 2 = s := by
 have hw : ∀ t : ByteArray,t.size <= 600 -> woveOk t ((2 : Nat) : Int) = true := fun t ht => by simp [woveOk,inB]; omega
 have h1 := woven_yes (hw s h)
 have hz : (woven s ((2 : Nat) : Int)).size <= 600 := Nat.le_trans (woven_size_le s _) h
 have h2 := unwoven_yes (hw _ hz)
 show unwoven (woven s ((2 : Nat) : Int)) ((2 : Nat) : Int) = s
 rw [h2,h1]
 show str (Wv.unwovenL (Wv.wovenL s.data.toList 2) 2) = s
 rw [Wv.unwoven_woven _ (by omega),str_of]
theorem ext_data {s t : ByteArray} (h : s.data.toList = t.data.toList) : s = t := by
 rw [<- str_of s,<- str_of t,h]
theorem append_data (s t : ByteArray) : (s ++ t).data.toList = s.data.toList ++ t.data.toList := by simp
theorem extract_data (s : ByteArray) (i j : Nat) : (s.extract i j).data.toList = (s.data.toList.drop i).take (j - i) := by
 simp [ByteArray.data_extract]
theorem extract_left (s t : ByteArray) (n : Nat) (h : s.size = n) : (s ++ t).extract 0 n = s := by
 apply ext_data
 have hl : s.data.toList.length = n := by simpa using h
 rw [extract_data,append_data,List.drop_zero,Nat.sub_zero,List.take_append_of_le_length (by omega),List.take_of_length_le (by omega)]
theorem extract_right (s t : ByteArray) (n : Nat) (h : s.size = n) : (s ++ t).extract n (s ++ t).size = t := by
 apply ext_data
 have hl : s.data.toList.length = n := by simpa using h
 have ht : t.data.toList.length = t.size := by simp
 rw [extract_data,append_data,List.drop_append_of_le_length (by omega),List.drop_of_length_le (by omega),List.nil_append,List.take_of_length_le]
 rw [ByteArray.size_append]; omega
theorem whole_of (s : ByteArray) : whole (checked s) = true := by
 unfold whole
 rw [checked_size,show s.size + 2 - 2 = s.size by omega]
 have : (checked s).extract 0 s.size = s := extract_left s _ _ rfl
 rw [this]
 simp
theorem body_data (K A S : Nat) (x : ByteArray) : (bodyB K A S x).data.toList = headL K A S x.size ++ (x.data.toList ++ tail2 (checkN (str (headL K A S x.size) ++ x))) := by
 unfold bodyB checked
 rw [append_data,append_data]
 show (headL K A S x.size ++ x.data.toList) ++ tail2 _ = _
 rw [List.append_assoc]
theorem body_by (K A S : Nat) (x : ByteArray) (i : Nat) (hi : i < 6) : byN (bodyB K A S x) i = ((headL K A S x.size).getD i 0).toNat := by
 unfold byN
 rw [body_data,List.getD_eq_getElem?_getD,List.getElem?_append_left (by show i < 6; exact hi),<- List.getD_eq_getElem?_getD]
theorem u8_nat {n : Nat} (h : n < 256) : (UInt8.ofNat n).toNat = n := by rw [UInt8.toNat_ofNat']; exact Nat.mod_eq_of_lt (by omega)
theorem body_text (K A S : Nat) (x : ByteArray) : textIn (bodyB K A S x) = x := by
 unfold textIn
 rw [bodyB_size]
 apply ext_data
 have hl : x.data.toList.length = x.size := by simp
 rw [extract_data,body_data]
 rw [List.drop_append_of_le_length (by show 6 <= 6; omega),List.drop_of_length_le (by show 6 <= 6; omega),List.nil_append,List.take_append_of_le_length (by omega),List.take_of_length_le (by omega)]
theorem ly_laid {k a s : Int} {x : ByteArray} (h : pageOk k a s x = true) : lyP (laid k a s x) = (k,a,s,x,1) ∧ 1 <= (laid k a s x).size := by
 obtain ⟨K,A,S,rfl,rfl,rfl,hK,hA,hS1,hS,hx⟩ := page_ok h
 rw [laid_yes h]
 have hb := bodyB_size K A S x
 have hbl : (bodyB K A S x).data.toList.length <= 300 := by have : (bodyB K A S x).data.toList.length = (bodyB K A S x).size := by simp
                                                            omega
 have h0 : (str (spreadL [UInt8.ofNat (x.size + 8)])).size = 2 := by rw [spread_len]; rfl
 have hz : 2 <= (laidB K A S x).size := by unfold laidB; rw [ByteArray.size_append]; omega
 have e1 : (laidB K A S x).extract 0 2 = str (spreadL [UInt8.ofNat (x.size + 8)]) := extract_left _ _ _ h0
 have e2 : (laidB K A S x).extract 2 (laidB K A S x).size = woven (str (spreadL (bodyB K A S x).data.toList)) 2 := extract_right _ _ _ h0
 have hh : headT (laidB K A S x) = (str [UInt8.ofNat (x.size + 8)],0,true) := by
  unfold headT; rw [e1]; exact healed_spread _ (by show 1 <= 300; omega)
 have hr : restT (laidB K A S x) = (bodyB K A S x,0,true) := by
  unfold restT
  rw [e2,unwoven_of (by rw [spread_len]; omega),healed_spread _ hbl,str_of]
 have b0 : byN (bodyB K A S x) 0 = K := by rw [body_by _ _ _ _ _ (by omega)]; exact u8_nat (by omega)
 have b1 : byN (bodyB K A S x) 1 = A := by rw [body_by _ _ _ _ _ (by omega)]; exact u8_nat (by omega)
 have b2 : byN (bodyB K A S x) 2 = S / 65536 := by rw [body_by _ _ _ _ _ (by omega)]; exact u8_nat (by omega)
 have b3 : byN (bodyB K A S x) 3 = S / 256 % 256 := by rw [body_by _ _ _ _ _ (by omega)]; exact u8_nat (by omega)
 have b4 : byN (bodyB K A S x) 4 = S % 256 := by rw [body_by _ _ _ _ _ (by omega)]; exact u8_nat (by omega)
 have b5 : byN (bodyB K A S x) 5 = x.size := by rw [body_by _ _ _ _ _ (by omega)]; exact u8_nat (by omega)
 have bs : stampN (bodyB K A S x) = S := by unfold stampN; rw [b2,b3,b4]; omega
 have bh : byN (str [UInt8.ofNat (x.size + 8)]) 0 = x.size + 8 := u8_nat (by omega)
 have hok : bodyOk (bodyB K A S x) = true := by
  unfold bodyOk
  rw [b0,b1,bs,b5,body_text,hb,h]
  have : whole (bodyB K A S x) = true := whole_of _
  rw [this]
  simp
 have hg : goodL (laidB K A S x) = true := by
  unfold goodL
  rw [hh,hr]
  dsimp only
  rw [bh,hb,hok,decide_eq_true hz]
  simp
 refine ⟨?_,by omega⟩
 rw [lyP_good (by omega) hg,hr,hh]
 dsimp only
 rw [b0,b1,bs,body_text]
 rfl
end Go.Proofs.YtgjoepdfhadmcaaGreatDoor
end

section
namespace Go.Proofs.YtgjoepdfhadmcaaGreatDoor
open Go.RowKit
set_option linter.unusedVariables false
set_option maxRecDepth 20000
set_option maxHeartbeats 4000000 in
theorem specLying_pass (s : ByteArray) (w : World) (h2 : 2 <= s.size) (hs : s.size <= 1048576) (ho1 : (headT s).2.2 = true) (ho2 : (restT s).2.2 = true) (hq9 : byN (headT s).1 0 = (restT s).1.size) (h89 : 8 <= (restT s).1.size) (hw9 : whole (restT s).1 = true) :
  Calls Tryz.prog 16 #[.string s] w fun e w' => e = .returned (lyV (lyP s)) ∧ Below w.heap.size w w' := by
 have he : s.toList.isEmpty = false := by rw [text_empty]; exact decide_eq_false (by omega)
 have HO := hide (heap_new w (.cells #[.int .i64 0,.int .i64 0,.int .i64 0,.string ⟨#[]⟩] 31))
 have HZ := hide ((Below.refl w.heap.size w).alloc (Nat.le_refl _) (.cells #[.int .i64 0,.int .i64 0,.int .i64 0,.string ⟨#[]⟩] 31))
 have hx2 := extract_size2 s h2
 have hxr := extract_rest s h2
 obtain ⟨h,m,one,hh⟩ : ∃ h m one,headT s = (h,m,one) := ⟨_,_,_,rfl⟩
 obtain ⟨t,n,is,ht⟩ : ∃ t n is,restT s = (t,n,is) := ⟨_,_,_,rfl⟩
 have hhz : one = true -> h.size = 1 := fun e => by
  have := healed_size (s := s.extract 0 2) (by rw [show healedAll (s.extract 0 2) = (h,m,one) from hh]; exact e)
  rw [show healedAll (s.extract 0 2) = (h,m,one) from hh] at this
  have h' : (s.extract 0 2).size = 2 * h.size := this
  omega
 have htz : t.size <= 300 := by have := healed_size_le (unwoven (s.extract 2 s.size) 2); rw [show healedAll (unwoven (s.extract 2 s.size) 2) = (t,n,is) from ht] at this; exact this
 have hmb : 0 <= m ∧ m <= 300 := by have := healed_fixed (s.extract 0 2); rw [show healedAll (s.extract 0 2) = (h,m,one) from hh] at this; exact this
 have hnb : 0 <= n ∧ n <= 300 := by have := healed_fixed (unwoven (s.extract 2 s.size) 2); rw [show healedAll (unwoven (s.extract 2 s.size) 2) = (t,n,is) from ht] at this; exact this
 have HH := hide hh
 have HT := hide ht
 rw [hh] at ho1 hq9
 rw [ht] at ho2 hq9 h89 hw9
 clear hh ht
 have ho1 : one = true := ho1
 have ho2 : is = true := ho2
 have h8 : 8 <= t.size := h89
 have hw : whole t = true := hw9
 have hq : byN h 0 = t.size := hq9
 clear hq9 h89 hw9
 subst ho1
 subst ho2
 have hz1 := hhz rfl
 clear hhz
 have h8d : decide ((t.size : Int) < 8) = false := by simp; omega
 obtain ⟨Q,hQ⟩ : ∃ Q,Q = byN h 0 := ⟨_,rfl⟩
 have hb0 : (h[0]'(by omega)).toNat = Q := by rw [hQ]; exact byN_at h 0 (by omega)
 have hQl : Q < 256 := by rw [hQ]; exact byN_lt _ _
 have hne : ((Q : Int) != (t.size : Int)) = false := by simp [hQ,hq]
 have HQ9 := hide hq
 clear hQ hq
 go_enter Tryz.func16,Tryz.ntmps16
 go_wp2_with fail
 refine (specHealedAll_any (s.extract 0 2) _ (by omega)).mono ?_
 rw [show healedAll (s.extract 0 2) = (h,m,true) from HH.out]
 unfold toldV
 rintro e w1 ⟨rfl,b1⟩
 have H1 := hide (block_on HO.out b1)
 have HB1 := hide (below_here HZ.out b1)
 clear b1 HO HZ
 go_wp2_with fail
 refine (specUnwoven_any (s.extract 2 s.size) 2 _ (by omega)).mono ?_
 rintro e w2 ⟨rfl,b2⟩
 have H2 := hide (block_on H1.out b2)
 have HB2 := hide (below_here HB1.out b2)
 clear b2 H1 HB1
 go_wp2_with fail
 refine (specHealedAll_any (unwoven (s.extract 2 s.size) 2) _ (Nat.le_trans (unwoven_size_le _ _) (by omega))).mono ?_
 rw [show healedAll (unwoven (s.extract 2 s.size) 2) = (t,n,true) from HT.out]
 unfold toldV
 rintro e w3 ⟨rfl,b3⟩
 have H3 := hide (block_on H2.out b3)
 have HB3 := hide (below_here HB2.out b3)
 clear b3 H2 HB2
 obtain ⟨c0,c1,c2,c3⟩ := four_cells H3.out
 have f0 := four_frozen H3.out 0
 have f1 := four_frozen H3.out 1
 have f2 := four_frozen H3.out 2
 have f3 := four_frozen H3.out 3
 have HTORN : Hid (goodL s = false -> lyP s = (0,0,0,⟨#[]⟩,3)) := fun hg => lyP_torn (by omega) hg
 have HTV : ∀ W,Hid (W.heap[w.heap.size]? = some (.cells #[.int .i64 0,.int .i64 0,.int .i64 0,.string ⟨#[]⟩] 31) -> (loadVar 31 ⟨w.heap.size,0,none⟩).run Tryz.prog W = .ok (.agg #[.int .i64 0,.int .i64 0,.int .i64 0,.string ⟨#[]⟩]) W) := fun W hW => run_loadVar_row _ _ _ _ _ _ _ hW Tryz.underlying31 rfl (by kernel_rfl)
 have HF : Hid (((((w3.setCell ⟨w.heap.size,0,none⟩ (.int .i64 0)).setCell ⟨w.heap.size,1,none⟩ (.int .i64 0)).setCell ⟨w.heap.size,2,none⟩ (.int .i64 0)).setCell ⟨w.heap.size,3,none⟩ (.string ⟨#[]⟩)).heap[w.heap.size]? = some (.cells #[.int .i64 0,.int .i64 0,.int .i64 0,.string ⟨#[]⟩] 31)) := four_set H3.out _ _ _ _
 have HG := hide (four_below HB3.out (Nat.le_refl _) (.int .i64 0) (.int .i64 0) (.int .i64 0) (.string ⟨#[]⟩))
 go_wp2_with fail
 refine (specWhole_any t _ (by omega)).mono ?_
 rw [hw]
 rintro e w4 ⟨rfl,b4⟩
 have H4 := hide (block_on H3.out b4)
 have HB4 := hide (below_here HB3.out b4)
 clear b4 c0 c1 c2 c3 f0 f1 f2 f3 HF HG H3 HB3
 obtain ⟨B0,hB0⟩ : ∃ B,B = byN t 0 := ⟨_,rfl⟩
 obtain ⟨B1,hB1⟩ : ∃ B,B = byN t 1 := ⟨_,rfl⟩
 obtain ⟨B2,hB2⟩ : ∃ B,B = byN t 2 := ⟨_,rfl⟩
 obtain ⟨B3,hB3⟩ : ∃ B,B = byN t 3 := ⟨_,rfl⟩
 obtain ⟨B4,hB4⟩ : ∃ B,B = byN t 4 := ⟨_,rfl⟩
 obtain ⟨B5,hB5⟩ : ∃ B,B = byN t 5 := ⟨_,rfl⟩
 have l0 : B0 < 256 := by rw [hB0]; exact byN_lt _ _
 have l1 : B1 < 256 := by rw [hB1]; exact byN_lt _ _
 have l2 : B2 < 256 := by rw [hB2]; exact byN_lt _ _
 have l3 : B3 < 256 := by rw [hB3]; exact byN_lt _ _
 have l4 : B4 < 256 := by rw [hB4]; exact byN_lt _ _
 have l5 : B5 < 256 := by rw [hB5]; exact byN_lt _ _
 have i0 := index_at' (P := Tryz.prog) 9 Tryz.underlying9 t 0 (by omega) B0 (by rw [hB0]; exact (byN_at t 0 (by omega)).symm)
 have i1 := index_at' (P := Tryz.prog) 9 Tryz.underlying9 t 1 (by omega) B1 (by rw [hB1]; exact (byN_at t 1 (by omega)).symm)
 have i2 := index_at' (P := Tryz.prog) 9 Tryz.underlying9 t 2 (by omega) B2 (by rw [hB2]; exact (byN_at t 2 (by omega)).symm)
 have i3 := index_at' (P := Tryz.prog) 9 Tryz.underlying9 t 3 (by omega) B3 (by rw [hB3]; exact (byN_at t 3 (by omega)).symm)
 have i4 := index_at' (P := Tryz.prog) 9 Tryz.underlying9 t 4 (by omega) B4 (by rw [hB4]; exact (byN_at t 4 (by omega)).symm)
 have i5 := index_at' (P := Tryz.prog) 9 Tryz.underlying9 t 5 (by omega) B5 (by rw [hB5]; exact (byN_at t 5 (by omega)).symm)
 simp only [show ((0 : Nat) : Int) = 0 from rfl] at i0
 simp only [show ((1 : Nat) : Int) = 1 from rfl] at i1
 simp only [show ((2 : Nat) : Int) = 2 from rfl] at i2
 simp only [show ((3 : Nat) : Int) = 3 from rfl] at i3
 simp only [show ((4 : Nat) : Int) = 4 from rfl] at i4
 simp only [show ((5 : Nat) : Int) = 5 from rfl] at i5
 obtain ⟨tx,htx⟩ : ∃ tx,tx = textIn t := ⟨_,rfl⟩
 have hsl := slice_mid (P := Tryz.prog) 9 Tryz.underlying9 t 6 ((t.size : Int) - 2) 6 (t.size - 2) rfl (by omega) (by omega) (by omega) tx htx
 have hsl2 := slice_mid2 (P := Tryz.prog) 9 Tryz.underlying9 t 6 ((t.size : Int) - 2) 6 (t.size - 2) rfl (by omega) (by omega) (by omega) tx htx
 have g1 : (6 : Int) <= (t.size : Int) - 2 := by omega
 have g2 : (t.size : Int) - 2 <= (t.size : Int) := by omega
 have g3 : ((t.size : Int) - 2).toNat = t.size - 2 := by omega
 have g0 : (8 : Int) <= (t.size : Int) := by omega
 have htxz : tx.size = t.size - 8 := by rw [htx]; exact textIn_size t h8
 have HTX := hide htx
 have HB := hide (And.intro hB0 (And.intro hB1 (And.intro hB2 (And.intro hB3 (And.intro hB4 hB5)))))
 have j0 : IntKind.i64.wrap ((B2 : Int) * 65536) = (B2 : Int) * 65536 := by rw [IntKind.wrap_i64]; omega
 have j1 : IntKind.i64.wrap ((B3 : Int) * 256) = (B3 : Int) * 256 := by rw [IntKind.wrap_i64]; omega
 have j2 : IntKind.i64.wrap ((B2 : Int) * 65536 + (B3 : Int) * 256) = (B2 : Int) * 65536 + (B3 : Int) * 256 := by rw [IntKind.wrap_i64]; omega
 have j3 : IntKind.i64.wrap ((B2 : Int) * 65536 + (B3 : Int) * 256 + (B4 : Int)) = (B2 : Int) * 65536 + (B3 : Int) * 256 + (B4 : Int) := by rw [IntKind.wrap_i64]; omega
 clear hB0 hB1 hB2 hB3 hB4 hB5 htx
 clear HTORN hne hb0 hx2 hxr he hQl hs hz1
 go_wp2_with fail
 go_region
 obtain ⟨S,hS⟩ : ∃ S : Nat,S = stampN t := ⟨_,rfl⟩
 have hSe : (B2 : Int) * 65536 + (B3 : Int) * 256 + (B4 : Int) = (S : Int) := by
  obtain ⟨_,_,e2,e3,e4,_⟩ := HB.out
  rw [hS]; unfold stampN; rw [<- e2,<- e3,<- e4]; omega
 rw [hSe]
 have HP : Hid (pageOk (B0 : Int) (B1 : Int) (S : Int) tx = pageOk (byN t 0 : Int) (byN t 1 : Int) (stampN t : Int) (textIn t)) := by
  obtain ⟨e0,e1,_⟩ := HB.out
  show _ = _; rw [<- e0,<- e1,<- hS,<- HTX.out]
 have HB5 : Hid (B5 = byN t 5) := HB.out.2.2.2.2.2
 have HE0 : Hid (B0 = byN t 0) := HB.out.1
 have HE1 : Hid (B1 = byN t 1) := HB.out.2.1
 have HES := hide hS
 have HN4 : Hid ((w4.alloc (.cells #[.int .i64 (B0 : Int),.int .i64 (B1 : Int),.int .i64 (S : Int),.string tx] 31)).heap[w4.heap.size]? = some (.cells #[.int .i64 (B0 : Int),.int .i64 (B1 : Int),.int .i64 (S : Int),.string tx] 31)) := heap_new w4 _
 have HR4 := hide (heap_old (o := .cells #[.int .i64 (B0 : Int),.int .i64 (B1 : Int),.int .i64 (S : Int),.string tx] 31) H4.out)
 have HBB := hide (HB4.out.alloc HB4.out.size (.cells #[.int .i64 (B0 : Int),.int .i64 (B1 : Int),.int .i64 (S : Int),.string tx] 31))
 clear j0 j1 j2 j3 i0 i1 i2 i3 i4 hsl hsl2 g0 g1 g2 g3 hS hSe l2 l3 l4
 have hx9 : tx.size <= 292 := by omega
 generalize (w4.alloc (.cells #[.int .i64 (B0 : Int),.int .i64 (B1 : Int),.int .i64 (S : Int),.string tx] 31)) = w5 at *
 have HN4 : Hid (w5.drew.heap[w4.heap.size]? = some (.cells #[.int .i64 (B0 : Int),.int .i64 (B1 : Int),.int .i64 (S : Int),.string tx] 31)) := HN4
 have HR4 : Hid (w5.drew.heap[w.heap.size]? = some (.cells #[.int .i64 0,.int .i64 0,.int .i64 0,.string ⟨#[]⟩] 31)) := HR4
 have HBB : Hid (Below w.heap.size w w5.drew) := HBB.out.drew
 generalize w5.drew = w6 at *
 obtain ⟨c0,c1,c2,c3⟩ := four_cells HN4.out
 have HNE : Hid (pageOk (B0 : Int) (B1 : Int) (S : Int) tx = false ∨ B5 ≠ tx.size -> lyP s = (0,0,0,⟨#[]⟩,3)) := fun hor => by
  refine lyP_torn (by omega) ?_
  cases hg : goodL s
  ·rfl
  ·exfalso
   simp only [goodL,HH.out,HT.out,bodyOk,Bool.and_eq_true,decide_eq_true_eq] at hg
   obtain ⟨_,_,_,_,_,_,h5,h6⟩ := hg
   rcases hor with h | h
   ·rw [HP.out,h6] at h; simp at h
   ·rw [HB5.out] at h; omega
 have HYE : Hid (pageOk (B0 : Int) (B1 : Int) (S : Int) tx = true -> B5 = tx.size -> lyP s = ((B0 : Int),(B1 : Int),(S : Int),tx,if 0 < n + m then 2 else 1)) := fun h1 h3 => by
  have hg : goodL s = true := by
   rw [HP.out] at h1
   have h5 : byN t 5 = t.size - 8 := by rw [<- HB5.out,h3]; omega
   have hqq := HQ9.out
   simp [goodL,HH.out,HT.out,bodyOk,h1,h5,h8,hw,hqq]
   omega
  rw [lyP_good (by omega) hg,HT.out,HH.out,HE0.out,HE1.out,HES.out,HTX.out]
 clear HE0 HE1 HES HB5 HP
 have k0 := cell_regrown c0
 have k1 := cell_regrown c1
 have k2 := cell_regrown c2
 have k3 := cell_regrown c3
 obtain ⟨b,hp⟩ : ∃ b,pageOk (B0 : Int) (B1 : Int) (S : Int) tx = b := ⟨_,rfl⟩
 have cP : ∀ d os,Calls Tryz.prog 82 #[.agg #[.int .i64 (B0 : Int),.int .i64 (B1 : Int),.int .i64 (S : Int),.string tx]] (Go.Sort.grow (redrawn w6 d) os) fun e w'' => e = .returned (.bool b) ∧ ∃ p : Regrown,w'' = Go.Sort.grow (redrawn w6 p.d) p.os := fun d os => Calls.regrown_of (by rw [<- hp]; exact specPageOk_any _ _ _ _ _)
 cases b
 ·have HE := hide (HNE.out (.inl hp))
  clear HYE HNE
  go_wp2_with fail
  refine wp_region_quiet_below (by kernel_rfl) (by kernel_rfl) ?_
  repeat (go_big_quiet_step ((go_at_call 82; exact cP _ _)))
  refine wpQuiet_nil ?_
  intro _ hw'
  obtain ⟨⟨dq,osq⟩,hw''⟩ := hw'
  subst hw''
  have HR7 := hide (block_on HR4.out (below_regrown w6 dq osq))
  have HN7 := hide (block_on HN4.out (below_regrown w6 dq osq))
  have HB7 := hide (below_here HBB.out (below_regrown w6 dq osq))
  clear k0 k1 k2 k3 cP c0 c1 c2 c3 HN4 HR4 HBB
  generalize Go.Sort.grow (redrawn w6 dq) osq = w7 at *
  obtain ⟨c0,c1,c2,c3⟩ := four_cells HR7.out
  have f0 := four_frozen HR7.out 0
  have f1 := four_frozen HR7.out 1
  have f2 := four_frozen HR7.out 2
  have f3 := four_frozen HR7.out 3
  have HF := hide (four_set HR7.out (.int .i64 0) (.int .i64 0) (.int .i64 0) (.string ⟨#[]⟩))
  have HG := hide (four_below HB7.out (Nat.le_refl _) (.int .i64 0) (.int .i64 0) (.int .i64 0) (.string ⟨#[]⟩))
  go_wp2_with fail
  refine bodyPost_ret (results_ct rfl rfl ((HTV _).out HF.out)) rfl ⟨?_,HG.out⟩
  rw [HE.out]; rfl
 ·by_cases heq : B5 = tx.size
  ·have hb5 : ((B5 : Int) != (tx.size : Int)) = false := by simp [heq]
   have HE := hide (HYE.out hp heq)
   have HEQ := hide heq
   clear HYE HNE heq
   go_wp2_with fail
   refine wp_region_quiet_below (by kernel_rfl) (by kernel_rfl) ?_
   repeat (go_big_quiet_step ((go_at_call 82; exact cP _ _)))
   refine wpQuiet_nil ?_
   intro _ hw'
   obtain ⟨⟨dq,osq⟩,hw''⟩ := hw'
   subst hw''
   have HR7 := hide (block_on HR4.out (below_regrown w6 dq osq))
   have HN7 := hide (block_on HN4.out (below_regrown w6 dq osq))
   have HB7 := hide (below_here HBB.out (below_regrown w6 dq osq))
   clear k0 k1 k2 k3 cP c0 c1 c2 c3 HN4 HR4 HBB
   generalize Go.Sort.grow (redrawn w6 dq) osq = w7 at *
   obtain ⟨c0,c1,c2,c3⟩ := four_cells HR7.out
   have f0 := four_frozen HR7.out 0
   have f1 := four_frozen HR7.out 1
   have f2 := four_frozen HR7.out 2
   have f3 := four_frozen HR7.out 3
   obtain ⟨d0,d1,d2,d3⟩ := four_cells HN7.out
   have HF := hide (four_set HR7.out (.int .i64 (B0 : Int)) (.int .i64 (B1 : Int)) (.int .i64 (S : Int)) (.string tx))
   have HG := hide (four_below HB7.out (Nat.le_refl _) (.int .i64 (B0 : Int)) (.int .i64 (B1 : Int)) (.int .i64 (S : Int)) (.string tx))
   by_cases hpos : 0 < n + m
   ·rw [if_pos hpos] at HE
    have hd9 : decide ((0 : Int) < n + m) = true := by simpa using hpos
    go_wp2_with fail
    refine bodyPost_ret (results_ct rfl rfl (run_loadVar_row _ _ _ _ _ _ _ HF.out Tryz.underlying31 rfl (by kernel_rfl))) rfl ⟨?_,HG.out⟩
    rw [HE.out]; rfl
   ·rw [if_neg hpos] at HE
    have hd9 : decide ((0 : Int) < n + m) = false := by simpa using hpos
    go_wp2_with fail
    refine bodyPost_ret (results_ct rfl rfl (run_loadVar_row _ _ _ _ _ _ _ HF.out Tryz.underlying31 rfl (by kernel_rfl))) rfl ⟨?_,HG.out⟩
    rw [HE.out]; rfl
  ·have hb5 : ((B5 : Int) != (tx.size : Int)) = true := by simp; omega
   have HE := hide (HNE.out (.inr heq))
   clear HYE HNE
   go_wp2_with fail
   refine wp_region_quiet_below (by kernel_rfl) (by kernel_rfl) ?_
   repeat (go_big_quiet_step ((go_at_call 82; exact cP _ _)))
   refine wpQuiet_nil ?_
   intro _ hw'
   obtain ⟨⟨dq,osq⟩,hw''⟩ := hw'
   subst hw''
   have HR7 := hide (block_on HR4.out (below_regrown w6 dq osq))
   have HN7 := hide (block_on HN4.out (below_regrown w6 dq osq))
   have HB7 := hide (below_here HBB.out (below_regrown w6 dq osq))
   clear k0 k1 k2 k3 cP c0 c1 c2 c3 HN4 HR4 HBB
   generalize Go.Sort.grow (redrawn w6 dq) osq = w7 at *
   obtain ⟨c0,c1,c2,c3⟩ := four_cells HR7.out
   have f0 := four_frozen HR7.out 0
   have f1 := four_frozen HR7.out 1
   have f2 := four_frozen HR7.out 2
   have f3 := four_frozen HR7.out 3
   have HF := hide (four_set HR7.out (.int .i64 0) (.int .i64 0) (.int .i64 0) (.string ⟨#[]⟩))
   have HG := hide (four_below HB7.out (Nat.le_refl _) (.int .i64 0) (.int .i64 0) (.int .i64 0) (.string ⟨#[]⟩))
   go_wp2_with fail
   refine bodyPost_ret (results_ct rfl rfl ((HTV _).out HF.out)) rfl ⟨?_,HG.out⟩
   rw [HE.out]; rfl
end Go.Proofs.YtgjoepdfhadmcaaGreatDoor
end

section
namespace Go.Proofs.YtgjoepdfhadmcaaGreatDoor
open Go.RowKit
set_option linter.unusedVariables false
set_option maxRecDepth 20000
set_option maxHeartbeats 1600000 in
theorem specLying_blank (s : ByteArray) (w : World) (h0 : s.size = 0) :
  Calls Tryz.prog 16 #[.string s] w fun e w' => e = .returned (lyV (lyP s)) ∧ Below w.heap.size w w' := by
 have HE := hide (lyP_blank h0)
 have hs : s.toList.isEmpty = true := by rw [text_empty]; simp [h0]
 go_enter Tryz.func16,Tryz.ntmps16
 go_wp2_with fail
 refine bodyPost_ret (results_ct rfl rfl (run_loadVar_row _ _ _ _ _ _ _ (heap_new _ _) Tryz.underlying31 rfl (by kernel_rfl))) rfl ⟨?_,(Below.refl _ _).alloc (Nat.le_refl _) _⟩
 rw [HE.out]; rfl
set_option maxHeartbeats 1600000 in
theorem specLying_one (s : ByteArray) (w : World) (h1 : s.size = 1) :
  Calls Tryz.prog 16 #[.string s] w fun e w' => e = .returned (lyV (lyP s)) ∧ Below w.heap.size w w' := by
 have HE := hide (lyP_torn (s := s) (by omega) (by simp [goodL,h1]))
 have hs : s.toList.isEmpty = false := by rw [text_empty]; exact decide_eq_false (by omega)
 go_enter Tryz.func16,Tryz.ntmps16
 go_wp2_with fail
 refine bodyPost_ret (results_ct rfl rfl (run_loadVar_row _ _ _ _ _ _ _ (heap_new _ _) Tryz.underlying31 rfl (by kernel_rfl))) rfl ⟨?_,(Below.refl _ _).alloc (Nat.le_refl _) _⟩
 rw [HE.out]; rfl
set_option maxHeartbeats 1600000 in
theorem specLying_two (s : ByteArray) (w : World) (h2 : 2 <= s.size) (hs : s.size <= 1048576) (hno : ¬ ((headT s).2.2 = true ∧ (restT s).2.2 = true ∧ byN (headT s).1 0 = (restT s).1.size ∧ 8 <= (restT s).1.size ∧ whole (restT s).1 = true)) :
  Calls Tryz.prog 16 #[.string s] w fun e w' => e = .returned (lyV (lyP s)) ∧ Below w.heap.size w w' := by
 have he : s.toList.isEmpty = false := by rw [text_empty]; exact decide_eq_false (by omega)
 have HO := hide (heap_new w (.cells #[.int .i64 0,.int .i64 0,.int .i64 0,.string ⟨#[]⟩] 31))
 have HZ := hide ((Below.refl w.heap.size w).alloc (Nat.le_refl _) (.cells #[.int .i64 0,.int .i64 0,.int .i64 0,.string ⟨#[]⟩] 31))
 have hx2 := extract_size2 s h2
 have hxr := extract_rest s h2
 obtain ⟨h,m,one,hh⟩ : ∃ h m one,headT s = (h,m,one) := ⟨_,_,_,rfl⟩
 obtain ⟨t,n,is,ht⟩ : ∃ t n is,restT s = (t,n,is) := ⟨_,_,_,rfl⟩
 have hhz : one = true -> h.size = 1 := fun e => by
  have := healed_size (s := s.extract 0 2) (by rw [show healedAll (s.extract 0 2) = (h,m,one) from hh]; exact e)
  rw [show healedAll (s.extract 0 2) = (h,m,one) from hh] at this
  have h' : (s.extract 0 2).size = 2 * h.size := this
  omega
 have htz : t.size <= 300 := by have := healed_size_le (unwoven (s.extract 2 s.size) 2); rw [show healedAll (unwoven (s.extract 2 s.size) 2) = (t,n,is) from ht] at this; exact this
 have hmb : 0 <= m ∧ m <= 300 := by have := healed_fixed (s.extract 0 2); rw [show healedAll (s.extract 0 2) = (h,m,one) from hh] at this; exact this
 have hnb : 0 <= n ∧ n <= 300 := by have := healed_fixed (unwoven (s.extract 2 s.size) 2); rw [show healedAll (unwoven (s.extract 2 s.size) 2) = (t,n,is) from ht] at this; exact this
 have HH := hide hh
 have HT := hide ht
 have HNO := hide hno
 clear hh ht hno
 go_enter Tryz.func16,Tryz.ntmps16
 go_wp2_with fail
 refine (specHealedAll_any (s.extract 0 2) _ (by omega)).mono ?_
 rw [show healedAll (s.extract 0 2) = (h,m,one) from HH.out]
 unfold toldV
 rintro e w1 ⟨rfl,b1⟩
 have H1 := hide (block_on HO.out b1)
 have HB1 := hide (below_here HZ.out b1)
 clear b1 HO HZ
 go_wp2_with fail
 refine (specUnwoven_any (s.extract 2 s.size) 2 _ (by omega)).mono ?_
 rintro e w2 ⟨rfl,b2⟩
 have H2 := hide (block_on H1.out b2)
 have HB2 := hide (below_here HB1.out b2)
 clear b2 H1 HB1
 go_wp2_with fail
 refine (specHealedAll_any (unwoven (s.extract 2 s.size) 2) _ (Nat.le_trans (unwoven_size_le _ _) (by omega))).mono ?_
 rw [show healedAll (unwoven (s.extract 2 s.size) 2) = (t,n,is) from HT.out]
 unfold toldV
 rintro e w3 ⟨rfl,b3⟩
 have H3 := hide (block_on H2.out b3)
 have HB3 := hide (below_here HB2.out b3)
 clear b3 H2 HB2
 obtain ⟨c0,c1,c2,c3⟩ := four_cells H3.out
 have f0 := four_frozen H3.out 0
 have f1 := four_frozen H3.out 1
 have f2 := four_frozen H3.out 2
 have f3 := four_frozen H3.out 3
 have HTORN : Hid (goodL s = false -> lyP s = (0,0,0,⟨#[]⟩,3)) := fun hg => lyP_torn (by omega) hg
 have HTV : ∀ W,Hid (W.heap[w.heap.size]? = some (.cells #[.int .i64 0,.int .i64 0,.int .i64 0,.string ⟨#[]⟩] 31) -> (loadVar 31 ⟨w.heap.size,0,none⟩).run Tryz.prog W = .ok (.agg #[.int .i64 0,.int .i64 0,.int .i64 0,.string ⟨#[]⟩]) W) := fun W hW => run_loadVar_row _ _ _ _ _ _ _ hW Tryz.underlying31 rfl (by kernel_rfl)
 have HF : Hid (((((w3.setCell ⟨w.heap.size,0,none⟩ (.int .i64 0)).setCell ⟨w.heap.size,1,none⟩ (.int .i64 0)).setCell ⟨w.heap.size,2,none⟩ (.int .i64 0)).setCell ⟨w.heap.size,3,none⟩ (.string ⟨#[]⟩)).heap[w.heap.size]? = some (.cells #[.int .i64 0,.int .i64 0,.int .i64 0,.string ⟨#[]⟩] 31)) := four_set H3.out _ _ _ _
 have HG := hide (four_below HB3.out (Nat.le_refl _) (.int .i64 0) (.int .i64 0) (.int .i64 0) (.string ⟨#[]⟩))
 cases one
 ·have HE := hide (HTORN.out (by simp [goodL,HH.out]))
  clear hhz HTORN
  go_wp2_with fail
  refine bodyPost_ret (results_ct rfl rfl ((HTV _).out HF.out)) rfl ⟨?_,HG.out⟩
  rw [HE.out]; rfl
 ·cases is
  ·have HE := hide (HTORN.out (by simp [goodL,HT.out]))
   clear HTORN
   go_wp2_with fail
   refine bodyPost_ret (results_ct rfl rfl ((HTV _).out HF.out)) rfl ⟨?_,HG.out⟩
   rw [HE.out]; rfl
  ·have hz1 := hhz rfl
   clear hhz
   by_cases h8 : 8 <= t.size
   ·have h8d : decide ((t.size : Int) < 8) = false := by simp; omega
    obtain ⟨Q,hQ⟩ : ∃ Q,Q = byN h 0 := ⟨_,rfl⟩
    have hb0 : (h[0]'(by omega)).toNat = Q := by rw [hQ]; exact byN_at h 0 (by omega)
    have hQl : Q < 256 := by rw [hQ]; exact byN_lt _ _
    have HQ := hide hQ
    clear hQ
    by_cases hq : Q = t.size
    ·have hne : ((Q : Int) != (t.size : Int)) = false := by simp [hq]
     have HQT := hide hq
     clear hq
     cases hw : whole t
     ·have HE := hide (HTORN.out (by simp [goodL,HT.out,bodyOk,hw]))
      clear HTORN
      go_wp2_with fail
      refine (specWhole_any t _ (by omega)).mono ?_
      rw [hw]
      rintro e w4 ⟨rfl,b4⟩
      have H4 := hide (block_on H3.out b4)
      have HB4 := hide (below_here HB3.out b4)
      clear b4 c0 c1 c2 c3 f0 f1 f2 f3 HF HG
      obtain ⟨c0,c1,c2,c3⟩ := four_cells H4.out
      have f0 := four_frozen H4.out 0
      have f1 := four_frozen H4.out 1
      have f2 := four_frozen H4.out 2
      have f3 := four_frozen H4.out 3
      have HF := hide (four_set H4.out (.int .i64 0) (.int .i64 0) (.int .i64 0) (.string ⟨#[]⟩))
      have HG := hide (four_below HB4.out (Nat.le_refl _) (.int .i64 0) (.int .i64 0) (.int .i64 0) (.string ⟨#[]⟩))
      go_wp2_with fail
      refine bodyPost_ret (results_ct rfl rfl ((HTV _).out HF.out)) rfl ⟨?_,HG.out⟩
      rw [HE.out]; rfl
     ·exact absurd ⟨by rw [HH.out],by rw [HT.out],by rw [HH.out,HT.out]; exact HQ.out.symm.trans HQT.out,by rw [HT.out]; exact h8,by rw [HT.out]; exact hw⟩ HNO.out
    ·have hne : ((Q : Int) != (t.size : Int)) = true := by simp; omega
     have HE := hide (HTORN.out (by have := HQ.out; simp [goodL,HT.out,HH.out]; omega))
     clear HTORN
     go_wp2_with fail
     refine bodyPost_ret (results_ct rfl rfl ((HTV _).out HF.out)) rfl ⟨?_,HG.out⟩
     rw [HE.out]; rfl
   ·have HE := hide (HTORN.out (by simp [goodL,HT.out,bodyOk,h8]))
    have h8d : decide ((t.size : Int) < 8) = true := by simp; omega
    clear HTORN
    go_wp2_with fail
    refine bodyPost_ret (results_ct rfl rfl ((HTV _).out HF.out)) rfl ⟨?_,HG.out⟩
    rw [HE.out]; rfl
theorem specLying_any (s : ByteArray) (w : World) (hs : s.size <= 1048576) :
  Calls Tryz.prog 16 #[.string s] w fun e w' => e = .returned (lyV (lyP s)) ∧ Below w.heap.size w w' := by
 by_cases h0 : s.size = 0
 ·exact specLying_blank s w h0
 ·by_cases h1 : s.size = 1
  ·exact specLying_one s w h1
  ·have h2 : 2 <= s.size := by omega
   by_cases hno : (headT s).2.2 = true ∧ (restT s).2.2 = true ∧ byN (headT s).1 0 = (restT s).1.size ∧ 8 <= (restT s).1.size ∧ whole (restT s).1 = true
   ·obtain ⟨a1,a2,a3,a4,a5⟩ := hno
    exact specLying_pass s w h2 hs a1 a2 a3 a4 a5
   ·exact specLying_two s w h2 hs hno
end Go.Proofs.YtgjoepdfhadmcaaGreatDoor
end

