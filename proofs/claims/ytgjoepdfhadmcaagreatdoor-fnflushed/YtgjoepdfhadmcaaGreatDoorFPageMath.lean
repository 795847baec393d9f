/- Several texts in one: PageMath, LyMath, PageLaw, TextNone, DigIs. -/
import Derived.Test.YtgjoepdfhadmcaaGreatDoorFPageBase
import Derived.Test.YtgjoepdfhadmcaaGreatDoorFBase
import Derived.Test.YtgjoepdfhadmcaaGreatDoorFCheckSpec
import Derived.Test.YtgjoepdfhadmcaaGreatDoorFWeaveSpec2
section
namespace Go.Proofs.YtgjoepdfhadmcaaGreatDoor
open Go.RowKit
set_option linter.unusedVariables false
def headL (K A S n : Nat) : List UInt8 := [UInt8.ofNat K,UInt8.ofNat A,UInt8.ofNat (S / 65536),UInt8.ofNat (S / 256 % 256),UInt8.ofNat (S % 256),UInt8.ofNat n]
def bodyB (K A S : Nat) (x : ByteArray) : ByteArray := checked (str (headL K A S x.size) ++ x)
theorem bodyB_size (K A S : Nat) (x : ByteArray) : (bodyB K A S x).size = x.size + 8 := by
 unfold bodyB
 rw [checked_size,ByteArray.size_append]
 show 6 + x.size + 2 = x.size + 8
 omega
def laidB (K A S : Nat) (x : ByteArray) : ByteArray := str (spreadL [UInt8.ofNat (x.size + 8)]) ++ woven (str (spreadL (bodyB K A S x).data.toList)) 2
def laid (k a s : Int) (x : ByteArray) : ByteArray := if pageOk k a s x = true then laidB k.toNat a.toNat s.toNat x else ⟨#[]⟩
theorem lit_reads (w : World) (l : List UInt8) (cs : Array Value) (t : TypeId) (h : cs = (l.map fun b => Value.int .u8 (b.toNat : Int)).toArray) :
  Bytes w.heap.size (w.heap.size + 1) (w.alloc (.cells cs t)) (some ⟨w.heap.size,0,none⟩) l.length l := by
 subst h
 refine ⟨rfl,by simp,fun _ => ⟨w.heap.size,0,rfl,Nat.le_refl _,Nat.lt_succ_self _,fun i hi => ?_⟩⟩
 rw [World.cell?_alloc_new,Nat.zero_add]
 simp [cellB,List.getD_eq_getElem?_getD,List.getElem?_eq_getElem hi]
theorem page_ok {k a s : Int} {x : ByteArray} (h : pageOk k a s x = true) : ∃ K A S : Nat,k = (K : Int) ∧ a = (A : Int) ∧ s = (S : Int) ∧ K <= 2 ∧ A <= 63 ∧ 1 <= S ∧ S <= 1000000 ∧ x.size <= 24 := by
 rw [pageOk_iff] at h
 have h := of_decide_eq_true h
 exact ⟨k.toNat,a.toNat,s.toNat,by omega,by omega,by omega,by omega,by omega,by omega,by omega,by omega⟩
theorem head_cells {K A S n : Nat} (hK : K <= 2) (hA : A <= 63) (hS : S <= 1000000) (hn : n <= 24) :
  #[Value.int .u8 (K : Int),.int .u8 (A : Int),.int .u8 ((S : Int) / 65536),.int .u8 ((S : Int) / 256 % 256),.int .u8 ((S : Int) % 256),.int .u8 (n : Int)] = ((headL K A S n).map fun b => Value.int .u8 (b.toNat : Int)).toArray := by
 simp only [headL,List.map_cons,List.map_nil,UInt8.toNat_ofNat']
 rw [Nat.mod_eq_of_lt (show K < 2 ^ 8 by omega),Nat.mod_eq_of_lt (show A < 2 ^ 8 by omega),Nat.mod_eq_of_lt (show S / 65536 < 2 ^ 8 by omega),Nat.mod_eq_of_lt (show S / 256 % 256 < 2 ^ 8 by omega),Nat.mod_eq_of_lt (show S % 256 < 2 ^ 8 by omega),Nat.mod_eq_of_lt (show n < 2 ^ 8 by omega)]
 simp
theorem one_cell {n : Nat} (hn : n < 256) : #[Value.int .u8 (n : Int)] = (([UInt8.ofNat n] : List UInt8).map fun b => Value.int .u8 (b.toNat : Int)).toArray := by
 simp only [List.map_cons,List.map_nil,UInt8.toNat_ofNat']
 rw [Nat.mod_eq_of_lt (show n < 2 ^ 8 by omega)]
theorem str_size (l : List UInt8) : (str l).size = l.length := rfl
theorem laid_yes {K A S : Nat} {x : ByteArray} (h : pageOk (K : Int) (A : Int) (S : Int) x = true) : laid K A S x = laidB K A S x := by simp [laid,h]
theorem laid_no {k a s : Int} {x : ByteArray} (h : pageOk k a s x = false) : laid k a s x = ⟨#[]⟩ := by simp [laid,h]
theorem woven_size_le (s : ByteArray) (d : Int) : (woven s d).size <= s.size := by
 unfold woven
 split
 ·rw [str_size,Wv.wovenL_length]; simp
 ·exact Nat.zero_le _
theorem spread_len (l : List UInt8) : (str (spreadL l)).size = 2 * l.length := by rw [str_size,spreadL_length]
end Go.Proofs.YtgjoepdfhadmcaaGreatDoor
end

section
namespace Go.Proofs.YtgjoepdfhadmcaaGreatDoor
open Go.RowKit
set_option linter.unusedVariables false
def byN (t : ByteArray) (i : Nat) : Nat := (t.data.toList.getD i 0).toNat
theorem byN_lt (t : ByteArray) (i : Nat) : byN t i < 256 := UInt8.toNat_lt _
theorem byN_at (t : ByteArray) (i : Nat) (h : i < t.size) : (t[i]).toNat = byN t i := by rw [byN,byte_at t i h]
def stampN (t : ByteArray) : Nat := byN t 2 * 65536 + byN t 3 * 256 + byN t 4
def textIn (t : ByteArray) : ByteArray := t.extract 6 (t.size - 2)
def bodyOk (t : ByteArray) : Bool := decide (8 <= t.size) && (whole t && (decide (byN t 5 = t.size - 8) && pageOk (byN t 0) (byN t 1) (stampN t) (textIn t)))
def headT (s : ByteArray) : ByteArray × Int × Bool := healedAll (s.extract 0 2)
def restT (s : ByteArray) : ByteArray × Int × Bool := healedAll (unwoven (s.extract 2 s.size) 2)
def goodL (s : ByteArray) : Bool := decide (2 <= s.size) && ((headT s).2.2 && ((restT s).2.2 && (decide (byN (headT s).1 0 = (restT s).1.size) && bodyOk (restT s).1)))
def lyP (s : ByteArray) : Int × Int × Int × ByteArray × Int :=
 if s.size = 0 then (0,0,0,⟨#[]⟩,0)
 else if goodL s = true then ((byN (restT s).1 0 : Int),(byN (restT s).1 1 : Int),(stampN (restT s).1 : Int),textIn (restT s).1,if 0 < (restT s).2.1 + (headT s).2.1 then 2 else 1)
 else (0,0,0,⟨#[]⟩,3)
def lyV (r : Int × Int × Int × ByteArray × Int) : Value := .tuple #[.agg #[.int .i64 r.1,.int .i64 r.2.1,.int .i64 r.2.2.1,.string r.2.2.2.1],.int .i64 r.2.2.2.2]
theorem lyP_blank {s : ByteArray} (h : s.size = 0) : lyP s = (0,0,0,⟨#[]⟩,0) := if_pos h
theorem lyP_torn {s : ByteArray} (h : s.size ≠ 0) (hg : goodL s = false) : lyP s = (0,0,0,⟨#[]⟩,3) := by
 unfold lyP; rw [if_neg h,if_neg (by simp [hg])]
theorem lyP_good {s : ByteArray} (h : s.size ≠ 0) (hg : goodL s = true) : lyP s = ((byN (restT s).1 0 : Int),(byN (restT s).1 1 : Int),(stampN (restT s).1 : Int),textIn (restT s).1,if 0 < (restT s).2.1 + (headT s).2.1 then 2 else 1) := by
 unfold lyP; rw [if_neg h,if_pos hg]
theorem extract_size2 (s : ByteArray) (h : 2 <= s.size) : (s.extract 0 2).size = 2 := by rw [ByteArray.size_extract]; omega
theorem extract_rest (s : ByteArray) (h : 2 <= s.size) : (s.extract 2 s.size).size = s.size - 2 := by rw [ByteArray.size_extract]; omega
theorem unwoven_size_le (s : ByteArray) (d : Int) : (unwoven s d).size <= s.size := by
 unfold unwoven
 split
 ·rw [str_size,Wv.unwovenL_length]; simp
 ·exact Nat.zero_le _
theorem healed_size {s : ByteArray} (h : (healedAll s).2.2 = true) : s.size = 2 * (healedAll s).1.size := by
 by_cases hc : s.size % 2 = 0 ∧ s.size <= 600 ∧ goodTo s (s.size / 2)
 ·rw [healedAll_yes hc]
  show s.size = 2 * (bytesTo s (s.size / 2)).length
  rw [bytesTo_length]; omega
 ·rw [healedAll_no hc] at h; simp at h
theorem healed_size_le (s : ByteArray) : (healedAll s).1.size <= 300 := by
 by_cases hc : s.size % 2 = 0 ∧ s.size <= 600 ∧ goodTo s (s.size / 2)
 ·rw [healedAll_yes hc]
  show (bytesTo s (s.size / 2)).length <= 300
  rw [bytesTo_length]; omega
 ·rw [healedAll_no hc]; exact Nat.zero_le _
theorem healed_fixed (s : ByteArray) : 0 <= (healedAll s).2.1 ∧ (healedAll s).2.1 <= 300 := by
 by_cases hc : s.size % 2 = 0 ∧ s.size <= 600 ∧ goodTo s (s.size / 2)
 ·rw [healedAll_yes hc]
  have := fixedTo_bd s (s.size / 2) hc.2.2
  show 0 <= fixedTo s (s.size / 2) ∧ fixedTo s (s.size / 2) <= 300
  omega
 ·rw [healedAll_no hc]; exact ⟨Int.le_refl _,by show (0 : Int) <= 300; omega⟩
theorem unwoven_size {s : ByteArray} (h : s.size <= 600) : (unwoven s 2).size = s.size := by
 have hw : woveOk s 2 = true := by simp [woveOk,inB]; omega
 unfold unwoven
 rw [if_pos hw,str_size,Wv.unwovenL_length]; simp
theorem torn_len {s : ByteArray} (h2 : 2 <= s.size) (hne : s.size - 2 ≠ 2 * byN (headT s).1 0) : goodL s = false := by
 cases hg : goodL s
 ·rfl
 ·exfalso
  simp only [goodL,Bool.and_eq_true,decide_eq_true_eq] at hg
  obtain ⟨_,h1,h3,h4,h5⟩ := hg
  have hz := healed_size (s := unwoven (s.extract 2 s.size) 2) h3
  have h8 : 8 <= (restT s).1.size := by simp only [bodyOk,Bool.and_eq_true,decide_eq_true_eq] at h5; exact h5.1
  by_cases h6 : s.size - 2 <= 600
  ·have := unwoven_size (s := s.extract 2 s.size) (by rw [extract_rest s h2]; exact h6)
   rw [extract_rest s h2] at this
   have hr : (restT s).1.size = (healedAll (unwoven (s.extract 2 s.size) 2)).1.size := rfl
   omega
  ·have hw : woveOk (s.extract 2 s.size) 2 = false := by simp [woveOk,inB,extract_rest s h2]; omega
   have : (unwoven (s.extract 2 s.size) 2).size = 0 := by unfold unwoven; rw [if_neg (by simp [hw])]; rfl
   have hr : (restT s).1.size = (healedAll (unwoven (s.extract 2 s.size) 2)).1.size := rfl
   omega
end Go.Proofs.YtgjoepdfhadmcaaGreatDoor
end

section
namespace Go.Proofs.YtgjoepdfhadmcaaGreatDoor
open Go.RowKit
set_option linter.unusedVariables false
theorem spread_at : ∀ (l : List UInt8) (i : Nat),i < 2 * l.length -> (spreadL l).getD i 0 = (wordB (Ham.spread (l.getD (i / 2) 0).toNat)).getD (i % 2) 0
 | [],i,h => by simp at h
 | b :: l,0,_ => rfl
 | b :: l,1,_ => rfl
 | b :: l,i + 2,h => by
  have ih := spread_at l i (by simp at h; omega)
  show (wordB (Ham.spread b.toNat) ++ spreadL l).getD (i + 2) 0 = _
  rw [List.getD_eq_getElem?_getD,List.getElem?_append_right (by simp [wordB]),show i + 2 - (wordB (Ham.spread b.toNat)).length = i by simp [wordB],<- List.getD_eq_getElem?_getD,ih,show (i + 2) / 2 = i / 2 + 1 by omega,show (i + 2) % 2 = i % 2 by omega]
  rfl
theorem spread_word (l : List UInt8) {j : Nat} (h : j < l.length) : wordAt (str (spreadL l)) j = Ham.spread (l.getD j 0).toNat := by
 unfold wordAt
 show 256 * ((spreadL l).getD (2 * j) 0).toNat + ((spreadL l).getD (2 * j + 1) 0).toNat = _
 rw [spread_at l (2 * j) (by omega),spread_at l (2 * j + 1) (by omega),show 2 * j / 2 = j by omega,show (2 * j + 1) / 2 = j by omega,show 2 * j % 2 = 0 by omega,show (2 * j + 1) % 2 = 1 by omega]
 have hl : Ham.spread (l.getD j 0).toNat < 8192 := Ham.spread_lt (UInt8.toNat_lt _)
 generalize Ham.spread (l.getD j 0).toNat = x at *
 show 256 * (UInt8.ofNat (x / 256)).toNat + (UInt8.ofNat (x % 256)).toNat = x
 rw [UInt8.toNat_ofNat',UInt8.toNat_ofNat',Nat.mod_eq_of_lt (show x / 256 < 2 ^ 8 by omega),Nat.mod_eq_of_lt (show x % 256 < 2 ^ 8 by omega)]
 omega
theorem healed_spread (l : List UInt8) (h : l.length <= 300) : healedAll (str (spreadL l)) = (str l,0,true) := by
 have hz : (str (spreadL l)).size = 2 * l.length := spread_len l
 have hd : (str (spreadL l)).size / 2 = l.length := by omega
 have hh : ∀ j,j < l.length -> healedI (wordAt (str (spreadL l)) j) = (((l.getD j 0).toNat : Int),0) := fun j hj => by
  rw [spread_word l hj,healedI_nat (Ham.spread_lt (UInt8.toNat_lt _))]
  exact Ham.healed_clean (UInt8.toNat_lt _)
 have hg : goodTo (str (spreadL l)) l.length := fun j hj => by rw [hh j hj]; simp
 have hb : bytesTo (str (spreadL l)) l.length = l := by
  apply List.ext_getElem
  ·rw [bytesTo_length]
  ·intro j h1 h2
   simp only [bytesTo,List.getElem_map,List.getElem_range]
   rw [hh j h2]
   rw [List.getD_eq_getElem?_getD,List.getElem?_eq_getElem h2]
   simp
 have hc : ∀ k,k <= l.length -> fixedTo (str (spreadL l)) k = 0 := by
  intro k
  induction k with
  | zero => intro _; rfl
  | succ k ih => intro hk; rw [fixedTo_succ,ih (by omega),hh k (by omega)]; rfl
 rw [healedAll_yes ⟨by omega,by omega,by rw [hd]; exact hg⟩,hd,hb,hc _ (Nat.le_refl _)]
theorem str_of (s : ByteArray) : str s.data.toList = s := by cases s; simp [str]
theorem unwoven_of {s : ByteArray} (h : s.size <= 600) : unwoven (woven s 2) 2 = s := by
 have hw : ∀ t : ByteArray,t.size <= 600 -> woveOk t ((2 : Nat) : Int) = true := fun t ht => by simp [woveOk,inB]; omega
 have h1 := woven_yes (hw s h)
 have hz : (woven s ((2 : Nat) : Int)).size <= 600 := Nat.le_trans (woven_size_le s _) h
 have h2 := unwoven_yes (hw _ hz)
 show unwoven (woven s ((2 : Nat) : Int)) ((2 : Nat) : Int) = s
 rw [h2,h1]
 show str (Wv.unwovenL (Wv.wovenL s.data.toList 2) 2) = s
 rw [Wv.unwoven_woven _ (by omega),str_of]
theorem ext_data {s t : ByteArray} (h : s.data.toList = t.data.toList) : s = t := by
 rw [<- str_of s,<- str_of t,h]
theorem append_data (s t : ByteArray) : (s ++ t).data.toList = s.data.toList ++ t.data.toList := by simp
theorem extract_data (s : ByteArray) (i j : Nat) : (s.extract i j).data.toList = (s.data.toList.drop i).take (j - i) := by
 simp [ByteArray.data_extract]
theorem extract_left (s t : ByteArray) (n : Nat) (h : s.size = n) : (s ++ t).extract 0 n = s := by
 apply ext_data
 have hl : s.data.toList.length = n := by simpa using h
 rw [extract_data,append_data,List.drop_zero,Nat.sub_zero,List.take_append_of_le_length (by omega),List.take_of_length_le (by omega)]
theorem extract_right (s t : ByteArray) (n : Nat) (h : s.size = n) : (s ++ t).extract n (s ++ t).size = t := by
 apply ext_data
 have hl : s.data.toList.length = n := by simpa using h
 have ht : t.data.toList.length = t.size := by simp
 rw [extract_data,append_data,List.drop_append_of_le_length (by omega),List.drop_of_length_le (by omega),List.nil_append,List.take_of_length_le]
 rw [ByteArray.size_append]; omega
theorem whole_of (s : ByteArray) : whole (checked s) = true := by
 unfold whole
 rw [checked_size,show s.size + 2 - 2 = s.size by omega]
 have : (checked s).extract 0 s.size = s := extract_left s _ _ rfl
 rw [this]
 simp
theorem body_data (K A S : Nat) (x : ByteArray) : (bodyB K A S x).data.toList = headL K A S x.size ++ (x.data.toList ++ tail2 (checkN (str (headL K A S x.size) ++ x))) := by
 unfold bodyB checked
 rw [append_data,append_data]
 show (headL K A S x.size ++ x.data.toList) ++ tail2 _ = _
 rw [List.append_assoc]
theorem body_by (K A S : Nat) (x : ByteArray) (i : Nat) (hi : i < 6) : byN (bodyB K A S x) i = ((headL K A S x.size).getD i 0).toNat := by
 unfold byN
 rw [body_data,List.getD_eq_getElem?_getD,List.getElem?_append_left (by show i < 6; exact hi),<- List.getD_eq_getElem?_getD]
theorem u8_nat {n : Nat} (h : n < 256) : (UInt8.ofNat n).toNat = n := by rw [UInt8.toNat_ofNat']; exact Nat.mod_eq_of_lt (by omega)
theorem body_text (K A S : Nat) (x : ByteArray) : textIn (bodyB K A S x) = x := by
 unfold textIn
 rw [bodyB_size]
 apply ext_data
 have hl : x.data.toList.length = x.size := by simp
 rw [extract_data,body_data]
 rw [List.drop_append_of_le_length (by show 6 <= 6; omega),List.drop_of_length_le (by show 6 <= 6; omega),List.nil_append,List.take_append_of_le_length (by omega),List.take_of_length_le (by omega)]
theorem ly_laid {k a s : Int} {x : ByteArray} (h : pageOk k a s x = true) : lyP (laid k a s x) = (k,a,s,x,1) ∧ 1 <= (laid k a s x).size := by
 obtain ⟨K,A,S,rfl,rfl,rfl,hK,hA,hS1,hS,hx⟩ := page_ok h
 rw [laid_yes h]
 have hb := bodyB_size K A S x
 have hbl : (bodyB K A S x).data.toList.length <= 300 := by have : (bodyB K A S x).data.toList.length = (bodyB K A S x).size := by simp
                                                            omega
 have h0 : (str (spreadL [UInt8.ofNat (x.size + 8)])).size = 2 := by rw [spread_len]; rfl
 have hz : 2 <= (laidB K A S x).size := by unfold laidB; rw [ByteArray.size_append]; omega
 have e1 : (laidB K A S x).extract 0 2 = str (spreadL [UInt8.ofNat (x.size + 8)]) := extract_left _ _ _ h0
 have e2 : (laidB K A S x).extract 2 (laidB K A S x).size = woven (str (spreadL (bodyB K A S x).data.toList)) 2 := extract_right _ _ _ h0
 have hh : headT (laidB K A S x) = (str [UInt8.ofNat (x.size + 8)],0,true) := by
  unfold headT; rw [e1]; exact healed_spread _ (by show 1 <= 300; omega)
 have hr : restT (laidB K A S x) = (bodyB K A S x,0,true) := by
  unfold restT
  rw [e2,unwoven_of (by rw [spread_len]; omega),healed_spread _ hbl,str_of]
 have b0 : byN (bodyB K A S x) 0 = K := by rw [body_by _ _ _ _ _ (by omega)]; exact u8_nat (by omega)
 have b1 : byN (bodyB K A S x) 1 = A := by rw [body_by _ _ _ _ _ (by omega)]; exact u8_nat (by omega)
 have b2 : byN (bodyB K A S x) 2 = S / 65536 := by rw [body_by _ _ _ _ _ (by omega)]; exact u8_nat (by omega)
 have b3 : byN (bodyB K A S x) 3 = S / 256 % 256 := by rw [body_by _ _ _ _ _ (by omega)]; exact u8_nat (by omega)
 have b4 : byN (bodyB K A S x) 4 = S % 256 := by rw [body_by _ _ _ _ _ (by omega)]; exact u8_nat (by omega)
 have b5 : byN (bodyB K A S x) 5 = x.size := by rw [body_by _ _ _ _ _ (by omega)]; exact u8_nat (by omega)
 have bs : stampN (bodyB K A S x) = S := by unfold stampN; rw [b2,b3,b4]; omega
 have bh : byN (str [UInt8.ofNat (x.size + 8)]) 0 = x.size + 8 := u8_nat (by omega)
 have hok : bodyOk (bodyB K A S x) = true := by
  unfold bodyOk
  rw [b0,b1,bs,b5,body_text,hb,h]
  have : whole (bodyB K A S x) = true := whole_of _
  rw [this]
  simp
 have hg : goodL (laidB K A S x) = true := by
  unfold goodL
  rw [hh,hr]
  dsimp only
  rw [bh,hb,hok,decide_eq_true hz]
  simp
 refine ⟨?_,by omega⟩
 rw [lyP_good (by omega) hg,hr,hh]
 dsimp only
 rw [b0,b1,bs,body_text]
 rfl
end Go.Proofs.YtgjoepdfhadmcaaGreatDoor
end

section
namespace Go.Proofs.YtgjoepdfhadmcaaGreatDoor
open Go.RowKit
set_option linter.unusedVariables false
theorem text_none {x : ByteArray} (h : 1 <= x.size) : x.toList.isEmpty = false := by
 rw [ByteArray.toList_eq]
 cases hl : x.data.toList with
 | nil =>
  have h2 : x.data.toList.length = x.size := by simp
  rw [hl] at h2
  simp at h2
  omega
 | cons a l => rfl
end Go.Proofs.YtgjoepdfhadmcaaGreatDoor
end

section
namespace Go.Proofs.YtgjoepdfhadmcaaGreatDoor
open Go.RowKit
set_option linter.unusedVariables false
set_option maxRecDepth 20000
def digB (d : Nat) : ByteArray := ⟨#[UInt8.ofNat d]⟩
def digT (k : Nat) : ByteArray := if k < 10 then digB (48 + k % 10) else digB (48 + k / 10 % 10) ++ digB (48 + k % 10)
theorem digT_size (k : Nat) : (digT k).size <= 2 := by
 unfold digT
 split
 ·exact Nat.le_succ_of_le (Nat.le_refl 1)
 ·rw [ByteArray.size_append]; exact Nat.le_refl 2
set_option maxHeartbeats 800000 in
theorem digits_is (k : Nat) (hk : k <= 99) (w : World) :
  Calls Tryz.prog 26 #[.int .i64 (k : Int)] w fun e w' => e = .returned (.string (digT k)) ∧ Below w.heap.size w w' := by
 go_enter Tryz.func26,Tryz.ntmps26
 go_wp2_with fail
 go_loopw [0,3] (fun t s wr => ∃ (m : Nat) (x : ByteArray),t = .int .i64 (m : Int) ∧ s = .string x ∧ ((x = ⟨#[]⟩ ∧ m = k) ∨ (x = digB (48 + k % 10) ∧ m = k / 10) ∨ (x = digB (48 + k / 10 % 10) ++ digB (48 + k % 10) ∧ m = 0 ∧ 10 <= k)) ∧ Below w.heap.size w wr) (fun t s _ => (intOf t).toNat + (match s with | .string x => 2 - x.size | _ => 0))
 case atStart => exact ⟨k,⟨#[]⟩,rfl,rfl,.inl ⟨rfl,rfl⟩,Below.refl _ _⟩
 case round =>
  obtain ⟨m,x,rfl,rfl,hor,hb⟩ := hrel
  have HB := hide hb
  clear hb
  have hm : m <= 99 := by omega
  obtain ⟨d,hd⟩ : ∃ d : Nat,d = 48 + m % 10 := ⟨_,rfl⟩
  have hd2 : d < 256 := by omega
  have hd1 : 48 + (m : Int) % 10 = (d : Int) := by omega
  obtain ⟨q,hqm⟩ : ∃ q : Nat,q = m / 10 := ⟨_,rfl⟩
  have hq : (m : Int) / 10 = (q : Int) := by omega
  have HQ := hide hqm
  clear hqm
  have hst : (convert 22 9 (.slice (some ⟨wr.heap.size,0,none⟩) 1 1)).run Tryz.prog (wr.alloc (.cells #[.int .u8 (d : Int)] 5)) = .ok (.string ⟨#[UInt8.ofNat d]⟩) (wr.alloc (.cells #[.int .u8 (d : Int)] 5)) := string_of (P := Tryz.prog) (lit_reads wr [UInt8.ofNat d] #[.int .u8 (d : Int)] 5 (one_cell hd2)) 22 9 5 1 Tryz.underlying22 Tryz.underlying5 Tryz.underlying9
  have h1 : (ByteArray.mk #[UInt8.ofNat d]).size = 1 := rfl
  have HBN := hide (HB.out.alloc (HB.out.size) (.cells #[.int .u8 (d : Int)] 5))
  have HD := hide hd
  clear hd
  by_cases hgo : x = ⟨#[]⟩ ∨ 0 < m
  ·rcases hor with ⟨rfl,hm9⟩ | ⟨hx,hm9⟩ | ⟨hx,hm9,hm10⟩
   ·have HM9 := hide hm9
    clear hm9 hgo
    go_wp2_with fail
    have hm9 := HM9.out
    have hz : (({ data := #[UInt8.ofNat d] } : ByteArray) ++ ({ data := #[] } : ByteArray)) = digB (48 + k % 10) := by
     rw [HD.out,hm9]
     show digB (48 + k % 10) ++ ByteArray.empty = _
     exact ByteArray.append_empty
    have hqe := HQ.out
    refine ⟨⟨q,_,rfl,rfl,.inr (.inl ⟨hz,by omega⟩),HBN.out⟩,?_⟩
    rw [hz]
    show (intOf (Value.int .i64 (q : Int))).toNat + (2 - 1) < (intOf (Value.int .i64 (m : Int))).toNat + (2 - 0)
    simp [intOf]
    omega
   ·have e1 := text_none (x := x) (by rw [hx]; exact Nat.le_refl 1)
    have hx1 : x.size = 1 := by rw [hx]; rfl
    have hm0 : (0 : Int) < (m : Int) := by rcases hgo with h | h; exact absurd (congrArg ByteArray.size h) (by rw [hx1]; decide); omega
    have hm0' : 0 < m := by omega
    have hxle : x.size <= 1 := by omega
    have HM9 := hide hm9
    have HX9 := hide hx
    have HX1 := hide hx1
    clear hm9 hx hx1
    go_wp2_with fail
    have hm9 := HM9.out
    have hx := HX9.out
    have hx1 := HX1.out
    have hz : (({ data := #[UInt8.ofNat d] } : ByteArray) ++ x) = digB (48 + k / 10 % 10) ++ digB (48 + k % 10) := by
     rw [HD.out,hm9,hx]; rfl
    have hqe := HQ.out
    refine ⟨⟨q,_,rfl,rfl,.inr (.inr ⟨hz,by omega,by omega⟩),HBN.out⟩,?_⟩
    have hz2 : (({ data := #[UInt8.ofNat d] } : ByteArray) ++ x).size = 2 := by rw [ByteArray.size_append,h1,hx1]
    show (intOf (Value.int .i64 (q : Int))).toNat + (2 - (({ data := #[UInt8.ofNat d] } : ByteArray) ++ x).size) < (intOf (Value.int .i64 (m : Int))).toNat + (2 - x.size)
    rw [hz2,hx1]
    simp [intOf]
    omega
   ·exfalso
    have hx2 : x.size = 2 := by rw [hx,ByteArray.size_append]; rfl
    rcases hgo with h | h
    ·exact absurd (congrArg ByteArray.size h) (by rw [hx2]; decide)
    ·omega
  ·have hm0 : m = 0 := by omega
   have hxs : 1 <= x.size := by
    rcases hor with ⟨rfl,_⟩ | ⟨h,_⟩ | ⟨h,_⟩
    ·exact absurd (.inl rfl) hgo
    ·rw [h]; exact Nat.le_refl 1
    ·rw [h,ByteArray.size_append]; exact Nat.le_succ 1
   have hxt : x = digT k := by
    rcases hor with ⟨rfl,_⟩ | ⟨h,h2⟩ | ⟨h,_,h2⟩
    ·exact absurd (.inl rfl) hgo
    ·unfold digT; rw [if_pos (by omega)]; exact h
    ·unfold digT; rw [if_neg (by omega)]; exact h
   have e1 := text_none hxs
   have HX := hide hxt
   clear hxt hor hgo hxs
   subst hm0
   go_wp2_with fail
   go_ret
   exact ⟨by rw [HX.out]; rfl,HB.out⟩
end Go.Proofs.YtgjoepdfhadmcaaGreatDoor
end

