/- Several texts in one: BytesBase, JnMath, BytesMath, BitsBytes, SmearMath. -/
import Derived.Test.YtdjifickdcnacaaDoorNBase
import Derived.Laws.IdiomStrings
import Derived.Laws.BytesArg
import Derived.Laws.BitsAllLaws
section
namespace Go.Proofs.YtdjifickdcnacaaDoor
open Go.RowKit
def cellB (l : List UInt8) (i : Nat) : Value := .int .u8 ((l.getD i 0).toNat : Int)
def Bytes (lo hi : Nat) (w : World) (a : Option Addr) (n : Nat) (l : List UInt8) : Prop := l.length = n ∧ Reads lo hi w a n (cellB l)
def OwnBytes (lo hi : Nat) (w : World) (a : Option Addr) (n : Nat) (l : List UInt8) : Prop := l.length = n ∧ Owned lo hi w a n (cellB l)
theorem bytes_made (w : World) (s : ByteArray) (e cap : Nat) (m : Nat) : Owned w.heap.size (w.heap.size + 1) (w.alloc (.cells (bytesRow s cap) e ((bytesRow s cap).size,m))) (some ⟨w.heap.size,0,none⟩) s.size (cellB s.data.toList) := by
 have hb : (w.alloc (.cells (bytesRow s cap) e ((bytesRow s cap).size,m))).heap[w.heap.size]? = some (.cells (bytesRow s cap) e ((bytesRow s cap).size,m)) := by
  show (w.heap.push _)[w.heap.size]? = _
  simp
 have hsz : (w.alloc (.cells (bytesRow s cap) e ((bytesRow s cap).size,m))).heap.size = w.heap.size + 1 := by
  show (w.heap.push _).size = _
  simp
 have hrow : s.size <= (bytesRow s cap).size := by simp [bytesRow]
 refine ⟨by rw [hsz]; exact Nat.le_refl _,fun _ => ⟨w.heap.size,0,rfl,Nat.le_refl _,Nat.lt_succ_self _,fun i hi => ⟨?_,?_⟩⟩⟩
 ·simp only [World.cell?,hb,Nat.zero_add]
  simp [bytesRow,cellB,Array.getElem?_append,hi,List.getD_eq_getElem?_getD]
 ·simp only [World.frozen?,hb,Nat.zero_add]
  simp
  omega
theorem string_of {P : Program} {lo hi : Nat} {w : World} {a : Option Addr} {n : Nat} {l : List UInt8} (h : Bytes lo hi w a n l) (src dst e : TypeId) (cap : Nat)
  (hs : P.underlying src = some (.slice e)) (he : P.underlying e = some (.int .u8)) (hd : P.underlying dst = some .string) :
  (convert src dst (.slice a n cap)).run P w = .ok (.string ⟨l.toArray⟩) w := by
 obtain ⟨hl,_,hx⟩ := h
 by_cases hn : 0 < n
 ·obtain ⟨b,off,rfl,_,_,hc⟩ := hx hn
  rw [run_convert_bytes_arg w src e hs he b off n cap (l.map fun b => (b.toNat : Int)) (by simpa using hl) (fun i hi => by rw [hc i hi,cellB]; simp [List.getD_eq_getElem?_getD,hl,hi]) dst hd]
  simp [strOfNums,Function.comp_def]
 ·have hn0 : n = 0 := by omega
  subst hn0
  have hl0 : l = [] := List.eq_nil_of_length_eq_zero hl
  subst hl0
  cases a with
  | none => rw [run_convert_bytes_nil w src e hs he 0 cap dst hd]; rfl
  | some a =>
   rw [run_convert_bytes_string w src dst e _ 0 cap hs he hd,run_bytesToString w a 0 cap [] (by simpa using run_loadCells_list (P := P) w a [] (fun j v hj => by simp at hj))]
   rfl
theorem cells_step {f g : Nat -> Value} {v : Value} (k j : Nat) (hv : v = f k) : (if j = k then v else if j < k then f j else g j) = (if j < k + 1 then f j else g j) := by
 by_cases e : j = k
 ·subst e; simp [hv]
 ·rw [if_neg e]
  by_cases h : j < k
  ·rw [if_pos h,if_pos (by omega)]
  ·rw [if_neg h,if_neg (by omega)]
theorem ret_str {a b : ByteArray} (h : a = b) : Ending.returned (.string a) = .returned (.string b) := by rw [h]
def str (l : List UInt8) : ByteArray := ⟨l.toArray⟩
def xorL (a b : List UInt8) : List UInt8 := List.zipWith (· ^^^ ·) a b
def xored (a b : ByteArray) : ByteArray := if a.size = b.size then str (xorL a.data.toList b.data.toList) else ByteArray.empty
end Go.Proofs.YtdjifickdcnacaaDoor
end

section
namespace Go.Proofs.YtdjifickdcnacaaDoor
open Go.RowKit
def jn (l : List Int) : Int := l.foldl (fun b x => 2 * b + x) 0
theorem jn_snoc (l : List Int) (x : Int) : jn (l ++ [x]) = 2 * jn l + x := by simp [jn]
theorem jn_bd {l : List Int} (h : l.all bit = true) : ∀ k,k <= l.length -> 0 <= jn (l.take k) ∧ jn (l.take k) < 2 ^ k
 | 0,_ => by simp [jn]
 | k + 1,hk => by
  have ih := jn_bd h k (by omega)
  have hb := bit_bd (bit_at h k)
  rw [take_snoc l k (by omega),jn_snoc,Int.pow_succ]
  omega
end Go.Proofs.YtdjifickdcnacaaDoor
end

section
namespace Go.Proofs.YtdjifickdcnacaaDoor
open Go.RowKit
def octN (xs : List Int) (j : Nat) : Nat := (jn (eight xs (8 * j))).toNat
def byteL (xs : List Int) : List UInt8 := (List.range ((xs.length + 7) / 8)).map fun j => UInt8.ofNat (octN xs j)
theorem byteL_length (xs : List Int) : (byteL xs).length = (xs.length + 7) / 8 := by simp [byteL]
theorem eight_all {xs : List Int} (h : xs.all bit = true) (k : Nat) : (eight xs k).all bit = true := by
 simp only [eight,List.all_cons,List.all_nil,bit_at h,Bool.and_true]
theorem jn8_bd {xs : List Int} (h : xs.all bit = true) (k : Nat) : 0 <= jn (eight xs k) ∧ jn (eight xs k) < 256 := by
 have := jn_bd (eight_all h k) 8 (Nat.le_refl _)
 rw [List.take_of_length_le (by simp [eight])] at this
 exact this
theorem byte_cell {xs : List Int} (h : xs.all bit = true) (j : Nat) (hj : j < (xs.length + 7) / 8) : Value.int .u8 (jn (eight xs (8 * j))) = cellB (byteL xs) j := by
 have hb := jn8_bd h (8 * j)
 have e : (byteL xs).getD j 0 = UInt8.ofNat (octN xs j) := by simp [byteL,List.getD_eq_getElem?_getD,hj]
 rw [cellB,e]
 have : (UInt8.ofNat (octN xs j)).toNat = octN xs j := by
  rw [UInt8.toNat_ofNat']
  unfold octN
  omega
 rw [this]
 unfold octN
 congr 1
 omega
theorem jn8 (a0 a1 a2 a3 a4 a5 a6 a7 : Int) : jn [a0,a1,a2,a3,a4,a5,a6,a7] = 128 * a0 + 64 * a1 + 32 * a2 + 16 * a3 + 8 * a4 + 4 * a5 + 2 * a6 + a7 := by
 simp only [jn,List.foldl]; omega
theorem take_all {xs : List Int} (h : xs.all bit = true) (k : Nat) : (xs.take k).all bit = true := by
 rw [List.all_eq_true] at h ⊢
 exact fun x hx => h x (List.mem_of_mem_take hx)
theorem getD_take (xs : List Int) (k i : Nat) : (xs.take k).getD i 0 = if i < k then xs.getD i 0 else 0 := by
 rw [List.getD_eq_getElem?_getD,List.getD_eq_getElem?_getD,List.getElem?_take]
 split <;> rfl
theorem eight_congr {xs ys : List Int} {p : Nat} (h : ∀ i,i < 8 -> xs.getD (p + i) 0 = ys.getD (p + i) 0) : eight xs p = eight ys p := by
 unfold eight
 rw [h 1 (by omega),h 2 (by omega),h 3 (by omega),h 4 (by omega),h 5 (by omega),h 6 (by omega),h 7 (by omega)]
 have h0 := h 0 (by omega)
 simp only [Nat.add_zero] at h0
 rw [h0]
theorem byte_other (xs : List Int) (k j : Nat) (hj : j ≠ k / 8) : eight (xs.take (k + 1)) (8 * j) = eight (xs.take k) (8 * j) := by
 refine eight_congr fun i hi => ?_
 rw [getD_take,getD_take]
 by_cases h1 : 8 * j + i < k
 ·rw [if_pos (by omega),if_pos h1]
 ·rw [if_neg (by omega),if_neg h1]
theorem byte_zero (xs : List Int) (k j : Nat) (h0 : xs.getD k 0 = 0) : eight (xs.take (k + 1)) (8 * j) = eight (xs.take k) (8 * j) := by
 refine eight_congr fun i hi => ?_
 rw [getD_take,getD_take]
 by_cases h1 : 8 * j + i < k
 ·rw [if_pos (by omega),if_pos h1]
 ·rw [if_neg h1]
  by_cases h2 : 8 * j + i = k
  ·rw [h2,h0]; simp
  ·rw [if_neg (by omega)]
theorem or_low_all : ∀ m : Fin 8,∀ v : Fin 256,v.val % 2 ^ (8 - m.val) = 0 -> (v.val ||| (128 / 2 ^ m.val)) = v.val + 128 / 2 ^ m.val := by decide +kernel
theorem or_low (m v : Nat) (hm : m < 8) (hv : v < 256) (h : v % 2 ^ (8 - m) = 0) : bits .or .u8 (v : Int) (128 / 2 ^ m) = (v : Int) + 128 / 2 ^ m := by
 have hp : (128 / 2 ^ m : Int) = ((128 / 2 ^ m : Nat) : Int) := by simp
 have hlt : 128 / 2 ^ m < 256 := by have := Nat.div_le_self 128 (2 ^ m); omega
 have hall := or_low_all ⟨m,hm⟩ ⟨v,hv⟩ h
 simp only at hall
 rw [hp,u8_or_nat _ _ hv hlt,hall,Int.natCast_add]
theorem byte_one {xs : List Int} (hall : xs.all bit = true) (k : Nat) (h1 : xs.getD k 0 = 1) :
  bits .or .u8 (jn (eight (xs.take k) (8 * (k / 8)))) (128 / 2 ^ (k % 8)) = jn (eight (xs.take (k + 1)) (8 * (k / 8))) := by
 obtain ⟨q,hq⟩ : ∃ q,q = k / 8 := ⟨_,rfl⟩
 obtain ⟨m,hm⟩ : ∃ m,m = k % 8 := ⟨_,rfl⟩
 have hk : k = 8 * q + m := by omega
 have hm8 : m < 8 := by omega
 rw [<- hq,<- hm]
 clear hq hm
 subst hk
 have hb : ∀ i,0 <= xs.getD (8 * q + i) 0 ∧ xs.getD (8 * q + i) 0 <= 1 := fun i => bit_bd (bit_at hall _)
 have b0 := hb 0
 have b1 := hb 1
 have b2 := hb 2
 have b3 := hb 3
 have b4 := hb 4
 have b5 := hb 5
 have b6 := hb 6
 have b7 := hb 7
 simp only [Nat.add_zero] at b0
 clear hb
 simp only [eight,getD_take,jn8]
 generalize hg0 : xs.getD (8 * q) 0 = g0 at *
 generalize hg1 : xs.getD (8 * q + 1) 0 = g1 at *
 generalize hg2 : xs.getD (8 * q + 2) 0 = g2 at *
 generalize hg3 : xs.getD (8 * q + 3) 0 = g3 at *
 generalize hg4 : xs.getD (8 * q + 4) 0 = g4 at *
 generalize hg5 : xs.getD (8 * q + 5) 0 = g5 at *
 generalize hg6 : xs.getD (8 * q + 6) 0 = g6 at *
 generalize hg7 : xs.getD (8 * q + 7) 0 = g7 at *
 obtain ⟨v,hv⟩ : ∃ v : Nat,(v : Int) = 128 * (if 8 * q < 8 * q + m then g0 else 0) + 64 * (if 8 * q + 1 < 8 * q + m then g1 else 0) + 32 * (if 8 * q + 2 < 8 * q + m then g2 else 0) + 16 * (if 8 * q + 3 < 8 * q + m then g3 else 0) + 8 * (if 8 * q + 4 < 8 * q + m then g4 else 0) + 4 * (if 8 * q + 5 < 8 * q + m then g5 else 0) + 2 * (if 8 * q + 6 < 8 * q + m then g6 else 0) + (if 8 * q + 7 < 8 * q + m then g7 else 0) := by
  refine ⟨(_ : Int).toNat,Int.toNat_of_nonneg ?_⟩
  omega
 rw [<- hv]
 simp only [Nat.add_assoc,Nat.add_lt_add_iff_left,Nat.lt_add_right_iff_pos] at hv ⊢
 rcases (show m = 0 ∨ m = 1 ∨ m = 2 ∨ m = 3 ∨ m = 4 ∨ m = 5 ∨ m = 6 ∨ m = 7 by omega) with rfl | rfl | rfl | rfl | rfl | rfl | rfl | rfl
 all_goals
  first | rw [Nat.add_zero,hg0] at h1 | rw [hg1] at h1 | rw [hg2] at h1 | rw [hg3] at h1 | rw [hg4] at h1 | rw [hg5] at h1 | rw [hg6] at h1 | rw [hg7] at h1
  clear hg0 hg1 hg2 hg3 hg4 hg5 hg6 hg7
  simp at hv
  rw [or_low _ v (by omega) (by omega) (by omega)]
  simp
  omega
end Go.Proofs.YtdjifickdcnacaaDoor
end

section
namespace Go.Proofs.YtdjifickdcnacaaDoor
open Go.RowKit
theorem jn_bits8_all : ∀ n : Fin 256,jn (bits8 n.val) = (n.val : Int) := by decide +kernel
theorem bits8_len (n : Nat) : (bits8 n).length = 8 := rfl
theorem bits8_bit (n : Nat) : (bits8 n).all bit = true := by
 have h : ∀ k,bit (bitOf n k) = true := fun k => by have := bitOf_bd n k; simp [bit]; omega
 simp only [bits8,List.all_cons,List.all_nil,h,Bool.and_true]
theorem bitsL_all (l : List UInt8) : (bitsL l).all bit = true := by
 induction l with
 | nil => rfl
 | cons b l ih => simp only [bitsL,List.flatMap_cons,List.all_append,bits8_bit,Bool.true_and] at ih ⊢; exact ih
theorem bitsL_at : ∀ (l : List UInt8) (j i : Nat),j < l.length -> i < 8 -> (bitsL l).getD (8 * j + i) 0 = bitOf (l.getD j 0).toNat i
 | [],j,i,h,_ => by simp at h
 | b :: l,0,i,_,hi => by
  rw [bitsL,List.flatMap_cons,List.getD_eq_getElem?_getD,List.getElem?_append_left (by rw [bits8_len]; omega)]
  have := bits8_at b.toNat i hi
  rw [List.getD_eq_getElem?_getD] at this
  simpa using this
 | b :: l,j + 1,i,h,hi => by
  have ih := bitsL_at l j i (by simpa using h) hi
  rw [bitsL,List.flatMap_cons,List.getD_eq_getElem?_getD,List.getElem?_append_right (by rw [bits8_len]; omega),bits8_len,show 8 * (j + 1) + i - 8 = 8 * j + i by omega,<- List.getD_eq_getElem?_getD]
  simpa [bitsL] using ih
theorem eight_bitsL (l : List UInt8) (j : Nat) (h : j < l.length) : eight (bitsL l) (8 * j) = bits8 (l.getD j 0).toNat := by
 unfold eight bits8
 rw [bitsL_at l j 1 h (by omega),bitsL_at l j 2 h (by omega),bitsL_at l j 3 h (by omega),bitsL_at l j 4 h (by omega),bitsL_at l j 5 h (by omega),bitsL_at l j 6 h (by omega),bitsL_at l j 7 h (by omega)]
 have := bitsL_at l j 0 h (by omega)
 simp only [Nat.add_zero] at this
 rw [this]
theorem byteL_bitsL (l : List UInt8) : byteL (bitsL l) = l := by
 apply List.ext_getElem
 ·rw [byteL_length,bitsL_length]; omega
 ·intro j h1 h2
  have hb : octN (bitsL l) j = l[j].toNat := by
   unfold octN
   rw [eight_bitsL l j h2]
   have e : l.getD j 0 = l[j] := by rw [List.getD_eq_getElem?_getD,List.getElem?_eq_getElem h2]; rfl
   have hj := jn_bits8_all ⟨l[j].toNat,UInt8.toNat_lt _⟩
   simp only at hj
   rw [e,hj]; rfl
  simp only [byteL,List.getElem_map,List.getElem_range,hb]
  simp
end Go.Proofs.YtdjifickdcnacaaDoor
end

section
namespace Go.Proofs.YtdjifickdcnacaaDoor
open Go.RowKit
def xb (a : Int) (b : Nat) : Int := if b = 1 then 1 - a else a
def mbit (mask i : Nat) : Nat := mask / 2 ^ (15 - i) % 2
theorem mbit_lt (mask i : Nat) : mbit mask i < 2 := Nat.mod_lt _ (by omega)
def smI (xs : List Int) (p mask k : Nat) : List Int := (List.range xs.length).map fun i => if p <= i ∧ i < p + k then xb (xs.getD i 0) (mbit mask (i - p)) else xs.getD i 0
theorem smI_length (xs : List Int) (p mask k : Nat) : (smI xs p mask k).length = xs.length := by simp [smI]
theorem getD_out (xs : List Int) (i : Nat) (h : xs.length <= i) : xs.getD i 0 = 0 := by
 rw [List.getD_eq_getElem?_getD,List.getElem?_eq_none h]; rfl
theorem smI_getD (xs : List Int) (p mask k i : Nat) : (smI xs p mask k).getD i 0 = if (p <= i ∧ i < p + k) ∧ i < xs.length then xb (xs.getD i 0) (mbit mask (i - p)) else xs.getD i 0 := by
 by_cases h : i < xs.length
 ·have : (smI xs p mask k).getD i 0 = if p <= i ∧ i < p + k then xb (xs.getD i 0) (mbit mask (i - p)) else xs.getD i 0 := by
   simp [smI,List.getD_eq_getElem?_getD,h]
  rw [this]
  by_cases h2 : p <= i ∧ i < p + k
  ·rw [if_pos h2,if_pos ⟨h2,h⟩]
  ·rw [if_neg h2,if_neg (fun e => h2 e.1)]
 ·rw [getD_out _ _ (by rw [smI_length]; omega),if_neg (fun e => h e.2),getD_out _ _ (by omega)]
theorem ext_getD {xs ys : List Int} (hl : xs.length = ys.length) (h : ∀ i,i < xs.length -> xs.getD i 0 = ys.getD i 0) : xs = ys := by
 apply List.ext_getElem hl
 intro i h1 h2
 have := h i h1
 rw [List.getD_eq_getElem?_getD,List.getD_eq_getElem?_getD,List.getElem?_eq_getElem h1,List.getElem?_eq_getElem h2] at this
 simpa using this
theorem smI_zero (xs : List Int) (p mask : Nat) : smI xs p mask 0 = xs := by
 apply ext_getD (smI_length _ _ _ _)
 intro i _
 rw [smI_getD,if_neg (by omega)]
theorem smI_far {xs : List Int} {p mask k : Nat} (h : xs.length <= p + k) (hk : k <= 16) : smI xs p mask k = smI xs p mask 16 := by
 apply ext_getD (by rw [smI_length,smI_length])
 intro i hi
 rw [smI_length] at hi
 rw [smI_getD,smI_getD]
 by_cases h2 : p <= i
 ·rw [if_pos ⟨⟨h2,by omega⟩,hi⟩,if_pos ⟨⟨h2,by omega⟩,hi⟩]
 ·rw [if_neg (by omega),if_neg (by omega)]
theorem xb_bit {a : Int} (h : bit a = true) (b : Nat) : bit (xb a b) = true := by
 have := bit_bd h
 unfold xb
 split
 ·simp [bit]; omega
 ·exact h
theorem smI_all {xs : List Int} (h : xs.all bit = true) (p mask k : Nat) : (smI xs p mask k).all bit = true := by
 rw [List.all_eq_true]
 intro x hx
 simp only [smI,List.mem_map] at hx
 obtain ⟨i,_,rfl⟩ := hx
 split
 ·exact xb_bit (bit_at h i) _
 ·exact bit_at h i
theorem smI_at (xs : List Int) (p mask k : Nat) : (smI xs p mask k).getD (p + k) 0 = xs.getD (p + k) 0 := by
 rw [smI_getD,if_neg (by omega)]
theorem smI_step {xs : List Int} {p mask k : Nat} (h : p + k < xs.length) (i : Nat) : (smI xs p mask (k + 1)).getD i 0 = if i = p + k then xb (xs.getD (p + k) 0) (mbit mask k) else (smI xs p mask k).getD i 0 := by
 rw [smI_getD,smI_getD]
 by_cases e : i = p + k
 ·subst e
  rw [if_pos ⟨by omega,h⟩,if_pos rfl,show p + k - p = k by omega]
 ·rw [if_neg e]
  by_cases h2 : (p <= i ∧ i < p + k) ∧ i < xs.length
  ·rw [if_pos ⟨by omega,h2.2⟩,if_pos h2]
  ·rw [if_neg (by omega),if_neg h2]
theorem xor_xb {a : Int} (h : bit a = true) {b : Nat} (hb : b < 2) : bits .xor .i64 a (b : Int) = xb a b := by
 have := bit_bd h
 obtain ⟨n,rfl⟩ := Int.eq_ofNat_of_zero_le this.1
 rw [show ((n : Nat) : Int) = (n : Int) from rfl,i64_xor_nat n b (by omega) (by omega)]
 have hn : n = 0 ∨ n = 1 := by omega
 have hb' : b = 0 ∨ b = 1 := by omega
 rcases hn with rfl | rfl <;> rcases hb' with rfl | rfl <;> rfl
theorem bit01 {xs : List Int} (hall : xs.all bit = true) (i : Nat) : 0 <= xs.getD i 0 ∧ xs.getD i 0 <= 1 := bit_bd (bit_at hall i)
def smeared (s : ByteArray) (at' mask : Int) : ByteArray :=
 if 0 <= at' ∧ at' < 8 * (s.size : Int) ∧ 0 <= mask ∧ mask < 65536 then str (byteL (smI (bitsL s.data.toList) at'.toNat mask.toNat 16)) else s
theorem smeared_yes {s : ByteArray} {p mask : Nat} (hp : p < 8 * s.size) (hm : mask < 65536) : smeared s (p : Int) (mask : Int) = str (byteL (smI (bitsL s.data.toList) p mask 16)) := by
 unfold smeared; rw [if_pos (by omega)]; rfl
theorem smeared_no {s : ByteArray} {at' mask : Int} (h : ¬ (0 <= at' ∧ at' < 8 * (s.size : Int) ∧ 0 <= mask ∧ mask < 65536)) : smeared s at' mask = s := if_neg h
theorem shr_mbit (mask k : Nat) : ((mask : Int) / 2 ^ (15 - k)).tmod 2 = (mbit mask k : Int) := by
 have hp : ((mask : Int) / 2 ^ (15 - k)) = ((mask / 2 ^ (15 - k) : Nat) : Int) := by simp
 rw [hp]
 unfold mbit
 generalize mask / 2 ^ (15 - k) = q
 rw [Int.tmod_eq_emod_of_nonneg (by omega)]
 omega
end Go.Proofs.YtdjifickdcnacaaDoor
end

