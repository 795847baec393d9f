/- Several texts in one: CheckImpl, CheckLaw, SmearLaw. -/
import Derived.Test.YtdjifickdcnacaaDoorNCheckSpec
import Derived.Test.YtdjifickdcnacaaDoorNPageBase
import Derived.Test.YtdjifickdcnacaaDoorNBytesBase
section
namespace Go.Proofs.YtdjifickdcnacaaDoor
open Go.RowKit
set_option linter.unusedVariables false
set_option maxRecDepth 20000
set_option maxHeartbeats 800000 in
theorem next_any (R q : Nat) (w : World) (hR : R < 65536) (hq : q < 2) :
  Calls Tryd.prog 134 #[.int .i64 116839,.int .i64 (R : Nat),.int .i64 (q : Nat)] w fun e w' => e = .returned (.int .i64 (Crc.stp R q : Nat)) ∧ w = w' := by
 have HX : Hid (bits .xor .i64 (2 * (R : Int) + (q : Int)) 116839 = (((2 * R + q) ^^^ 116839 : Nat) : Int)) := by
  have := i64_xor_nat (2 * R + q) 116839 (by omega) (by omega)
  show _ = _
  rw [<- this]; rfl
 by_cases hbig : 65536 <= 2 * R + q
 ·have hd : decide (65536 <= 2 * (R : Int) + (q : Int)) = true := by simp; omega
  have HBIG := hide hbig
  clear hbig
  go_enter Tryd.func134,Tryd.ntmps134
  go_wp2_with fail
  go_ret
  exact ⟨ret_i64 (by rw [HX.out]; unfold Crc.stp; rw [if_pos HBIG.out]),rfl⟩
 ·have hd : decide (65536 <= 2 * (R : Int) + (q : Int)) = false := by simp; omega
  have HBIG := hide hbig
  clear hbig
  go_enter Tryd.func134,Tryd.ntmps134
  go_wp2_with fail
  go_ret
  exact ⟨ret_i64 (by unfold Crc.stp; rw [if_neg HBIG.out]; go_num),rfl⟩
theorem take_bits8 (n j : Nat) (h : j < 8) : ∃ q : Nat,(bits8 n).getD j 0 = (q : Int) ∧ q < 2 ∧ (natL (bits8 n)).take (j + 1) = (natL (bits8 n)).take j ++ [q] := by
 have hb := bitOf_bd n j
 refine ⟨(bitOf n j).toNat,by rw [bits8_at n j h]; omega,by omega,?_⟩
 have := take_snoc (bits8 n) j (by simp [bits8]; omega)
 rw [bits8_at n j h] at this
 unfold natL
 rw [<- List.map_take,<- List.map_take,this]
 simp
set_option maxRecDepth 100000 in
set_option maxHeartbeats 1600000 in
theorem remainder_any (R0 : Nat) (s : ByteArray) (w : World) (hs : s.size <= 1048580) (hR0 : R0 < 65536) :
  Calls Tryd.prog 135 #[.int .i64 (R0 : Nat),.string s,.func (.func 134) #[.int .i64 116839] #[]] w fun e w' => e = .returned (.int .i64 (Crc.run R0 (natL (bitsL s.data.toList)) : Nat)) ∧ Below w.heap.size w w' := by
 have HR0 := hide hR0
 clear hR0
 go_enter Tryd.func135,Tryd.ntmps135
 go_wp2_with fail
 go_loopw [0,12] (fun r i wr => ∃ k : Nat,k <= s.size ∧ i = .int .i64 k ∧ r = .int .i64 (Crc.run R0 (natL (bitsL (s.data.toList.take k))) : Nat) ∧ Below w.heap.size w wr) (fun _ i _ => s.size - (intOf i).toNat)
 case atStart => exact ⟨0,Nat.zero_le _,rfl,rfl,Below.refl _ _⟩
 case round =>
  obtain ⟨k,hk,rfl,rfl,hbel⟩ := hrel
  obtain ⟨R,hR⟩ : ∃ R,R = Crc.run R0 (natL (bitsL (s.data.toList.take k))) := ⟨_,rfl⟩
  have HRlt : Hid (R < 65536) := by rw [hR]; exact Crc.run_lt _ R0 HR0.out (natL_bit (bitsL_01 _))
  rw [<- hR]
  have HR := hide hR
  have HB := hide hbel
  clear hR hbel
  by_cases hlt : k < s.size
  ·go_wp2_with fail
   refine (octetOf_any s[k] _).mono ?_
   rintro e w1 ⟨rfl,b1⟩
   have HB1 := hide (HB.out.trans (b1.mono HB.out.size))
   have HID := hide (oct_index (bitOf s[k].toNat 0) (bitOf s[k].toNat 1) (bitOf s[k].toNat 2) (bitOf s[k].toNat 3) (bitOf s[k].toNat 4) (bitOf s[k].toNat 5) (bitOf s[k].toNat 6) (bitOf s[k].toNat 7))
   unfold oct
   clear b1 HB
   go_wp2_with fail
   go_loopw [0,19] (fun r i wr => ∃ j : Nat,j <= 8 ∧ i = .int .i64 j ∧ r = .int .i64 (Crc.run R ((natL (bits8 s[k].toNat)).take j) : Nat) ∧ Below w.heap.size w wr) (fun _ i _ => 8 - (intOf i).toNat)
   case atStart => exact ⟨0,Nat.zero_le _,rfl,rfl,HB1.out⟩
   case round =>
    obtain ⟨j,hj,rfl,rfl,hbel⟩ := hrel
    have HB := hide hbel
    clear hbel HB1
    by_cases hj8 : j < 8
    ·have hix := HID.out j hj8
     obtain ⟨q,hq,hq2,hstep⟩ := take_bits8 s[k].toNat j hj8
     unfold bits8 at hq
     rw [hq] at hix
     obtain ⟨T,hT⟩ : ∃ T,T = Crc.run R ((natL (bits8 s[k].toNat)).take j) := ⟨_,rfl⟩
     have HTlt : Hid (T < 65536) := by
      rw [hT]
      exact Crc.run_lt _ R HRlt.out (fun b hb => natL_bit (bits8_01 _) b (List.mem_of_mem_take hb))
     have HS : Hid (Crc.run R ((natL (bits8 s[k].toNat)).take (j + 1)) = Crc.stp T q) := by
      show _ = _
      rw [hstep,run_snoc,hT]
     have HQ2 := hide hq2
     rw [<- hT]
     clear hT hstep hq HID hq2
     go_wp2_with fail
     refine (next_any T q _ HTlt.out HQ2.out).mono ?_
     rintro e w2 ⟨rfl,rfl⟩
     go_wp2_with fail
     go_roundw
     case rel => exact ⟨j + 1,by omega,by go_num,by rw [HS.out],HB.out⟩
     case measure => simp [intOf]; omega
    ·clear HID
     go_wp2_with fail
     go_roundw
     case rel => exact ⟨k + 1,by omega,by go_num,by
      rw [take_snocB s k hlt,bitsL_snoc]
      unfold natL
      rw [List.map_append,Crc.run_append]
      have := HR.out
      unfold natL at this
      rw [<- this,List.take_of_length_le (by simp [bits8]; omega)],HB.out⟩
     case measure => simp [intOf]; omega
  ·go_wp2_with fail
   go_ret
   exact ⟨ret_i64 (by rw [HR.out,List.take_of_length_le (by simp; omega)]),HB.out⟩
theorem noughts_bits : natL (bitsL ([0,0] : List UInt8)) = List.replicate 16 0 := by decide
theorem check_run (s : ByteArray) : Crc.run (Crc.run 0 (natL (bitsL s.data.toList))) (natL (bitsL (⟨#[0,0]⟩ : ByteArray).data.toList)) = checkN s := by
 have h : (⟨#[0,0]⟩ : ByteArray).data.toList = [0,0] := rfl
 rw [h,noughts_bits,<- Crc.run_append]
 unfold checkN Crc.crc
 rfl
theorem remainder_first (s : ByteArray) (w : World) (hs : s.size <= 1048580) :
  Calls Tryd.prog 135 #[.int .i64 0,.string s,.func (.func 134) #[.int .i64 116839] #[]] w fun e w' => e = .returned (.int .i64 (Crc.run 0 (natL (bitsL s.data.toList)) : Nat)) ∧ Below w.heap.size w w' :=
 remainder_any 0 s w hs (by omega)
theorem remainder_last (R : Nat) (w : World) (hR : R < 65536) :
  Calls Tryd.prog 135 #[.int .i64 R,.string ⟨#[0,0]⟩,.func (.func 134) #[.int .i64 116839] #[]] w fun e w' => e = .returned (.int .i64 (Crc.run R (natL (bitsL (⟨#[0,0]⟩ : ByteArray).data.toList)) : Nat)) ∧ Below w.heap.size w w' :=
 remainder_any R ⟨#[0,0]⟩ w (by simp [ByteArray.size]) hR
set_option maxHeartbeats 800000 in
theorem implCheck_any (s : ByteArray) (w : World) (hs : s.size <= 1048580) :
  Calls Tryd.prog 99 #[.string s] w fun e w' => e = .returned (.int .i64 (checkN s : Nat)) ∧ Below w.heap.size w w' := by
 have HF := hide (remainder_first s w hs)
 have hc := check_run s
 obtain ⟨R,hR⟩ : ∃ R,R = Crc.run 0 (natL (bitsL s.data.toList)) := ⟨_,rfl⟩
 have HRlt : Hid (R < 65536) := by rw [hR]; exact Crc.run_lt _ 0 (by omega) (natL_bit (bitsL_01 _))
 rw [<- hR] at hc HF
 obtain ⟨C,hC⟩ : ∃ C,C = checkN s := ⟨_,rfl⟩
 rw [<- hC] at hc ⊢
 have HL : ∀ w,Hid (Calls Tryd.prog 135 #[.int .i64 R,.string ⟨#[0,0]⟩,.func (.func 134) #[.int .i64 116839] #[]] w fun e w' => e = .returned (.int .i64 (C : Nat)) ∧ Below w.heap.size w w') := by
  intro w
  have := remainder_last R w HRlt.out
  rw [hc] at this
  exact this
 clear hC hR hc hs
 go_enter Tryd.func99,Tryd.ntmps99
 go_wp2_with fail
 refine HF.out.mono ?_
 rintro e w1 ⟨rfl,b1⟩
 have HB := hide b1
 clear b1
 go_wp2_with fail
 refine (HL w1).out.mono ?_
 rintro e w2 ⟨rfl,b2⟩
 have HB2 := hide (HB.out.trans (b2.mono HB.out.size))
 clear b2 HB HL HF
 go_wp2_with fail
 go_ret
 exact ⟨rfl,HB2.out⟩
set_option maxHeartbeats 800000 in
theorem implChecked_any (s : ByteArray) (w : World) (hs : s.size <= 1048580) :
  Calls Tryd.prog 50 #[.string s] w fun e w' => e = .returned (.string (checked s)) ∧ Below w.heap.size w w' := by
 obtain ⟨c,hc⟩ : ∃ c,c = checkN s := ⟨_,rfl⟩
 have hlt : c < 65536 := by rw [hc]; exact checkN_lt s
 have HC := hide hc
 go_enter Tryd.func50,Tryd.ntmps50
 go_wp2_with fail
 refine (implCheck_any s w hs).mono ?_
 rw [<- hc]
 clear hc
 rintro e w1 ⟨rfl,b1⟩
 have hst := string_of (P := Tryd.prog) (two_reads w1 c hlt) 22 9 5 2 Tryd.underlying22 Tryd.underlying5 Tryd.underlying9
 have h2 : (ByteArray.mk (tail2 c).toArray).size = 2 := rfl
 have HB := hide (b1.alloc b1.size (.cells #[.int .u8 ((c : Int) / 256),.int .u8 ((c : Int) % 256)] 5))
 clear b1
 go_wp2_with fail
 go_ret
 exact ⟨by unfold checked; rw [<- HC.out]; rfl,HB.out⟩
end Go.Proofs.YtdjifickdcnacaaDoor
end

section
namespace Go.Proofs.YtdjifickdcnacaaDoor
open Go.RowKit
set_option linter.unusedVariables false
set_option maxRecDepth 20000
theorem natL_append (a b : List Int) : natL (a ++ b) = natL a ++ natL b := by simp [natL]
theorem bitsL_append (a b : List UInt8) : bitsL (a ++ b) = bitsL a ++ bitsL b := by simp [bitsL,List.flatMap_append]
theorem nat8 (n : Nat) : natL (bits8 n) = [n / 128 % 2,n / 64 % 2,n / 32 % 2,n / 16 % 2,n / 8 % 2,n / 4 % 2,n / 2 % 2,n % 2] := by
 simp [natL,bits8,bitOf]
 omega
theorem bitsn16 (c : Nat) : Crc.bitsn 16 c = [c / 32768 % 2,c / 16384 % 2,c / 8192 % 2,c / 4096 % 2,c / 2048 % 2,c / 1024 % 2,c / 512 % 2,c / 256 % 2,c / 128 % 2,c / 64 % 2,c / 32 % 2,c / 16 % 2,c / 8 % 2,c / 4 % 2,c / 2 % 2,c % 2] := by
 simp [Crc.bitsn,Nat.div_div_eq_div_mul]
theorem two_bits (a b : UInt8) : natL (bitsL [a,b]) = Crc.bitsn 16 (a.toNat * 256 + b.toNat) := by
 have ha := UInt8.toNat_lt a
 have hb := UInt8.toNat_lt b
 have e : bitsL [a,b] = bits8 a.toNat ++ bits8 b.toNat := by simp [bitsL]
 rw [e,natL_append,nat8,nat8,bitsn16]
 generalize a.toNat = x at *
 generalize b.toNat = y at *
 simp only [List.cons_append,List.nil_append,List.cons.injEq,and_true]
 refine ⟨?_,?_,?_,?_,?_,?_,?_,?_,?_,?_,?_,?_,?_,?_,?_,?_⟩ <;> omega
def nbits (s : ByteArray) : List Nat := natL (bitsL s.data.toList)
theorem nbits_bit (s : ByteArray) : Crc.bitL (nbits s) := natL_bit (bitsL_01 _)
theorem checkN_eq (s : ByteArray) : checkN s = Crc.crc (nbits s) := rfl
theorem tail2_bits {c : Nat} (h : c < 65536) : natL (bitsL (tail2 c)) = Crc.bitsn 16 c := by
 unfold tail2
 rw [two_bits]
 congr 1
 simp
 omega
theorem checked_data (s : ByteArray) : (checked s).data.toList = s.data.toList ++ tail2 (checkN s) := by
 unfold checked
 simp [str]
theorem nbits_checked (s : ByteArray) : nbits (checked s) = nbits s ++ Crc.bitsn 16 (checkN s) := by
 unfold nbits
 rw [checked_data,bitsL_append,natL_append,tail2_bits (checkN_lt s)]
theorem run_checked (s : ByteArray) : Crc.run 0 (nbits (checked s)) = 0 := by
 rw [nbits_checked,Crc.run_check (nbits_bit s) (checkN_lt s),checkN_eq,Nat.xor_self]
theorem whole_checked (s : ByteArray) : whole (checked s) = true := by
 have h : (checked s).extract 0 ((checked s).size - 2) = s := by
  apply ByteArray.ext
  apply Array.toList_inj.1
  have := checked_size s
  have hd := checked_data s
  rw [ByteArray.data_extract,Array.toList_extract,hd]
  simp [this]
 unfold whole
 rw [h,decide_eq_true (show 2 <= (checked s).size by rw [checked_size]; omega)]
 simp
theorem whole_run (t : ByteArray) (h : 2 <= t.size) (hr : Crc.run 0 (nbits t) ≠ 0) : whole t = false := by
 unfold whole
 rw [decide_eq_true h,Bool.true_and,decide_eq_false]
 intro e
 have := run_checked (t.extract 0 (t.size - 2))
 rw [e] at this
 exact hr this
end Go.Proofs.YtdjifickdcnacaaDoor
end

section
namespace Go.Proofs.YtdjifickdcnacaaDoor
open Go.RowKit
theorem bitOf_jn {g0 g1 g2 g3 g4 g5 g6 g7 : Int} (b0 : 0 <= g0 ∧ g0 <= 1) (b1 : 0 <= g1 ∧ g1 <= 1) (b2 : 0 <= g2 ∧ g2 <= 1) (b3 : 0 <= g3 ∧ g3 <= 1) (b4 : 0 <= g4 ∧ g4 <= 1) (b5 : 0 <= g5 ∧ g5 <= 1) (b6 : 0 <= g6 ∧ g6 <= 1) (b7 : 0 <= g7 ∧ g7 <= 1) {i : Nat} (hi : i < 8) :
  bitOf (jn [g0,g1,g2,g3,g4,g5,g6,g7]).toNat i = [g0,g1,g2,g3,g4,g5,g6,g7].getD i 0 := by
 rw [jn8]
 unfold bitOf
 match i,hi with
 | 0,_ | 1,_ | 2,_ | 3,_ | 4,_ | 5,_ | 6,_ | 7,_ => simp; omega
theorem getD_add (xs : List Int) (p : Nat) : ∀ i,i < 8 -> (eight xs p).getD i 0 = xs.getD (p + i) 0 := by
 intro i hi
 match i,hi with
 | 0,_ | 1,_ | 2,_ | 3,_ | 4,_ | 5,_ | 6,_ | 7,_ => rfl
theorem bitsL_byteL {ys : List Int} (h : ys.all bit = true) {n : Nat} (hl : ys.length = 8 * n) : bitsL (byteL ys) = ys := by
 have hbl : (byteL ys).length = n := by rw [byteL_length,hl]; omega
 apply ext_getD
 ·rw [bitsL_length,hbl,hl]
 ·intro i hi
  rw [bitsL_length,hbl] at hi
  have hd : i = 8 * (i / 8) + i % 8 := by omega
  have hj : i / 8 < (byteL ys).length := by rw [hbl]; omega
  have e : ((byteL ys).getD (i / 8) 0).toNat = (jn (eight ys (8 * (i / 8)))).toNat := by
   have hc := byte_cell h (i / 8) (by rw [hl]; omega)
   rw [cellB] at hc
   have hc' := congrArg (fun v => match v with | .int _ x => x.toNat | _ => 0) hc
   simp only at hc'
   rw [hc']; rfl
  rw [hd,bitsL_at (byteL ys) (i / 8) (i % 8) hj (by omega),e,<- getD_add ys (8 * (i / 8)) (i % 8) (by omega)]
  unfold eight
  exact bitOf_jn (bit01 h _) (bit01 h _) (bit01 h _) (bit01 h _) (bit01 h _) (bit01 h _) (bit01 h _) (bit01 h _) (by omega)
theorem bitsn_at (M j : Nat) (h : j < 16) : (Crc.bitsn 16 M).getD j 0 = mbit M j := by
 rw [bitsn16]
 unfold mbit
 rcases (show j = 0 ∨ j = 1 ∨ j = 2 ∨ j = 3 ∨ j = 4 ∨ j = 5 ∨ j = 6 ∨ j = 7 ∨ j = 8 ∨ j = 9 ∨ j = 10 ∨ j = 11 ∨ j = 12 ∨ j = 13 ∨ j = 14 ∨ j = 15 by omega) with rfl | rfl | rfl | rfl | rfl | rfl | rfl | rfl | rfl | rfl | rfl | rfl | rfl | rfl | rfl | rfl <;> simp
theorem smear_at (n p M i : Nat) (hi : i < n) : (Crc.smear n p M).getD i 0 = if p <= i ∧ i < p + 16 then mbit M (i - p) else 0 := by
 unfold Crc.smear
 rw [List.getD_eq_getElem?_getD]
 by_cases h1 : i < p
 ·rw [List.getElem?_append_left (by simpa using h1),if_neg (by omega)]
  simp [h1]
 ·rw [List.getElem?_append_right (by simp; omega),List.length_replicate]
  by_cases h2 : i < p + 16
  ·rw [List.getElem?_append_left (by simp [Crc.bitsn_length]; omega),List.getElem?_take,if_pos (by omega),if_pos (by omega),<- List.getD_eq_getElem?_getD,bitsn_at _ _ (by omega)]
  ·rw [List.getElem?_append_right (by simp [Crc.bitsn_length]; omega),if_neg (by omega)]
   simp [Crc.bitsn_length]
   rw [List.getElem?_replicate]
   split <;> rfl
theorem xb_xor {a : Int} (h : bit a = true) {b : Nat} (hb : b < 2) : (xb a b).toNat = a.toNat ^^^ b := by
 have h2 := bit_bd h
 have ha : a = 0 ∨ a = 1 := by omega
 have hb' : b = 0 ∨ b = 1 := by omega
 rcases ha with rfl | rfl <;> rcases hb' with rfl | rfl <;> rfl
theorem natL_at (xs : List Int) (i : Nat) (h : i < xs.length) : (natL xs)[i]'(by simpa [natL] using h) = (xs.getD i 0).toNat := by
 simp [natL,List.getD_eq_getElem?_getD,h]
theorem natL_smI {xs : List Int} (h : xs.all bit = true) (p M : Nat) (hp : p <= xs.length) : natL (smI xs p M 16) = List.zipWith (· ^^^ ·) (natL xs) (Crc.smear xs.length p M) := by
 apply List.ext_getElem
 ·simp [natL,smI_length,Crc.smear_length hp]
 ·intro i h1 h2
  have hi : i < xs.length := by simpa [natL,smI_length] using h1
  have hs : (Crc.smear xs.length p M)[i]'(by rw [Crc.smear_length hp]; exact hi) = (Crc.smear xs.length p M).getD i 0 := by
   rw [List.getD_eq_getElem?_getD,List.getElem?_eq_getElem (by rw [Crc.smear_length hp]; exact hi)]; rfl
  rw [List.getElem_zipWith,natL_at _ i (by rw [smI_length]; exact hi),natL_at xs i hi,hs,smear_at _ _ _ _ hi,smI_getD]
  by_cases h3 : p <= i ∧ i < p + 16
  ·rw [if_pos ⟨h3,hi⟩,if_pos h3,xb_xor (bit_at h i) (mbit_lt _ _)]
  ·rw [if_neg (fun e => h3 e.1),if_neg h3,Nat.xor_zero]
theorem zip_nought (l : List Nat) (n : Nat) (h : l.length = n) : List.zipWith (· ^^^ ·) l (List.replicate n 0) = l := by
 subst h
 induction l with
 | nil => rfl
 | cons b l ih => rw [List.length_cons,List.replicate_succ,List.zipWith_cons_cons,ih,Nat.xor_zero]
theorem natL_inj {xs ys : List Int} (hx : xs.all bit = true) (hy : ys.all bit = true) (h : natL xs = natL ys) : xs = ys := by
 have hl : xs.length = ys.length := by
  have := congrArg List.length h
  simpa [natL] using this
 apply ext_getD hl
 intro i hi
 have e1 := natL_at xs i hi
 have e2 := natL_at ys i (by omega)
 have b1 := bit01 hx i
 have b2 := bit01 hy i
 have : (natL xs)[i]'(by simpa [natL] using hi) = (natL ys)[i]'(by simpa [natL,<- hl] using hi) := by simp only [h]
 omega
theorem smeared_size (s : ByteArray) (a m : Int) : (smeared s a m).size = s.size := by
 unfold smeared
 split
 ·show (byteL _).length = _
  rw [byteL_length,smI_length,bitsL_length]; simp; omega
 ·rfl
theorem smeared_seen (s : ByteArray) (p M : Nat) (hp : p < 8 * (checked s).size) (hM : M < 65536) (hw : whole (smeared (checked s) (p : Int) (M : Int)) = true) :
  smeared (checked s) (p : Int) (M : Int) = checked s := by
 obtain ⟨c,hc⟩ : ∃ c,c = checked s := ⟨_,rfl⟩
 have hrun := run_checked s
 have hcz := checked_size s
 rw [<- hc] at hrun hcz hw hp ⊢
 have hsz := smeared_size c (p : Int) (M : Int)
 obtain ⟨xs,hxs⟩ : ∃ xs,xs = bitsL c.data.toList := ⟨_,rfl⟩
 have hall : xs.all bit = true := by rw [hxs]; exact bitsL_all _
 have hlen : xs.length = 8 * c.size := by rw [hxs,bitsL_length]; simp
 have hyes := smeared_yes (s := c) hp hM
 rw [<- hxs] at hyes
 have hnb : nbits (smeared c (p : Int) (M : Int)) = List.zipWith (· ^^^ ·) (nbits c) (Crc.smear xs.length p M) := by
  rw [hyes]
  unfold nbits
  show natL (bitsL (byteL (smI xs p M 16))) = _
  rw [bitsL_byteL (smI_all hall _ _ _) (n := c.size) (by rw [smI_length,hlen]),natL_smI hall p M (by omega),hxs]
 have hr0 : Crc.run 0 (nbits (smeared c (p : Int) (M : Int))) = 0 := by
  rcases Nat.eq_zero_or_pos (Crc.run 0 (nbits (smeared c (p : Int) (M : Int)))) with h | h
  ·exact h
  ·have := whole_run (smeared c (p : Int) (M : Int)) (by omega) (by omega)
   rw [this] at hw
   simp at hw
 have hx := Crc.run_xor (nbits c) (Crc.smear xs.length p M) 0 0 (by rw [Crc.smear_length (by omega)]; simp [nbits,natL,<- hxs]) (by omega) (by omega) (nbits_bit c) (Crc.smear_bit _ _ _)
 rw [Nat.xor_self,<- hnb,hr0,hrun,Nat.zero_xor] at hx
 have hz := Crc.smear_seen hM hx.symm
 rw [List.replicate_append_replicate,List.replicate_append_replicate,show p + (min (xs.length - p) 16 + (xs.length - p - 16)) = xs.length by omega] at hz
 have hn := natL_smI hall p M (by omega)
 rw [hz,zip_nought _ _ (by simp [natL])] at hn
 have he := natL_inj (smI_all hall _ _ _) hall hn
 rw [hyes,he,hxs,byteL_bitsL]
 apply ByteArray.ext
 simp [str]
end Go.Proofs.YtdjifickdcnacaaDoor
end

