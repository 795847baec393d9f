/- Several texts in one: Info, WalkIn, SumSpec, HamSpec, HamSpec2. -/
import Derived.Test.YtfogmdnkpkofiaaRows
import Derived.Test.YtfogmdnkpkofiaaRBase
import Derived.Deep.QuietTactic
import Derived.BigQuiet
import Derived.OwnWalk
import Derived.Laws.BitsAllLaws
section
namespace Go.Proofs.Ytfogmdnkpkofiaa
open Go.RowKit
theorem Try.infoI64 : (Try.prog.info? 2).map (fun i => (i.zero,i.size,i.bytes)) = some (some (.int .i64 0),1,8) := by kernel_rfl
end Go.Proofs.Ytfogmdnkpkofiaa
end

section
namespace Go.Proofs.Ytfogmdnkpkofiaa
open Go.RowKit
set_option linter.unusedVariables false
set_option maxRecDepth 20000
set_option maxHeartbeats 400000 in
theorem l1In_any (x lo hi : Int) (w : World) :
  Calls Try.prog 45 #[.int .i64 x,.int .i64 lo,.int .i64 hi] w fun e w' => e = .returned (.bool (inB x lo hi)) ∧ w = w' := by
 by_cases h1 : lo <= x
 ·go_enter Try.func45,Try.ntmps45
  go_wp2
  go_ret
  exact ⟨by simp [inB,h1],rfl⟩
 ·have h1' : decide (lo <= x) = false := by simpa using h1
  go_enter Try.func45,Try.ntmps45
  go_wp2
  go_ret
  exact ⟨by simp [inB,h1'],rfl⟩
end Go.Proofs.Ytfogmdnkpkofiaa
end

section
namespace Go.Proofs.Ytfogmdnkpkofiaa
open Go.RowKit
set_option linter.unusedVariables false
set_option maxRecDepth 20000
def elem (x : Int) : Bool := inB x 0 255
end Go.Proofs.Ytfogmdnkpkofiaa
end

section
namespace Go.Proofs.Ytfogmdnkpkofiaa
open Go.RowKit
set_option linter.unusedVariables false
set_option maxRecDepth 20000
theorem i64_or_nat (a b : Nat) (ha : a < 4294967296) (hb : b < 4294967296) : bits .or .i64 (a : Int) (b : Int) = ((a ||| b : Nat) : Int) := by
 have hx : a ||| b < 2 ^ 32 := Nat.or_lt_two_pow (by omega) (by omega)
 show IntKind.i64.wrap ((BitVec.ofInt 64 (a : Int) ||| BitVec.ofInt 64 (b : Int)).toNat : Int) = _
 rw [BitVec.toNat_or,ofInt_u64 a (by omega),ofInt_u64 b (by omega)]
 simp [IntKind.wrap,IntKind.bits,IntKind.signed]
 omega
theorem shr_bitN (x i : Nat) : ((x : Int) / 2 ^ i).tmod 2 = (Ham.bitN x i : Int) := by
 have hp : ((x : Int) / 2 ^ i) = ((x / 2 ^ i : Nat) : Int) := by simp
 rw [hp]
 unfold Ham.bitN
 generalize x / 2 ^ i = q
 rw [Int.tmod_eq_emod_of_nonneg (by omega)]
 omega
set_option maxHeartbeats 400000 in
theorem l4Bit_any (x i : Nat) (w : World) (hx : x < 65536) (hi : i < 64) :
  Calls Try.prog 86 #[.int .i64 (x : Int),.int .i64 (i : Int)] w fun e w' => e = .returned (.int .i64 (Ham.bitN x i : Int)) ∧ w = w' := by
 have hv := shr_bitN x i
 go_enter Try.func86,Try.ntmps86
 go_wp2_with fail
 go_ret
 exact ⟨rfl,rfl⟩
set_option maxHeartbeats 800000 in
theorem l4Odd_any (x : Nat) (w : World) (hx : x < 65536) :
  Calls Try.prog 84 #[.int .i64 (x : Int)] w fun e w' => e = .returned (.int .i64 (Ham.odd x : Int)) ∧ w = w' := by
 go_enter Try.func84,Try.ntmps84
 go_wp2_with fail
 go_loop [3,4] (fun n i => ∃ k : Nat,1 <= k ∧ k <= 13 ∧ i = .int .i64 (k : Int) ∧ n = .int .i64 (Ham.oddTo x k : Int)) (fun _ i => 13 - (intOf i).toNat)
 case atStart => exact ⟨1,by omega,by omega,rfl,by simp [Ham.oddTo]⟩
 case round =>
  obtain ⟨k,hk1,hk,rfl,rfl⟩ := hrel
  by_cases hlt : k < 13
  ·have HX := hide (i64_xor_nat (Ham.oddTo x k) k (Nat.lt_trans (Ham.oddTo_lt x k (by omega)) (by omega)) (by omega))
   have hb2 := Ham.bitN_lt x k
   have HS : Hid (Ham.oddTo x (k + 1) = if Ham.bitN x k = 1 then Ham.oddTo x k ^^^ k else Ham.oddTo x k) := rfl
   go_wp2_with fail
   refine (l4Bit_any x k w hx (by omega)).mono ?_
   rintro e w1 ⟨rfl,rfl⟩
   obtain ⟨n,hn⟩ : ∃ n,n = Ham.oddTo x k := ⟨_,rfl⟩
   obtain ⟨b,hb⟩ : ∃ b,b = Ham.bitN x k := ⟨_,rfl⟩
   rw [<- hn,<- hb] at HS
   rw [<- hn] at HX
   rw [<- hn,<- hb]
   rw [<- hb] at hb2
   clear hn hb
   rcases (show b = 0 ∨ b = 1 by omega) with rfl | rfl
   ·simp only [show ((0 : Nat) : Int) = 0 from rfl]
    go_wp2_with fail
    go_round
    case rel => exact ⟨k + 1,by omega,by omega,by go_num,by rw [HS.out]; rfl⟩
    case measure => simp [intOf]; omega
   ·simp only [show ((1 : Nat) : Int) = 1 from rfl]
    go_wp2_with fail
    go_round
    case rel => exact ⟨k + 1,by omega,by omega,by go_num,by rw [HS.out,HX.out]; rfl⟩
    case measure => simp [intOf]; omega
  ·go_wp2_with fail
   go_ret
   exact ⟨ret_i64 (by rw [show k = 13 by omega]; rfl),rfl⟩
set_option maxHeartbeats 800000 in
theorem l4Weight_any (x : Nat) (w : World) (hx : x < 65536) :
  Calls Try.prog 85 #[.int .i64 (x : Int)] w fun e w' => e = .returned (.int .i64 (Ham.wt x : Int)) ∧ w = w' := by
 go_enter Try.func85,Try.ntmps85
 go_wp2_with fail
 go_loop [3,4] (fun n i => ∃ k : Nat,k <= 13 ∧ i = .int .i64 (k : Int) ∧ n = .int .i64 (Ham.wtTo x k : Int)) (fun _ i => 13 - (intOf i).toNat)
 case atStart => exact ⟨0,by omega,rfl,rfl⟩
 case round =>
  obtain ⟨k,hk,rfl,rfl⟩ := hrel
  by_cases hlt : k < 13
  ·have hb2 := Ham.bitN_lt x k
   have hn2 := Ham.wtTo_le x k
   have HS : Hid (Ham.wtTo x (k + 1) = Ham.wtTo x k + Ham.bitN x k) := rfl
   go_wp2_with fail
   refine (l4Bit_any x k w hx (by omega)).mono ?_
   rintro e w1 ⟨rfl,rfl⟩
   obtain ⟨n,hn⟩ : ∃ n,n = Ham.wtTo x k := ⟨_,rfl⟩
   obtain ⟨b,hb⟩ : ∃ b,b = Ham.bitN x k := ⟨_,rfl⟩
   rw [<- hn,<- hb] at HS
   rw [<- hn] at hn2
   rw [<- hn,<- hb]
   rw [<- hb] at hb2
   clear hn hb
   go_wp2_with fail
   go_round
   case rel => exact ⟨k + 1,by omega,by go_num,by rw [HS.out]; go_num⟩
   case measure => simp [intOf]; omega
  ·go_wp2_with fail
   go_ret
   exact ⟨ret_i64 (by rw [show k = 13 by omega]; rfl),rfl⟩
theorem l4Places_any (w : World) :
  Calls Try.prog 83 #[] w fun e w' => e = .returned (.slice (some ⟨w.heap.size,0,none⟩) 8 8) ∧ (∀ k,k < 8 -> w'.cell? ⟨w.heap.size,k,none⟩ = some (.int .i64 (Ham.place k : Int))) ∧ Below w.heap.size w w' := by
 go_enter Try.func83,Try.ntmps83
 go_wp2_with fail
 go_ret
 refine ⟨rfl,fun k hk => ?_,(Below.refl _ _).alloc (Nat.le_refl _) _⟩
 rw [World.cell?_alloc_new]
 match k,hk with
 | 0,_ | 1,_ | 2,_ | 3,_ | 4,_ | 5,_ | 6,_ | 7,_ => rfl
theorem shl_bit (d q : Nat) (hd : d < 2) (hq : q < 13) : wrap64 ((d : Int) * 2 ^ q) = ((d * 2 ^ q : Nat) : Int) := by
 have h := Ham.bit_pow_lt hd hq
 have hp : ((d : Int) * 2 ^ q) = ((d * 2 ^ q : Nat) : Int) := by simp
 rw [hp]
 generalize d * 2 ^ q = r at *
 unfold wrap64
 omega
theorem or_shl (n d q : Nat) (hn : n < 8192) (hd : d < 2) (hq : q < 13) : bits .or .i64 (n : Int) (wrap64 ((d : Int) * 2 ^ q)) = ((n ||| d * 2 ^ q : Nat) : Int) := by
 have h := Ham.bit_pow_lt hd hq
 rw [shl_bit d q hd hq,i64_or_nat _ _ (by omega) (Nat.lt_trans h (by omega))]
set_option maxHeartbeats 1600000 in
theorem l4Spread_any (b : Nat) (w : World) (hb : b < 256) :
  Calls Try.prog 79 #[.int .i64 (b : Int)] w fun e w' => e = .returned (.int .i64 (Ham.spread b : Int)) ∧ Below w.heap.size w w' := by
 go_enter Try.func79,Try.ntmps79
 go_wp2_with fail
 refine (l4Places_any w).mono ?_
 rintro e w1 ⟨rfl,hpl,b1⟩
 have HPL := hide hpl
 have HB := hide b1
 clear hpl b1
 go_wp2_with fail
 go_loop [3,5] (fun n i => ∃ k : Nat,k <= 8 ∧ i = .int .i64 (k : Int) ∧ n = .int .i64 (Ham.dataTo b k : Int)) (fun _ i => 8 - (intOf i).toNat)
 case atStart => exact ⟨0,by omega,rfl,rfl⟩
 case round =>
  obtain ⟨k,hk,rfl,rfl⟩ := hrel
  by_cases hlt : k < 8
  ·have hb2 := Ham.bitN_lt b k
   have hc := HPL.out k hlt
   have hsh := shr_bitN b k
   obtain ⟨n,hn⟩ : ∃ n,n = Ham.dataTo b k := ⟨_,rfl⟩
   obtain ⟨d,hd⟩ : ∃ d,d = Ham.bitN b k := ⟨_,rfl⟩
   obtain ⟨q,hq⟩ : ∃ q,q = Ham.place k := ⟨_,rfl⟩
   rw [<- hn]
   rw [<- hd] at hsh hb2
   rw [<- hq] at hc
   have hq13 : q < 13 := by rw [hq]; exact Ham.place_lt k
   have HOR := hide (or_shl n d q (by rw [hn]; exact Ham.dataTo_lt b k) hb2 hq13)
   have HS : Hid (Ham.dataTo b (k + 1) = n ||| d * 2 ^ q) := by rw [hn,hd,hq]; rfl
   clear hn hd hq
   go_wp2_with fail
   go_round
   case rel => exact ⟨k + 1,by omega,by go_num,by rw [HOR.out,HS.out]⟩
   case measure => simp [intOf]; omega
  ·obtain ⟨D,hD⟩ : ∃ D,D = Ham.data b := ⟨_,rfl⟩
   have hDk : Ham.dataTo b k = D := by rw [hD,show k = 8 by omega]; rfl
   rw [hDk]
   have hD13 : D < 8192 := by rw [hD]; exact Ham.data_lt b
   have HD := hide hD
   obtain ⟨o,ho⟩ : ∃ o,o = Ham.odd D := ⟨_,rfl⟩
   have ho16 : o < 16 := by rw [ho]; exact Ham.odd_lt D
   have HO := hide ho
   clear hDk hD
   go_wp2_with fail
   refine (l4Odd_any D w1 (by omega)).mono ?_
   rw [<- ho]
   clear ho
   rintro e w2 ⟨rfl,rfl⟩
   go_wp2_with fail
   go_loop [3,7] (fun n i => ∃ j : Nat,j <= 4 ∧ i = .int .i64 ((2 ^ j : Nat) : Int) ∧ n = .int .i64 (Ham.evenTo b j : Int)) (fun _ i => 16 - (intOf i).toNat)
   case atStart => exact ⟨0,by omega,rfl,by rw [HD.out]; rfl⟩
   case round =>
    obtain ⟨j,hj,rfl,rfl⟩ := hrel
    obtain ⟨n,hn⟩ : ∃ n,n = Ham.evenTo b j := ⟨_,rfl⟩
    have hn13 : n < 8192 := by rw [hn]; exact Ham.evenTo_lt b j hj
    rw [<- hn]
    by_cases hj4 : j < 4
    ·have HS : Hid (Ham.evenTo b (j + 1) = if Ham.bitN o j = 1 then n ||| 2 ^ 2 ^ j else n) := by rw [HO.out,HD.out,hn]; rfl
     clear hn
     obtain ⟨I,hI⟩ : ∃ I,I = 2 ^ j := ⟨_,rfl⟩
     have hI0 : 0 < I := by rw [hI]; exact Nat.two_pow_pos j
     have hI8 : I <= 8 := by rw [hI]; exact Nat.pow_le_pow_right (by omega) (show j <= 3 by omega)
     have HB2 : Hid (Ham.bitN o j = o / I % 2) := by rw [hI]; rfl
     have HI2 : Hid (2 ^ (j + 1) = 2 * I) := by show _ = _; rw [hI,Nat.pow_succ,Nat.mul_comm]
     have hIz : ((I : Int) == 0) = false := by simp; omega
     have hI9 : decide ((I : Int) < 9) = true := by simp; omega
     rw [<- hI] at HS ⊢
     have HOR := hide (or_shl n 1 I hn13 (by omega) (by omega))
     obtain ⟨Q,hQ⟩ : ∃ Q,Q = o / I := ⟨_,rfl⟩
     have hQi : (o : Int) / (I : Int) = (Q : Int) := by rw [hQ]; simp
     have hQ16 : Q < 16 := by rw [hQ]; exact Nat.lt_of_le_of_lt (Nat.div_le_self _ _) ho16
     rw [<- hQ] at HB2
     clear hI hQ
     by_cases hbit : Q % 2 = 1
     ·have hb1 : (Q : Int).tmod 2 = 1 := by rw [Int.tmod_eq_emod_of_nonneg (by omega)]; omega
      have HBIT := hide hbit
      clear hbit
      go_wp2_with fail
      go_round
      case rel => exact ⟨j + 1,by omega,by rw [HI2.out]; go_num,by
       rw [HS.out,HB2.out,if_pos HBIT.out]
       have := HOR.out
       rw [show ((1 : Nat) : Int) * 2 ^ I = 2 ^ I by simp,Nat.one_mul] at this
       rw [this]⟩
      case measure => simp [intOf]; omega
     ·have hb1 : (Q : Int).tmod 2 = 0 := by rw [Int.tmod_eq_emod_of_nonneg (by omega)]; omega
      have HBIT := hide hbit
      clear hbit
      go_wp2_with fail
      go_round
      case rel => exact ⟨j + 1,by omega,by rw [HI2.out]; go_num,by rw [HS.out,HB2.out,if_neg HBIT.out]⟩
      case measure => simp [intOf]; omega
    ·have hj4' : j = 4 := by omega
     subst hj4'
     simp only [Nat.reducePow,show ((16 : Nat) : Int) = 16 from rfl]
     have hw4 := Ham.wt_le n
     have HOR := hide (i64_or_nat n (Ham.wt n % 2) (by omega) (by omega))
     have HE : Hid (Ham.spread b = n ||| Ham.wt n % 2) := by rw [hn]; rfl
     obtain ⟨t,ht⟩ : ∃ t,t = Ham.wt n := ⟨_,rfl⟩
     have ht13 : t <= 13 := by rw [ht]; exact hw4
     rw [<- ht] at HOR HE
     have htm : (t : Int).tmod 2 = ((t % 2 : Nat) : Int) := by rw [Int.tmod_eq_emod_of_nonneg (by omega)]; omega
     clear hn hw4
     go_wp2_with fail
     refine (l4Weight_any n w1 (by omega)).mono ?_
     rw [<- ht]
     clear ht
     rintro e w2 ⟨rfl,rfl⟩
     go_wp2_with fail
     go_ret
     exact ⟨ret_i64 (by rw [HE.out]; first | exact HOR.out | (have := HOR.out; simpa using this)),HB.out⟩
end Go.Proofs.Ytfogmdnkpkofiaa
end

section
namespace Go.Proofs.Ytfogmdnkpkofiaa
open Go.RowKit
set_option linter.unusedVariables false
set_option maxRecDepth 20000
def word (x : Int) : Bool := inB x 0 8191
def healedI (x : Int) : Int × Int := if word x = true then Ham.healed x.toNat else (-1,2)
end Go.Proofs.Ytfogmdnkpkofiaa
end

