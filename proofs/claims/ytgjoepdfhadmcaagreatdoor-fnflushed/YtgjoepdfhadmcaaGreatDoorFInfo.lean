/- Several texts in one: Info, WalkIn, SumSpec, HamSpec, HamSpec2, OctBase, Ones, HamImpl0. -/
import Derived.Test.YtgjoepdfhadmcaaGreatDoorRows
import Derived.Test.YtgjoepdfhadmcaaGreatDoorFBase
import Derived.Deep.QuietTactic
import Derived.BigQuiet
import Derived.OwnWalk
import Derived.Laws.BitsAllLaws
section
namespace Go.Proofs.YtgjoepdfhadmcaaGreatDoor
open Go.RowKit
theorem Tryz.infoI64 : (Tryz.prog.info? 2).map (fun i => (i.zero,i.size,i.bytes)) = some (some (.int .i64 0),1,8) := by kernel_rfl
end Go.Proofs.YtgjoepdfhadmcaaGreatDoor
end

section
namespace Go.Proofs.YtgjoepdfhadmcaaGreatDoor
open Go.RowKit
set_option linter.unusedVariables false
set_option maxRecDepth 20000
set_option maxHeartbeats 400000 in
theorem l1In_any (x lo hi : Int) (w : World) :
  Calls Tryz.prog 68 #[.int .i64 x,.int .i64 lo,.int .i64 hi] w fun e w' => e = .returned (.bool (inB x lo hi)) ∧ w = w' := by
 by_cases h1 : lo <= x
 ·go_enter Tryz.func68,Tryz.ntmps68
  go_wp2
  go_ret
  exact ⟨by simp [inB,h1],rfl⟩
 ·have h1' : decide (lo <= x) = false := by simpa using h1
  go_enter Tryz.func68,Tryz.ntmps68
  go_wp2
  go_ret
  exact ⟨by simp [inB,h1'],rfl⟩
end Go.Proofs.YtgjoepdfhadmcaaGreatDoor
end

section
namespace Go.Proofs.YtgjoepdfhadmcaaGreatDoor
open Go.RowKit
set_option linter.unusedVariables false
set_option maxRecDepth 20000
def elem (x : Int) : Bool := inB x 0 255
end Go.Proofs.YtgjoepdfhadmcaaGreatDoor
end

section
namespace Go.Proofs.YtgjoepdfhadmcaaGreatDoor
open Go.RowKit
set_option linter.unusedVariables false
set_option maxRecDepth 20000
theorem i64_or_nat (a b : Nat) (ha : a < 4294967296) (hb : b < 4294967296) : bits .or .i64 (a : Int) (b : Int) = ((a ||| b : Nat) : Int) := by
 have hx : a ||| b < 2 ^ 32 := Nat.or_lt_two_pow (by omega) (by omega)
 show IntKind.i64.wrap ((BitVec.ofInt 64 (a : Int) ||| BitVec.ofInt 64 (b : Int)).toNat : Int) = _
 rw [BitVec.toNat_or,ofInt_u64 a (by omega),ofInt_u64 b (by omega)]
 simp [IntKind.wrap,IntKind.bits,IntKind.signed]
 omega
theorem shl_bit (d q : Nat) (hd : d < 2) (hq : q < 13) : wrap64 ((d : Int) * 2 ^ q) = ((d * 2 ^ q : Nat) : Int) := by
 have h := Ham.bit_pow_lt hd hq
 have hp : ((d : Int) * 2 ^ q) = ((d * 2 ^ q : Nat) : Int) := by simp
 rw [hp]
 generalize d * 2 ^ q = r at *
 unfold wrap64
 omega
theorem or_shl (n d q : Nat) (hn : n < 8192) (hd : d < 2) (hq : q < 13) : bits .or .i64 (n : Int) (wrap64 ((d : Int) * 2 ^ q)) = ((n ||| d * 2 ^ q : Nat) : Int) := by
 have h := Ham.bit_pow_lt hd hq
 rw [shl_bit d q hd hq,i64_or_nat _ _ (by omega) (Nat.lt_trans h (by omega))]
end Go.Proofs.YtgjoepdfhadmcaaGreatDoor
end

section
namespace Go.Proofs.YtgjoepdfhadmcaaGreatDoor
open Go.RowKit
set_option linter.unusedVariables false
set_option maxRecDepth 20000
def word (x : Int) : Bool := inB x 0 8191
theorem word_nat {x : Int} (h : word x = true) : ∃ n : Nat,x = (n : Int) ∧ n < 8192 := by
 simp [word,inB] at h
 exact ⟨x.toNat,by omega,by omega⟩
theorem nat_word {n : Nat} (h : n < 8192) : word (n : Int) = true := by simp [word,inB]; omega
def healedI (x : Int) : Int × Int := if word x = true then Ham.healed x.toNat else (-1,2)
theorem healedI_nat {n : Nat} (h : n < 8192) : healedI (n : Int) = Ham.healed n := by simp [healedI,nat_word h]
theorem healedI_no {x : Int} (h : word x = false) : healedI x = (-1,2) := by simp [healedI,h]
def pairV (p : Int × Int) : Value := .tuple #[.int .i64 p.1,.int .i64 p.2]
theorem or_shl8 (n d q : Nat) (hn : n < 256) (hd : d < 2) (hq : q < 8) : bits .or .i64 (n : Int) (wrap64 ((d : Int) * 2 ^ q)) = ((n ||| d * 2 ^ q : Nat) : Int) := or_shl n d q (by omega) hd (by omega)
theorem xor_shl (x o : Nat) (hx : x < 8192) (ho : o < 13) : bits .xor .i64 (x : Int) (wrap64 (2 ^ o)) = ((x ^^^ 2 ^ o : Nat) : Int) := by
 have h := Ham.two_lt ho
 have hp : wrap64 ((2 : Int) ^ o) = ((2 ^ o : Nat) : Int) := by
  have := shl_bit 1 o (by omega) ho
  simpa using this
 rw [hp,i64_xor_nat _ _ (by omega) (by omega)]
end Go.Proofs.YtgjoepdfhadmcaaGreatDoor
end

section
namespace Go.Proofs.YtgjoepdfhadmcaaGreatDoor
open Go.RowKit
set_option linter.unusedVariables false
set_option maxRecDepth 20000
def oct (x0 x1 x2 x3 x4 x5 x6 x7 : Int) : Value := .agg #[.int .i64 x0,.int .i64 x1,.int .i64 x2,.int .i64 x3,.int .i64 x4,.int .i64 x5,.int .i64 x6,.int .i64 x7]
theorem row_zero8 (w : World) (t : Nat) : (w.alloc (.cells #[.int .i64 0,.int .i64 0,.int .i64 0,.int .i64 0,.int .i64 0,.int .i64 0,.int .i64 0,.int .i64 0] t)).rowIs w.heap.size t 8 (cellI []) :=
 World.rowIs_alloc w _ t _ (fun i hi => by
  match i,hi with
  | 0,_ | 1,_ | 2,_ | 3,_ | 4,_ | 5,_ | 6,_ | 7,_ => rfl)
theorem oct_index (x0 x1 x2 x3 x4 x5 x6 x7 : Int) : ∀ k,k < 8 -> ∀ w,(Instr.index 309 (.agg #[.int .i64 x0,.int .i64 x1,.int .i64 x2,.int .i64 x3,.int .i64 x4,.int .i64 x5,.int .i64 x6,.int .i64 x7]) (.int .i64 (k : Nat))).run Tryz.prog w = .ok (.int .i64 ([x0,x1,x2,x3,x4,x5,x6,x7].getD k 0)) w := by
 have e0 : ∀ w,(Instr.index 309 (.agg #[.int .i64 x0,.int .i64 x1,.int .i64 x2,.int .i64 x3,.int .i64 x4,.int .i64 x5,.int .i64 x6,.int .i64 x7]) (.int .i64 0)).run Tryz.prog w = .ok (.int .i64 x0) w := fun _ => by kernel_rfl
 have e1 : ∀ w,(Instr.index 309 (.agg #[.int .i64 x0,.int .i64 x1,.int .i64 x2,.int .i64 x3,.int .i64 x4,.int .i64 x5,.int .i64 x6,.int .i64 x7]) (.int .i64 1)).run Tryz.prog w = .ok (.int .i64 x1) w := fun _ => by kernel_rfl
 have e2 : ∀ w,(Instr.index 309 (.agg #[.int .i64 x0,.int .i64 x1,.int .i64 x2,.int .i64 x3,.int .i64 x4,.int .i64 x5,.int .i64 x6,.int .i64 x7]) (.int .i64 2)).run Tryz.prog w = .ok (.int .i64 x2) w := fun _ => by kernel_rfl
 have e3 : ∀ w,(Instr.index 309 (.agg #[.int .i64 x0,.int .i64 x1,.int .i64 x2,.int .i64 x3,.int .i64 x4,.int .i64 x5,.int .i64 x6,.int .i64 x7]) (.int .i64 3)).run Tryz.prog w = .ok (.int .i64 x3) w := fun _ => by kernel_rfl
 have e4 : ∀ w,(Instr.index 309 (.agg #[.int .i64 x0,.int .i64 x1,.int .i64 x2,.int .i64 x3,.int .i64 x4,.int .i64 x5,.int .i64 x6,.int .i64 x7]) (.int .i64 4)).run Tryz.prog w = .ok (.int .i64 x4) w := fun _ => by kernel_rfl
 have e5 : ∀ w,(Instr.index 309 (.agg #[.int .i64 x0,.int .i64 x1,.int .i64 x2,.int .i64 x3,.int .i64 x4,.int .i64 x5,.int .i64 x6,.int .i64 x7]) (.int .i64 5)).run Tryz.prog w = .ok (.int .i64 x5) w := fun _ => by kernel_rfl
 have e6 : ∀ w,(Instr.index 309 (.agg #[.int .i64 x0,.int .i64 x1,.int .i64 x2,.int .i64 x3,.int .i64 x4,.int .i64 x5,.int .i64 x6,.int .i64 x7]) (.int .i64 6)).run Tryz.prog w = .ok (.int .i64 x6) w := fun _ => by kernel_rfl
 have e7 : ∀ w,(Instr.index 309 (.agg #[.int .i64 x0,.int .i64 x1,.int .i64 x2,.int .i64 x3,.int .i64 x4,.int .i64 x5,.int .i64 x6,.int .i64 x7]) (.int .i64 7)).run Tryz.prog w = .ok (.int .i64 x7) w := fun _ => by kernel_rfl
 intro k hk w
 match k,hk with
 | 0,_ => exact e0 w
 | 1,_ => exact e1 w
 | 2,_ => exact e2 w
 | 3,_ => exact e3 w
 | 4,_ => exact e4 w
 | 5,_ => exact e5 w
 | 6,_ => exact e6 w
 | 7,_ => exact e7 w
end Go.Proofs.YtgjoepdfhadmcaaGreatDoor
end

section
namespace Go.Proofs.YtgjoepdfhadmcaaGreatDoor
open Go.RowKit
set_option linter.unusedVariables false
set_option maxRecDepth 20000
set_option maxHeartbeats 800000 in
theorem onesCount_any (x : Nat) (w : World) (hx : x < 8192) :
  Calls Tryz.prog 245 #[.int .u64 (x : Int)] w fun e w' => e = .returned (.int .i64 (Ham.wt x : Int)) ∧ w = w' := by
 have HV := hide (Ones.ones_wt x hx)
 obtain ⟨y1,e1⟩ : ∃ y,Ones.o1 (x : Int) = y := ⟨_,rfl⟩
 obtain ⟨y2,e2⟩ : ∃ y,Ones.o2 y1 = y := ⟨_,rfl⟩
 obtain ⟨y3,e3⟩ : ∃ y,Ones.o3 y2 = y := ⟨_,rfl⟩
 obtain ⟨y4,e4⟩ : ∃ y,Ones.o4 y3 = y := ⟨_,rfl⟩
 obtain ⟨y5,e5⟩ : ∃ y,Ones.o5 y4 = y := ⟨_,rfl⟩
 obtain ⟨y6,e6⟩ : ∃ y,Ones.o6 y5 = y := ⟨_,rfl⟩
 have HE : Hid (Ones.o7 y6 = (Ham.wt x : Int)) := by show _ = _; rw [<- e6,<- e5,<- e4,<- e3,<- e2,<- e1]; exact HV.out
 unfold Ones.o1 at e1
 unfold Ones.o2 at e2
 unfold Ones.o3 at e3
 unfold Ones.o4 at e4
 unfold Ones.o5 at e5
 unfold Ones.o6 at e6
 obtain ⟨r,hr⟩ : ∃ r,bits .and .i64 (wrap64 y6) 127 = r := ⟨_,rfl⟩
 have HR : Hid (r = (Ham.wt x : Int)) := by show _ = _; rw [<- hr]; exact HE.out
 rw [<- HR.out]
 clear HE HV
 go_enter Tryz.func245,Tryz.ntmps245
 go_wp2_with fail
 go_ret
 exact ⟨rfl,rfl⟩
end Go.Proofs.YtgjoepdfhadmcaaGreatDoor
end

section
namespace Go.Proofs.YtgjoepdfhadmcaaGreatDoor
open Go.RowKit
set_option linter.unusedVariables false
set_option maxRecDepth 20000
theorem and1_nat (q : Nat) (hq : q < 65536) : bits .and .i64 (q : Int) 1 = ((q % 2 : Nat) : Int) := by
 show IntKind.i64.wrap ((BitVec.ofInt 64 (q : Int) &&& BitVec.ofInt 64 1).toNat : Int) = _
 rw [BitVec.toNat_and,ofInt_u64 q (by omega),show (BitVec.ofInt 64 1).toNat = 1 from rfl,Nat.and_one_is_mod]
 simp [IntKind.wrap,IntKind.bits,IntKind.signed]
 omega
theorem and1_bitN (x i : Nat) (hx : x < 65536) : bits .and .i64 ((x : Int) / 2 ^ i) 1 = (Ham.bitN x i : Int) := by
 have hp : ((x : Int) / 2 ^ i) = ((x / 2 ^ i : Nat) : Int) := by simp
 rw [hp]
 exact and1_nat _ (Nat.lt_of_le_of_lt (Nat.div_le_self _ _) hx)
namespace Ham
def pwTo (x : Nat) : Nat -> Nat
 | 0 => x
 | j + 1 => if bitN (odd x) j = 1 then pwTo x j ^^^ 2 ^ 2 ^ j else pwTo x j
def pw (x : Nat) : Nat := pwTo x 4
theorem pwTo_lt (x : Nat) (hx : x < 8192) : ∀ j,j <= 4 -> pwTo x j < 8192
 | 0,_ => hx
 | j + 1,h => by
  have ih := pwTo_lt x hx j (by omega)
  show (if bitN (odd x) j = 1 then pwTo x j ^^^ 2 ^ 2 ^ j else pwTo x j) < 8192
  split
  ·refine Nat.xor_lt_two_pow (n := 13) ih ?_
   rcases (show j = 0 ∨ j = 1 ∨ j = 2 ∨ j = 3 by omega) with rfl | rfl | rfl | rfl <;> decide
  ·exact ih
theorem pw_lt {x : Nat} (hx : x < 8192) : pw x < 8192 := pwTo_lt x hx 4 (by omega)
def evened (x : Nat) : Nat := x ^^^ (wt x % 2)
theorem spread_pw : ∀ b : Fin 256,evened (pw (data b.val)) = spread b.val := by decide +kernel
theorem and_pow : ∀ o : Fin 16,∀ j : Fin 4,bits .and .i64 (o.val : Int) ((2 ^ j.val : Nat) : Int) = if bitN o.val j.val = 1 then ((2 ^ j.val : Nat) : Int) else 0 := by decide +kernel
end Ham
set_option maxHeartbeats 800000 in
theorem cwOdd_any (x : Nat) (w : World) (hx : x < 65536) :
  Calls Tryz.prog 239 #[.int .i64 (x : Int)] w fun e w' => e = .returned (.int .i64 (Ham.odd x : Int)) ∧ w = w' := by
 go_enter Tryz.func239,Tryz.ntmps239
 go_wp2_with fail
 go_loop [3,5] (fun n i => ∃ k : Nat,k <= 13 ∧ i = .int .i64 (k : Int) ∧ n = .int .i64 (Ham.oddTo x k : Int)) (fun _ i => 13 - (intOf i).toNat)
 case atStart => exact ⟨0,by omega,rfl,by simp [Ham.oddTo]⟩
 case round =>
  obtain ⟨k,hk,rfl,rfl⟩ := hrel
  by_cases hlt : k < 13
  ·have hand := and1_bitN x k hx
   have HX := hide (i64_xor_nat (Ham.oddTo x k) k (Nat.lt_trans (Ham.oddTo_lt x k (by omega)) (by omega)) (by omega))
   have HX0 := hide (i64_xor_nat (Ham.oddTo x k) 0 (Nat.lt_trans (Ham.oddTo_lt x k (by omega)) (by omega)) (by omega))
   have hb2 := Ham.bitN_lt x k
   have HS : Hid (Ham.oddTo x (k + 1) = if Ham.bitN x k = 1 then Ham.oddTo x k ^^^ k else Ham.oddTo x k) := rfl
   obtain ⟨n,hn⟩ : ∃ n,n = Ham.oddTo x k := ⟨_,rfl⟩
   obtain ⟨b,hb⟩ : ∃ b,b = Ham.bitN x k := ⟨_,rfl⟩
   rw [<- hn,<- hb] at HS
   rw [<- hn] at HX HX0
   rw [<- hn]
   rw [<- hb] at hb2 hand
   clear hn hb
   rcases (show b = 0 ∨ b = 1 by omega) with rfl | rfl
   ·simp only [show ((0 : Nat) : Int) = 0 from rfl] at hand
    go_wp2_with fail
    go_round
    case rel => exact ⟨k + 1,by omega,by go_num,by
     have h := HX0.out
     simp only [Nat.xor_zero,show ((0 : Nat) : Int) = 0 from rfl] at h
     rw [HS.out,if_neg (by decide)]
     simp [h]⟩
    case measure => simp [intOf]; omega
   ·simp only [show ((1 : Nat) : Int) = 1 from rfl] at hand
    go_wp2_with fail
    go_round
    case rel => exact ⟨k + 1,by omega,by go_num,by rw [HS.out,if_pos rfl,<- HX.out]⟩
    case measure => simp [intOf]; omega
  ·go_wp2_with fail
   go_ret
   exact ⟨ret_i64 (by rw [show k = 13 by omega]; rfl),rfl⟩
set_option maxHeartbeats 800000 in
theorem cwWeight_any (x : Nat) (w : World) (hx : x < 8192) :
  Calls Tryz.prog 240 #[.int .i64 (x : Int)] w fun e w' => e = .returned (.int .i64 (Ham.wt x : Int)) ∧ w = w' := by
 have HW := hide (Ham.wt_le x)
 have HXL := hide hx
 go_enter Tryz.func240,Tryz.ntmps240
 go_wp2_with fail
 refine (onesCount_any x w hx).mono ?_
 rintro e w1 ⟨rfl,rfl⟩
 obtain ⟨t,ht⟩ : ∃ t,t = Ham.wt x := ⟨_,rfl⟩
 have h13 : t <= 13 := by rw [ht]; exact HW.out
 have HT := hide ht
 rw [<- ht]
 clear ht HW
 go_wp2_with fail
 go_ret
 exact ⟨ret_i64 (by rw [HT.out]),rfl⟩
set_option maxHeartbeats 800000 in
theorem evenInAll_any (x : Nat) (w : World) (hx : x < 8192) :
  Calls Tryz.prog 232 #[.int .i64 (x : Int)] w fun e w' => e = .returned (.int .i64 (Ham.evened x : Int)) ∧ w = w' := by
 have HX := hide (i64_xor_nat x (Ham.wt x % 2) (by omega) (by omega))
 have HE : Hid (Ham.evened x = x ^^^ (Ham.wt x % 2)) := rfl
 have HW := hide (Ham.wt_le x)
 obtain ⟨t,ht⟩ : ∃ t,t = Ham.wt x := ⟨_,rfl⟩
 rw [<- ht] at HX HE HW
 have h13 : t <= 13 := HW.out
 have htm : (t : Int).tmod 2 = ((t % 2 : Nat) : Int) := by rw [Int.tmod_eq_emod_of_nonneg (by omega)]; omega
 go_enter Tryz.func232,Tryz.ntmps232
 go_wp2_with fail
 refine (cwWeight_any x w hx).mono ?_
 rintro e w1 ⟨rfl,rfl⟩
 rw [<- ht]
 clear ht HW
 go_wp2_with fail
 go_ret
 exact ⟨ret_i64 (by rw [HE.out]; first | exact HX.out | (have := HX.out; simpa using this)),rfl⟩
set_option maxHeartbeats 800000 in
theorem evenByPowers_any (x : Nat) (w : World) (hx : x < 8192) :
  Calls Tryz.prog 231 #[.int .i64 (x : Int)] w fun e w' => e = .returned (.int .i64 (Ham.pw x : Int)) ∧ w = w' := by
 obtain ⟨o,ho⟩ : ∃ o,o = Ham.odd x := ⟨_,rfl⟩
 have ho16 : o < 16 := by rw [ho]; exact Ham.odd_lt x
 have HO := hide ho
 have HXL := hide hx
 go_enter Tryz.func231,Tryz.ntmps231
 go_wp2_with fail
 refine (cwOdd_any x w (by omega)).mono ?_
 rintro e w1 ⟨rfl,rfl⟩
 rw [<- ho]
 clear ho
 go_wp2_with fail
 go_loop [0,4] (fun n i => ∃ j : Nat,j <= 4 ∧ i = .int .i64 ((2 ^ j : Nat) : Int) ∧ n = .int .i64 (Ham.pwTo x j : Int)) (fun _ i => 16 - (intOf i).toNat)
 case atStart => exact ⟨0,by omega,rfl,rfl⟩
 case round =>
  obtain ⟨j,hj,rfl,rfl⟩ := hrel
  obtain ⟨n,hn⟩ : ∃ n,n = Ham.pwTo x j := ⟨_,rfl⟩
  have hn13 : n < 8192 := by rw [hn]; exact Ham.pwTo_lt x HXL.out j hj
  rw [<- hn]
  by_cases hj4 : j < 4
  ·have HS : Hid (Ham.pwTo x (j + 1) = if Ham.bitN o j = 1 then n ^^^ 2 ^ 2 ^ j else n) := by rw [HO.out,hn]; rfl
   have HAND := Ham.and_pow ⟨o,ho16⟩ ⟨j,hj4⟩
   simp only at HAND
   clear hn
   obtain ⟨I,hI⟩ : ∃ I,I = 2 ^ j := ⟨_,rfl⟩
   have hI0 : 0 < I := by rw [hI]; exact Nat.two_pow_pos j
   have hI8 : I <= 8 := by rw [hI]; exact Nat.pow_le_pow_right (by omega) (show j <= 3 by omega)
   have HI2 : Hid (2 ^ (j + 1) = 2 * I) := by show _ = _; rw [hI,Nat.pow_succ,Nat.mul_comm]
   have hI9 : decide ((I : Int) < 13) = true := by simp; omega
   have hIz : ((I : Int) != 0) = true := by simp; omega
   rw [<- hI] at HS HAND ⊢
   have HX := hide (xor_shl n I hn13 (by omega))
   clear hI
   by_cases hbit : Ham.bitN o j = 1
   ·rw [if_pos hbit] at HAND HS
    clear hbit
    go_wp2_with fail
    go_round
    case rel => exact ⟨j + 1,by omega,by rw [HI2.out]; go_num,by rw [HS.out]; exact congrArg (Value.int .i64) HX.out⟩
    case measure => simp [intOf]; omega
   ·rw [if_neg hbit] at HAND HS
    clear hbit
    go_wp2_with fail
    go_round
    case rel => exact ⟨j + 1,by omega,by rw [HI2.out]; go_num,by rw [HS.out]⟩
    case measure => simp [intOf]; omega
  ·have hj4' : j = 4 := by omega
   subst hj4'
   simp only [Nat.reducePow,show ((16 : Nat) : Int) = 16 from rfl]
   go_wp2_with fail
   go_ret
   exact ⟨ret_i64 rfl,rfl⟩
end Go.Proofs.YtgjoepdfhadmcaaGreatDoor
end

