/- Several texts in one: ChipCutS, ChipImplD, ChipImplE. -/
import Derived.Test.YtgjoepdfhadmcaaGreatDoorSChipGrow
import Derived.Test.YtgjoepdfhadmcaaGreatDoorSQuietTail
import Derived.Test.YtgjoepdfhadmcaaGreatDoorSChipOwn2
import Derived.Lib.QuietBelow
import Derived.BigQuiet
section
namespace Go.Proofs.YtgjoepdfhadmcaaGreatDoor
open Go.RowKit
set_option linter.unusedVariables false
set_option maxRecDepth 20000
def partN (n : Nat) (b : Int) : Nat := if b < 1 then 1 else if b <= (n : Int) then b.toNat else n
def part (s : ByteArray) (b : Int) : ByteArray := s.extract 0 (partN s.size b)
theorem set_sqAt (qs : List Sq) {i : Nat} (h : i < qs.length) : qs.set i (sqAt qs i) = qs := by
 unfold sqAt
 rw [List.getD_eq_getElem?_getD,List.getElem?_eq_getElem h]
 exact List.set_getElem_self h
def mixL (f : ByteArray -> ByteArray) (ts : List ByteArray) (k : Nat) : List ByteArray := (ts.take k).map f ++ ts.drop k
theorem mixL_zero (f : ByteArray -> ByteArray) (ts : List ByteArray) : mixL f ts 0 = ts := by simp [mixL]
theorem mixL_all (f : ByteArray -> ByteArray) (ts : List ByteArray) : mixL f ts ts.length = ts.map f := by simp [mixL]
theorem mixL_length (f : ByteArray -> ByteArray) (ts : List ByteArray) (k : Nat) : (mixL f ts k).length = ts.length := by simp [mixL]; omega
theorem mixL_at (f : ByteArray -> ByteArray) {ts : List ByteArray} {k : Nat} (h : k < ts.length) : (mixL f ts k)[k]? = some (ts.getD k ByteArray.empty) := by
 unfold mixL
 rw [List.getElem?_append_right (by simp; omega),List.length_map,List.length_take,Nat.min_eq_left (by omega),Nat.sub_self,List.getElem?_drop,Nat.add_zero,List.getD_eq_getElem?_getD,List.getElem?_eq_getElem h]
 rfl
theorem mixL_step (f : ByteArray -> ByteArray) {ts : List ByteArray} {k : Nat} (h : k < ts.length) : (mixL f ts k).set k (f (ts.getD k ByteArray.empty)) = mixL f ts (k + 1) := by
 unfold mixL
 rw [List.set_append_right _ _ (by simp; omega),List.length_map,List.length_take,Nat.min_eq_left (by omega),Nat.sub_self,List.drop_eq_getElem_cons h,List.set_cons_zero,List.take_succ_eq_append_getElem h,List.map_append,List.getD_eq_getElem?_getD,List.getElem?_eq_getElem h]
 simp
theorem getD_memT {ts : List ByteArray} {k : Nat} (h : k < ts.length) : ts.getD k ByteArray.empty ∈ ts := by
 rw [List.getD_eq_getElem?_getD,List.getElem?_eq_getElem h]; exact List.getElem_mem h
set_option maxHeartbeats 400000 in
theorem l1Max_any (x y : Int) (w : World) : Calls Tryz.prog 63 #[.int .i64 x,.int .i64 y] w fun e w' => e = .returned (.int .i64 (if y < x then x else y)) ∧ w = w' := by
 by_cases h : y < x
 ·rw [if_pos h]
  have g : decide (x > y) = true := by simpa using h
  go_enter Tryz.func63,Tryz.ntmps63
  go_wp2_with fail
  go_ret
  exact ⟨rfl,rfl⟩
 ·rw [if_neg h]
  have g : decide (x > y) = false := by simpa using h
  go_enter Tryz.func63,Tryz.ntmps63
  go_wp2_with fail
  go_ret
  exact ⟨rfl,rfl⟩
end Go.Proofs.YtgjoepdfhadmcaaGreatDoor
end

section
namespace Go.Proofs.YtgjoepdfhadmcaaGreatDoor
open Go.RowKit
set_option linter.unusedVariables false
set_option maxRecDepth 20000
theorem part_low {s : ByteArray} {b : Int} (h : b < 1) : part s b = s.extract 0 1 := by unfold part partN; rw [if_pos h]
theorem part_mid {s : ByteArray} {b : Nat} (h : 1 <= b) (h2 : b <= s.size) : part s (b : Int) = s.extract 0 b := by
 unfold part partN; rw [if_neg (by omega),if_pos (by omega)]; simp
theorem part_high {s : ByteArray} {b : Int} (h : (s.size : Int) < b) (h1 : 1 <= s.size) : part s b = s.extract 0 s.size := by
 unfold part partN; rw [if_neg (by omega),if_neg (by omega)]
set_option maxHeartbeats 800000 in
theorem firstBytes_any (s : ByteArray) (b : Int) (w : World) (h1 : 1 <= s.size) (h2 : s.size <= 200) : Calls Tryz.prog 172 #[.string s,.int .i64 b] w fun e w' => e = .returned (.string (part s b)) ∧ w = w' := by
 by_cases c1 : b < 1
 ·have HE := hide (part_low (s := s) c1)
  go_enter Tryz.func172,Tryz.ntmps172
  go_wp2_with fail
  go_ret
  exact ⟨by rw [HE.out]; rfl,rfl⟩
 ·obtain ⟨B,rfl⟩ : ∃ B : Nat,b = (B : Int) := ⟨b.toNat,by omega⟩
  have hB1 : 1 <= B := by omega
  by_cases c2 : B <= s.size
  ·have HE := hide (part_mid hB1 c2)
   go_enter Tryz.func172,Tryz.ntmps172
   go_wp2_with fail
   go_ret
   exact ⟨by rw [HE.out]; rfl,rfl⟩
  ·have HE := hide (part_high (s := s) (b := (B : Int)) (by omega) h1)
   go_enter Tryz.func172,Tryz.ntmps172
   go_wp2_with fail
   go_ret
   exact ⟨by rw [HE.out,ByteArray.extract_zero_size]; rfl,rfl⟩
inductive Sh where
 | none | write (s : ByteArray) | wipe | half (b : Int) | spoil
def shV : Sh -> Value
 | .none => .nilIface
 | .write s => .iface 210 (.agg #[.string s])
 | .wipe => .iface 212 (.agg #[])
 | .half b => .iface 214 (.agg #[.int .i64 b])
 | .spoil => .iface 215 (.agg #[])
def shOf (kd : Int) (tx : ByteArray) : Sh := if kd = 1 then .write tx else if kd = 2 then .wipe else if kd = 3 then .spoil else .none
theorem Tryz.asWrWr (v : Value) (w : World) : (Instr.typeAssert (.iface 210 v) 163 210 true).run Tryz.prog w = .ok (.tuple #[v,.bool true]) w := by kernel_rfl
theorem Tryz.asWiWr (v : Value) (w : World) : (Instr.typeAssert (.iface 212 v) 163 210 true).run Tryz.prog w = .ok (.tuple #[.agg #[.string ByteArray.empty],.bool false]) w := by kernel_rfl
theorem Tryz.asWiWi (v : Value) (w : World) : (Instr.typeAssert (.iface 212 v) 163 212 true).run Tryz.prog w = .ok (.tuple #[v,.bool true]) w := by kernel_rfl
theorem Tryz.asHaWr (v : Value) (w : World) : (Instr.typeAssert (.iface 214 v) 163 210 true).run Tryz.prog w = .ok (.tuple #[.agg #[.string ByteArray.empty],.bool false]) w := by kernel_rfl
theorem Tryz.asHaWi (v : Value) (w : World) : (Instr.typeAssert (.iface 214 v) 163 212 true).run Tryz.prog w = .ok (.tuple #[.agg #[],.bool false]) w := by kernel_rfl
theorem Tryz.asHaHa (v : Value) (w : World) : (Instr.typeAssert (.iface 214 v) 163 214 true).run Tryz.prog w = .ok (.tuple #[v,.bool true]) w := by kernel_rfl
theorem Tryz.asHaSp (v : Value) (w : World) : (Instr.typeAssert (.iface 214 v) 163 215 true).run Tryz.prog w = .ok (.tuple #[.agg #[],.bool false]) w := by kernel_rfl
theorem Tryz.asSpWr (v : Value) (w : World) : (Instr.typeAssert (.iface 215 v) 163 210 true).run Tryz.prog w = .ok (.tuple #[.agg #[.string ByteArray.empty],.bool false]) w := by kernel_rfl
theorem Tryz.asSpWi (v : Value) (w : World) : (Instr.typeAssert (.iface 215 v) 163 212 true).run Tryz.prog w = .ok (.tuple #[.agg #[],.bool false]) w := by kernel_rfl
theorem Tryz.asSpHa (v : Value) (w : World) : (Instr.typeAssert (.iface 215 v) 163 214 true).run Tryz.prog w = .ok (.tuple #[.agg #[.int .i64 0],.bool false]) w := by kernel_rfl
theorem Tryz.asSpSp (v : Value) (w : World) : (Instr.typeAssert (.iface 215 v) 163 215 true).run Tryz.prog w = .ok (.tuple #[v,.bool true]) w := by kernel_rfl
theorem Tryz.asNoWr (w : World) : (Instr.typeAssert .nilIface 163 210 true).run Tryz.prog w = .ok (.tuple #[.agg #[.string ByteArray.empty],.bool false]) w := by kernel_rfl
theorem Tryz.asNoWi (w : World) : (Instr.typeAssert .nilIface 163 212 true).run Tryz.prog w = .ok (.tuple #[.agg #[],.bool false]) w := by kernel_rfl
theorem Tryz.asNoHa (w : World) : (Instr.typeAssert .nilIface 163 214 true).run Tryz.prog w = .ok (.tuple #[.agg #[.int .i64 0],.bool false]) w := by kernel_rfl
theorem Tryz.asNoSp (w : World) : (Instr.typeAssert .nilIface 163 215 true).run Tryz.prog w = .ok (.tuple #[.agg #[],.bool false]) w := by kernel_rfl
set_option maxHeartbeats 800000 in
theorem shapeOf_any (kd sq : Int) (tx : ByteArray) (w : World) : Calls Tryz.prog 170 #[.agg #[.int .i64 kd,.int .i64 sq,.string tx]] w fun e w' => e = .returned (shV (shOf kd tx)) ∧ Below w.heap.size w w' := by
 have HB := hide ((Below.refl w.heap.size w).alloc (Nat.le_refl _) (.cells #[.int .i64 kd,.int .i64 sq,.string tx] 98))
 by_cases h1 : kd = 1
 ·subst h1
  go_enter Tryz.func170,Tryz.ntmps170
  go_wp2_with fail
  go_ret
  exact ⟨rfl,HB.out⟩
 ·by_cases h2 : kd = 2
  ·subst h2
   go_enter Tryz.func170,Tryz.ntmps170
   go_wp2_with fail
   go_ret
   exact ⟨rfl,HB.out⟩
  ·by_cases h3 : kd = 3
   ·subst h3
    go_enter Tryz.func170,Tryz.ntmps170
    go_wp2_with fail
    go_ret
    exact ⟨rfl,HB.out⟩
   ·have g1 : (kd == 1) = false := by simpa using h1
    have g2 : (kd == 2) = false := by simpa using h2
    have g3 : (kd == 3) = false := by simpa using h3
    have HE : Hid (shV (shOf kd tx) = .nilIface) := by show _ = _; unfold shOf; rw [if_neg h1,if_neg h2,if_neg h3]; rfl
    go_enter Tryz.func170,Tryz.ntmps170
    go_wp2_with fail
    go_ret
    exact ⟨by rw [HE.out]; rfl,HB.out⟩
def takesS (z : Int) (q : Sq) : Sh -> Bool
 | .write s => decide ((q.1.length : Int) < z) && txOk s
 | .wipe => decide (q.2.1 < 1000000)
 | .spoil => true
 | _ => false
theorem takesS_of (z : Int) (q : Sq) (kd : Int) (tx : ByteArray) : takesS z q (shOf kd tx) = canK z q kd tx := by
 unfold shOf canK
 by_cases h1 : kd = 1
 ·rw [if_pos h1,if_pos h1]; rfl
 ·rw [if_neg h1,if_neg h1]
  by_cases h2 : kd = 2
  ·rw [if_pos h2,if_pos h2]; rfl
  ·rw [if_neg h2,if_neg h2]
   by_cases h3 : kd = 3
   ·rw [if_pos h3,decide_eq_true h3]; rfl
   ·rw [if_neg h3,decide_eq_false h3]; rfl
set_option maxHeartbeats 1600000 in
theorem takes_any (a : Option Addr) (cap : Nat) (q : Sq) (z : Int) (sh : Sh) (w : World) (hl : q.1.length <= 8) (hs : ∀ s,sh = .write s -> s.size <= maxLen) :
  Calls Tryz.prog 171 #[.agg #[.slice a q.1.length cap,.int .i64 q.2.1,.bool q.2.2],.int .i64 z,shV sh] w fun e w' => e = .returned (.bool (!q.2.2 && takesS z q sh)) ∧ Below w.heap.size w w' := by
 obtain ⟨ts,zw,bd⟩ := q
 dsimp only at hl ⊢
 obtain ⟨wA,hwA⟩ : ∃ wA,wA = w.alloc (.cells #[.slice a ts.length cap,.int .i64 zw,.bool bd] 42) := ⟨_,rfl⟩
 have hzA : wA.heap.size = w.heap.size + 1 := by rw [hwA]; simp
 have HBA : Hid (Below w.heap.size w wA) := by rw [hwA]; exact (Below.refl _ _).alloc (Nat.le_refl _) _
 have H1 : Hid (wA.heap[w.heap.size]? = some (.cells #[.slice a ts.length cap,.int .i64 zw,.bool bd] 42)) := by rw [hwA]; exact heap_new _ _
 obtain ⟨c0,c1,c2⟩ := three_cells H1.out
 cases bd with
 | true =>
  go_enter Tryz.func171,Tryz.ntmps171
  go_wp2_with fail
  rw [<- hwA]
  go_ret
  exact ⟨rfl,HBA.out⟩
 | false =>
  cases sh with
  | none =>
   have q0 := Tryz.asNoWr
   have q1 := Tryz.asNoWi
   have q2 := Tryz.asNoSp
   go_enter Tryz.func171,Tryz.ntmps171
   unfold shV
   go_wp2_with fail
   rw [<- hwA]
   go_ret
   exact ⟨rfl,HBA.out⟩
  | write s =>
   have q0 := Tryz.asWrWr (.agg #[.string s])
   have hs' := hs s rfl
   have HB2 := hide ((Below.refl wA.heap.size wA).alloc (Nat.le_refl _) (.cells #[.string s] 210))
   have c0' := (HB2.out.cell (p := ⟨w.heap.size,0,none⟩) (by show w.heap.size < _; omega)).trans c0
   by_cases hlt : (ts.length : Int) < z
   ·have g1 : decide ((ts.length : Int) < z) = true := by simpa using hlt
    have HE : Hid ((!false && takesS z (ts,zw,false) (.write s)) = txOk s) := by show _ = _; unfold takesS; rw [g1]; rfl
    go_enter Tryz.func171,Tryz.ntmps171
    unfold shV
    go_upto_region 1 with fail
    rw [<- hwA]
    clear hwA
    go_wp2_with fail
    refine (canBeWritten_any s _ hs').mono ?_
    rintro e w1 ⟨rfl,rfl⟩
    go_wp2_with fail
    go_ret
    exact ⟨ret_bool HE.out.symm,below_here HBA.out HB2.out⟩
   ·have g1 : decide ((ts.length : Int) < z) = false := by simpa using hlt
    have HE : Hid ((!false && takesS z (ts,zw,false) (.write s)) = false) := by show _ = _; unfold takesS; rw [g1]; rfl
    go_enter Tryz.func171,Tryz.ntmps171
    unfold shV
    go_upto_region 1 with fail
    rw [<- hwA]
    clear hwA
    go_wp2_with fail
    go_ret
    exact ⟨ret_bool HE.out.symm,below_here HBA.out HB2.out⟩
  | wipe =>
   have q0 := Tryz.asWiWr (.agg #[])
   have q1 := Tryz.asWiWi (.agg #[])
   have HB2 := hide ((Below.refl wA.heap.size wA).alloc (Nat.le_refl _) (.cells #[] 212))
   have c1' := (HB2.out.cell (p := ⟨w.heap.size,1,none⟩) (by show w.heap.size < _; omega)).trans c1
   go_enter Tryz.func171,Tryz.ntmps171
   unfold shV
   go_upto_region 1 with fail
   rw [<- hwA]
   clear hwA
   go_wp2_with fail
   go_ret
   exact ⟨rfl,below_here HBA.out HB2.out⟩
  | half b =>
   have q0 := Tryz.asHaWr (.agg #[.int .i64 b])
   have q1 := Tryz.asHaWi (.agg #[.int .i64 b])
   have q2 := Tryz.asHaSp (.agg #[.int .i64 b])
   go_enter Tryz.func171,Tryz.ntmps171
   unfold shV
   go_wp2_with fail
   rw [<- hwA]
   go_ret
   exact ⟨rfl,HBA.out⟩
  | spoil =>
   have q0 := Tryz.asSpWr (.agg #[])
   have q1 := Tryz.asSpWi (.agg #[])
   have q2 := Tryz.asSpSp (.agg #[])
   have HB2 := hide ((Below.refl wA.heap.size wA).alloc (Nat.le_refl _) (.cells #[] 215))
   go_enter Tryz.func171,Tryz.ntmps171
   unfold shV
   go_upto_region 1 with fail
   rw [<- hwA]
   clear hwA
   go_wp2_with fail
   go_ret
   exact ⟨rfl,below_here HBA.out HB2.out⟩
end Go.Proofs.YtgjoepdfhadmcaaGreatDoor
end

section
namespace Go.Proofs.YtgjoepdfhadmcaaGreatDoor
open Go.RowKit
set_option linter.unusedVariables false
set_option maxRecDepth 20000
def shT (qs : List Sq) (j : Jb) : Sh := if inB j.2.1 0 ((qs.length : Int) - 1) then shOf j.1 j.2.2 else .none
theorem canJ_no {z : Int} {qs : List Sq} {j : Jb} (h : inB j.2.1 0 ((qs.length : Int) - 1) = false) : canJ z qs j = false := by unfold canJ; rw [h]; rfl
theorem canJ_yes {z : Int} {qs : List Sq} {j : Jb} (h : inB j.2.1 0 ((qs.length : Int) - 1) = true) : canJ z qs j = (!(sqAt qs j.2.1.toNat).2.2 && canK z (sqAt qs j.2.1.toNat) j.1 j.2.2) := by unfold canJ; rw [h]; rfl
set_option maxHeartbeats 1600000 in
theorem takenShape_any (z : Int) (a : Option Addr) (n cap : Nat) (qs : List Sq) (kd sq : Int) (tx : ByteArray) (w : World) {lo hi : Nat} (h : Squares lo hi w a n qs) (hhi : hi <= w.heap.size) (hn : n <= 12) (hl : ∀ q ∈ qs,q.1.length <= 8) (htx : tx.size <= maxLen) :
  Calls Tryz.prog 126 #[.agg #[.int .i64 z,.slice a n cap],.agg #[.int .i64 kd,.int .i64 sq,.string tx]] w fun e w' => e = .returned (.tuple #[shV (shT qs (kd,sq,tx)),.bool (canJ z qs (kd,sq,tx))]) ∧ Below w.heap.size w w' := by
 obtain ⟨wA,hwA⟩ : ∃ wA,wA = (w.alloc (.cells #[.int .i64 z,.slice a n cap] 26)).alloc (.cells #[.int .i64 kd,.int .i64 sq,.string tx] 98) := ⟨_,rfl⟩
 have hzA : wA.heap.size = w.heap.size + 1 + 1 := by rw [hwA]; simp
 have HBA : Hid (Below w.heap.size w wA) := by rw [hwA]; exact ((Below.refl _ _).alloc (Nat.le_refl _) _).alloc (by simp) _
 have H1 : Hid (wA.heap[w.heap.size]? = some (.cells #[.int .i64 z,.slice a n cap] 26)) := by rw [hwA]; exact heap_old (heap_new _ _)
 have H2 : Hid (wA.heap[w.heap.size + 1]? = some (.cells #[.int .i64 kd,.int .i64 sq,.string tx] 98)) := by rw [hwA]; exact heap_at (by simp)
 have HSQ := hide (h.later HBA.out hhi)
 have HL := hide h.1
 have HL8 := hide hl
 clear h hl
 obtain ⟨a0,a1⟩ := two_cells H1.out
 obtain ⟨b0,b1,b2⟩ := three_cells H2.out
 go_enter Tryz.func126,Tryz.ntmps126
 go_upto_region 1 with fail
 rw [<- hwA]
 clear hwA
 go_wp2_with fail
 refine (hasSquare_any z a n cap sq wA).mono ?_
 rintro e w1 ⟨rfl,hb1⟩
 have hs1 := hb1.size
 have K1 := hide (block_on H1.out hb1)
 have K2 := hide (block_on H2.out hb1)
 have HS1 := hide (HSQ.out.later hb1 (by omega))
 have HB1 := hide (below_here HBA.out hb1)
 clear hb1 H1 H2 HSQ HBA a0 a1 b0 b1 b2
 cases hin : inB sq 0 ((n : Int) - 1) with
 | false =>
  have hin' : inB sq 0 ((qs.length : Int) - 1) = false := by rw [HL.out]; exact hin
  have HE : Hid (shV (shT qs (kd,sq,tx)) = .nilIface) := by show _ = _; unfold shT; dsimp only; rw [hin']; rfl
  have HC := hide (canJ_no (z := z) (qs := qs) (j := (kd,sq,tx)) hin')
  go_wp2_with fail
  go_ret2
  exact ⟨by rw [HE.out,HC.out]; rfl,HB1.out⟩
 | true =>
  have hin' : inB sq 0 ((qs.length : Int) - 1) = true := by rw [HL.out]; exact hin
  have HE : Hid (shT qs (kd,sq,tx) = shOf kd tx) := by show _ = _; unfold shT; dsimp only; rw [hin']; rfl
  have HC := hide (canJ_yes (z := z) (qs := qs) (j := (kd,sq,tx)) hin')
  unfold inB at hin
  simp only [Bool.and_eq_true,decide_eq_true_eq] at hin
  obtain ⟨i,rfl⟩ : ∃ i : Nat,sq = (i : Int) := ⟨sq.toNat,by omega⟩
  have hlt : i < n := by omega
  have hql : i < qs.length := by rw [HL.out]; exact hlt
  obtain ⟨b0,b1,b2⟩ := three_cells K2.out
  go_upto_region 3 with fail
  go_wp2_with fail
  refine (shapeOf_any kd (i : Int) tx w1).mono ?_
  rintro e w2 ⟨rfl,hb2⟩
  have hs2 := hb2.size
  have K12 := hide (block_on K1.out hb2)
  have K22 := hide (block_on K2.out hb2)
  have HS2 := hide (HS1.out.later hb2 (by omega))
  have HB2 := hide (below_here HB1.out hb2)
  clear hb2 K1 K2 HS1 HB1 b0 b1 b2
  obtain ⟨_,A,C,hx,ht⟩ := HS2.out
  obtain ⟨b,off,rfl,_,hb,hc⟩ := hx.2 (by omega)
  obtain ⟨c0,c1,c2⟩ := sq_cells hc (Below.refl w2.heap.size w2) (show b < w2.heap.size by have := hx.1; omega) hlt
  have hl8 := HL8.out _ (sqAt_mem hql)
  obtain ⟨a0,a1⟩ := two_cells K12.out
  obtain ⟨b0,b1,b2⟩ := three_cells K22.out
  have HTK : Hid (takesS z (sqAt qs i) (shOf kd tx) = canK z (sqAt qs i) kd tx) := takesS_of _ _ _ _
  have hsw : ∀ s,shOf kd tx = .write s -> s.size <= maxLen := fun s e => by
   unfold shOf at e
   split at e
   ·cases e; exact htx
   ·split at e
    ·cases e
    ·split at e <;> cases e
  have cT : ∀ d os,Calls Tryz.prog 171 #[.agg #[.slice (A i) (sqAt qs i).1.length (C i),.int .i64 (sqAt qs i).2.1,.bool (sqAt qs i).2.2],.int .i64 z,shV (shOf kd tx)] (Go.Sort.grow (redrawn w2 d) os) fun e w'' => e = .returned (.bool (canJ z qs (kd,(i : Int),tx))) ∧ ∃ p : Regrown,w'' = Go.Sort.grow (redrawn w2 p.d) p.os := fun d os => Calls.regrown_of ((takes_any (A i) (C i) (sqAt qs i) z (shOf kd tx) _ hl8 hsw).mono (fun e w' h => ⟨by rw [h.1,HC.out,HTK.out]; rfl,h.2⟩))
  have k0 := fun d os => cell_regrown a0 d os
  have k1 := fun d os => cell_regrown a1 d os
  have k2 := fun d os => cell_regrown b1 d os
  have k3 := fun d os => cell_regrown c0 d os
  have k4 := fun d os => cell_regrown c1 d os
  have k5 := fun d os => cell_regrown c2 d os
  clear hc hx ht
  obtain ⟨sv,hsv⟩ : ∃ sv,sv = shV (shOf kd tx) := ⟨_,rfl⟩
  have HSV : Hid (sv = shV (shT qs (kd,(i : Int),tx))) := by show _ = _; rw [HE.out]; exact hsv
  rw [<- hsv] at cT ⊢
  clear hsv HE HC HTK hsw
  generalize sqAt qs i = y at *
  obtain ⟨ts,zw,bd⟩ := y
  obtain ⟨cj,hcj⟩ : ∃ cj,cj = canJ z qs (kd,(i : Int),tx) := ⟨_,rfl⟩
  rw [<- hcj] at cT
  have HCJ := hide hcj
  clear hcj
  go_wp2_with fail
  refine wp_region_quiet_below (by kernel_rfl) (by kernel_rfl) ?_
  repeat (go_big_quiet_step ((go_at_call 171; exact cT _ _)))
  refine wpQuiet_nil ?_
  intro _ hw'
  obtain ⟨⟨dq,osq⟩,hw''⟩ := hw'
  subst hw''
  have HB3 := hide (below_here HB2.out (below_regrown w2 dq osq))
  go_wp2_with fail
  go_ret2
  exact ⟨by rw [<- HSV.out,<- HCJ.out]; rfl,HB3.out⟩
end Go.Proofs.YtgjoepdfhadmcaaGreatDoor
end

