/- Several texts in one: HamTab, HamImpl1, HamImpl2. -/
import Derived.Test.YtgjoepdfhadmcaaGreatDoorFInfo
import Derived.Lib.LaidTab
import Derived.Deep.RegionHeld3
section
namespace Go.Proofs.YtgjoepdfhadmcaaGreatDoor
open Go.RowKit
set_option linter.unusedVariables false
def Tab (w : World) : Prop := ∀ k,k < 8 -> w.cell? ⟨7,k,none⟩ = some (.int .i64 (Ham.place k : Int))
theorem block_of_cell {w : World} {a : Addr} {v : Value} (h : w.cell? a = some v) : a.block < w.heap.size := by
 unfold World.cell? at h
 split at h
 ·rename_i hb
  exact (Array.getElem?_eq_some_iff.1 hb).1
 ·simp at h
theorem Tab.later {w w' : World} (h : Tab w) {B : Nat} (hb : Below B w w') (hB : w.heap.size <= B) : Tab w' := fun k hk => by
 have h1 := h k hk
 have hlt := block_of_cell h1
 exact (World.cell?_of_block (w := w) (a := ⟨7,k,none⟩) (hb.block _ (Nat.lt_of_lt_of_le hlt hB))).trans h1
theorem Tab.here {w w' : World} (h : Tab w) (hb : Below w.heap.size w w') : Tab w' := h.later hb (Nat.le_refl _)
end Go.Proofs.YtgjoepdfhadmcaaGreatDoor
end

section
namespace Go.Proofs.YtgjoepdfhadmcaaGreatDoor
open Go.RowKit
set_option linter.unusedVariables false
set_option maxRecDepth 20000
theorem places_index : ∀ k,k < 8 -> ∀ w,(Instr.index 291 (.agg #[.int .i64 3,.int .i64 5,.int .i64 6,.int .i64 7,.int .i64 9,.int .i64 10,.int .i64 11,.int .i64 12]) (.int .i64 (k : Nat))).run Tryz.prog w = .ok (.int .i64 (Ham.place k : Int)) w := by
 have e0 : ∀ w,(Instr.index 291 (.agg #[.int .i64 3,.int .i64 5,.int .i64 6,.int .i64 7,.int .i64 9,.int .i64 10,.int .i64 11,.int .i64 12]) (.int .i64 0)).run Tryz.prog w = .ok (.int .i64 3) w := fun _ => by kernel_rfl
 have e1 : ∀ w,(Instr.index 291 (.agg #[.int .i64 3,.int .i64 5,.int .i64 6,.int .i64 7,.int .i64 9,.int .i64 10,.int .i64 11,.int .i64 12]) (.int .i64 1)).run Tryz.prog w = .ok (.int .i64 5) w := fun _ => by kernel_rfl
 have e2 : ∀ w,(Instr.index 291 (.agg #[.int .i64 3,.int .i64 5,.int .i64 6,.int .i64 7,.int .i64 9,.int .i64 10,.int .i64 11,.int .i64 12]) (.int .i64 2)).run Tryz.prog w = .ok (.int .i64 6) w := fun _ => by kernel_rfl
 have e3 : ∀ w,(Instr.index 291 (.agg #[.int .i64 3,.int .i64 5,.int .i64 6,.int .i64 7,.int .i64 9,.int .i64 10,.int .i64 11,.int .i64 12]) (.int .i64 3)).run Tryz.prog w = .ok (.int .i64 7) w := fun _ => by kernel_rfl
 have e4 : ∀ w,(Instr.index 291 (.agg #[.int .i64 3,.int .i64 5,.int .i64 6,.int .i64 7,.int .i64 9,.int .i64 10,.int .i64 11,.int .i64 12]) (.int .i64 4)).run Tryz.prog w = .ok (.int .i64 9) w := fun _ => by kernel_rfl
 have e5 : ∀ w,(Instr.index 291 (.agg #[.int .i64 3,.int .i64 5,.int .i64 6,.int .i64 7,.int .i64 9,.int .i64 10,.int .i64 11,.int .i64 12]) (.int .i64 5)).run Tryz.prog w = .ok (.int .i64 10) w := fun _ => by kernel_rfl
 have e6 : ∀ w,(Instr.index 291 (.agg #[.int .i64 3,.int .i64 5,.int .i64 6,.int .i64 7,.int .i64 9,.int .i64 10,.int .i64 11,.int .i64 12]) (.int .i64 6)).run Tryz.prog w = .ok (.int .i64 11) w := fun _ => by kernel_rfl
 have e7 : ∀ w,(Instr.index 291 (.agg #[.int .i64 3,.int .i64 5,.int .i64 6,.int .i64 7,.int .i64 9,.int .i64 10,.int .i64 11,.int .i64 12]) (.int .i64 7)).run Tryz.prog w = .ok (.int .i64 12) w := fun _ => by kernel_rfl
 intro k hk w
 match k,hk with
 | 0,_ => exact e0 w
 | 1,_ => exact e1 w
 | 2,_ => exact e2 w
 | 3,_ => exact e3 w
 | 4,_ => exact e4 w
 | 5,_ => exact e5 w
 | 6,_ => exact e6 w
 | 7,_ => exact e7 w
set_option maxHeartbeats 800000 in
theorem cwData_any (x : Nat) (w : World) (hx : x < 65536) (hT : Tab w) :
  Calls Tryz.prog 242 #[.int .i64 (x : Int)] w fun e w' => e = .returned (.int .i64 (Ham.byteOf x : Int)) ∧ w = w' := by
 have c0 : w.cell? ⟨7,0,none⟩ = some (.int .i64 3) := hT 0 (by omega)
 have c1 : w.cell? ⟨7,1,none⟩ = some (.int .i64 5) := hT 1 (by omega)
 have c2 : w.cell? ⟨7,2,none⟩ = some (.int .i64 6) := hT 2 (by omega)
 have c3 : w.cell? ⟨7,3,none⟩ = some (.int .i64 7) := hT 3 (by omega)
 have c4 : w.cell? ⟨7,4,none⟩ = some (.int .i64 9) := hT 4 (by omega)
 have c5 : w.cell? ⟨7,5,none⟩ = some (.int .i64 10) := hT 5 (by omega)
 have c6 : w.cell? ⟨7,6,none⟩ = some (.int .i64 11) := hT 6 (by omega)
 have c7 : w.cell? ⟨7,7,none⟩ = some (.int .i64 12) := hT 7 (by omega)
 clear hT
 go_enter Tryz.func242,Tryz.ntmps242
 go_wp2_with fail
 clear c0 c1 c2 c3 c4 c5 c6 c7
 go_loop [3,7] (fun n i => ∃ k : Nat,k <= 8 ∧ i = .int .i64 (k : Int) ∧ n = .int .i64 (Ham.byteTo x k : Int)) (fun _ i => 8 - (intOf i).toNat)
 case atStart => exact ⟨0,by omega,rfl,rfl⟩
 case round =>
  obtain ⟨k,hk,rfl,rfl⟩ := hrel
  by_cases hlt : k < 8
  ·have hix := places_index k hlt
   obtain ⟨n,hn⟩ : ∃ n,n = Ham.byteTo x k := ⟨_,rfl⟩
   obtain ⟨q,hq⟩ : ∃ q,q = Ham.place k := ⟨_,rfl⟩
   have hb2 := Ham.bitN_lt x q
   have hand := and1_bitN x q hx
   obtain ⟨d,hd⟩ : ∃ d,d = Ham.bitN x q := ⟨_,rfl⟩
   rw [<- hn]
   rw [<- hd] at hb2 hand
   rw [<- hq] at hix
   have hq13 : q < 13 := by rw [hq]; exact Ham.place_lt k
   have HOR := hide (or_shl8 n d k (by rw [hn]; exact Ham.byteTo_lt x k hk) hb2 hlt)
   have HS : Hid (Ham.byteTo x (k + 1) = n ||| d * 2 ^ k) := by rw [hn,hd,hq]; rfl
   clear hn hd hq
   go_wp2_with fail
   go_round
   case rel => exact ⟨k + 1,by omega,by go_num,by rw [HS.out,<- HOR.out]⟩
   case measure => simp [intOf]; omega
  ·go_wp2_with fail
   go_ret
   exact ⟨ret_i64 (by rw [show k = 8 by omega]; rfl),rfl⟩
set_option maxHeartbeats 1600000 in
theorem implSpread_nat (b : Nat) (w : World) (hb : b < 256) (hT : Tab w) :
  Calls Tryz.prog 217 #[.int .i64 (b : Int)] w fun e w' => e = .returned (.int .i64 (Ham.spread b : Int)) ∧ Below w.heap.size w w' := by
 have c0 : w.cell? ⟨7,0,none⟩ = some (.int .i64 3) := hT 0 (by omega)
 have c1 : w.cell? ⟨7,1,none⟩ = some (.int .i64 5) := hT 1 (by omega)
 have c2 : w.cell? ⟨7,2,none⟩ = some (.int .i64 6) := hT 2 (by omega)
 have c3 : w.cell? ⟨7,3,none⟩ = some (.int .i64 7) := hT 3 (by omega)
 have c4 : w.cell? ⟨7,4,none⟩ = some (.int .i64 9) := hT 4 (by omega)
 have c5 : w.cell? ⟨7,5,none⟩ = some (.int .i64 10) := hT 5 (by omega)
 have c6 : w.cell? ⟨7,6,none⟩ = some (.int .i64 11) := hT 6 (by omega)
 have c7 : w.cell? ⟨7,7,none⟩ = some (.int .i64 12) := hT 7 (by omega)
 clear hT
 have HSP := hide (Ham.spread_pw ⟨b,hb⟩)
 have h256 : decide ((256 : Int) <= (b : Int)) = false := by simp; omega
 have h0 : decide ((b : Int) < 0) = false := by simp
 go_enter Tryz.func217,Tryz.ntmps217
 go_wp2_with fail
 clear c0 c1 c2 c3 c4 c5 c6 c7
 go_loop [3,15] (fun n i => ∃ k : Nat,k <= 8 ∧ i = .int .i64 (k : Int) ∧ n = .int .i64 (Ham.dataTo b k : Int)) (fun _ i => 8 - (intOf i).toNat)
 case atStart => exact ⟨0,by omega,rfl,rfl⟩
 case round =>
  obtain ⟨k,hk,rfl,rfl⟩ := hrel
  by_cases hlt : k < 8
  ·have hix := places_index k hlt
   have hb2 := Ham.bitN_lt b k
   have hand := and1_bitN b k (by omega)
   obtain ⟨n,hn⟩ : ∃ n,n = Ham.dataTo b k := ⟨_,rfl⟩
   obtain ⟨d,hd⟩ : ∃ d,d = Ham.bitN b k := ⟨_,rfl⟩
   obtain ⟨q,hq⟩ : ∃ q,q = Ham.place k := ⟨_,rfl⟩
   rw [<- hn]
   rw [<- hd] at hand hb2
   rw [<- hq] at hix
   have hq13 : q < 13 := by rw [hq]; exact Ham.place_lt k
   have HOR := hide (or_shl n d q (by rw [hn]; exact Ham.dataTo_lt b k) hb2 hq13)
   have HS : Hid (Ham.dataTo b (k + 1) = n ||| d * 2 ^ q) := by rw [hn,hd,hq]; rfl
   clear hn hd hq
   go_wp2_with fail
   go_round
   case rel => exact ⟨k + 1,by omega,by go_num,by rw [HS.out,<- HOR.out]⟩
   case measure => simp [intOf]; omega
  ·obtain ⟨D,hD⟩ : ∃ D,D = Ham.data b := ⟨_,rfl⟩
   have hDk : Ham.dataTo b k = D := by rw [hD,show k = 8 by omega]; rfl
   rw [hDk]
   have hD13 : D < 8192 := by rw [hD]; exact Ham.data_lt b
   rw [<- hD] at HSP
   clear hDk hD hk
   have HB := hide ((Below.refl w.heap.size w).alloc (Nat.le_refl _) (.cells #[.func (.func 231) #[] #[],.func (.func 232) #[] #[]] 292))
   go_wp2_with fail
   have c0 := World.cell?_alloc_new w #[.func (.func 231) #[] #[],.func (.func 232) #[] #[]] 292 0
   have c1 := World.cell?_alloc_new w #[.func (.func 231) #[] #[],.func (.func 232) #[] #[]] 292 1
   obtain ⟨wa,hwa⟩ : ∃ wa,wa = w.alloc (.cells #[.func (.func 231) #[] #[],.func (.func 232) #[] #[]] 292) := ⟨_,rfl⟩
   rw [<- hwa] at HB c0 c1 ⊢
   obtain ⟨B,hB⟩ : ∃ B,B = w.heap.size := ⟨_,rfl⟩
   rw [<- hB] at c0 c1 ⊢
   simp only [List.getElem?_toArray,List.getElem?_cons_zero,List.getElem?_cons_succ] at c0 c1
   clear hwa hB
   have HE := hide (evenByPowers_any D wa hD13)
   have HP := hide (Ham.pw_lt hD13)
   obtain ⟨E,hE⟩ : ∃ E,E = Ham.pw D := ⟨_,rfl⟩
   rw [<- hE] at HE HP HSP
   clear hE hD13
   go_loop [3,30] (fun n i => (i = .int .i64 0 ∧ n = .int .i64 (D : Int)) ∨ (i = .int .i64 1 ∧ n = .int .i64 (E : Int)) ∨ (i = .int .i64 2 ∧ n = .int .i64 (Ham.spread b : Int))) (fun _ i => 2 - (intOf i).toNat)
   case atStart => exact .inl ⟨rfl,rfl⟩
   case round =>
    rcases hrel with ⟨rfl,rfl⟩ | ⟨rfl,rfl⟩ | ⟨rfl,rfl⟩
    ·go_wp2_with fail
     refine HE.out.mono ?_
     rintro e w2 ⟨rfl,rfl⟩
     go_wp2_with fail
     go_round
     case rel => exact .inr (.inl ⟨rfl,rfl⟩)
     case measure => simp [intOf]
    ·go_wp2_with fail
     refine (evenInAll_any E wa HP.out).mono ?_
     rintro e w2 ⟨rfl,rfl⟩
     rw [HSP.out]
     go_wp2_with fail
     go_round
     case rel => exact .inr (.inr ⟨rfl,rfl⟩)
     case measure => simp [intOf]
    ·go_wp2_with fail
     go_ret
     exact ⟨rfl,HB.out⟩
end Go.Proofs.YtgjoepdfhadmcaaGreatDoor
end

section
namespace Go.Proofs.YtgjoepdfhadmcaaGreatDoor
open Go.RowKit
set_option linter.unusedVariables false
set_option maxRecDepth 20000
theorem word_out {x : Int} (h : word x = false) : x < 0 ∨ 8192 <= x := by
 simp [word,inB] at h
 omega
theorem askWord_no (x : Int) (f : Value) (w : World) (h : word x = false) :
  Calls Tryz.prog 241 #[.int .i64 x,f] w fun e w' => e = .returned (.int .i64 (-1)) ∧ w = w' := by
 have hout := word_out h
 clear h
 by_cases h0 : x < 0
 ·clear hout
  go_enter Tryz.func241,Tryz.ntmps241
  go_wp2_with fail
  go_ret
  exact ⟨rfl,rfl⟩
 ·have h1 : (8192 : Int) <= x := by omega
  clear hout
  go_enter Tryz.func241,Tryz.ntmps241
  go_wp2_with fail
  go_ret
  exact ⟨rfl,rfl⟩
theorem askOdd_nat (n : Nat) (w : World) (hn : n < 8192) :
  Calls Tryz.prog 241 #[.int .i64 (n : Int),.func (.func 239) #[] #[]] w fun e w' => e = .returned (.int .i64 (Ham.odd n : Int)) ∧ w = w' := by
 have h1 : decide ((8192 : Int) <= (n : Int)) = false := by simp; omega
 have h0 : decide ((n : Int) < 0) = false := by simp
 go_enter Tryz.func241,Tryz.ntmps241
 go_wp2_with fail
 refine (cwOdd_any n w (by omega)).mono ?_
 rintro e w1 ⟨rfl,rfl⟩
 go_wp2_with fail
 go_ret
 exact ⟨rfl,rfl⟩
theorem askWeight_nat (n : Nat) (w : World) (hn : n < 8192) :
  Calls Tryz.prog 241 #[.int .i64 (n : Int),.func (.func 240) #[] #[]] w fun e w' => e = .returned (.int .i64 (Ham.wt n : Int)) ∧ w = w' := by
 have h1 : decide ((8192 : Int) <= (n : Int)) = false := by simp; omega
 have h0 : decide ((n : Int) < 0) = false := by simp
 go_enter Tryz.func241,Tryz.ntmps241
 go_wp2_with fail
 refine (cwWeight_any n w hn).mono ?_
 rintro e w1 ⟨rfl,rfl⟩
 go_wp2_with fail
 go_ret
 exact ⟨rfl,rfl⟩
theorem askData_nat (n : Nat) (w : World) (hn : n < 8192) (hT : Tab w) :
  Calls Tryz.prog 241 #[.int .i64 (n : Int),.func (.func 242) #[] #[]] w fun e w' => e = .returned (.int .i64 (Ham.byteOf n : Int)) ∧ w = w' := by
 have h1 : decide ((8192 : Int) <= (n : Int)) = false := by simp; omega
 have h0 : decide ((n : Int) < 0) = false := by simp
 have HT := hide hT
 clear hT
 go_enter Tryz.func241,Tryz.ntmps241
 go_wp2_with fail
 refine (cwData_any n w (by omega) HT.out).mono ?_
 rintro e w1 ⟨rfl,rfl⟩
 go_wp2_with fail
 go_ret
 exact ⟨rfl,rfl⟩
set_option maxHeartbeats 800000 in
theorem implHealed_no (x : Int) (w : World) (hb : word x = false) :
  Calls Tryz.prog 234 #[.int .i64 x] w fun e w' => e = .returned (pairV (-1,2)) ∧ Below w.heap.size w w' := by
 have HB := hide hb
 clear hb
 go_enter Tryz.func234,Tryz.ntmps234
 go_wp2_with fail
 refine (askWord_no x _ w HB.out).mono ?_
 rintro e w1 ⟨rfl,rfl⟩
 go_wp2_with fail
 refine (askWord_no x _ w HB.out).mono ?_
 rintro e w1 ⟨rfl,rfl⟩
 go_wp2_with fail
 go_ret2
 exact ⟨rfl,Below.refl _ _⟩
set_option maxHeartbeats 800000 in
theorem implHealed_nat (n : Nat) (w : World) (hn : n < 8192) (hT : Tab w) :
  Calls Tryz.prog 234 #[.int .i64 (n : Int)] w fun e w' => e = .returned (pairV (Ham.healed n)) ∧ Below w.heap.size w w' := by
 have HT := hide hT
 have HN := hide hn
 obtain ⟨o,ho⟩ : ∃ o,o = Ham.odd n := ⟨_,rfl⟩
 have ho16 : o < 16 := by rw [ho]; exact Ham.odd_lt n
 obtain ⟨t,ht⟩ : ∃ t,t = Ham.wt n := ⟨_,rfl⟩
 have ht13 : t <= 13 := by rw [ht]; exact Ham.wt_le n
 have htm : (t : Int).tmod 2 = ((t % 2 : Nat) : Int) := by rw [Int.tmod_eq_emod_of_nonneg (by omega)]; omega
 have HH : Hid (Ham.healed n = if t % 2 = 1 ∧ o <= 12 then ((Ham.byteOf (n ^^^ 2 ^ o) : Int),1) else if t % 2 = 0 ∧ o = 0 then ((Ham.byteOf n : Int),0) else (-1,2)) := by
  rw [ho,ht]; rfl
 have HO := hide (askOdd_nat n w hn)
 have HW := hide (askWeight_nat n w hn)
 rw [<- ho] at HO
 rw [<- ht] at HW
 clear ho ht hT
 by_cases h1 : t % 2 = 1
 ·rw [h1] at htm
  simp only [show ((1 : Nat) : Int) = 1 from rfl] at htm
  by_cases h12 : o <= 12
  ·rw [if_pos ⟨h1,h12⟩] at HH
   have HX := hide (xor_shl n o hn (by omega))
   have HTL := hide (Ham.turned_lt hn (show o < 13 by omega))
   obtain ⟨m,hm⟩ : ∃ m,m = n ^^^ 2 ^ o := ⟨_,rfl⟩
   rw [<- hm] at HX HTL HH
   have hx : bits .xor .i64 (n : Int) (wrap64 (2 ^ o)) = (m : Int) := HX.out
   have h13 : decide ((o : Int) < 13) = true := by simp; omega
   clear hm h1 HX
   go_enter Tryz.func234,Tryz.ntmps234
   go_wp2_with fail
   refine HO.out.mono ?_
   rintro e w1 ⟨rfl,rfl⟩
   go_wp2_with fail
   refine HW.out.mono ?_
   rintro e w1 ⟨rfl,rfl⟩
   go_wp2_with fail
   refine (askData_nat m w HTL.out HT.out).mono ?_
   rintro e w1 ⟨rfl,rfl⟩
   go_wp2_with fail
   go_ret2
   exact ⟨by rw [HH.out]; rfl,Below.refl _ _⟩
  ·rw [if_neg (by omega),if_neg (by omega)] at HH
   have h13 : decide ((o : Int) < 13) = false := by simp; omega
   have hoz : ((o : Int) == 0) = false := by simp; omega
   clear h1 h12
   go_enter Tryz.func234,Tryz.ntmps234
   go_wp2_with fail
   refine HO.out.mono ?_
   rintro e w1 ⟨rfl,rfl⟩
   go_wp2_with fail
   refine HW.out.mono ?_
   rintro e w1 ⟨rfl,rfl⟩
   go_wp2_with fail
   go_ret2
   exact ⟨by rw [HH.out]; rfl,Below.refl _ _⟩
 ·have h0 : t % 2 = 0 := by omega
  rw [h0] at htm
  simp only [show ((0 : Nat) : Int) = 0 from rfl] at htm
  by_cases hoz : o = 0
  ·subst hoz
   rw [if_neg (by omega),if_pos ⟨h0,rfl⟩] at HH
   simp only [show ((0 : Nat) : Int) = 0 from rfl] at HO
   clear h1 h0
   go_enter Tryz.func234,Tryz.ntmps234
   go_wp2_with fail
   refine HO.out.mono ?_
   rintro e w1 ⟨rfl,rfl⟩
   go_wp2_with fail
   refine HW.out.mono ?_
   rintro e w1 ⟨rfl,rfl⟩
   go_wp2_with fail
   refine (askData_nat n w HN.out HT.out).mono ?_
   rintro e w1 ⟨rfl,rfl⟩
   go_wp2_with fail
   go_ret2
   exact ⟨by rw [HH.out]; rfl,Below.refl _ _⟩
  ·rw [if_neg (by omega),if_neg (by omega)] at HH
   have hoz' : ((o : Int) == 0) = false := by simp; omega
   clear h1 h0 hoz
   go_enter Tryz.func234,Tryz.ntmps234
   go_wp2_with fail
   refine HO.out.mono ?_
   rintro e w1 ⟨rfl,rfl⟩
   go_wp2_with fail
   refine HW.out.mono ?_
   rintro e w1 ⟨rfl,rfl⟩
   go_wp2_with fail
   go_ret2
   exact ⟨by rw [HH.out]; rfl,Below.refl _ _⟩
theorem implHealed_any (x : Int) (w : World) (hT : Tab w) :
  Calls Tryz.prog 234 #[.int .i64 x] w fun e w' => e = .returned (pairV (healedI x)) ∧ Below w.heap.size w w' := by
 cases hb : word x
 ·rw [healedI_no hb]
  exact implHealed_no x w hb
 ·obtain ⟨n,rfl,hn⟩ := word_nat hb
  rw [healedI_nat hn]
  exact implHealed_nat n w hn hT
end Go.Proofs.YtgjoepdfhadmcaaGreatDoor
end

