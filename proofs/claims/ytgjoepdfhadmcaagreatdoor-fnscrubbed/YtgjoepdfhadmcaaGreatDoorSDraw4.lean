/- Several texts in one: Draw4, LikeTwo. -/
import Derived.Test.YtgjoepdfhadmcaaGreatDoorSWeaveSpec
import Derived.Test.YtgjoepdfhadmcaaGreatDoorSLawBase
import Derived.Test.YtgjoepdfhadmcaaGreatDoorSCopyBase
import Derived.Deep.RegionWith
import Derived.Test.YtgjoepdfhadmcaaGreatDoorSInfo
section
namespace Go.Proofs.YtgjoepdfhadmcaaGreatDoor
open Go.RowKit
set_option linter.unusedVariables false
set_option maxRecDepth 20000
theorem keeps_cell {w w' : World} {p g q : Nat} {v : Value} (h : w.cell? ⟨g,q,none⟩ = some v) (hs : Aside p (p + 1) w w') (hg : p + 1 <= g) : w'.cell? ⟨g,q,none⟩ = some v :=
 (World.cell?_of_block (a := ⟨g,q,none⟩) (hs.block g (World.block_lt_of_cell? _ _ h) (.inr hg))).trans h
theorem keeps_free {w w' : World} {p g q : Nat} {v : Value} {b : Bool} (h : w.cell? ⟨g,q,none⟩ = some v) (hf : w.frozen? ⟨g,q,none⟩ = b) (hs : Aside p (p + 1) w w') (hg : p + 1 <= g) : w'.frozen? ⟨g,q,none⟩ = b :=
 (World.frozen?_of_block (a := ⟨g,q,none⟩) (hs.block g (World.block_lt_of_cell? _ _ h) (.inr hg))).trans hf
theorem xor_u8 (a b : Int) : ∃ u : UInt8,bits .xor .u8 a b = (u.toNat : Int) := by
 have h : ∀ N : Nat,∃ u : UInt8,IntKind.u8.wrap (N : Int) = (u.toNat : Int) := fun N => by
  apply byte_of
  ·simp [IntKind.wrap,IntKind.bits,IntKind.signed]; omega
  ·simp [IntKind.wrap,IntKind.bits,IntKind.signed]; omega
 exact h _
set_option maxRecDepth 100000 in
set_option maxHeartbeats 1600000 in
theorem drawTurned_any (p : Nat) (s : ByteArray) (w : World) (hc : Cur w p) (hs : s.size <= 65536) :
  Calls Tryz.prog 148 #[.pointer (some ⟨p,0,none⟩),.string s] w fun e w' => ∃ t : ByteArray,e = .returned (.string t) ∧ t.size = s.size ∧ Cur w' p ∧ Aside p (p + 1) w w' := by
 have hpl := hc.lt
 have hcv := run_bytes_of_string (P := Tryz.prog) w 9 22 5 s Tryz.underlying9 Tryz.underlying22 Tryz.underlying5
 obtain ⟨cap,hcap⟩ : ∃ c,c = grownCap w s.size 0 5 := ⟨_,rfl⟩
 rw [<- hcap] at hcv
 have HM := bytes_made w s 5 cap ((bytesRow s cap).size + 1)
 obtain ⟨C,hC⟩ : ∃ C,C = Obj.cells (bytesRow s cap) 5 ((bytesRow s cap).size,(bytesRow s cap).size + 1) := ⟨_,rfl⟩
 rw [<- hC] at hcv HM
 have HM' : Hid (OwnBytes w.heap.size (w.heap.size + 1) (w.alloc C).drew (some ⟨w.heap.size,0,none⟩) s.size s.data.toList) := ⟨by simp,HM⟩
 have HA0 : Hid (Aside p (p + 1) w (w.alloc C).drew) := ((Aside.refl p (p + 1) w).alloc C).drewN 1
 have hc0 : Cur (w.alloc C).drew p := (hc.alloc C).drewN 1
 clear HM hC hcap hc
 go_enter Tryz.func148,Tryz.ntmps148
 go_wp2_with fail
 refine (l1Below_any p 3 _ hc0 (by omega)).mono ?_
 rintro e w1 ⟨x,rfl,x0,x1,c1,s1⟩
 have HO1 := hide (HM'.out.2.aside s1 (.inr (by omega)))
 have HA1 := hide (HA0.out.trans s1)
 clear HM' HA0 s1 hcv hc0
 go_wp2_with fail
 go_loopw [6] (fun i wr => ∃ (l : List UInt8) (k : Int),i = .int .i64 k ∧ 0 <= k ∧ k <= 3 ∧ OwnBytes w.heap.size (w.heap.size + 1) wr (some ⟨w.heap.size,0,none⟩) s.size l ∧ Cur wr p ∧ Aside p (p + 1) w wr) (fun i _ => (intOf i).toNat)
 case atStart => exact ⟨s.data.toList,x,rfl,x0,by omega,⟨by simp,HO1.out⟩,c1,HA1.out⟩
 case round =>
  obtain ⟨l,k,rfl,k0,k3,hown,hcr,hA⟩ := hrel
  have HOWN := hide hown
  have HA := hide hA
  clear hown hA HO1 HA1
  by_cases hlt : 0 < k
  ·by_cases hn : 0 < s.size
   ·have hnz : (0 : Int) < (s.size : Int) := by omega
    go_wp2_with fail
    refine (l1Below_any p (s.size : Int) wr hcr (by omega)).mono ?_
    rintro e w2 ⟨y,rfl,y0,y1,c2,s2⟩
    obtain ⟨q,rfl⟩ := Int.eq_ofNat_of_zero_le y0
    have hq : q < s.size := by omega
    have HO2 := hide (HOWN.out.2.aside s2 (.inr (by omega)))
    have HA2 := hide (HA.out.trans s2)
    obtain ⟨hco,hfo,_,_⟩ := HO2.out.at0 hq
    obtain ⟨z,hz⟩ : ∃ z,z = (l.getD q 0).toNat := ⟨_,rfl⟩
    rw [cellB,<- hz] at hco
    have hz8 : z < 256 := by rw [hz]; exact UInt8.toNat_lt _
    have hl := hide HOWN.out.1
    have i1 : (0 : Int) <= (q : Int) := by omega
    have i2 : (q : Int) < (s.size : Int) := by omega
    have HC := hide c2
    have HCO := hide hco
    have HFO := hide hfo
    clear s2 HOWN HA hcr y0 y1 hz c2
    go_wp2_with fail
    have cont : ∀ (W : World),Cur W p -> Calls Tryz.prog 56 #[.pointer (some ⟨p,0,none⟩),.int .i64 8] W fun e w' => ∃ d : Nat,e = .returned (.int .i64 (d : Int)) ∧ d < 8 ∧ Cur w' p ∧ Aside p (p + 1) W w' := by
     intro W h
     refine (l1Below_any p 8 W h (by omega)).mono ?_
     rintro e w' ⟨x,rfl,x0,x1,c,s⟩
     exact ⟨x.toNat,by rw [Int.toNat_of_nonneg x0],by omega,c,s⟩
    have HCONT := hide cont
    clear cont
    go_region_with (go_at_call 56; refine (HCONT.out w2.drew (HC.out.drewN 1)).mono ?_; rintro e w5 ⟨d,rfl,hd8,c5,s5⟩; have hcs := keeps_cell (w := w2.drew) HCO.out s5 (by omega); have hfs := keeps_free (w := w2.drew) HCO.out HFO.out s5 (by omega))
    all_goals
     obtain ⟨u,hu⟩ := xor_u8 (z : Int) (IntKind.u8.wrap (2 ^ min (IntKind.u64.wrap (d : Int)).toNat 8))
     rw [hu]
     have HO5 := hide ((((HO2.out.aside (w := w2.drew) s5 (.inr (by omega))).set0 hq (.int .u8 (u.toNat : Int))).congr (fun i _ => cellB_set l q i u (by rw [hl.out]; exact hq))))
     have HA5 := hide (((HA2.out.drewN 1).trans s5).set_new (g := w.heap.size) (q := q) (Nat.le_refl _) (.int .u8 (u.toNat : Int)))
     have HC5 := hide (c5.set_new (g := w.heap.size) (q := q) hpl (.int .u8 (u.toNat : Int)))
     clear hu s5 c5 hcs hfs HO2 HA2 HC HCO HFO HCONT hco hfo
     go_wp2_with fail
     go_roundw
     case rel => exact ⟨l.set q u,k - 1,by go_num,by omega,by omega,⟨by rw [List.length_set]; exact hl.out,HO5.out⟩,HC5.out,HA5.out⟩
     case measure => simp [intOf]; omega
   ·have hst := string_of (P := Tryz.prog) (lo := w.heap.size) (hi := w.heap.size + 1) (w := wr) (a := some ⟨w.heap.size,0,none⟩) (n := s.size) (l := l) ⟨HOWN.out.1,HOWN.out.2.reads⟩ 22 9 5 cap Tryz.underlying22 Tryz.underlying5 Tryz.underlying9
    have hz0 : s.size = 0 := by omega
    have hd0 : decide ((0 : Int) < (s.size : Int)) = false := decide_eq_false (by omega)
    have HL := hide HOWN.out.1
    clear hz0
    go_wp2_with fail
    go_ret
    exact ⟨_,rfl,by rw [size_mk,HL.out],hcr,HA.out⟩
  ·have hst := string_of (P := Tryz.prog) (lo := w.heap.size) (hi := w.heap.size + 1) (w := wr) (a := some ⟨w.heap.size,0,none⟩) (n := s.size) (l := l) ⟨HOWN.out.1,HOWN.out.2.reads⟩ 22 9 5 cap Tryz.underlying22 Tryz.underlying5 Tryz.underlying9
   have HL := hide HOWN.out.1
   go_wp2_with fail
   go_ret
   exact ⟨_,rfl,by rw [size_mk,HL.out],hcr,HA.out⟩
end Go.Proofs.YtgjoepdfhadmcaaGreatDoor
end

section
namespace Go.Proofs.YtgjoepdfhadmcaaGreatDoor
open Go.RowKit
set_option linter.unusedVariables false
set_option maxRecDepth 20000
set_option maxHeartbeats 400000 in
theorem likeTwo_any (a : Option Addr) (n cap : Nat) (xs : List Int) (a' : Option Addr) (n' cap' : Nat) (ys : List Int) (w : World) {lo hi lo' hi' : Nat} (h : Ints lo hi w a n xs) (h' : Ints lo' hi' w a' n' ys) (hn : n <= 1048576) (hn' : n' <= 1048576) :
  Calls Tryz.prog 33 #[.slice a n cap,.slice a' n' cap'] w fun e w' => e = .returned (.bool (decide (xs = ys))) ∧ Below w.heap.size w w' := by
 obtain ⟨hl,hsz,hx⟩ := h
 obtain ⟨hl',hsz',hx'⟩ := h'
 have HL : Hid (xs.length = n) := hl
 have HL' : Hid (ys.length = n') := hl'
 clear hl hl'
 by_cases he : n = n'
 ·subst he
  go_enter Tryz.func33,Tryz.ntmps33
  go_wp2
  go_loopw [5] (fun i wr => ∃ k : Nat,k <= n ∧ i = .int .i64 k ∧ xs.take k = ys.take k ∧ Below w.heap.size w wr) (fun i _ => n - (intOf i).toNat)
  case atStart => exact ⟨0,Nat.zero_le _,rfl,rfl,Below.refl _ _⟩
  case round =>
   obtain ⟨k,hk,rfl,hall,hbel⟩ := hrel
   have HA : Hid (xs.take k = ys.take k) := hall
   clear hall
   by_cases hlt : k < n
   ·obtain ⟨b,off,rfl,_,hb,hc⟩ := hx (by omega)
    obtain ⟨b',off',rfl,_,hb',hc'⟩ := hx' (by omega)
    have hck : wr.cell? ⟨b,off + k,none⟩ = some (.int .i64 (xs.getD k 0)) := (hbel.cell (p := ⟨b,off + k,none⟩) (by show b < _; omega)).trans (hc k hlt)
    have hck' : wr.cell? ⟨b',off' + k,none⟩ = some (.int .i64 (ys.getD k 0)) := (hbel.cell (p := ⟨b',off' + k,none⟩) (by show b' < _; omega)).trans (hc' k hlt)
    clear hc hx hc' hx'
    obtain ⟨z,hz⟩ : ∃ z,z = xs.getD k 0 := ⟨_,rfl⟩
    rw [<- hz] at hck
    have HZ : Hid (z = xs.getD k 0) := hz
    clear hz
    obtain ⟨y,hy⟩ : ∃ z,z = ys.getD k 0 := ⟨_,rfl⟩
    rw [<- hy] at hck'
    have HY : Hid (y = ys.getD k 0) := hy
    clear hy
    by_cases h0 : z = y
    ·subst h0
     go_wp2
     go_quiet (fail)
     go_wp2
     go_roundw
     case rel => exact ⟨k + 1,by omega,by go_num,take_step HL.out HL'.out hlt HA.out (HZ.out.symm.trans HY.out),below_drewN hbel _⟩
     case measure => simp [intOf]; omega
    ·have e0 : (z == y) = false := by simpa using h0
     have e1 : (z != y) = true := by simpa using h0
     go_wp2
     go_quiet (fail)
     go_wp2
     go_ret
     exact ⟨ret_bool (take_fall (k := k) (by rw [<- HZ.out,<- HY.out]; exact h0)).symm,below_drewN hbel _⟩
   ·go_wp2
    go_ret
    exact ⟨ret_bool (take_whole HL.out HL'.out (by omega) HA.out).symm,hbel⟩
 ·have e0 : ((n : Int) == (n' : Int)) = false := by simp; omega
  have e1 : ((n : Int) != (n' : Int)) = true := by simp; omega
  go_enter Tryz.func33,Tryz.ntmps33
  go_wp2
  go_ret
  exact ⟨ret_bool (by simp; intro e; subst e; exact he (HL.out.symm.trans HL'.out)),Below.refl _ _⟩
end Go.Proofs.YtgjoepdfhadmcaaGreatDoor
end

