/- . -/
import Derived.Test.YtgjoepdfhadmcaaGreatDoorSChipOwn2
import Derived.Test.YtgjoepdfhadmcaaGreatDoorSCloneW
namespace Go.Proofs.YtgjoepdfhadmcaaGreatDoor
open Go.RowKit
set_option linter.unusedVariables false
set_option maxRecDepth 20000
set_option maxHeartbeats 800000 in
theorem hasPage_any (z : Int) (a : Option Addr) (n cap : Nat) (qs : List Sq) (sq pg : Int) (w : World) {lo hi : Nat} (h : Squares lo hi w a n qs) (hhi : hi <= w.heap.size) (hn : n <= 1048576) (hf : ∀ x ∈ qs,sqFits x) :
  Calls Tryz.prog 142 #[.agg #[.int .i64 z,.slice a n cap],.int .i64 sq,.int .i64 pg] w fun e w' => e = .returned (.bool (inB sq 0 ((n : Int) - 1) && inB pg 0 (((sqAt qs sq.toNat).1.length : Int) - 1))) ∧ Below w.heap.size w w' := by
 obtain ⟨wA,hwA⟩ : ∃ wA,wA = w.alloc (.cells #[.int .i64 z,.slice a n cap] 26) := ⟨_,rfl⟩
 have hzA : wA.heap.size = w.heap.size + 1 := by rw [hwA]; simp
 have HBA : Hid (Below w.heap.size w wA) := by rw [hwA]; exact (Below.refl _ _).alloc (Nat.le_refl _) _
 have H1 : Hid (wA.heap[w.heap.size]? = some (.cells #[.int .i64 z,.slice a n cap] 26)) := by rw [hwA]; exact heap_new _ _
 have HSQ := hide (h.later HBA.out hhi)
 have HL := hide h.1
 have HF := hide hf
 clear h hf
 obtain ⟨a0,a1⟩ := two_cells H1.out
 obtain ⟨bb,hbb⟩ : ∃ bb,bb = (inB sq 0 ((n : Int) - 1) && inB pg 0 (((sqAt qs sq.toNat).1.length : Int) - 1)) := ⟨_,rfl⟩
 have HBB := hide hbb
 rw [<- hbb]
 clear hbb
 go_enter Tryz.func142,Tryz.ntmps142
 go_wp2_with fail
 rw [<- hwA]
 clear hwA
 refine (hasSquare_any z a n cap sq wA).mono ?_
 rintro e w2 ⟨rfl,b2⟩
 have H3 := hide (block_on H1.out b2)
 have HS2 := hide (HSQ.out.later b2 (by omega))
 have hs2 := b2.size
 have HB2 := hide (below_here HBA.out b2)
 clear b2 H1 HSQ HBA a0 a1
 obtain ⟨a0,a1⟩ := two_cells H3.out
 cases hin : inB sq 0 ((n : Int) - 1) with
 | false =>
  go_wp2_with fail
  go_ret
  exact ⟨ret_bool (by rw [HBB.out,hin]; rfl),HB2.out⟩
 | true =>
  have hin2 := hin
  unfold inB at hin2
  simp only [Bool.and_eq_true,decide_eq_true_eq] at hin2
  obtain ⟨i,rfl⟩ : ∃ i : Nat,sq = (i : Int) := ⟨sq.toNat,by omega⟩
  have hlt : i < n := by omega
  have hql : i < qs.length := by rw [HL.out]; exact hlt
  obtain ⟨_,A,C,hx,ht⟩ := HS2.out
  obtain ⟨b,off,rfl,_,hb,hc⟩ := hx.2 (by omega)
  obtain ⟨c0,c1,c2⟩ := sq_cells hc (Below.refl w2.heap.size w2) (show b < w2.heap.size by have := hx.1; omega) hlt
  have hl9 := (sq_fits HF.out hql).2.1
  unfold maxLen at hl9
  rw [Int.toNat_natCast,hin,Bool.true_and] at HBB
  clear hc hx ht hin hin2 c1 c2
  generalize sqAt qs i = y at *
  obtain ⟨ts,zw,bd⟩ := y
  dsimp only at c0 hl9 HBB
  by_cases hp0 : 0 <= pg
  ·have g0 : decide (pg >= 0) = true := by simpa using hp0
   have HE : Hid (inB pg 0 ((ts.length : Int) - 1) = decide (pg < (ts.length : Int))) := by show _ = _; unfold inB; rw [decide_eq_true hp0,Bool.true_and]; congr 1; apply propext; omega
   go_wp2_with fail
   go_ret
   exact ⟨ret_bool (by rw [HBB.out,HE.out]),HB2.out⟩
  ·have g0 : decide (pg >= 0) = false := by simpa using hp0
   have HE : Hid (inB pg 0 ((ts.length : Int) - 1) = false) := by show _ = _; unfold inB; rw [decide_eq_false hp0,Bool.false_and]
   go_wp2_with fail
   go_ret
   exact ⟨ret_bool (by rw [HBB.out,HE.out]),HB2.out⟩
set_option maxHeartbeats 1600000 in
theorem implPageAt_any (z : Int) (a : Option Addr) (n cap : Nat) (qs : List Sq) (sq pg : Int) (w : World) {lo hi : Nat} (h : Squares lo hi w a n qs) (hhi : hi <= w.heap.size) (hn : n <= 1048576) (hf : ∀ x ∈ qs,sqFits x) (htx : ∀ x ∈ qs,∀ s ∈ x.1,s.size <= 1048576) :
  Calls Tryz.prog 103 #[.agg #[.int .i64 z,.slice a n cap],.int .i64 sq,.int .i64 pg] w fun e w' => e = .returned (.string (pageAt z qs sq pg)) ∧ Below w.heap.size w w' := by
 obtain ⟨wA,hwA⟩ : ∃ wA,wA = w.alloc (.cells #[.int .i64 z,.slice a n cap] 26) := ⟨_,rfl⟩
 have hzA : wA.heap.size = w.heap.size + 1 := by rw [hwA]; simp
 have HBA : Hid (Below w.heap.size w wA) := by rw [hwA]; exact (Below.refl _ _).alloc (Nat.le_refl _) _
 have H1 : Hid (wA.heap[w.heap.size]? = some (.cells #[.int .i64 z,.slice a n cap] 26)) := by rw [hwA]; exact heap_new _ _
 have HSQ := hide (h.later HBA.out hhi)
 have HL := hide h.1
 have HF := hide hf
 have HTF := hide htx
 clear h hf htx
 obtain ⟨a0,a1⟩ := two_cells H1.out
 go_enter Tryz.func103,Tryz.ntmps103
 go_wp2_with fail
 rw [<- hwA]
 clear hwA
 refine (implChipOk_any z a n cap qs wA HSQ.out (by omega) hn HF.out).mono ?_
 rintro e w1 ⟨rfl,b1⟩
 have H2 := hide (block_on H1.out b1)
 have HS1 := hide (HSQ.out.later b1 (by omega))
 have hs1 := b1.size
 have HB1 := hide (below_here HBA.out b1)
 clear b1 H1 HSQ HBA a0 a1
 obtain ⟨a0,a1⟩ := two_cells H2.out
 cases hok : chipOk z qs with
 | true =>
  go_wp2_with fail
  refine (hasPage_any z a n cap qs sq pg w1 HS1.out (by omega) hn HF.out).mono ?_
  rintro e w2 ⟨rfl,b2⟩
  have H3 := hide (block_on H2.out b2)
  have HS2 := hide (HS1.out.later b2 (by omega))
  have hs2 := b2.size
  have HB2 := hide (below_here HB1.out b2)
  clear b2 H2 HS1 HB1 a0 a1
  obtain ⟨a0,a1⟩ := two_cells H3.out
  cases hin : (inB sq 0 ((n : Int) - 1) && inB pg 0 (((sqAt qs sq.toNat).1.length : Int) - 1)) with
  | true =>
   have hin2 := hin
   unfold inB at hin2
   simp only [Bool.and_eq_true,decide_eq_true_eq] at hin2
   obtain ⟨i,rfl⟩ : ∃ i : Nat,sq = (i : Int) := ⟨sq.toNat,by omega⟩
   obtain ⟨j,rfl⟩ : ∃ j : Nat,pg = (j : Int) := ⟨pg.toNat,by omega⟩
   have hlt : i < n := by omega
   have hql : i < qs.length := by rw [HL.out]; exact hlt
   obtain ⟨_,A,C,hx,ht⟩ := HS2.out
   obtain ⟨b,off,rfl,_,hb,hc⟩ := hx.2 (by omega)
   obtain ⟨c0,c1,c2⟩ := sq_cells hc (Below.refl w2.heap.size w2) (show b < w2.heap.size by have := hx.1; omega) hlt
   have hl9 := (sq_fits HF.out hql).2.1
   unfold maxLen at hl9
   have HTX := hide (ht i hlt)
   have HTS : Hid (∀ s ∈ (sqAt qs i).1,s.size <= 1048576) := HTF.out _ (by unfold sqAt; rw [List.getD_eq_getElem?_getD,List.getElem?_eq_getElem hql]; exact List.getElem_mem hql)
   have hjl : j < (sqAt qs i).1.length := by have := hin2.2.2; rw [Int.toNat_natCast] at this; omega
   have HE : Hid (pageAt z qs (i : Int) (j : Int) = (sqAt qs i).1.getD j ByteArray.empty) := by
    show _ = _
    rw [Bool.and_eq_true] at hin
    unfold pageAt
    rw [HL.out,hok,hin.1]
    have h2 := hin.2
    rw [Int.toNat_natCast] at h2
    simp [h2]
   clear hc hx ht hin hin2 c1 c2
   generalize sqAt qs i = y at *
   obtain ⟨ts,zw,bd⟩ := y
   dsimp only at c0 hl9 HTX HE HTS hjl
   obtain ⟨b2,off2,hAk,_,hb2,hc2⟩ := HTX.out.2.2 (by omega)
   have hcj : w2.cell? ⟨b2,off2 + j,none⟩ = some (.string (ts.getD j ByteArray.empty)) := hc2 j hjl
   have hsz : (ts.getD j ByteArray.empty).size <= 1048576 := HTS.out _ (by rw [List.getD_eq_getElem?_getD,List.getElem?_eq_getElem hjl]; exact List.getElem_mem _)
   rw [hAk] at c0
   clear hc2 HTX
   generalize ts.getD j ByteArray.empty = x at *
   go_wp2_with fail
   refine (cloneT_any x w2 hsz).mono ?_
   rintro e w3 ⟨rfl,b3⟩
   have HB3 := hide (below_here HB2.out b3)
   clear b3
   go_wp2_with fail
   go_ret
   exact ⟨by rw [HE.out]; rfl,HB3.out⟩
  | false =>
   have HNO : Hid (pageAt z qs sq pg = ByteArray.empty) := by
    show _ = _
    rw [Bool.and_eq_false_iff] at hin
    unfold pageAt
    rw [HL.out]
    rcases hin with hin | hin <;> simp [hin]
   go_wp2_with fail
   go_ret
   exact ⟨by rw [HNO.out]; rfl,HB2.out⟩
 | false =>
  have HNO : Hid (pageAt z qs sq pg = ByteArray.empty) := by show _ = _; unfold pageAt; rw [hok]; rfl
  go_wp2_with fail
  go_ret
  exact ⟨by rw [HNO.out]; rfl,HB1.out⟩
end Go.Proofs.YtgjoepdfhadmcaaGreatDoor
