/- Several texts in one: ChipOwn2, ChipOwn3, ChipMark, ChipOkS, ChipCan, ChipNewS, PlaceBase, WearMath, ChipImplA. -/
import Derived.Test.YtfogmdnkpkofiaaRChipSz
import Derived.Test.YtfogmdnkpkofiaaRCopyBase
import Derived.Test.YtfogmdnkpkofiaaRInfo
section
namespace Go.Proofs.Ytfogmdnkpkofiaa
open Go.RowKit
set_option linter.unusedVariables false
set_option maxRecDepth 20000
theorem make3 {P : Program} (t e : TypeId) (z0 z1 z2 : Value) (bytes : Nat) (ht : P.underlying t = some (.slice e)) (hinfo : (P.info? e).map (fun i => (i.zero,i.size,i.bytes)) = some (some (.agg #[z0,z1,z2]),3,bytes))
  (n : Nat) (hb : bytes * n <= 281474976710656) (h63 : n <= 9223372036854775807) (w : World) :
  (Instr.makeSlice t (.int .i64 (n : Int)) (.int .i64 (n : Int))).run P w = .ok (.slice (some ⟨w.heap.size,0,none⟩) n n) (w.alloc (.cells (madeCells #[z0,z1,z2] (n * 3)) e)) := by
 obtain ⟨i,hi,hzz⟩ := Option.map_eq_some_iff.1 hinfo
 simp only [Prod.mk.injEq] at hzz
 obtain ⟨hz,hs,hb'⟩ := hzz
 have h := run_make (P := P) w t e i (.agg #[z0,z1,z2]) ht hi hz .i64 .i64 (n : Int) (n : Int) (by omega) (by omega) (by rw [hb',<- Int.natCast_mul]; generalize bytes * n = q at hb ⊢; omega) (by omega)
 rw [h,hs]
 rfl
def zero3 (j : Nat) : Value := if j % 3 = 0 then .slice none 0 0 else if j % 3 = 1 then .int .i64 0 else .bool false
theorem made3 (w : World) (n : Nat) (e : TypeId) : Owned w.heap.size (w.heap.size + 1) (w.alloc (.cells (madeCells #[.slice none 0 0,.int .i64 0,.bool false] (n * 3)) e)) (some ⟨w.heap.size,0,none⟩) (3 * n) zero3 := by
 refine ⟨by simp,fun _ => ⟨w.heap.size,0,rfl,Nat.le_refl _,Nat.lt_succ_self _,fun j hj => ⟨?_,?_⟩⟩⟩
 ·rw [World.cell?_alloc_new,Nat.zero_add]
  have hj' : j < n * 3 := by omega
  have h3 : j % 3 = 0 ∨ j % 3 = 1 ∨ j % 3 = 2 := by omega
  rcases h3 with h | h | h <;> simp [madeCells,hj',zero3,h]
 ·exact four_frozen (heap_new w _) _
theorem Try.infoSq : (Try.prog.info? 37).map (fun i => (i.zero,i.size,i.bytes)) = some (some (.agg #[.slice none 0 0,.int .i64 0,.bool false]),3,40) := by kernel_rfl
end Go.Proofs.Ytfogmdnkpkofiaa
end

section
namespace Go.Proofs.Ytfogmdnkpkofiaa
open Go.RowKit
set_option linter.unusedVariables false
set_option maxRecDepth 20000
theorem OwnSqs.aside {lo hi n g off l r : Nat} {w w' : World} {a : Option Addr} {qs : List Sq} {A : Nat -> Option Addr} {C P : Nat -> Nat} (h : OwnSqs lo hi w a n qs g off A C P) (hb : Aside l r w w') (hr : r <= lo ∨ hi <= l) : OwnSqs lo hi w' a n qs g off A C P :=
 ⟨h.len,h.row.aside hb (by have := h.atG; omega),h.addr,fun i hi => (h.pages i hi).aside hb (by have := h.atP i hi; omega),h.room,h.atG,h.atP,h.apartG,h.apartP,Nat.le_trans h.top hb.size⟩
theorem OwnSqs.wide {lo hi lo' hi' n g off : Nat} {w : World} {a : Option Addr} {qs : List Sq} {A : Nat -> Option Addr} {C P : Nat -> Nat} (h : OwnSqs lo hi w a n qs g off A C P) (h1 : lo' <= lo) (h2 : hi <= hi') (h3 : hi' <= w.heap.size) : OwnSqs lo' hi' w a n qs g off A C P :=
 ⟨h.len,h.row,h.addr,h.pages,h.room,by have := h.atG; omega,fun i hi => by have := h.atP i hi; omega,h.apartG,h.apartP,h3⟩
theorem OwnSquares.aside {lo hi n l r : Nat} {w w' : World} {a : Option Addr} {qs : List Sq} (h : OwnSquares lo hi w a n qs) (hb : Aside l r w w') (hr : r <= lo ∨ hi <= l) : OwnSquares lo hi w' a n qs := by
 obtain ⟨g,off,A,C,P,h⟩ := h
 exact ⟨g,off,A,C,P,h.aside hb hr⟩
theorem OwnSquares.wide {lo hi lo' hi' n : Nat} {w : World} {a : Option Addr} {qs : List Sq} (h : OwnSquares lo hi w a n qs) (h1 : lo' <= lo) (h2 : hi <= hi') (h3 : hi' <= w.heap.size) : OwnSquares lo' hi' w a n qs := by
 obtain ⟨g,off,A,C,P,h⟩ := h
 exact ⟨g,off,A,C,P,h.wide h1 h2 h3⟩
theorem two_cells {W : World} {b : Nat} {c0 c1 : Value} {t : TypeId} {fr : Nat × Nat} (h : W.heap[b]? = some (.cells #[c0,c1] t fr)) :
  W.cell? ⟨b,0,none⟩ = some c0 ∧ W.cell? ⟨b,1,none⟩ = some c1 := by
 simp [World.cell?,h]
theorem two_set {W : World} {b : Nat} {c0 c1 : Value} {t : TypeId} {fr : Nat × Nat} (h : W.heap[b]? = some (.cells #[c0,c1] t fr)) (v0 v1 : Value) :
  ((W.setCell ⟨b,0,none⟩ v0).setCell ⟨b,1,none⟩ v1).heap[b]? = some (.cells #[v0,v1] t fr) :=
 set_block (set_block h 0 v0 (by simp)) 1 v1 (by simp)
theorem two_aside {lo hi : Nat} {w W : World} {b : Nat} (h : Aside lo hi w W) (h1 : lo <= b) (h2 : b < hi) (v0 v1 : Value) : Aside lo hi w ((W.setCell ⟨b,0,none⟩ v0).setCell ⟨b,1,none⟩ v1) :=
 (h.setCell (p := ⟨b,0,none⟩) h1 h2 v0).setCell (p := ⟨b,1,none⟩) h1 h2 v1
end Go.Proofs.Ytfogmdnkpkofiaa
end

section
namespace Go.Proofs.Ytfogmdnkpkofiaa
open Go.RowKit
set_option linter.unusedVariables false
set_option maxRecDepth 20000
theorem Owned.place {lo hi n i : Nat} {w : World} {b off : Nat} {f : Nat -> Value} (h : Owned lo hi w (some ⟨b,off,none⟩) n f) (hi' : i < n) : w.cell? ⟨b,off + i,none⟩ = some (f i) ∧ w.frozen? ⟨b,off + i,none⟩ = false ∧ lo <= b ∧ b < hi := by
 obtain ⟨b',off',e,h1,h2,h3⟩ := h.2 (by omega)
 simp at e
 obtain ⟨rfl,rfl⟩ := e
 exact ⟨(h3 i hi').1,(h3 i hi').2,h1,h2⟩
end Go.Proofs.Ytfogmdnkpkofiaa
end

section
namespace Go.Proofs.Ytfogmdnkpkofiaa
open Go.RowKit
set_option linter.unusedVariables false
set_option maxRecDepth 20000
def txOk (s : ByteArray) : Bool := decide (1 <= s.size) && decide (s.size <= 200)
def sqOk (z : Int) (q : Sq) : Bool := decide ((q.1.length : Int) <= z) && (inB q.2.1 0 1000000 && q.1.all txOk)
def chipOk (z : Int) (qs : List Sq) : Bool := inB z 1 8 && (decide (1 <= qs.length) && (decide (qs.length <= 12) && qs.all (sqOk z)))
theorem sq_all_step {z : Int} {qs : List Sq} {k : Nat} (h : k < qs.length) (h1 : (qs.take k).all (sqOk z) = true) (h2 : sqOk z (sqAt qs k) = true) : (qs.take (k + 1)).all (sqOk z) = true := by
 rw [List.take_succ_eq_append_getElem h,List.all_append,h1]
 unfold sqAt at h2
 rw [List.getD_eq_getElem?_getD,List.getElem?_eq_getElem h] at h2
 simpa using h2
theorem sq_all_fall {z : Int} {qs : List Sq} {k : Nat} (h : k < qs.length) (h2 : sqOk z (sqAt qs k) = false) : chipOk z qs = false := by
 have : qs.all (sqOk z) = false := by
  rw [List.all_eq_false]
  unfold sqAt at h2
  rw [List.getD_eq_getElem?_getD,List.getElem?_eq_getElem h] at h2
  exact ⟨qs[k],List.getElem_mem h,by simpa using h2⟩
 unfold chipOk
 rw [this]; simp
theorem tx_all_step {ts : List ByteArray} {k : Nat} (h : k < ts.length) (h1 : (ts.take k).all txOk = true) (h2 : txOk (ts.getD k ByteArray.empty) = true) : (ts.take (k + 1)).all txOk = true := by
 rw [List.take_succ_eq_append_getElem h,List.all_append,h1]
 rw [List.getD_eq_getElem?_getD,List.getElem?_eq_getElem h] at h2
 simpa using h2
theorem tx_all_fall {ts : List ByteArray} {k : Nat} (h : k < ts.length) (h2 : txOk (ts.getD k ByteArray.empty) = false) : ts.all txOk = false := by
 rw [List.all_eq_false]
 rw [List.getD_eq_getElem?_getD,List.getElem?_eq_getElem h] at h2
 exact ⟨ts[k],List.getElem_mem h,by simpa using h2⟩
set_option maxHeartbeats 1600000 in
theorem specChipOk_any (z : Int) (a : Option Addr) (n cap : Nat) (qs : List Sq) (w : World) {lo hi : Nat} (h : Squares lo hi w a n qs) (hhi : hi <= w.heap.size) (hn : n <= 1048576) (hf : ∀ x ∈ qs,sqFits x) :
  Calls Try.prog 24 #[.agg #[.int .i64 z,.slice a n cap]] w fun e w' => e = .returned (.bool (chipOk z qs)) ∧ Below w.heap.size w w' := by
 obtain ⟨wA,hwA⟩ : ∃ wA,wA = w.alloc (.cells #[.int .i64 z,.slice a n cap] 26) := ⟨_,rfl⟩
 have hzA : wA.heap.size = w.heap.size + 1 := by rw [hwA]; simp
 have HBA : Hid (Below w.heap.size w wA) := by rw [hwA]; exact (Below.refl _ _).alloc (Nat.le_refl _) _
 have H1 : Hid (wA.heap[w.heap.size]? = some (.cells #[.int .i64 z,.slice a n cap] 26)) := by rw [hwA]; exact heap_new _ _
 have HSQ := hide (h.later HBA.out hhi)
 have HL := hide h.1
 have HF := hide hf
 clear h hf
 obtain ⟨hA0,hA1⟩ := two_cells H1.out
 by_cases hz : inB z 1 8 = true
 ·by_cases h1 : 1 <= n
  ·by_cases h12 : n <= 12
   ·have e1 : decide ((n : Int) < 1) = false := by simp; omega
    have e2 : decide ((n : Int) > 12) = false := by simp; omega
    go_enter Try.func24,Try.ntmps24
    go_wp2_with fail
    rw [<- hwA]
    clear hwA
    refine (l1In_any z 1 8 wA).mono ?_
    rintro e w1 ⟨rfl,rfl⟩
    rw [hz]
    go_wp2_with fail
    clear hA0 hA1 e1 e2
    have HZZ := hide hz
    clear hz
    go_loopw [3] (fun i wr => ∃ k : Nat,k <= n ∧ i = .int .i64 (k : Int) ∧ (qs.take k).all (sqOk z) = true ∧ Below wA.heap.size wA wr) (fun i _ => n - (intOf i).toNat)
    case atStart => exact ⟨0,Nat.zero_le _,rfl,by simp,Below.refl _ _⟩
    case round =>
     obtain ⟨k,hk,rfl,hall,hbel⟩ := hrel
     obtain ⟨hA0,hA1⟩ := two_cells (block_on H1.out hbel)
     have HAL := hide hall
     have HBB := hide hbel
     clear hall
     by_cases hlt : k < n
     ·have hql : k < qs.length := by rw [HL.out]; exact hlt
      obtain ⟨_,A,C,hx,ht⟩ := HSQ.out
      obtain ⟨b,off,rfl,_,hb,hc⟩ := hx.2 (by omega)
      obtain ⟨c0,c1,c2⟩ := sq_cells hc hbel (show b < wA.heap.size by omega) hlt
      have HTX := hide ((ht k hlt).later hbel (by omega))
      have hl9 : (sqAt qs k).1.length <= maxLen := (HF.out _ (by unfold sqAt; rw [List.getD_eq_getElem?_getD,List.getElem?_eq_getElem hql]; exact List.getElem_mem hql)).2.1
      have hwf : (Lit.int .i64 (sqAt qs k).2.1).wf = true := (HF.out _ (by unfold sqAt; rw [List.getD_eq_getElem?_getD,List.getElem?_eq_getElem hql]; exact List.getElem_mem hql)).2.2
      have htf : ∀ s ∈ (sqAt qs k).1,s.size <= maxLen := (HF.out _ (by unfold sqAt; rw [List.getD_eq_getElem?_getD,List.getElem?_eq_getElem hql]; exact List.getElem_mem hql)).1
      unfold maxLen at hl9 htf
      have hws : w.heap.size < wr.heap.size := by have := hbel.size; omega
      have hA0' : (wr.alloc (.cells #[.slice (A k) (sqAt qs k).1.length (C k),.int .i64 (sqAt qs k).2.1,.bool (sqAt qs k).2.2] 37)).cell? ⟨w.heap.size,0,none⟩ = some (.int .i64 z) := (((Below.refl wr.heap.size wr).alloc (Nat.le_refl _) _).cell (p := ⟨w.heap.size,0,none⟩) hws).trans hA0
      clear hc hx ht hbel
      have HFA := hide (fun h => sq_all_fall (z := z) hql h)
      have HST := hide (fun h => sq_all_step (z := z) hql HAL.out h)
      generalize sqAt qs k = y at *
      obtain ⟨ts,zw,bd⟩ := y
      dsimp only at c0 c1 c2 hl9 hwf htf HTX hA0'
      have HTF := hide htf
      clear htf hwf
      by_cases hle : (ts.length : Int) <= z
      ·have g1 : decide ((ts.length : Int) > z) = false := by simp; omega
       go_wp2_with fail
       obtain ⟨wB,hwB⟩ : ∃ wB,wB = wr.alloc (.cells #[.slice (A k) ts.length (C k),.int .i64 zw,.bool bd] 37) := ⟨_,rfl⟩
       rw [<- hwB] at hA0' ⊢
       have HB1 : Hid (Below wr.heap.size wr wB) := by rw [hwB]; exact (Below.refl _ _).alloc (Nat.le_refl _) _
       have HB0 : Hid (wB.heap[wr.heap.size]? = some (.cells #[.slice (A k) ts.length (C k),.int .i64 zw,.bool bd] 37)) := by rw [hwB]; exact heap_new _ _
       have HTB := hide (HTX.out.later HB1.out HTX.out.2.1)
       have HBW := hide (below_here (below_here HBA.out HBB.out) HB1.out)
       have HBA1 := hide (below_here HBB.out HB1.out)
       clear hwB hA0' HTX
       refine (l1In_any zw 0 1000000 wB).mono ?_
       rintro e w1 ⟨rfl,rfl⟩
       by_cases hin : inB zw 0 1000000 = true
       ·rw [hin]
        obtain ⟨d0,d1,d2⟩ := three_cells HB0.out
        go_wp2_with fail
        clear d0 d1 d2
        go_loopw [5] (fun i wq => ∃ j : Nat,j <= ts.length ∧ i = .int .i64 (j : Int) ∧ (ts.take j).all txOk = true ∧ Below wB.heap.size wB wq) (fun i _ => ts.length - (intOf i).toNat)
        case atStart => exact ⟨0,Nat.zero_le _,rfl,by simp,Below.refl _ _⟩
        case round =>
         obtain ⟨j,hj,rfl,hal,hbq⟩ := hrel
         obtain ⟨d0,d1,d2⟩ := three_cells (block_on HB0.out hbq)
         have HAT := hide hal
         have HBQ := hide hbq
         clear hal
         by_cases hjl : j < ts.length
         ·obtain ⟨_,_,hxx⟩ := HTB.out
          obtain ⟨b2,off2,hAk,_,hb2,hc2⟩ := hxx (by omega)
          have hcj : wr.cell? ⟨b2,off2 + j,none⟩ = some (.string (ts.getD j ByteArray.empty)) := (hbq.cell (p := ⟨b2,off2 + j,none⟩) (by show b2 < _; have := HTB.out.2.1; omega)).trans (hc2 j hjl)
          rw [hAk] at d0
          clear hxx hc2 hbq
          have HFJ := hide (fun h => tx_all_fall (k := j) hjl h)
          have HSJ := hide (fun h => tx_all_step (k := j) hjl HAT.out h)
          have hx9 : (ts.getD j ByteArray.empty).size <= 9223372036854775807 := by
           refine Nat.le_trans (HTF.out _ ?_) (by omega)
           rw [List.getD_eq_getElem?_getD,List.getElem?_eq_getElem hjl]
           exact List.getElem_mem _
          have HNA : Hid (ts.all txOk = false -> chipOk z qs = false) := fun h => HFA.out (by unfold sqOk; rw [h]; simp)
          generalize ts.getD j ByteArray.empty = x at *
          by_cases hx1 : 1 <= x.size
          ·by_cases hx2 : x.size <= 200
           ·have q1 : decide ((x.size : Int) < 1) = false := by simp; omega
            have q2 : decide ((x.size : Int) > 200) = false := by simp; omega
            have HOK := hide (HSJ.out (by unfold txOk; rw [decide_eq_true hx1,decide_eq_true hx2]; rfl))
            go_wp2_with fail
            exact ⟨⟨j + 1,by omega,by go_num,HOK.out,HBQ.out⟩,by simp [intOf]; omega⟩
           ·have q1 : decide ((x.size : Int) < 1) = false := by simp; omega
            have q2 : decide ((x.size : Int) > 200) = true := by simp; omega
            have HNO := hide (HNA.out (HFJ.out (by unfold txOk; rw [decide_eq_false hx2]; simp)))
            go_wp2_with fail
            go_ret
            exact ⟨ret_bool HNO.out.symm,below_here HBW.out HBQ.out⟩
          ·have q1 : decide ((x.size : Int) < 1) = true := by simp; omega
           have HNO := hide (HNA.out (HFJ.out (by unfold txOk; rw [decide_eq_false hx1]; simp)))
           go_wp2_with fail
           go_ret
           exact ⟨ret_bool HNO.out.symm,below_here HBW.out HBQ.out⟩
         ·have HOK := hide (HST.out (by
           have h9 := HAT.out
           rw [List.take_of_length_le (by omega)] at h9
           unfold sqOk
           rw [decide_eq_true hle,hin,h9]; rfl))
          go_wp2_with fail
          exact ⟨⟨k + 1,by omega,by go_num,HOK.out,below_here HBA1.out HBQ.out⟩,by simp [intOf]; omega⟩
       ·have hin' : inB zw 0 1000000 = false := by simpa using hin
        rw [hin']
        have HNO := hide (HFA.out (by unfold sqOk; rw [hin']; simp))
        go_wp2_with fail
        go_ret
        exact ⟨ret_bool HNO.out.symm,HBW.out⟩
      ·have g1 : decide ((ts.length : Int) > z) = true := by simp; omega
       have HNO := hide (HFA.out (by unfold sqOk; rw [decide_eq_false hle]; rfl))
       go_wp2_with fail
       go_ret
       exact ⟨ret_bool HNO.out.symm,below_here (below_here HBA.out HBB.out) ((Below.refl wr.heap.size wr).alloc (Nat.le_refl _) _)⟩
     ·go_wp2_with fail
      go_ret
      have hq := HL.out
      refine ⟨ret_bool ?_,below_here HBA.out HBB.out⟩
      have h9 := HAL.out
      rw [List.take_of_length_le (by omega)] at h9
      unfold chipOk
      rw [HZZ.out,h9,decide_eq_true (by omega),decide_eq_true (by omega)]
      rfl
   ·have e1 : decide ((n : Int) < 1) = false := by simp; omega
    have e2 : decide ((n : Int) > 12) = true := by simp; omega
    have HNO : Hid (chipOk z qs = false) := by show _ = _; unfold chipOk; rw [HL.out,decide_eq_false h12]; simp
    go_enter Try.func24,Try.ntmps24
    go_wp2_with fail
    rw [<- hwA]
    clear hwA
    refine (l1In_any z 1 8 wA).mono ?_
    rintro e w1 ⟨rfl,rfl⟩
    rw [hz]
    go_wp2_with fail
    go_ret
    exact ⟨ret_bool HNO.out.symm,HBA.out⟩
  ·have e1 : decide ((n : Int) < 1) = true := by simp; omega
   have HNO : Hid (chipOk z qs = false) := by show _ = _; unfold chipOk; rw [HL.out,decide_eq_false h1]; simp
   go_enter Try.func24,Try.ntmps24
   go_wp2_with fail
   rw [<- hwA]
   clear hwA
   refine (l1In_any z 1 8 wA).mono ?_
   rintro e w1 ⟨rfl,rfl⟩
   rw [hz]
   go_wp2_with fail
   go_ret
   exact ⟨ret_bool HNO.out.symm,HBA.out⟩
 ·have hz' : inB z 1 8 = false := by simpa using hz
  have HNO : Hid (chipOk z qs = false) := by show _ = _; unfold chipOk; rw [hz']; rfl
  go_enter Try.func24,Try.ntmps24
  go_wp2_with fail
  rw [<- hwA]
  clear hwA
  refine (l1In_any z 1 8 wA).mono ?_
  rintro e w1 ⟨rfl,rfl⟩
  rw [hz']
  go_wp2_with fail
  go_ret
  exact ⟨ret_bool HNO.out.symm,HBA.out⟩
end Go.Proofs.Ytfogmdnkpkofiaa
end

section
namespace Go.Proofs.Ytfogmdnkpkofiaa
open Go.RowKit
set_option linter.unusedVariables false
set_option maxRecDepth 20000
def canK (z : Int) (q : Sq) (kd : Int) (tx : ByteArray) : Bool :=
 if kd = 1 then decide ((q.1.length : Int) < z) && txOk tx else if kd = 2 then decide (q.2.1 < 1000000) else decide (kd = 3)
def canJ (z : Int) (qs : List Sq) (j : Jb) : Bool := inB j.2.1 0 ((qs.length : Int) - 1) && (!(sqAt qs j.2.1.toNat).2.2 && canK z (sqAt qs j.2.1.toNat) j.1 j.2.2)
set_option maxHeartbeats 1600000 in
theorem l8Can_any (z : Int) (a : Option Addr) (n cap : Nat) (qs : List Sq) (kd sq : Int) (tx : ByteArray) (w : World) {lo hi : Nat} (h : Squares lo hi w a n qs) (hhi : hi <= w.heap.size) (hn : n <= 1048576) (hf : ∀ x ∈ qs,sqFits x) (htx : tx.size <= maxLen) :
  Calls Try.prog 54 #[.agg #[.int .i64 z,.slice a n cap],.agg #[.int .i64 kd,.int .i64 sq,.string tx]] w fun e w' => e = .returned (.bool (canJ z qs (kd,sq,tx))) ∧ Below w.heap.size w w' := by
 obtain ⟨wA,hwA⟩ : ∃ wA,wA = (w.alloc (.cells #[.int .i64 z,.slice a n cap] 26)).alloc (.cells #[.int .i64 kd,.int .i64 sq,.string tx] 30) := ⟨_,rfl⟩
 have hzA : wA.heap.size = w.heap.size + 1 + 1 := by rw [hwA]; simp
 have HBA : Hid (Below w.heap.size w wA) := by rw [hwA]; exact ((Below.refl _ _).alloc (Nat.le_refl _) _).alloc (by simp) _
 have H1 : Hid (wA.heap[w.heap.size]? = some (.cells #[.int .i64 z,.slice a n cap] 26)) := by rw [hwA]; exact heap_old (heap_new _ _)
 have H2 : Hid (wA.heap[w.heap.size + 1]? = some (.cells #[.int .i64 kd,.int .i64 sq,.string tx] 30)) := by rw [hwA]; exact heap_at (by simp)
 have HSQ := hide (h.later HBA.out hhi)
 have HL := hide h.1
 have HF := hide hf
 unfold maxLen at htx
 clear h hf
 go_enter Try.func54,Try.ntmps54
 go_wp2_with fail
 rw [<- hwA]
 clear hwA
 refine (l1In_any sq 0 ((n : Int) - 1) wA).mono ?_
 rintro e w1 ⟨rfl,rfl⟩
 obtain ⟨a0,a1⟩ := two_cells H1.out
 obtain ⟨b0,b1,b2⟩ := three_cells H2.out
 by_cases hin : inB sq 0 ((n : Int) - 1) = true
 ·rw [hin]
  have hin2 := hin
  unfold inB at hin2
  simp only [Bool.and_eq_true,decide_eq_true_eq] at hin2
  obtain ⟨i,rfl⟩ : ∃ i : Nat,sq = (i : Int) := ⟨sq.toNat,by omega⟩
  have hlt : i < n := by omega
  have hql : i < qs.length := by rw [HL.out]; exact hlt
  obtain ⟨_,A,C,hx,ht⟩ := HSQ.out
  obtain ⟨b,off,rfl,_,hb,hc⟩ := hx.2 (by omega)
  obtain ⟨c0,c1,c2⟩ := sq_cells hc (Below.refl wA.heap.size wA) (show b < wA.heap.size by have := hx.1; omega) hlt
  have hfi := sq_fits HF.out hql
  have hl9 := hfi.2.1
  unfold maxLen at hl9
  have HE : Hid (canJ z qs (kd,(i : Int),tx) = (!(sqAt qs i).2.2 && canK z (sqAt qs i) kd tx)) := by
   show _ = _
   unfold canJ
   dsimp only
   rw [HL.out,hin]
   simp
  clear hc hx ht hfi hin hin2
  generalize sqAt qs i = y at *
  obtain ⟨ts,zw,bd⟩ := y
  dsimp only at c0 c1 c2 hl9
  cases bd with
  | true =>
   go_wp2_with fail
   go_ret
   exact ⟨ret_bool (by rw [HE.out]; rfl),HBA.out⟩
  | false =>
   have hb0 : w.heap.size < wA.heap.size := by omega
   have hb1 : w.heap.size + 1 < wA.heap.size := by omega
   have HBB := hide ((Below.refl wA.heap.size wA).alloc (Nat.le_refl _) (.cells #[.slice (A i) ts.length (C i),.int .i64 zw,.bool false] 37))
   have a0' := (HBB.out.cell (p := ⟨w.heap.size,0,none⟩) hb0).trans a0
   have b0' := (HBB.out.cell (p := ⟨w.heap.size + 1,0,none⟩) hb1).trans b0
   have b2' := (HBB.out.cell (p := ⟨w.heap.size + 1,2,none⟩) hb1).trans b2
   have HBF := hide (below_here HBA.out HBB.out)
   have HE2 : Hid (canJ z qs (kd,(i : Int),tx) = canK z (ts,zw,false) kd tx) := HE.out
   clear HE
   by_cases k1 : kd = 1
   ·subst k1
    by_cases m1 : (ts.length : Int) < z
    ·by_cases m2 : 1 <= tx.size
     ·have g1 : decide ((ts.length : Int) < z) = true := by simpa using m1
      have g2 : decide ((1 : Int) <= (tx.size : Int)) = true := by simp; omega
      have g2' : decide ((tx.size : Int) >= 1) = true := g2
      have HV : Hid (canK z (ts,zw,false) 1 tx = decide ((tx.size : Int) <= 200)) := by
       show _ = _
       unfold canK txOk
       rw [if_pos rfl,g1,decide_eq_true m2]
       simp
       omega
      go_wp2_with fail
      go_ret
      exact ⟨ret_bool (by rw [HE2.out,HV.out]),HBF.out⟩
     ·have g1 : decide ((ts.length : Int) < z) = true := by simpa using m1
      have g2 : decide ((1 : Int) <= (tx.size : Int)) = false := by simp; omega
      have g2' : decide ((tx.size : Int) >= 1) = false := g2
      have HV : Hid (canK z (ts,zw,false) 1 tx = false) := by
       show _ = _
       unfold canK txOk
       rw [if_pos rfl,decide_eq_false m2]
       simp
      go_wp2_with fail
      go_ret
      exact ⟨ret_bool (by rw [HE2.out,HV.out]),HBF.out⟩
    ·have g1 : decide ((ts.length : Int) < z) = false := by simpa using m1
     have HV : Hid (canK z (ts,zw,false) 1 tx = false) := by
      show _ = _
      unfold canK
      rw [if_pos rfl,g1]
      rfl
     go_wp2_with fail
     go_ret
     exact ⟨ret_bool (by rw [HE2.out,HV.out]),HBF.out⟩
   ·by_cases k2 : kd = 2
    ·subst k2
     go_wp2_with fail
     go_ret
     exact ⟨ret_bool (by rw [HE2.out]; rfl),HBF.out⟩
    ·have g1 : (kd == 1) = false := by simpa using k1
     have g2 : (kd == 2) = false := by simpa using k2
     have HV : Hid (canK z (ts,zw,false) kd tx = (kd == 3)) := by
      show _ = _
      unfold canK
      rw [if_neg k1,if_neg k2]
      rfl
     go_wp2_with fail
     go_ret
     exact ⟨ret_bool (by rw [HE2.out,HV.out]),HBF.out⟩
 ·have hin' : inB sq 0 ((n : Int) - 1) = false := by simpa using hin
  rw [hin']
  have HNO : Hid (canJ z qs (kd,sq,tx) = false) := by show _ = _; unfold canJ; dsimp only; rw [HL.out,hin']; rfl
  go_wp2_with fail
  go_ret
  exact ⟨ret_bool HNO.out.symm,HBA.out⟩
end Go.Proofs.Ytfogmdnkpkofiaa
end

section
namespace Go.Proofs.Ytfogmdnkpkofiaa
open Go.RowKit
set_option linter.unusedVariables false
set_option maxRecDepth 20000
theorem sqAt_new (n i : Nat) : sqAt (List.replicate n (([],0,false) : Sq)) i = ([],0,false) := by
 unfold sqAt
 rw [List.getD_eq_getElem?_getD,List.getElem?_replicate]
 split <;> rfl
theorem cellQ_new (n j : Nat) : zero3 j = cellQ (fun _ => none) (fun _ => 0) (List.replicate n (([],0,false) : Sq)) j := by
 unfold cellQ zero3
 rw [sqAt_new]
 rfl
theorem squares_new {lo g n : Nat} {w : World} (h : Owned g (g + 1) w (some ⟨g,0,none⟩) (3 * n) zero3) (hlo : lo <= g) : OwnSquares lo w.heap.size w (some ⟨g,0,none⟩) n (List.replicate n ([],0,false)) := by
 have hs := h.1
 refine ⟨g,0,fun _ => none,fun _ => 0,fun _ => g,⟨by simp,h.congr (fun j _ => cellQ_new n j),fun _ => rfl,fun i _ => ?_,fun i _ => by rw [sqAt_new]; exact Nat.le_refl _,⟨hlo,by omega⟩,fun i _ => ⟨hlo,by omega⟩,fun i _ h' => ?_,fun i j _ _ _ h' => ?_,Nat.le_refl _⟩⟩
 ·rw [sqAt_new]
  exact ⟨rfl,hs,fun h' => absurd h' (by simp)⟩
 ·rw [sqAt_new] at h'
  exact absurd h' (by simp)
 ·rw [sqAt_new] at h'
  exact absurd h' (by simp)
end Go.Proofs.Ytfogmdnkpkofiaa
end

section
namespace Go.Proofs.Ytfogmdnkpkofiaa
open Go.RowKit Go.ChangeShapes Go.WideShapes Go.ChangeAt Go.Deep
set_option linter.unusedVariables false
abbrev Pl := Int × Int
def plAt (ps : List Pl) (i : Nat) : Pl := ps.getD i (0,0)
def cellP (ps : List Pl) (j : Nat) : Value := if j % 2 = 0 then .int .i64 (plAt ps (j / 2)).1 else .int .i64 (plAt ps (j / 2)).2
theorem cellP0 (ps : List Pl) (i : Nat) : cellP ps (2 * i) = .int .i64 (plAt ps i).1 := by
 unfold cellP; rw [if_pos (by omega),show 2 * i / 2 = i by omega]
theorem cellP1 (ps : List Pl) (i : Nat) : cellP ps (2 * i + 1) = .int .i64 (plAt ps i).2 := by
 unfold cellP; rw [if_neg (by omega),show (2 * i + 1) / 2 = i by omega]
def Places (lo hi : Nat) (w : World) (a : Option Addr) (n : Nat) (ps : List Pl) : Prop := ps.length = n ∧ Reads lo hi w a (2 * n) (cellP ps)
def OwnPlaces (lo hi : Nat) (w : World) (a : Option Addr) (n : Nat) (ps : List Pl) : Prop := ps.length = n ∧ Owned lo hi w a (2 * n) (cellP ps)
section
variable {lo hi n : Nat} {w w' : World} {a : Option Addr} {ps : List Pl}
theorem OwnPlaces.places (h : OwnPlaces lo hi w a n ps) : Places lo hi w a n ps := ⟨h.1,h.2.reads⟩
theorem Places.later (h : Places lo hi w a n ps) {B : Nat} (hb : Below B w w') (hB : hi <= B) : Places lo hi w' a n ps := ⟨h.1,h.2.later hb hB⟩
theorem OwnPlaces.later (h : OwnPlaces lo hi w a n ps) {B : Nat} (hb : Below B w w') (hB : hi <= B) : OwnPlaces lo hi w' a n ps := ⟨h.1,h.2.later hb hB⟩
theorem OwnPlaces.aside (h : OwnPlaces lo hi w a n ps) {l r : Nat} (hb : Aside l r w w') (hB : hi <= l ∨ r <= lo) : OwnPlaces lo hi w' a n ps := ⟨h.1,h.2.aside hb hB⟩
end
def plFits (p : Pl) : Prop := (Lit.int .i64 p.1).wf = true ∧ (Lit.int .i64 p.2).wf = true
theorem places_read {H : Type} {enc : TypeId × Value -> H} {P : Program} {W : World} {t e : TypeId} {f0 f1 : Field} {a : Option Addr} {len cap : Nat} {d : DataW H} {ps : List MemPlace}
  (ht : P.underlying t = some (.slice e)) (he : P.underlying e = some (.struct #[f0,f1])) (ce : P.cellsOf e = 2) (hone : oneCellFields P #[f0,f1] = true)
  (h0 : P.underlying f0.type = some (.int .i64)) (h1 : P.underlying f1.type = some (.int .i64))
  (h : DataW.Trod enc P W 0 (fun _ => true) true t (.slice a len cap) d ps) :
  ∃ js,Places 0 W.heap.size W a len js ∧ (∀ x ∈ js,plFits x) ∧ len <= maxLen := by
 obtain ⟨fuel,hh⟩ := h
 rcases open_slice ht hh with ⟨hcs,_⟩ | ⟨x,l,c,m,k,D,Pl,hcs,_,hl,hm,hmm,_,hr⟩
 ·simp [Value.cells] at hcs
  obtain ⟨rfl,rfl,rfl⟩ := hcs
  exact ⟨[],⟨rfl,Nat.le_refl _,fun h => absurd h (by omega)⟩,by simp,Nat.zero_le _⟩
 ·simp [Value.cells] at hcs
  obtain ⟨rfl,rfl,rfl⟩ := hcs
  simp only [if_true] at hmm
  obtain ⟨o0,k0⟩ := hone_of hone 0 f0 rfl
  obtain ⟨o1,k1⟩ := hone_of hone 1 f1 rfl
  obtain ⟨f,hf⟩ := pick_below (α := Int × Int) (p := fun i z => W.cell? (x.add (2 * i)) = some (.int .i64 z.1) ∧ W.cell? (x.add (2 * i + 1)) = some (.int .i64 z.2) ∧ plFits z) (n := len) (0,0) (fun i hi => by
   obtain ⟨cs',hc,hd⟩ := hr i (by omega)
   rw [ce] at hc
   obtain ⟨_,hlen,hcell⟩ := World.cells?_some hc
   obtain ⟨y0,y1,n',_,_,g0,g1⟩ := trod_struct2 he hd
   match cs',hlen with
   | [v0,v1],_ =>
    simp [o0,o1,k0,k1] at g0 g1
    obtain ⟨z,e0,_,w0⟩ := DataW.trod_int h0 g0
    obtain ⟨y,e1,_,w1⟩ := DataW.trod_int h1 g1
    simp only [List.cons.injEq,and_true] at e0 e1
    subst e0; subst e1
    have hadd : ∀ j,j < 2 -> (x.add (i * 2)).add j = x.add (2 * i + j) := fun j _ => by rw [add_add,Nat.mul_comm]
    have c0 := hcell 0 (by omega)
    have c1 := hcell 1 (by omega)
    rw [hadd 0 (by omega)] at c0
    rw [hadd 1 (by omega)] at c1
    simp at c0 c1
    exact ⟨(z,y),c0,c1,w0,w1⟩)
  have hg : ∀ i,i < len -> plAt ((List.range len).map f) i = f i := fun i hi => by
   unfold plAt
   rw [List.getD_eq_getElem?_getD,List.getElem?_map,List.getElem?_range hi]; rfl
  refine ⟨(List.range len).map f,⟨by simp,reads_of fun j hj => ?_⟩,?_,by omega⟩
  ·have e : j = 2 * (j / 2) ∨ j = 2 * (j / 2) + 1 := by omega
   have hq := hf (j / 2) (by omega)
   rcases e with e | e
   ·rw [e,cellP0,hg _ (by omega)]; exact hq.1
   ·rw [e,cellP1,hg _ (by omega)]; exact hq.2.1
  ·intro y hy
   obtain ⟨i,hi,rfl⟩ := List.mem_map.1 hy
   exact (hf i (List.mem_range.1 hi)).2.2
end Go.Proofs.Ytfogmdnkpkofiaa
end

section
namespace Go.Proofs.Ytfogmdnkpkofiaa
open Go.RowKit
set_option linter.unusedVariables false
def freeK (z : Int) (qs : List Sq) (k : Nat) : Int := ((qs.take k).map fun q => if q.2.2 then 0 else z - (q.1.length : Int)).sum
theorem freeK_step {z : Int} {qs : List Sq} {k : Nat} (h : k < qs.length) : freeK z qs (k + 1) = freeK z qs k + (if (sqAt qs k).2.2 then 0 else z - ((sqAt qs k).1.length : Int)) := by
 unfold freeK sqAt
 rw [List.take_succ_eq_append_getElem h,List.map_append,List.sum_append,List.getD_eq_getElem?_getD,List.getElem?_eq_getElem h]
 simp
def free (z : Int) (qs : List Sq) : Int := if chipOk z qs then freeK z qs qs.length else -1
def isEmpty (q : Sq) : Bool := (q.1.length == 0) && !q.2.2
end Go.Proofs.Ytfogmdnkpkofiaa
end

section
namespace Go.Proofs.Ytfogmdnkpkofiaa
open Go.RowKit
set_option linter.unusedVariables false
set_option maxRecDepth 20000
set_option maxHeartbeats 400000 in
theorem isLayout_any (q z : Int) (w : World) :
  Calls Try.prog 47 #[.int .i64 q,.int .i64 z] w fun e w' => e = .returned (.bool (inB q 1 12 && inB z 1 8)) ∧ w = w' := by
 by_cases h1 : 1 <= q
 ·have g1 : decide (q >= 1) = true := by simpa using h1
  by_cases h2 : q <= 12
  ·by_cases h3 : 1 <= z
   ·have g3 : decide (z >= 1) = true := by simpa using h3
    have HE : Hid ((inB q 1 12 && inB z 1 8) = decide (z <= 8)) := by show _ = _; simp [inB,h1,h2,h3]
    go_enter Try.func47,Try.ntmps47
    go_wp2_with fail
    go_ret
    exact ⟨ret_bool HE.out.symm,rfl⟩
   ·have g3 : decide (z >= 1) = false := by simpa using h3
    have HE : Hid ((inB q 1 12 && inB z 1 8) = false) := by show _ = _; simp [inB,h3]
    go_enter Try.func47,Try.ntmps47
    go_wp2_with fail
    go_ret
    exact ⟨ret_bool HE.out.symm,rfl⟩
  ·have HE : Hid ((inB q 1 12 && inB z 1 8) = false) := by show _ = _; simp [inB,h2]
   go_enter Try.func47,Try.ntmps47
   go_wp2_with fail
   go_ret
   exact ⟨ret_bool HE.out.symm,rfl⟩
 ·have g1 : decide (q >= 1) = false := by simpa using h1
  have HE : Hid ((inB q 1 12 && inB z 1 8) = false) := by show _ = _; simp [inB,h1]
  go_enter Try.func47,Try.ntmps47
  go_wp2_with fail
  go_ret
  exact ⟨ret_bool HE.out.symm,rfl⟩
set_option maxHeartbeats 400000 in
theorem canBeWritten_any (s : ByteArray) (w : World) (hs : s.size <= maxLen) :
  Calls Try.prog 65 #[.string s] w fun e w' => e = .returned (.bool (txOk s)) ∧ w = w' := by
 unfold maxLen at hs
 by_cases h1 : s = ⟨#[]⟩
 ·subst h1
  go_enter Try.func65,Try.ntmps65
  go_wp2_with fail
  go_ret
  exact ⟨rfl,rfl⟩
 ·have h2 : 1 <= s.size := by
   rcases Nat.eq_zero_or_pos s.size with h | h
   ·exact absurd (ByteArray.ext (Array.eq_empty_of_size_eq_zero h)) h1
   ·exact h
  have g1 : s.toList.isEmpty = false := by
   rw [List.isEmpty_eq_false_iff]
   intro e
   rw [ByteArray.toList_eq] at e
   have h3 : s.data.toList.length = s.size := rfl
   rw [e] at h3
   simp at h3
   omega
  clear h1
  have HE : Hid (txOk s = decide ((s.size : Int) <= 200)) := by show _ = _; unfold txOk; rw [decide_eq_true h2,Bool.true_and]; congr 1; apply propext; omega
  go_enter Try.func65,Try.ntmps65
  go_wp2_with fail
  go_ret
  exact ⟨ret_bool HE.out.symm,rfl⟩
set_option maxHeartbeats 800000 in
theorem isSquare_any (a : Option Addr) (cap : Nat) (ts : List ByteArray) (zw : Int) (bd : Bool) (z : Int) (w : World) {lo hi : Nat} (h : Texts lo hi w a ts.length ts) (hhi : hi <= w.heap.size) (hn : ts.length <= maxLen) (hts : ∀ s ∈ ts,s.size <= maxLen) :
  Calls Try.prog 48 #[.agg #[.slice a ts.length cap,.int .i64 zw,.bool bd],.int .i64 z] w fun e w' => e = .returned (.bool (sqOk z (ts,zw,bd))) ∧ Below w.heap.size w w' := by
 obtain ⟨wA,hwA⟩ : ∃ wA,wA = w.alloc (.cells #[.slice a ts.length cap,.int .i64 zw,.bool bd] 37) := ⟨_,rfl⟩
 have hzA : wA.heap.size = w.heap.size + 1 := by rw [hwA]; simp
 have HBA : Hid (Below w.heap.size w wA) := by rw [hwA]; exact (Below.refl _ _).alloc (Nat.le_refl _) _
 have H1 : Hid (wA.heap[w.heap.size]? = some (.cells #[.slice a ts.length cap,.int .i64 zw,.bool bd] 37)) := by rw [hwA]; exact heap_new _ _
 have HT := hide (h.later HBA.out hhi)
 have HF := hide hts
 unfold maxLen at hn
 clear h hts
 obtain ⟨c0,c1,c2⟩ := three_cells H1.out
 by_cases hle : (ts.length : Int) <= z
 ·have g1 : decide ((ts.length : Int) > z) = false := by simp; omega
  by_cases h0 : 0 <= zw
  ·have g2 : decide (zw < 0) = false := by simp; omega
   by_cases hM : zw <= 1000000
   ·have g3 : decide (zw > 1000000) = false := by simp; omega
    have HE : Hid (sqOk z (ts,zw,bd) = ts.all txOk) := by show _ = _; unfold sqOk inB; simp [hle,h0,hM]
    go_enter Try.func48,Try.ntmps48
    go_wp2_with fail
    rw [<- hwA]
    clear hwA c0 c1 c2 g1 g2 g3
    go_loopw [25,6] (fun i _ wr => ∃ k : Nat,k <= ts.length ∧ i = .int .i64 (k : Int) ∧ (ts.take k).all txOk = true ∧ wA = wr) (fun i _ _ => ts.length - (intOf i).toNat)
    case atStart => exact ⟨0,Nat.zero_le _,rfl,by simp,rfl⟩
    case round =>
     obtain ⟨k,hk,rfl,hall,rfl⟩ := hrel
     have HA := hide hall
     clear hall
     by_cases hlt : k < ts.length
     ·obtain ⟨_,_,hx⟩ := HT.out
      obtain ⟨b,off,rfl,_,hb,hc⟩ := hx (by omega)
      have hck : wA.cell? ⟨b,off + k,none⟩ = some (.string (ts.getD k ByteArray.empty)) := hc k hlt
      clear hc hx
      have HFJ := hide (fun h => tx_all_fall (k := k) hlt h)
      have HSJ := hide (fun h => tx_all_step (k := k) hlt HA.out h)
      have hx9 : (ts.getD k ByteArray.empty).size <= maxLen := by
       refine HF.out _ ?_
       rw [List.getD_eq_getElem?_getD,List.getElem?_eq_getElem hlt]
       exact List.getElem_mem _
      generalize ts.getD k ByteArray.empty = x at *
      go_wp2_with fail
      refine (canBeWritten_any x wA hx9).mono ?_
      rintro e w1 ⟨rfl,rfl⟩
      cases hx : txOk x with
      | true =>
       have HOK := hide (HSJ.out hx)
       go_wp2_with fail
       exact ⟨⟨k + 1,by omega,by go_num,HOK.out,trivial⟩,by simp [intOf]; omega⟩
      | false =>
       have HNO := hide (HFJ.out hx)
       go_wp2_with fail
       go_ret
       exact ⟨ret_bool (by rw [HE.out,HNO.out]),HBA.out⟩
     ·go_wp2_with fail
      go_ret
      refine ⟨ret_bool ?_,HBA.out⟩
      have h9 := HA.out
      rw [List.take_of_length_le (by omega)] at h9
      rw [HE.out,h9]
   ·have g3 : decide (zw > 1000000) = true := by simp; omega
    have HE : Hid (sqOk z (ts,zw,bd) = false) := by show _ = _; unfold sqOk inB; simp [hM]
    go_enter Try.func48,Try.ntmps48
    go_wp2_with fail
    rw [<- hwA]
    go_ret
    exact ⟨ret_bool HE.out.symm,HBA.out⟩
  ·have g2 : decide (zw < 0) = true := by simp; omega
   have HE : Hid (sqOk z (ts,zw,bd) = false) := by show _ = _; unfold sqOk inB; simp [h0]
   go_enter Try.func48,Try.ntmps48
   go_wp2_with fail
   rw [<- hwA]
   go_ret
   exact ⟨ret_bool HE.out.symm,HBA.out⟩
 ·have g1 : decide ((ts.length : Int) > z) = true := by simp; omega
  have HE : Hid (sqOk z (ts,zw,bd) = false) := by show _ = _; unfold sqOk; simp [hle]
  go_enter Try.func48,Try.ntmps48
  go_wp2_with fail
  rw [<- hwA]
  go_ret
  exact ⟨ret_bool HE.out.symm,HBA.out⟩
set_option maxHeartbeats 1600000 in
theorem implChipOk_any (z : Int) (a : Option Addr) (n cap : Nat) (qs : List Sq) (w : World) {lo hi : Nat} (h : Squares lo hi w a n qs) (hhi : hi <= w.heap.size) (hn : n <= 1048576) (hf : ∀ x ∈ qs,sqFits x) :
  Calls Try.prog 23 #[.agg #[.int .i64 z,.slice a n cap]] w fun e w' => e = .returned (.bool (chipOk z qs)) ∧ Below w.heap.size w w' := by
 obtain ⟨wA,hwA⟩ : ∃ wA,wA = w.alloc (.cells #[.int .i64 z,.slice a n cap] 26) := ⟨_,rfl⟩
 have hzA : wA.heap.size = w.heap.size + 1 := by rw [hwA]; simp
 have HBA : Hid (Below w.heap.size w wA) := by rw [hwA]; exact (Below.refl _ _).alloc (Nat.le_refl _) _
 have H1 : Hid (wA.heap[w.heap.size]? = some (.cells #[.int .i64 z,.slice a n cap] 26)) := by rw [hwA]; exact heap_new _ _
 have HSQ := hide (h.later HBA.out hhi)
 have HL := hide h.1
 have HF := hide hf
 clear h hf
 obtain ⟨a0,a1⟩ := two_cells H1.out
 go_enter Try.func23,Try.ntmps23
 go_wp2_with fail
 rw [<- hwA]
 clear hwA
 refine (isLayout_any (n : Int) z wA).mono ?_
 rintro e w1 ⟨rfl,rfl⟩
 cases hlay : (inB (n : Int) 1 12 && inB z 1 8) with
 | false =>
  have HNO : Hid (chipOk z qs = false) := by
   show _ = _
   unfold chipOk
   rw [HL.out]
   unfold inB at hlay ⊢
   by_cases h1 : 1 <= n <;> by_cases h2 : n <= 12 <;> by_cases h3 : 1 <= z <;> by_cases h4 : z <= 8 <;> simp [h1,h2,h3,h4] at hlay ⊢ <;> omega
  go_wp2_with fail
  go_ret
  exact ⟨ret_bool HNO.out.symm,HBA.out⟩
 | true =>
  have HYES : Hid (chipOk z qs = qs.all (sqOk z)) := by
   show _ = _
   unfold chipOk
   rw [HL.out]
   unfold inB at hlay ⊢
   simp at hlay
   rw [decide_eq_true (show (1 : Int) <= z by omega),decide_eq_true (show z <= 8 by omega),decide_eq_true (show 1 <= n by omega),decide_eq_true (show n <= 12 by omega)]
   simp
  clear hlay
  go_wp2_with fail
  clear a0 a1
  go_loopw [15,4] (fun i _ wr => ∃ k : Nat,k <= n ∧ i = .int .i64 (k : Int) ∧ (qs.take k).all (sqOk z) = true ∧ Below wA.heap.size wA wr) (fun i _ _ => n - (intOf i).toNat)
  case atStart => exact ⟨0,Nat.zero_le _,rfl,by simp,Below.refl _ _⟩
  case round =>
   obtain ⟨k,hk,rfl,hall,hbel⟩ := hrel
   have HAL := hide hall
   have HBB := hide hbel
   clear hall
   by_cases hlt : k < n
   ·have hql : k < qs.length := by rw [HL.out]; exact hlt
    obtain ⟨_,A,C,hx,ht⟩ := HSQ.out
    obtain ⟨b,off,rfl,_,hb,hc⟩ := hx.2 (by omega)
    obtain ⟨c0,c1,c2⟩ := sq_cells hc hbel (show b < wA.heap.size by omega) hlt
    have HTX := hide ((ht k hlt).later hbel (by omega))
    have HFI := hide (sq_fits HF.out hql)
    have HFA := hide (fun h => sq_all_fall (z := z) hql h)
    have HST := hide (fun h => sq_all_step (z := z) hql HAL.out h)
    clear hc hx ht
    generalize sqAt qs k = y at *
    obtain ⟨ts,zw,bd⟩ := y
    dsimp only at c0 c1 c2
    obtain ⟨wB,hwB⟩ : ∃ wB,wB = wr.alloc (.cells #[.slice (A k) ts.length (C k),.int .i64 zw,.bool bd] 37) := ⟨_,rfl⟩
    have HB1 : Hid (Below wr.heap.size wr wB) := by rw [hwB]; exact (Below.refl _ _).alloc (Nat.le_refl _) _
    have HB0 : Hid (wB.heap[wr.heap.size]? = some (.cells #[.slice (A k) ts.length (C k),.int .i64 zw,.bool bd] 37)) := by rw [hwB]; exact heap_new _ _
    obtain ⟨a0,a1⟩ := two_cells (block_on (block_on H1.out hbel) HB1.out)
    have HTB := hide (HTX.out.later HB1.out HTX.out.2.1)
    have hzB : wB.heap.size = wr.heap.size + 1 := by rw [hwB]; simp
    rw [hwB] at a0 a1
    go_wp2_with fail
    rw [<- hwB]
    clear a0 a1 c0 c1 c2 hwB
    refine (isSquare_any (A k) (C k) ts zw bd z wB HTB.out (by have := HTX.out.2.1; omega) HFI.out.2.1 HFI.out.1).mono ?_
    rintro e w2 ⟨rfl,b2⟩
    have HB2 := hide (below_here (below_here HBB.out HB1.out) b2)
    clear b2 hbel
    cases hok : sqOk z (ts,zw,bd) with
    | true =>
     have HOK := hide (HST.out hok)
     go_wp2_with fail
     exact ⟨⟨k + 1,by omega,by go_num,HOK.out,HB2.out⟩,by simp [intOf]; omega⟩
    | false =>
     have HNO := hide (HFA.out hok)
     go_wp2_with fail
     go_ret
     exact ⟨ret_bool HNO.out.symm,below_here HBA.out HB2.out⟩
   ·go_wp2_with fail
    go_ret
    refine ⟨ret_bool ?_,below_here HBA.out HBB.out⟩
    have h9 := HAL.out
    rw [List.take_of_length_le (by rw [HL.out]; omega)] at h9
    rw [HYES.out,h9]
end Go.Proofs.Ytfogmdnkpkofiaa
end

