/- Several texts in one: FtlSpecE, FtlSpecF, FtlSpecG. -/
import Derived.Test.YtgjoepdfhadmcaaGreatDoorSFtlMath
import Derived.Test.YtgjoepdfhadmcaaGreatDoorSChipGrow
import Derived.Test.YtgjoepdfhadmcaaGreatDoorSQuietTail
import Derived.BigRegion
import Derived.BigQuiet
import Derived.Test.YtgjoepdfhadmcaaGreatDoorSPageMath
import Derived.Test.YtgjoepdfhadmcaaGreatDoorSPageBase
import Derived.Deep.RegionHeld3
section
namespace Go.Proofs.YtgjoepdfhadmcaaGreatDoor
open Go.RowKit
set_option linter.unusedVariables false
set_option maxRecDepth 20000
theorem FtlAt.apart {B px pj n g c gm cm : Nat} {w : World} {z st : Int} {A : Nat -> Option Addr} {C : Nat -> Nat} {V : Value} {s : Kp} (h : FtlAt B w px pj z st n g c gm cm A C V s) : gm ≠ px ∧ gm ≠ pj ∧ px ≠ pj := by
 obtain ⟨cs,fz,hk⟩ := h.mem.kind
 refine ⟨fun e => ?_,fun e => ?_,fun e => ?_⟩
 ·rw [e,h.ftl] at hk
  simp only [Option.some.injEq,Obj.cells.injEq] at hk
  exact absurd hk.2.1 (by decide)
 ·rw [e,h.jobs] at hk
  simp only [Option.some.injEq,Obj.cells.injEq] at hk
  exact absurd hk.2.1 (by decide)
 ·have := h.ftl
  rw [e,h.jobs] at this
  simp only [Option.some.injEq,Obj.cells.injEq] at this
  exact absurd this.2.1 (by decide)
theorem FtlAt.led {B px pj n g c gm cm : Nat} {w : World} {z st : Int} {A : Nat -> Option Addr} {C : Nat -> Nat} {V : Value} {s : Kp} (h : FtlAt B w px pj z st n g c gm cm A C V s) {i : Nat} (hi : i < s.ps.length) (x : Pl) :
  FtlAt B ((w.setCell ⟨gm,i * 2,none⟩ (.int .i64 x.1)).setCell ⟨gm,i * 2 + 1,none⟩ (.int .i64 x.2)) px pj z st n g c gm cm A C V ⟨s.qs,s.ps.set i x,s.op,s.js⟩ := by
 obtain ⟨h1,h2,h3⟩ := h.apart
 refine ⟨h.mem.led hi x,?_,set_other (set_other h.jobs h2 _) h2 _,h.nx,h.nj,h.bx,h.bj⟩
 dsimp only
 rw [List.length_set]
 exact set_other (set_other h.ftl h1 _) h1 _
theorem FtlAt.bound {B px pj n g c gm cm : Nat} {w : World} {z st : Int} {A : Nat -> Option Addr} {C : Nat -> Nat} {V : Value} {s : Kp} (h : FtlAt B w px pj z st n g c gm cm A C V s) : px < w.heap.size ∧ pj < w.heap.size ∧ g < w.heap.size ∧ gm < w.heap.size ∧ B <= gm ∧ B <= g := by
 obtain ⟨cs,fz,hk⟩ := h.mem.kind
 exact ⟨(Array.getElem?_eq_some_iff.1 h.ftl).1,(Array.getElem?_eq_some_iff.1 h.jobs).1,by have := h.mem.sq.row.1; omega,(Array.getElem?_eq_some_iff.1 hk).1,(World.ownsRow.lt h.mem.pl gm rfl).1,h.mem.sq.atG⟩
theorem putK_of {z : Int} {s : Kp} {i : Nat} {tx : ByteArray} : putK z s i tx = (doK z s (1,s.op,tx)).map fun s' => ⟨s'.qs,s'.ps.set i (nextP s),s'.op,s'.js⟩ := rfl
set_option maxHeartbeats 3200000 in
theorem l10Move_any (B px pj : Nat) (z st : Int) (n g c gm cm : Nat) (A : Nat -> Option Addr) (C : Nat -> Nat) (V : Value) (s : Kp) (v : Nat) (w : World) (h : FtlAt B w px pj z st n g c gm cm A C V s) (hB : B <= w.heap.size) (hK : KOk z s) (o : Nat) (ho : s.op = (o : Int)) (hv : (v : Int) ≠ s.op) (hvl : v < s.qs.length) (hjs : s.js.length <= 100000) :
  Calls Tryz.prog 201 #[.pointer (some ⟨px,0,none⟩),.pointer (some ⟨pj,0,none⟩),.int .i64 (v : Int)] w fun e w' => FPost (moveK z v s) B px pj z st n g c gm cm w e w' := by
 have hL : (sqAt s.qs v).1.length <= 8 := by
  have h1 := (sqOk_parts (chipOk_at hK.map.chip hvl)).1
  have h2 := (chipOk_parts hK.map.chip).2.1
  omega
 have hm64 := hK.map.few
 have hnl := h.mem.sq.len
 have hn12 : n <= 12 := by have := (chipOk_parts hK.map.chip).2.2.2.1; omega
 have hvn : v < n := by omega
 have hon : o < n := by have := hK.hi; omega
 obtain ⟨L,hLe⟩ : ∃ L,L = (sqAt s.qs v).1.length := ⟨_,rfl⟩
 obtain ⟨m,hme⟩ : ∃ m,m = s.ps.length := ⟨_,rfl⟩
 have HLE := hide hLe
 have HME := hide hme
 rw [<- hLe] at hL
 rw [<- hme] at hm64
 clear hLe hme
 have HK := hide hK
 have H0 := hide h
 have HO := hide ho
 have HV := hide hv
 clear h hK ho hv
 have hgx := H0.out.ftl
 go_enter Tryz.func201,Tryz.ntmps201
 go_wp2_with fail
 go_loopw [7] (fun i wr => ∃ (k : Nat) (t : Kp) (A : Nat -> Option Addr) (C : Nat -> Nat) (V : Value),k <= L ∧ i = .int .i64 (k : Int) ∧ moveP z v s k = some t ∧ FtlAt B wr px pj z st n g c gm cm A C V t ∧ Frame B [g,px,pj,gm] w wr) (fun i _ => L - (intOf i).toNat)
 case atStart => exact ⟨0,s,A,C,V,Nat.zero_le _,rfl,rfl,H0.out,Frame.refl _ _ _⟩
 case round =>
  obtain ⟨k,t,A,C,V,hk,rfl,hmv,hat,hfr⟩ := hrel
  have hMV := moveP_moved HK.out HV.out hmv
  have hln := (moveP_len hmv).1
  have htm : t.ps.length = m := hMV.places.trans HME.out.symm
  have htq : t.qs.length = n := hMV.squares.trans hnl
  have hsv : sqAt t.qs v = sqAt s.qs v := hMV.other v HV.out
  have hsz := hfr.below.size
  have HMV := hide hmv
  have HAT := hide hat
  have HFR := hide hfr
  have HKT := hide hMV.ok
  have hop : t.op = (o : Int) := hMV.op.trans HO.out
  have HOP := hide hop
  obtain ⟨x0,x1,x2,x3,x4⟩ := five_cells hat.ftl
  obtain ⟨y0,_,_⟩ := hat.mem.sq.cells hvn
  rw [hsv,<- HLE.out] at y0
  have hvi : (v : Int) < (n : Int) := by omega
  by_cases hlt : k < L
  ·have hlt2 : (k : Int) < (L : Int) := by omega
   obtain ⟨wo,hwo⟩ : ∃ wo,wo = wr := ⟨_,rfl⟩
   subst hwo
   clear hmv hat hfr
   go_wp2_with fail
   go_loopw [8] (fun i wr => ∃ (j : Nat) (u : Kp) (A : Nat -> Option Addr) (C : Nat -> Nat) (V : Value),j <= m ∧ i = .int .i64 (j : Int) ∧ moveI z v k t j = some u ∧ FtlAt B wr px pj z st n g c gm cm A C V u ∧ Frame B [g,px,pj,gm] w wr) (fun i _ => m - (intOf i).toNat)
   case atStart => exact ⟨0,t,A,C,V,Nat.zero_le _,rfl,rfl,HAT.out,HFR.out⟩
   case round =>
    obtain ⟨j,u,A,C,V,hj,rfl,hmv,hat,hfr⟩ := hrel
    obtain ⟨hKU,hU1,hU2,hU3,hU4⟩ := moveI_part HKT.out (by rw [HOP.out,<- HO.out]; exact HV.out) (by omega) hmv
    have hlu := (moveI_len hmv).1
    have hum : u.ps.length = m := hU3.trans htm
    have huq : u.qs.length = n := hU2.trans htq
    have huv : sqAt u.qs v = sqAt s.qs v := (hU4 v (by rw [HOP.out,<- HO.out]; exact HV.out)).trans hsv
    have huo : u.op = (o : Int) := hU1.trans HOP.out
    have hsz2 := hfr.below.size
    have HMV2 := hide hmv
    have HAT2 := hide hat
    have HFR2 := hide hfr
    have HKU := hide hKU
    clear x0 x1 x2 x3 x4 y0
    obtain ⟨x0,x1,x2,x3,x4⟩ := five_cells hat.ftl
    rw [huo] at x3
    rw [hum] at x2
    by_cases hjl : j < m
    ·have hjl2 : (j : Int) < (m : Int) := by omega
     obtain ⟨p0,p1,f0,f1⟩ := hat.mem.cells (i := j) (by omega)
     have q2 := Tryz.guardPl
     by_cases heq : plAt u.ps j = ((v : Int),(k : Int))
     ·have HST := hide (moveI_step_yes hmv heq)
      rw [heq] at p0 p1
      have q1 := Tryz.eqPl (v : Int) (k : Int) (v : Int) (k : Int)
      rw [show (((v : Int) == (v : Int)) && ((k : Int) == (k : Int))) = true by simp] at q1
      obtain ⟨z0,_,_⟩ := hat.mem.sq.cells hon
      obtain ⟨y0,_,_⟩ := hat.mem.sq.cells hvn
      have hpo := hat.mem.sq.pages.own v hvn
      have hpl : (sqAt u.qs v).1.length = L := by rw [huv]; exact HLE.out.symm
      obtain ⟨pb,hpb⟩ : ∃ pb,A v = some ⟨pb,0,none⟩ := by
       rcases pg_form hpo with ⟨_,e,_⟩ | ⟨pb,e,_⟩
       ·rw [e] at hpl; simp at hpl; omega
       ·exact ⟨pb,e⟩
      have hck : wr.cell? ⟨pb,k,none⟩ = some (.string (txAt u.qs v k)) := by
       rw [hpb] at hpo
       rw [World.ownsRow.cellAt hpo k (by omega)]
       unfold pgV txAt
       rw [List.getElem?_map,List.getD_eq_getElem?_getD,List.getElem?_eq_getElem (by omega)]
       rfl
      have htz : (txAt u.qs v k).size <= 200 := by
       have h1 := (sqOk_parts (chipOk_at hKU.map.chip (show v < u.qs.length by omega))).2.2.2
       refine (h1 (txAt u.qs v k) ?_).2
       unfold txAt
       rw [List.getD_eq_getElem?_getD,List.getElem?_eq_getElem (by omega)]
       exact List.getElem_mem _
      rw [hpl,hpb] at y0
      have hol : (sqAt u.qs o).1.length <= 8 := by
       have h1 := (sqOk_parts (chipOk_at hKU.map.chip (show o < u.qs.length by omega))).1
       have h2 := (chipOk_parts hKU.map.chip).2.1
       omega
      have hoi : (o : Int) < (n : Int) := by omega
      have HNX : Hid (nextP u = ((o : Int),((sqAt u.qs o).1.length : Int))) := by show _ = _; unfold nextP; rw [huo,Int.toNat_natCast]
      have HDK : Hid (putK z u j (txAt u.qs v k) = (doK z u (1,(o : Int),txAt u.qs v k)).map fun s' => ⟨s'.qs,s'.ps.set j (nextP u),s'.op,s'.js⟩) := by show _ = _; rw [putK_of,huo]
      obtain ⟨bd1,bd2,bd3,bd4,bd5,bd6⟩ := hat.bound
      have HCK := hide hKU.map.chip
      obtain ⟨tx,htx⟩ : ∃ tx,tx = txAt u.qs v k := ⟨_,rfl⟩
      rw [<- htx] at hck htz HDK HST
      clear htx
      obtain ⟨lo,hlo⟩ : ∃ lo,lo = (sqAt u.qs o).1.length := ⟨_,rfl⟩
      rw [<- hlo] at z0 hol HNX
      clear hlo hmv hat hfr hKU heq hpo hpb
      go_upto_region 8 with fail
      go_cut [9] (fun d wx => ∃ g',d = .pointer (some ⟨g',0,none⟩) ∧ wr.heap.size <= g' ∧ wx.heap[g']? = some (.cells #[.int .i64 (o : Int),.int .i64 (lo : Int)] 39) ∧ Below wr.heap.size wr wx)
      case first =>
       have HBX : Hid (Below wr.heap.size wr (wr.alloc (.cells #[.int .i64 (o : Int),.int .i64 (lo : Int)] 39)).drew) := ((Below.refl wr.heap.size wr).alloc (Nat.le_refl _) _).drew
       go_region
       go_wp2_with fail
       go_meet
       exact ⟨_,rfl,Nat.le_refl _,heap_new wr _,HBX.out⟩
      case rest =>
       obtain ⟨tb,rfl,htb,htc,hbw⟩ := hcut
       obtain ⟨w4,hw4⟩ : ∃ w4,w4 = wc := ⟨_,rfl⟩
       subst hw4
       have HTC := hide htc
       have HAT4 := hide (HAT2.out.later hbw)
       have HFR4 := hide (HFR2.out.on hbw (by omega))
       have hs4 := hbw.size
       obtain ⟨a0,a1,a2,a3,a4⟩ := five_cells HAT4.out.ftl
       rw [huo] at a3
       rw [hum] at a2
       have b0 := (hbw.cell (p := ⟨g,v * 3,none⟩) bd3).trans y0
       have hpbl : pb < wr.heap.size := World.block_lt_of_cell? _ _ hck
       have b1 := (hbw.cell (p := ⟨pb,k,none⟩) hpbl).trans hck
       clear x0 x1 x2 x3 x4 y0 z0 p0 p1 f0 f1 hck htc hbw q1 q2
       have HCL : ∀ w',Hid (Below w4.heap.size w4 w' -> Calls Tryz.prog 158 #[.pointer (some ⟨px,0,none⟩),.pointer (some ⟨pj,0,none⟩),.agg #[.int .i64 1,.int .i64 (o : Int),.string tx]] w' fun e w'' => FPost (doK z u (1,(o : Int),tx)) B px pj z st n g c gm cm w' e w'') := fun w' hb' =>
        l10Do_any B px pj z st n g c gm cm A C V u 1 (o : Int) tx w' (HAT4.out.later hb') (by have := hb'.size; omega) HCK.out (by unfold maxLen; omega) (by rw [<- HME.out] at hln; have : k * m <= 8 * 64 := Nat.mul_le_mul (by omega) hm64; omega)
       go_upto_region 9 with fail
       refine wp_region_quiet_tail 19 (by kernel_rfl) (by kernel_rfl) ?_
       simp only [List.take_succ_cons,List.take_zero,List.drop_succ_cons,List.drop_zero]
       repeat (go_big_quiet_step (fail))
       refine wpQuiet_nil ?_
       rintro _ ⟨nq,rfl⟩
       have HBQ : Hid (Below w4.heap.size w4 (w4.drewN nq)) := ⟨rfl,rfl,rfl,Nat.le_refl _,fun _ _ => rfl⟩
       generalize w4.drewN nq = wq at *
       go_wp2_with fail
       refine ((HCL _).out HBQ.out).mono ?_
       rintro e w5 ⟨rfl,hf5,hk5⟩
       have HF5 := hide ((HFR4.out.on HBQ.out (by omega)).trans hf5)
       have HT5 := hide (hf5.other tb _ _ _ (by simp; omega) (by decide) (by decide) (block_on HTC.out HBQ.out))
       have HK5 := hide hk5
       clear hf5 hk5 a0 a1 a2 a3 a4 b0 b1 HCL
       cases hd : doK z u (1,(o : Int),tx) with
       | none =>
        have HE : Hid (moveK z v s = none) := by
         show moveP z v s _ = _
         rw [hd] at HDK
         rw [<- HLE.out]
         refine moveP_fall (k := k + 1) ?_ (by omega)
         rw [moveP_step HMV.out,htm]
         exact moveI_fall (k := j + 1) (by rw [HST.out,HDK.out]; rfl) (by omega)
        rw [Option.isSome_none]
        go_wp2_with fail
        go_ret
        exact ⟨by rw [HE.out]; rfl,HF5.out,fun s' hs' => by rw [HE.out] at hs'; cases hs'⟩
       | some u1 =>
        obtain ⟨A5,C5,V5,hA5⟩ := HK5.out u1 hd
        obtain ⟨h1,h2⟩ := doK_op hd
        have hu1 : u1.ps.length = m := by rw [h2]; exact hum
        have HS1 : Hid (moveI z v k t (j + 1) = some ⟨u1.qs,u1.ps.set j ((o : Int),(lo : Int)),u1.op,u1.js⟩) := by show _ = _; rw [HST.out,HDK.out,hd,HNX.out]; rfl
        have HL := hide (hA5.led (i := j) (by omega) ((o : Int),(lo : Int)))
        have HFL := hide ((HF5.out.set (p := gm) (by simp) bd5 (j * 2) (.int .i64 (o : Int))).set (p := gm) (by simp) bd5 (j * 2 + 1) (.int .i64 (lo : Int)))
        obtain ⟨e0,e1,e2,e3,e4⟩ := five_cells hA5.ftl
        rw [hu1] at e2
        obtain ⟨t0,t1⟩ := two_cells HT5.out
        obtain ⟨p0,p1,f0,f1⟩ := hA5.mem.cells (i := j) (by omega)
        clear hA5 hd
        rw [Option.isSome_some]
        go_upto_region 11 with fail
        refine wp_region_quiet_tail 7 (by kernel_rfl) (by kernel_rfl) ?_
        simp only [List.take_succ_cons,List.take_zero,List.drop_succ_cons,List.drop_zero]
        repeat (go_big_quiet_step (fail))
        refine wpQuiet_nil ?_
        rintro _ ⟨nq',rfl⟩
        go_wp2_with fail
        go_roundw
        case rel => exact ⟨j + 1,_,A5,C5,V5,by omega,by go_num,HS1.out,HL.out.later ⟨rfl,rfl,rfl,Nat.le_refl _,fun _ _ => rfl⟩,HFL.out.on ⟨rfl,rfl,rfl,Nat.le_refl _,fun _ _ => rfl⟩ (by have := HFL.out.below.size; omega)⟩
        case measure => simp [intOf]; omega
     ·have HNO := hide (moveI_step_no hmv heq)
      have hne : (((plAt u.ps j).1 == (v : Int)) && ((plAt u.ps j).2 == (k : Int))) = false := by
       cases hh : (((plAt u.ps j).1 == (v : Int)) && ((plAt u.ps j).2 == (k : Int))) with
       | false => rfl
       | true =>
        simp only [Bool.and_eq_true,beq_iff_eq] at hh
        exact absurd (Prod.ext hh.1 hh.2) heq
      clear hmv hat hfr hKU heq
      generalize plAt u.ps j = y at *
      obtain ⟨a1,a2⟩ := y
      dsimp only at p0 p1 hne
      have q1 := Tryz.eqPl a1 a2 (v : Int) (k : Int)
      rw [hne] at q1
      go_wp2_with fail
      go_roundw
      case rel => exact ⟨j + 1,u,A,C,V,by omega,by go_num,HNO.out,HAT2.out,HFR2.out⟩
      case measure => simp [intOf]; omega
    ·obtain rfl : j = m := by omega
     have HST : Hid (moveP z v s (k + 1) = some u) := by show _ = _; rw [moveP_step HMV.out,htm]; exact hmv
     clear hmv hat hfr
     go_wp2_with fail
     exact ⟨⟨k + 1,u,A,C,V,by omega,by go_num,HST.out,HAT2.out,HFR2.out⟩,by simp [intOf]; omega⟩
  ·obtain rfl : k = L := by omega
   have HE : Hid (moveK z v s = some t) := by show moveP z v s _ = _; rw [<- HLE.out]; exact hmv
   clear hmv hat hfr
   go_wp2_with fail
   go_ret
   exact ⟨by rw [HE.out]; rfl,HFR.out,fun s' hs' => by rw [HE.out] at hs'; simp only [Option.some.injEq] at hs'; subst hs'; exact ⟨_,_,_,HAT.out⟩⟩
end Go.Proofs.YtgjoepdfhadmcaaGreatDoor
end

section
namespace Go.Proofs.YtgjoepdfhadmcaaGreatDoor
open Go.RowKit
set_option linter.unusedVariables false
set_option maxRecDepth 20000
theorem first_of {w : World} {B : Nat} {v : Value} {l : List Nat} (h : w.ownsRow B 2 1 v l.length (valN l)) : ∃ a c,v = .slice a l.length c ∧ (0 < l.length -> ∃ ge,a = some ⟨ge,0,none⟩ ∧ ge < w.heap.size ∧ w.cell? ⟨ge,0,none⟩ = some (.int .i64 ((l.getD 0 0 : Nat) : Int))) := by
 rcases h.2 with ⟨e,h0⟩ | ⟨ge,cap,cur,e,hb,hg,hn,_⟩
 ·exact ⟨none,0,by rw [e,h0],fun h1 => by omega⟩
 ·subst e
  refine ⟨_,cap,rfl,fun h1 => ⟨ge,rfl,(Array.getElem?_eq_some_iff.1 hg).1,?_⟩⟩
  rw [h.cellAt 0 (by omega),valN_at h1]
theorem FtlAt.opened {B px pj n g c gm cm : Nat} {w : World} {z st : Int} {A : Nat -> Option Addr} {C : Nat -> Nat} {V : Value} {s : Kp} (h : FtlAt B w px pj z st n g c gm cm A C V s) (o : Int) :
  FtlAt B (w.setCell ⟨px,3,none⟩ (.int .i64 o)) px pj z st n g c gm cm A C V (withOp s o) := by
 obtain ⟨h1,h2,h3⟩ := h.apart
 have hm := h.mem.set (o := 3) (.int .i64 o) h.nx h.ftl (by decide) (by decide) (by decide)
 exact ⟨⟨hm.sq,hm.pl,hm.jb,hm.ne,hm.nj⟩,set_block h.ftl 3 _ (by simp),set_other h.jobs h3 _,h.nx,h.nj,h.bx,h.bj⟩
set_option maxHeartbeats 6400000 in
theorem l10Room_any (B px pj : Nat) (z st : Int) (n g c gm cm : Nat) (A : Nat -> Option Addr) (C : Nat -> Nat) (V : Value) (s : Kp) (w : World) (h : FtlAt B w px pj z st n g c gm cm A C V s) (hB : B <= w.heap.size) (hK : KOk z s) (hjs : s.js.length <= 1000) :
  Calls Tryz.prog 157 #[.pointer (some ⟨px,0,none⟩),.pointer (some ⟨pj,0,none⟩)] w fun e w' => FPost (roomK z 20 s) B px pj z st n g c gm cm w e w' := by
 have hm64 := hK.map.few
 have hnl := h.mem.sq.len
 have hn12 : n <= 12 := by have := (chipOk_parts hK.map.chip).2.2.2.1; omega
 obtain ⟨m,hme⟩ : ∃ m,m = s.ps.length := ⟨_,rfl⟩
 have HME := hide hme
 rw [<- hme] at hm64
 have HNL := hide hnl
 have HK := hide hK
 have H0 := hide h
 clear h hK hme hnl
 go_enter Tryz.func157,Tryz.ntmps157
 go_wp2_with fail
 go_loopw [5] (fun i wr => ∃ (k : Nat) (t : Kp) (A : Nat -> Option Addr) (C : Nat -> Nat) (V : Value),k <= 20 ∧ i = .int .i64 (k : Int) ∧ roomK z 20 s = roomK z (20 - k) t ∧ KOk z t ∧ t.qs.length = n ∧ t.ps.length = m ∧ t.js.length <= s.js.length + 513 * k ∧ FtlAt B wr px pj z st n g c gm cm A C V t ∧ Frame B [g,px,pj,gm] w wr) (fun i _ => 21 - (intOf i).toNat)
 case atStart => exact ⟨0,s,A,C,V,Nat.zero_le _,rfl,rfl,HK.out,HNL.out,HME.out.symm,by omega,H0.out,Frame.refl _ _ _⟩
 case round =>
  obtain ⟨k,t,A,C,V,hk,rfl,hrm,hKT,htq,htm,hjl,hat,hfr⟩ := hrel
  have HRM := hide hrm
  have HKT := hide hKT
  have HAT := hide hat
  have HFR := hide hfr
  have hsz := hfr.below.size
  obtain ⟨bd1,bd2,bd3,bd4,bd5,bd6⟩ := hat.bound
  have hk2 : (k : Int) <= 20 := by omega
  have hlo := hKT.lo
  have hhi := hKT.hi
  rw [htq] at hhi
  clear hrm
  obtain ⟨x0,x1,x2,x3,x4⟩ := five_cells hat.ftl
  rw [htm] at x2
  go_upto_region 4 with fail
  go_cut [37] from 8 to 95 (fun d wx => d = .bool (roomy z t) ∧ Below wr.heap.size wr wx)
  case first =>
   by_cases h0 : 0 <= t.op
   ·obtain ⟨o,ho⟩ : ∃ o : Nat,t.op = (o : Int) := ⟨t.op.toNat,by omega⟩
    have hon : o < n := by omega
    have hoi : (o : Int) < (n : Int) := by omega
    obtain ⟨y0,_,_⟩ := hat.mem.sq.cells hon
    have HR : Hid (roomy z t = decide (((sqAt t.qs o).1.length : Int) < z)) := by show _ = _; unfold roomy; rw [ho]; simp
    rw [ho] at x3
    have g0 : decide ((o : Int) >= 0) = true := by simp
    generalize (sqAt t.qs o).1.length = lo at *
    clear hat hfr hKT h0 ho
    go_quiet (fail)
    have HBQ : Hid (Below wr.heap.size wr (wr.drewN nq)) := ⟨rfl,rfl,rfl,Nat.le_refl _,fun _ _ => rfl⟩
    generalize wr.drewN nq = wq at *
    go_wp2_with fail
    go_meet
    exact ⟨by rw [HR.out],HBQ.out⟩
   ·have g0 : decide (t.op >= 0) = false := by simpa using h0
    have HR : Hid (roomy z t = false) := by show _ = _; unfold roomy; rw [show decide (0 <= t.op) = false by simpa using h0]; rfl
    generalize t.op = oo at *
    clear hat hfr hKT h0
    go_quiet (fail)
    have HBQ : Hid (Below wr.heap.size wr (wr.drewN nq)) := ⟨rfl,rfl,rfl,Nat.le_refl _,fun _ _ => rfl⟩
    generalize wr.drewN nq = wq at *
    go_wp2_with fail
    go_meet
    exact ⟨by rw [HR.out],HBQ.out⟩
  case rest =>
   obtain ⟨rfl,hbw⟩ := hcut
   obtain ⟨w1,hw1⟩ : ∃ w1,w1 = wc := ⟨_,rfl⟩
   subst hw1
   have HA1 := hide (HAT.out.later hbw)
   have HF1 := hide (HFR.out.on hbw (by omega))
   have hs1 := hbw.size
   clear hat hfr hbw x0 x1 x2 x3 x4
   obtain ⟨x0,x1,x2,x3,x4⟩ := five_cells HA1.out.ftl
   rw [htm] at x2
   cases hro : roomy z t with
   | true =>
    have HE : Hid (roomK z 20 s = some t) := by show _ = _; rw [HRM.out]; exact roomK_yes hro _
    go_wp2_with fail
    go_ret
    exact ⟨by rw [HE.out]; rfl,HF1.out,fun s' hs' => by rw [HE.out] at hs'; simp only [Option.some.injEq] at hs'; subst hs'; exact ⟨_,_,_,HA1.out⟩⟩
   | false =>
    by_cases hk20 : k = 20
    ·subst hk20
     have HE : Hid (roomK z 20 s = none) := by show _ = _; rw [HRM.out]; exact roomK_end hro
     simp only [show ((20 : Nat) : Int) = 20 from rfl]
     go_wp2_with fail
     go_ret
     exact ⟨by rw [HE.out]; rfl,HF1.out,fun s' hs' => by rw [HE.out] at hs'; cases hs'⟩
    ·have g1 : ((k : Int) == 20) = false := by simpa using (show (k : Int) ≠ 20 by omega)
     have HN : Hid (roomK z 20 s = (stepK z t).bind (roomK z (19 - k))) := by show _ = _; rw [HRM.out,show 20 - k = (19 - k) + 1 by omega]; exact roomK_next hro _
     clear hro HRM
     go_wp2_with fail
     refine (l9Empty_any z (some ⟨g,0,none⟩) n c t.qs w1 HA1.out.mem.sq.ownS.squares (Nat.le_refl _) hn12 (chipOk_fits HKT.out.map.chip)).mono ?_
     rintro e w2 ⟨ev,rfl,hev,b2⟩
     rw [<- htq] at hev
     have HA2 := hide (HA1.out.later b2)
     have HF2 := hide (HF1.out.on b2 (by omega))
     have hs2 := b2.size
     obtain ⟨ea,ec,rfl,hfst⟩ := first_of hev
     have HFS := hide hfst
     have hel : (emptyK t.qs t.qs.length).length <= 12 := by have := emptyK_length t.qs t.qs.length; omega
     have HEF := hide (fun hh => empty_first (qs := t.qs) hh)
     obtain ⟨E,hE⟩ : ∃ E,E = (emptyK t.qs t.qs.length).length := ⟨_,rfl⟩
     obtain ⟨e0,he0⟩ : ∃ e0,e0 = (emptyK t.qs t.qs.length).getD 0 0 := ⟨_,rfl⟩
     rw [<- hE,<- he0] at HFS HEF
     rw [<- hE] at hel
     have HE1 := hide hE
     have HE0 := hide he0
     rw [<- hE]
     clear hE he0 hev b2 x0 x1 x2 x3 x4 hfst
     obtain ⟨x0,x1,x2,x3,x4⟩ := five_cells HA2.out.ftl
     have fz := four_frozen HA2.out.ftl 3
     rw [htm] at x2
     by_cases h2 : 2 <= E
     ·obtain ⟨ge,rfl,hgl,hge⟩ := HFS.out (by omega)
      obtain ⟨i1,i2,i3⟩ := HEF.out (by omega)
      have g2 : decide ((E : Int) >= 2) = true := by simp; omega
      have hEi : (0 : Int) < (E : Int) := by omega
      have HOP := hide (HA2.out.opened (e0 : Int))
      have HKO := hide (withOp_ok HKT.out i1 i3)
      have HFO := hide (HF2.out.set (p := px) (by simp) HA2.out.bx 3 (.int .i64 (e0 : Int)))
      have HST : Hid (roomK z 20 s = roomK z (20 - (k + 1)) (withOp t (e0 : Int))) := by
       show _ = _
       rw [HN.out]
       unfold stepK
       rw [if_pos (by rw [<- HE1.out]; exact h2),<- HE0.out,show 20 - (k + 1) = 19 - k by omega]
       rfl
      go_wp2_with fail
      go_roundw
      case rel => exact ⟨k + 1,withOp t (e0 : Int),A,C,V,by omega,by go_num,HST.out,HKO.out,htq,htm,by show t.js.length <= _; omega,HOP.out,HFO.out⟩
      case measure => simp [intOf]; omega
     ·have g2 : decide ((E : Int) >= 2) = false := by simp; omega
      have HCV : ∀ w',Hid (Below w2.heap.size w2 w' -> Calls Tryz.prog 199 #[.agg #[.int .i64 z,.slice (some ⟨g,0,none⟩) n c],.slice (some ⟨gm,0,none⟩) m cm,.int .i64 t.op] w' fun e w'' => e = .returned (.int .i64 (victimV z t.qs t.ps t.op)) ∧ Below w'.heap.size w' w'') := fun w' hb' => by
       have h9 := HA2.out.later hb'
       have hpl := pl_places h9.mem.pl
       rw [htm] at hpl
       exact l9Victim_any z (some ⟨g,0,none⟩) n c t.qs (some ⟨gm,0,none⟩) m cm t.ps t.op w' h9.mem.sq.ownS.squares (Nat.le_refl _) hn12 (chipOk_fits HKT.out.map.chip) hpl (Nat.le_refl _) hm64
      have HVP := hide (fun hh => victim_parts (z := z) (op := t.op) HKT.out.map hh)
      obtain ⟨vv,hvv⟩ : ∃ vv,vv = victimV z t.qs t.ps t.op := ⟨_,rfl⟩
      rw [<- hvv] at HVP HCV
      have HVV := hide hvv
      clear hvv
      go_upto_region 11 with fail
      refine wp_region_quiet_tail 12 (by kernel_rfl) (by kernel_rfl) ?_
      simp only [List.take_succ_cons,List.take_zero,List.drop_succ_cons,List.drop_zero]
      repeat (go_big_quiet_step (fail))
      refine wpQuiet_nil ?_
      rintro _ ⟨nq,rfl⟩
      have HBQ : Hid (Below w2.heap.size w2 (w2.drewN nq)) := ⟨rfl,rfl,rfl,Nat.le_refl _,fun _ _ => rfl⟩
      generalize w2.drewN nq = wq at *
      go_wp2_with fail
      refine ((HCV _).out HBQ.out).mono ?_
      rintro e w3 ⟨rfl,b3⟩
      have HA3 := hide ((HA2.out.later HBQ.out).later b3)
      have HB3 := hide (below_here HBQ.out b3)
      have HF3 := hide (HF2.out.on HB3.out (by omega))
      have hs3 := HB3.out.size
      clear b3 HCV x0 x1 x2 x3 x4 fz
      obtain ⟨x0,x1,x2,x3,x4⟩ := five_cells HA3.out.ftl
      rw [htm] at x2
      by_cases hv : vv < 0
      ·have g3 : decide (vv < 0) = true := by simpa using hv
       have HE : Hid (roomK z 20 s = none) := by
        show _ = _
        rw [HN.out]
        unfold stepK
        rw [if_neg (by rw [<- HE1.out]; exact h2),<- HVV.out,if_pos hv]
        rfl
       go_wp2_with fail
       go_ret
       exact ⟨by rw [HE.out]; rfl,HF3.out,fun s' hs' => by rw [HE.out] at hs'; cases hs'⟩
      ·have g3 : decide (vv < 0) = false := by simpa using hv
       obtain ⟨v,hvn,hvl,hvo,hvp,hvb,hvz,_⟩ := HVP.out (by omega)
       subst hvn
       have HVZ := hide hvz
       clear HVP hvz
       have hvm : v < n := by omega
       have HV0 : Hid (victimV z t.qs t.ps t.op = (v : Int)) := HVV.out.symm
       have HWL : Hid (ByteArray.empty.size <= maxLen) := Nat.zero_le _
       go_wp2_with fail
       refine (l9Live_any (some ⟨gm,0,none⟩) m cm t.ps (v : Int) w3 (by have h9 := pl_places HA3.out.mem.pl; rw [htm] at h9; exact h9) (by omega)).mono ?_
       rintro e w4 ⟨rfl,rfl⟩
       have hll := liveN_le t.ps (v : Int)
       rw [htm] at hll
       have HSW := hide (fun hh => stepK_wipe (z := z) (s := t) (v := v) (by rw [<- HE1.out]; exact h2) HV0.out hh)
       have HSS := hide (fun hh hh' => stepK_stuck (z := z) (s := t) (v := v) hh HV0.out hh')
       have HSM := hide (fun hh hh' => stepK_move (z := z) (s := t) (v := v) (by rw [<- HE1.out]; exact h2) hh HV0.out hh')
       have HLZ := hide (fun hh => (liveN_zero (ps := t.ps) (v := (v : Int))).1 hh)
       rw [<- HE1.out] at HSS HSM
       rw [<- HE0.out] at HSM
       obtain ⟨lv,hlv⟩ : ∃ lv,lv = liveN t.ps (v : Int) := ⟨_,rfl⟩
       rw [<- hlv] at hll HSW HSS HSM HLZ
       rw [<- hlv]
       clear hlv
       by_cases hl0 : lv = 0
       ·have HS0 := hide (HSW.out hl0)
        subst hl0
        simp only [show ((0 : Nat) : Int) = 0 from rfl]
        go_wp2_with fail
        refine (l10Do_any B px pj z st n g c gm cm A C V t 2 (v : Int) ByteArray.empty w3 HA3.out (by omega) HKT.out.map.chip HWL.out (by omega)).mono ?_
        rintro e w5 ⟨rfl,hf5,hk5⟩
        have HF5 := hide (HF3.out.trans hf5)
        have HK5 := hide hk5
        clear hf5 hk5 x0 x1 x2 x3 x4
        cases hd : doK z t (2,(v : Int),ByteArray.empty) with
        | none =>
         have HE : Hid (roomK z 20 s = none) := by show _ = _; rw [HN.out,HS0.out,hd]; rfl
         rw [Option.isSome_none]
         go_wp2_with fail
         go_ret
         exact ⟨by rw [HE.out]; rfl,HF5.out,fun s' hs' => by rw [HE.out] at hs'; cases hs'⟩
        | some t1 =>
         obtain ⟨A5,C5,V5,hA5⟩ := HK5.out t1 hd
         have hst := stepK_ok HKT.out (HS0.out.trans hd)
         have hsl := stepK_len HKT.out (HS0.out.trans hd)
         have HE : Hid (roomK z 20 s = roomK z (20 - (k + 1)) t1) := by show _ = _; rw [HN.out,HS0.out,hd,show 20 - (k + 1) = 19 - k by omega]; rfl
         have HA5 := hide hA5
         have HST := hide hst
         clear hA5 hst hd
         rw [Option.isSome_some]
         go_wp2_with fail
         go_roundw
         case rel => exact ⟨k + 1,t1,A5,C5,V5,by omega,by go_num,HE.out,HST.out.ok,HST.out.squares.trans htq,HST.out.places.trans htm,by omega,HA5.out,HF5.out⟩
         case measure => simp [intOf]; omega
       ·have g4 : decide ((lv : Int) > 0) = true := by simp; omega
        by_cases hE0 : E = 0
        ·subst hE0
         have HE : Hid (roomK z 20 s = none) := by show _ = _; rw [HN.out,HSS.out rfl (by omega)]; rfl
         simp only [show ((0 : Nat) : Int) = 0 from rfl]
         go_wp2_with fail
         go_ret
         exact ⟨by rw [HE.out]; rfl,HF3.out,fun s' hs' => by rw [HE.out] at hs'; cases hs'⟩
        ·have g5 : ((E : Int) == 0) = false := by simpa using (show (E : Int) ≠ 0 by omega)
         obtain ⟨ge,rfl,hgl,hge⟩ := HFS.out (by omega)
         obtain ⟨i1,i2,i3⟩ := HEF.out (by omega)
         have hge3 := (HB3.out.cell (p := ⟨ge,0,none⟩) hgl).trans hge
         have hEi : (0 : Int) < (E : Int) := by omega
         have HOP := hide (HA3.out.opened (e0 : Int))
         have HKO := hide (withOp_ok HKT.out i1 i3)
         have HFO := hide (HF3.out.set (p := px) (by simp) HA3.out.bx 3 (.int .i64 (e0 : Int)))
         have fz := four_frozen HA3.out.ftl 3
         have hvne : v ≠ e0 := fun e => by subst e; omega
         have HSM1 := hide (HSM.out hE0 (by omega))
         obtain ⟨wM,hwM⟩ : ∃ wM,wM = w3.setCell ⟨px,3,none⟩ (.int .i64 (e0 : Int)) := ⟨_,rfl⟩
         have hsM : wM.heap.size = w3.heap.size := by rw [hwM,Go.Deep.nblk_setCell]
         have HSZ := hide hsM
         rw [<- hwM] at HOP HFO
         clear hge hsM
         go_wp2_with fail
         rw [<- hwM]
         clear hwM x0 x1 x2 x3 x4 fz
         refine (l10Move_any B px pj z st n g c gm cm A C V (withOp t (e0 : Int)) v wM HOP.out (by rw [HSZ.out]; omega) HKO.out e0 rfl (by show (v : Int) ≠ (e0 : Int); omega) hvl (by show t.js.length <= _; omega)).mono ?_
         rintro e w5 ⟨rfl,hf5,hk5⟩
         have HF5 := hide (HFO.out.trans hf5)
         have HK5 := hide hk5
         have hs5 := hf5.below.size
         rw [HSZ.out] at hs5
         clear hf5 hk5
         cases hmv : moveK z v (withOp t (e0 : Int)) with
         | none =>
          have HE : Hid (roomK z 20 s = none) := by show _ = _; rw [HN.out,HSM1.out,hmv]; rfl
          rw [Option.isSome_none]
          go_wp2_with fail
          go_ret
          exact ⟨by rw [HE.out]; rfl,HF5.out,fun s' hs' => by rw [HE.out] at hs'; cases hs'⟩
         | some t1 =>
          obtain ⟨A5,C5,V5,hA5⟩ := HK5.out t1 hmv
          have HA5 := hide hA5
          have HS1 : Hid (stepK z t = doK z t1 (2,(v : Int),ByteArray.empty)) := by show _ = _; rw [HSM1.out,hmv]; rfl
          have hM1 := moveP_moved HKO.out (show (v : Int) ≠ (withOp t (e0 : Int)).op by show (v : Int) ≠ (e0 : Int); omega) hmv
          have hln := (moveP_len hmv).1
          have HCK := hide hM1.ok.map.chip
          have hln2 : t1.js.length <= 100000 := by
           have h6 : (sqAt (withOp t (e0 : Int)).qs v).1.length * (withOp t (e0 : Int)).ps.length <= 8 * 64 := by
            refine Nat.mul_le_mul ?_ (by show t.ps.length <= 64; omega)
            have h7 := (sqOk_parts (chipOk_at HKT.out.map.chip hvl)).1
            have h8 := (chipOk_parts HKT.out.map.chip).2.1
            show (sqAt t.qs v).1.length <= 8
            omega
           have h9 : (withOp t (e0 : Int)).js.length = t.js.length := rfl
           rw [h9] at hln
           omega
          clear hA5 hmv hM1 hln HK5
          rw [Option.isSome_some]
          go_wp2_with fail
          refine (l10Do_any B px pj z st n g c gm cm A5 C5 V5 t1 2 (v : Int) ByteArray.empty w5 HA5.out (by omega) HCK.out HWL.out (by omega)).mono ?_
          rintro e w6 ⟨rfl,hf6,hk6⟩
          have HF6 := hide (HF5.out.trans hf6)
          have HK6 := hide hk6
          clear hf6 hk6
          cases hd : doK z t1 (2,(v : Int),ByteArray.empty) with
          | none =>
           have HE : Hid (roomK z 20 s = none) := by show _ = _; rw [HN.out,HS1.out,hd]; rfl
           rw [Option.isSome_none]
           go_wp2_with fail
           go_ret
           exact ⟨by rw [HE.out]; rfl,HF6.out,fun s' hs' => by rw [HE.out] at hs'; cases hs'⟩
          | some t2 =>
           obtain ⟨A6,C6,V6,hA6⟩ := HK6.out t2 hd
           have HST := hide (stepK_ok HKT.out (HS1.out.trans hd))
           have hsl := stepK_len HKT.out (HS1.out.trans hd)
           have HE : Hid (roomK z 20 s = roomK z (20 - (k + 1)) t2) := by show _ = _; rw [HN.out,HS1.out,hd,show 20 - (k + 1) = 19 - k by omega]; rfl
           have HA6 := hide hA6
           clear hA6 hd
           rw [Option.isSome_some]
           go_wp2_with fail
           go_roundw
           case rel => exact ⟨k + 1,t2,A6,C6,V6,by omega,by go_num,HE.out,HST.out.ok,HST.out.squares.trans htq,HST.out.places.trans htm,by omega,HA6.out,HF6.out⟩
           case measure => simp [intOf]; omega
end Go.Proofs.YtgjoepdfhadmcaaGreatDoor
end

section
namespace Go.Proofs.YtgjoepdfhadmcaaGreatDoor
open Go.RowKit
set_option linter.unusedVariables false
set_option maxRecDepth 20000
theorem FtlAt.stamped {B px pj n g c gm cm : Nat} {w : World} {z st : Int} {A : Nat -> Option Addr} {C : Nat -> Nat} {V : Value} {s : Kp} (h : FtlAt B w px pj z st n g c gm cm A C V s) (o : Int) :
  FtlAt B (w.setCell ⟨px,4,none⟩ (.int .i64 o)) px pj z o n g c gm cm A C V s := by
 obtain ⟨h1,h2,h3⟩ := h.apart
 have hm := h.mem.set (o := 4) (.int .i64 o) h.nx h.ftl (by decide) (by decide) (by decide)
 exact ⟨⟨hm.sq,hm.pl,hm.jb,hm.ne,hm.nj⟩,set_block h.ftl 4 _ (by simp),set_other h.jobs h3 _,h.nx,h.nj,h.bx,h.bj⟩
def RPost (r : Option Kp) (B px pj : Nat) (z st : Int) (n g c gm cm : Nat) (w w' : World) : Prop :=
 Frame B [g,px,pj,gm] w w' ∧ ∀ s',r = some s' -> ∃ A C V,FtlAt B w' px pj z st n g c gm cm A C V s'
set_option maxHeartbeats 6400000 in
theorem l10Enter_any (B px pj : Nat) (z st : Int) (n g c gm cm : Nat) (A : Nat -> Option Addr) (C : Nat -> Nat) (V : Value) (s : Kp) (kd a sp : Int) (tx : ByteArray) (w : World) (h : FtlAt B w px pj z st n g c gm cm A C V s) (hB : B <= w.heap.size) (hK : KOk z s) (hjs : s.js.length <= 1000) (hst : 0 <= st ∧ st <= 1000000) :
  Calls Tryz.prog 105 #[.pointer (some ⟨px,0,none⟩),.pointer (some ⟨pj,0,none⟩),.agg #[.int .i64 kd,.int .i64 a,.int .i64 sp,.string tx]] w fun e w' => FPost (enterK z s st kd a tx) B px pj z (st + 1) n g c gm cm w e w' := by
 obtain ⟨wA,hwA⟩ : ∃ wA,wA = w.alloc (.cells #[.int .i64 kd,.int .i64 a,.int .i64 (st + 1),.string tx] 31) := ⟨_,rfl⟩
 have hzA : wA.heap.size = w.heap.size + 1 := by rw [hwA]; simp
 have HBA : Hid (Below w.heap.size w wA) := by rw [hwA]; exact (Below.refl _ _).alloc (Nat.le_refl _) _
 have HP : Hid (wA.heap[w.heap.size]? = some (.cells #[.int .i64 kd,.int .i64 a,.int .i64 (st + 1),.string tx] 31)) := by rw [hwA]; exact heap_new _ _
 have HA := hide (h.later HBA.out)
 obtain ⟨bd1,bd2,bd3,bd4,bd5,bd6⟩ := h.bound
 have hm64 := hK.map.few
 have hm1 := hK.map.one
 have hnl := h.mem.sq.len
 have hn12 : n <= 12 := by have := (chipOk_parts hK.map.chip).2.2.2.1; omega
 obtain ⟨m,hme⟩ : ∃ m,m = s.ps.length := ⟨_,rfl⟩
 have HME := hide hme
 rw [<- hme] at hm64 hm1
 have HNL := hide hnl
 have HK := hide hK
 have hwr : IntKind.i64.wrap (st + 1) = st + 1 := by rw [IntKind.wrap_i64]; omega
 have hst0 := hst.1
 have hst1 := hst.2
 obtain ⟨y0,y1,y2,y3,y4⟩ := five_cells h.ftl
 have y4' : (w.alloc (.cells #[.int .i64 kd,.int .i64 a,.int .i64 sp,.string tx] 31)).cell? ⟨px,4,none⟩ = some (.int .i64 st) := ((Below.refl w.heap.size w).alloc (Nat.le_refl _) (.cells #[.int .i64 kd,.int .i64 a,.int .i64 sp,.string tx] 31)).cell (p := ⟨px,4,none⟩) bd1 |>.trans y4
 obtain ⟨x0,x1,x2,x3,x4⟩ := five_cells HA.out.ftl
 obtain ⟨p0,p1,p2,p3⟩ := four_cells HP.out
 rw [<- hme] at x2
 have HMY : Hid (mayEnt s.ps st kd a tx = (pageOk kd a (st + 1) tx && inB a 0 ((m : Int) - 1))) := by show _ = _; unfold mayEnt; rw [hme]
 clear h hK hme hnl hst y0 y1 y2 y3 y4
 go_enter Tryz.func105,Tryz.ntmps105
 go_upto_region 2 with fail
 rw [<- hwA]
 clear hwA
 have HCP : ∀ W,Hid (Calls Tryz.prog 82 #[.agg #[.int .i64 kd,.int .i64 a,.int .i64 (st + 1),.string tx]] W fun e w' => e = .returned (.bool (pageOk kd a (st + 1) tx)) ∧ Below W.heap.size W w') := fun W => specPageOk_any kd a (st + 1) tx W
 have HRM : ∀ W,Hid (Below wA.heap.size wA W -> Calls Tryz.prog 157 #[.pointer (some ⟨px,0,none⟩),.pointer (some ⟨pj,0,none⟩)] W fun e w' => FPost (roomK z 20 s) B px pj z st n g c gm cm W e w') := fun W hb =>
  l10Room_any B px pj z st n g c gm cm A C V s W (HA.out.later hb) (by have := hb.size; omega) HK.out hjs
 obtain ⟨r,hr⟩ : ∃ r,r = if mayEnt s.ps st kd a tx then roomK z 20 s else none := ⟨_,rfl⟩
 have HR := hide hr
 clear hr
 have hB' : B <= wA.heap.size := by omega
 have k2 := cell_regrown x2
 have t0 := cell_regrown p0
 have t1 := cell_regrown p1
 have t2 := cell_regrown p2
 have t3 := cell_regrown p3
 go_cut [34] (fun d wx => d = .bool (!r.isSome) ∧ RPost r B px pj z st n g c gm cm wA wx)
 case first =>
  cases hpk : pageOk kd a (st + 1) tx with
  | false =>
   have HR0 : Hid (r = none) := by show _ = _; rw [HR.out,HMY.out,hpk]; rfl
   rw [hpk] at HCP
   have cP : ∀ d os,Calls Tryz.prog 82 #[.agg #[.int .i64 kd,.int .i64 a,.int .i64 (st + 1),.string tx]] (Go.Sort.grow (redrawn wA d) os) fun e w'' => e = .returned (.bool false) ∧ ∃ p : Regrown,w'' = Go.Sort.grow (redrawn wA p.d) p.os := fun d os => Calls.regrown_of ((HCP _).out)
   clear hpk HRM
   refine wp_region_quiet_below (by kernel_rfl) (by kernel_rfl) ?_
   repeat (go_big_quiet_step ((go_at_call 82; exact cP _ _)))
   refine wpQuiet_nil ?_
   intro _ hw'
   obtain ⟨⟨dq,osq⟩,hw''⟩ := hw'
   subst hw''
   have HB1 := hide (below_regrown wA dq osq)
   go_wp2_with fail
   go_meet
   exact ⟨by rw [HR0.out]; rfl,frame_of_below HB1.out hB',fun t ht => by rw [HR0.out] at ht; cases ht⟩
  | true =>
   rw [hpk] at HCP
   have cP : ∀ d os,Calls Tryz.prog 82 #[.agg #[.int .i64 kd,.int .i64 a,.int .i64 (st + 1),.string tx]] (Go.Sort.grow (redrawn wA d) os) fun e w'' => e = .returned (.bool true) ∧ ∃ p : Regrown,w'' = Go.Sort.grow (redrawn wA p.d) p.os := fun d os => Calls.regrown_of ((HCP _).out)
   cases hin : inB a 0 ((m : Int) - 1) with
   | false =>
    have HR0 : Hid (r = none) := by show _ = _; rw [HR.out,HMY.out,hpk,hin]; rfl
    have cL : ∀ d os,Calls Tryz.prog 68 #[.int .i64 a,.int .i64 0,.int .i64 ((m : Int) - 1)] (Go.Sort.grow (redrawn wA d) os) fun e w'' => e = .returned (.bool false) ∧ ∃ p : Regrown,w'' = Go.Sort.grow (redrawn wA p.d) p.os := fun d os => Calls.regrown_of ((l1In_any a 0 ((m : Int) - 1) _).mono fun e w' hh => by rw [hin] at hh; exact ⟨hh.1,by rw [<- hh.2]; exact Below.refl _ _⟩)
    clear hpk HRM hin
    refine wp_region_quiet_below (by kernel_rfl) (by kernel_rfl) ?_
    repeat (go_big_quiet_step (first | (go_at_call 82; exact cP _ _) | (go_at_call 68; exact cL _ _)))
    refine wpQuiet_nil ?_
    intro _ hw'
    obtain ⟨⟨dq,osq⟩,hw''⟩ := hw'
    subst hw''
    have HB1 := hide (below_regrown wA dq osq)
    go_wp2_with fail
    go_meet
    exact ⟨by rw [HR0.out]; rfl,frame_of_below HB1.out hB',fun t ht => by rw [HR0.out] at ht; cases ht⟩
   | true =>
    have HR0 : Hid (r = roomK z 20 s) := by show _ = _; rw [HR.out,HMY.out,hpk,hin]; rfl
    have cL : ∀ d os,Calls Tryz.prog 68 #[.int .i64 a,.int .i64 0,.int .i64 ((m : Int) - 1)] (Go.Sort.grow (redrawn wA d) os) fun e w'' => e = .returned (.bool true) ∧ ∃ p : Regrown,w'' = Go.Sort.grow (redrawn wA p.d) p.os := fun d os => Calls.regrown_of ((l1In_any a 0 ((m : Int) - 1) _).mono fun e w' hh => by rw [hin] at hh; exact ⟨hh.1,by rw [<- hh.2]; exact Below.refl _ _⟩)
    rw [<- HR0.out] at HRM
    clear hpk hin
    refine wp_region_below_tail 18 (by kernel_rfl) (by kernel_rfl) ?_
    simp only [List.take_succ_cons,List.take_zero,List.drop_succ_cons,List.drop_zero]
    repeat (go_big_quiet_step (first | (go_at_call 82; exact cP _ _) | (go_at_call 68; exact cL _ _)))
    refine wpQuiet_nil ?_
    intro _ hw'
    obtain ⟨⟨dq,osq⟩,hw''⟩ := hw'
    subst hw''
    have HB1 := hide (below_regrown wA dq osq)
    go_wp2_with fail
    refine ((HRM _).out HB1.out).mono ?_
    rintro e w3 ⟨rfl,hf3,hk3⟩
    have HF3 := hide ((frame_of_below (L := [g,px,pj,gm]) HB1.out hB').trans hf3)
    have HK3 := hide hk3
    clear hf3 hk3
    go_wp2_with fail
    go_meet
    exact ⟨by cases r <;> rfl,HF3.out,HK3.out⟩
 case rest =>
  obtain ⟨rfl,hrf,hrk⟩ := hcut
  obtain ⟨w1,hw1⟩ : ∃ w1,w1 = wc := ⟨_,rfl⟩
  subst hw1
  have HF1 := hide ((frame_of_below (L := [g,px,pj,gm]) HBA.out hB).trans hrf)
  have HP1 := hide (hrf.other w.heap.size _ _ _ (by simp; omega) (by decide) (by decide) HP.out)
  have hs1 := hrf.below.size
  have HEN : Hid (enterK z s st kd a tx = r.bind fun s' => putK z s' a.toNat (laid kd a (st + 1) tx)) := by
   show _ = _
   rw [HR.out]
   cases hme : mayEnt s.ps st kd a tx with
   | true => rw [enterK_yes hme]; rfl
   | false => rw [enterK_no hme]; rfl
  clear hrf x0 x1 x2 x3 x4 p0 p1 p2 p3 k2 t0 t1 t2 t3 y4' HCP HRM
  cases hrr : r with
  | none =>
   have HE : Hid (enterK z s st kd a tx = none) := by show _ = _; rw [HEN.out,hrr]; rfl
   rw [Option.isSome_none]
   go_wp2_with fail
   go_ret
   exact ⟨by rw [HE.out]; rfl,HF1.out,fun s' hs' => by rw [HE.out] at hs'; cases hs'⟩
  | some t =>
   obtain ⟨A1,C1,V1,hA1⟩ := hrk t hrr
   have hme : mayEnt s.ps st kd a tx = true := by
    cases hme : mayEnt s.ps st kd a tx with
    | true => rfl
    | false => have := HR.out; rw [hrr,hme] at this; cases this
   have hrm : roomK z 20 s = some t := by have := HR.out; rw [hrr,hme] at this; exact this.symm
   obtain ⟨hST,hry⟩ := roomK_ok HK.out hrm
   have htm : t.ps.length = m := hST.places.trans HME.out.symm
   have htq : t.qs.length = n := hST.squares.trans HNL.out
   have hop : 0 <= t.op := by unfold roomy at hry; simp at hry; exact hry.1
   obtain ⟨o,ho⟩ : ∃ o : Nat,t.op = (o : Int) := ⟨t.op.toNat,by omega⟩
   have hon : o < n := by have := hST.ok.hi; omega
   have hoi : (o : Int) < (n : Int) := by omega
   have hmm := hme
   rw [HMY.out,Bool.and_eq_true] at hmm
   obtain ⟨hpk,hin⟩ := hmm
   obtain ⟨K,a',S',rfl,rfl,hSe,hK2,ha63,hS1,hS2,hx24⟩ := page_ok hpk
   have hal : a' < m := by unfold inB at hin; simp only [Bool.and_eq_true,decide_eq_true_eq] at hin; omega
   have hai : (a' : Int) < (m : Int) := by omega
   have hjt : t.js.length <= 20000 := by have := roomK_len HK.out hrm; omega
   have HEN2 : Hid (enterK z s st (K : Int) (a' : Int) tx = putK z t a' (laidB K a' S' tx)) := by show _ = _; rw [HEN.out,hrr,Option.bind_some,Int.toNat_natCast,hSe,laid_yes (by rw [<- hSe]; exact hpk)]
   have HNX : Hid (nextP t = ((o : Int),((sqAt t.qs o).1.length : Int))) := by show _ = _; unfold nextP; rw [ho,Int.toNat_natCast]
   have HDK : Hid (putK z t a' (laidB K a' S' tx) = (doK z t (1,(o : Int),laidB K a' S' tx)).map fun s' => ⟨s'.qs,s'.ps.set a' (nextP t),s'.op,s'.js⟩) := by show _ = _; rw [putK_of,ho]
   have HCK := hide hST.ok.map.chip
   have HA1 := hide hA1
   obtain ⟨x0,x1,x2,x3,x4⟩ := five_cells hA1.ftl
   obtain ⟨z0,_,_⟩ := hA1.mem.sq.cells hon
   have hol : (sqAt t.qs o).1.length <= 8 := by
    have h1 := (sqOk_parts (chipOk_at hST.ok.map.chip (show o < t.qs.length by omega))).1
    have h2 := (chipOk_parts hST.ok.map.chip).2.1
    omega
   rw [ho] at x3
   rw [htm] at x2
   obtain ⟨bd1,bd2,bd3,bd4,bd5,bd6⟩ := hA1.bound
   obtain ⟨lo,hlo⟩ : ∃ lo,lo = (sqAt t.qs o).1.length := ⟨_,rfl⟩
   rw [<- hlo] at z0 hol HNX
   rw [hSe] at HP1
   clear hlo hA1 hrr hme hrm hST hry hop hpk hin hrk HR HEN
   rw [Option.isSome_some]
   go_upto_region 4 with fail
   go_cut [7] (fun d wx => ∃ g',d = .pointer (some ⟨g',0,none⟩) ∧ w1.heap.size <= g' ∧ wx.heap[g']? = some (.cells #[.int .i64 (o : Int),.int .i64 (lo : Int)] 39) ∧ Below w1.heap.size w1 wx)
   case first =>
    have HBX : Hid (Below w1.heap.size w1 (w1.alloc (.cells #[.int .i64 (o : Int),.int .i64 (lo : Int)] 39)).drew) := ((Below.refl w1.heap.size w1).alloc (Nat.le_refl _) _).drew
    go_region
    go_wp2_with fail
    go_meet
    exact ⟨_,rfl,Nat.le_refl _,heap_new w1 _,HBX.out⟩
   case rest =>
    obtain ⟨tb,rfl,htb,htc,hbw⟩ := hcut
    obtain ⟨w4,hw4⟩ : ∃ w4,w4 = wc := ⟨_,rfl⟩
    subst hw4
    have HTC := hide htc
    have HA4 := hide (HA1.out.later hbw)
    have HF4 := hide (HF1.out.on hbw (by omega))
    have HP4 := hide (block_on HP1.out hbw)
    have hs4 := hbw.size
    obtain ⟨a0,a1,a2,a3,a4⟩ := five_cells HA4.out.ftl
    rw [ho] at a3
    rw [htm] at a2
    obtain ⟨b0,b1,b2,b3⟩ := four_cells HP4.out
    have k3 := cell_regrown a3
    have t0 := cell_regrown b0
    have t1 := cell_regrown b1
    have t2 := cell_regrown b2
    have t3 := cell_regrown b3
    clear x0 x1 x2 x3 x4 z0 htc hbw
    have cI : ∀ d os,Calls Tryz.prog 159 #[.agg #[.int .i64 (K : Int),.int .i64 (a' : Int),.int .i64 (S' : Int),.string tx]] (Go.Sort.grow (redrawn w4 d) os) fun e w'' => e = .returned (.string (laidB K a' S' tx)) ∧ ∃ p : Regrown,w'' = Go.Sort.grow (redrawn w4 p.d) p.os := fun d os => Calls.regrown_of (l7Laid_any K a' S' tx _ hK2 ha63 hS2 hx24)
    have HTX := hide (laidB_small K a' S' tx hx24)
    have HCL : ∀ w',Hid (Below w4.heap.size w4 w' -> Calls Tryz.prog 158 #[.pointer (some ⟨px,0,none⟩),.pointer (some ⟨pj,0,none⟩),.agg #[.int .i64 1,.int .i64 (o : Int),.string (laidB K a' S' tx)]] w' fun e w'' => FPost (doK z t (1,(o : Int),laidB K a' S' tx)) B px pj z st n g c gm cm w' e w'') := fun w' hb' =>
     l10Do_any B px pj z st n g c gm cm A1 C1 V1 t 1 (o : Int) (laidB K a' S' tx) w' (HA4.out.later hb') (by have := hb'.size; omega) HCK.out (by have := HTX.out; unfold maxLen; omega) (by omega)
    obtain ⟨lt,hlt⟩ : ∃ lt,lt = laidB K a' S' tx := ⟨_,rfl⟩
    rw [<- hlt] at cI HCL HDK HEN2
    clear hlt HTX
    go_upto_region 5 with fail
    refine wp_region_below_tail 9 (by kernel_rfl) (by kernel_rfl) ?_
    simp only [List.take_succ_cons,List.take_zero,List.drop_succ_cons,List.drop_zero]
    repeat (go_big_quiet_step ((go_at_call 159; exact cI _ _)))
    refine wpQuiet_nil ?_
    intro _ hw'
    obtain ⟨⟨dq,osq⟩,hw''⟩ := hw'
    subst hw''
    have HBQ := hide (below_regrown w4 dq osq)
    generalize Go.Sort.grow (redrawn w4 dq) osq = wq at *
    go_wp2_with fail
    refine ((HCL _).out HBQ.out).mono ?_
    rintro e w5 ⟨rfl,hf5,hk5⟩
    have HF5 := hide ((HF4.out.on HBQ.out (by omega)).trans hf5)
    have HT5 := hide (hf5.other tb _ _ _ (by simp; omega) (by decide) (by decide) (block_on HTC.out HBQ.out))
    have HP5 := hide (hf5.other w.heap.size _ _ _ (by simp; omega) (by decide) (by decide) (block_on HP4.out HBQ.out))
    have HK5 := hide hk5
    clear hf5 hk5 a0 a1 a2 a3 a4 b0 b1 b2 b3 k3 t0 t1 t2 t3 cI HCL
    cases hd : doK z t (1,(o : Int),lt) with
    | none =>
     have HE : Hid (enterK z s st (K : Int) (a' : Int) tx = none) := by show _ = _; rw [HEN2.out,HDK.out,hd]; rfl
     rw [Option.isSome_none]
     go_wp2_with fail
     go_ret
     exact ⟨by rw [HE.out]; rfl,HF5.out,fun s' hs' => by rw [HE.out] at hs'; cases hs'⟩
    | some u1 =>
     obtain ⟨A5,C5,V5,hA5⟩ := HK5.out u1 hd
     obtain ⟨h1,h2⟩ := doK_op hd
     have hu1 : u1.ps.length = m := by rw [h2]; exact htm
     have HE : Hid (enterK z s st (K : Int) (a' : Int) tx = some ⟨u1.qs,u1.ps.set a' ((o : Int),(lo : Int)),u1.op,u1.js⟩) := by show _ = _; rw [HEN2.out,HDK.out,hd,HNX.out]; rfl
     have HL := hide ((hA5.led (i := a') (by omega) ((o : Int),(lo : Int))).stamped (S' : Int))
     have HFL := hide (((HF5.out.set (p := gm) (by simp) bd5 (a' * 2) (.int .i64 (o : Int))).set (p := gm) (by simp) bd5 (a' * 2 + 1) (.int .i64 (lo : Int))).set (p := px) (by simp) hA5.bx 4 (.int .i64 (S' : Int)))
     obtain ⟨e0,e1,e2,e3,e4⟩ := five_cells hA5.ftl
     rw [hu1] at e2
     obtain ⟨t0,t1⟩ := two_cells HT5.out
     obtain ⟨b0,b1,b2,b3⟩ := four_cells HP5.out
     obtain ⟨p0,p1,f0,f1⟩ := hA5.mem.cells (i := a') (by omega)
     obtain ⟨n1,n2,n3⟩ := hA5.apart
     have fx := four_frozen hA5.ftl 4
     clear hA5 hd
     rw [Option.isSome_some]
     go_upto_region 7 with fail
     refine wp_region_quiet_tail 8 (by kernel_rfl) (by kernel_rfl) ?_
     simp only [List.take_succ_cons,List.take_zero,List.drop_succ_cons,List.drop_zero]
     repeat (go_big_quiet_step (fail))
     refine wpQuiet_nil ?_
     rintro _ ⟨nq',rfl⟩
     go_wp2_with fail
     go_ret
     refine ⟨by rw [HE.out]; rfl,HFL.out.on ⟨rfl,rfl,rfl,Nat.le_refl _,fun _ _ => rfl⟩ (by have := HFL.out.below.size; omega),fun s' hs' => ?_⟩
     rw [HE.out] at hs'
     simp only [Option.some.injEq] at hs'
     subst hs'
     rw [hSe]
     exact ⟨_,_,_,HL.out.later ⟨rfl,rfl,rfl,Nat.le_refl _,fun _ _ => rfl⟩⟩
end Go.Proofs.YtgjoepdfhadmcaaGreatDoor
end

