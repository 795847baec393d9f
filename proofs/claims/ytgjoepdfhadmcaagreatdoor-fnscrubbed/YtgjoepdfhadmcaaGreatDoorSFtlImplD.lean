/- Several texts in one: FtlImplD, FtlImplE, FtlImplF, ScrubSpec. -/
import Derived.Test.YtgjoepdfhadmcaaGreatDoorSFtlMath
import Derived.Test.YtgjoepdfhadmcaaGreatDoorSChipImplF
import Derived.Test.YtgjoepdfhadmcaaGreatDoorSQuietTail
import Derived.Deep.RegionWith
import Derived.Deep.DeepCutAuto
import Derived.BigRegion
import Derived.BigQuiet
import Derived.Test.YtgjoepdfhadmcaaGreatDoorSChipGrow
import Derived.Test.YtgjoepdfhadmcaaGreatDoorSChipAns
import Derived.Test.YtgjoepdfhadmcaaGreatDoorSFtlOwnP
import Derived.Test.YtgjoepdfhadmcaaGreatDoorSFtlSpecH
section
namespace Go.Proofs.YtgjoepdfhadmcaaGreatDoor
open Go.RowKit
set_option linter.unusedVariables false
set_option maxRecDepth 20000
theorem Tryz.infoJobI : (Tryz.prog.info? 98).map (fun i => (i.zero,i.size,i.bytes)) = some (some (.agg #[.int .i64 0,.int .i64 0,.string ByteArray.empty]),3,32) := by kernel_rfl
theorem six_cells {W : World} {b : Nat} {c0 c1 c2 c3 c4 c5 : Value} {t : TypeId} {fr : Nat × Nat} (h : W.heap[b]? = some (.cells #[c0,c1,c2,c3,c4,c5] t fr)) :
  W.cell? ⟨b,0,none⟩ = some c0 ∧ W.cell? ⟨b,1,none⟩ = some c1 ∧ W.cell? ⟨b,2,none⟩ = some c2 ∧ W.cell? ⟨b,3,none⟩ = some c3 ∧ W.cell? ⟨b,4,none⟩ = some c4 ∧ W.cell? ⟨b,5,none⟩ = some c5 := by
 simp [World.cell?,h]
def noRoomV (aN : Addr) : Value := .iface 312 (.pointer (some aN))
structure KeeperAt (B : Nat) (w : World) (pk : Nat) (z st : Int) (n g c gm cm : Nat) (A : Nat -> Option Addr) (C : Nat -> Nat) (V : Value) (s : Kp) (aN : Addr) : Prop where
 mem : KpMem B w n g gm cm A C V s
 box : w.heap[pk]? = some (.cells #[.int .i64 z,.slice (some ⟨g,0,none⟩) n c,.slice (some ⟨gm,0,none⟩) s.ps.length cm,.int .i64 s.op,.int .i64 st,V] 161)
 nk : pk ≠ g
 bk : B <= pk
 er : w.cell? ⟨1,0,none⟩ = some (noRoomV aN)
 eb : 1 < B
section
variable {B pk n g c gm cm : Nat} {w w' : World} {z st : Int} {A : Nat -> Option Addr} {C : Nat -> Nat} {V : Value} {s : Kp} {aN : Addr}
theorem KeeperAt.later (h : KeeperAt B w pk z st n g c gm cm A C V s aN) (hb : Below w.heap.size w w') (hB : B <= w.heap.size) : KeeperAt B w' pk z st n g c gm cm A C V s aN :=
 ⟨h.mem.later hb,block_on h.box hb,h.nk,h.bk,(hb.cell (p := ⟨_,_,none⟩) (Nat.lt_of_lt_of_le h.eb hB)).trans h.er,h.eb⟩
theorem KeeperAt.apart (h : KeeperAt B w pk z st n g c gm cm A C V s aN) : gm ≠ pk := by
 obtain ⟨cs,fz,hk⟩ := h.mem.kind
 intro e
 rw [e,h.box] at hk
 simp only [Option.some.injEq,Obj.cells.injEq] at hk
 exact absurd hk.2.1 (by decide)
theorem KeeperAt.bound (h : KeeperAt B w pk z st n g c gm cm A C V s aN) : pk < w.heap.size ∧ g < w.heap.size ∧ gm < w.heap.size ∧ B <= gm ∧ B <= g := by
 obtain ⟨cs,fz,hk⟩ := h.mem.kind
 exact ⟨(Array.getElem?_eq_some_iff.1 h.box).1,by have := h.mem.sq.row.1; omega,(Array.getElem?_eq_some_iff.1 hk).1,(World.ownsRow.lt h.mem.pl gm rfl).1,h.mem.sq.atG⟩
end
theorem KpMem.keepP {B n g gm cm : Nat} {w w' : World} {A : Nat -> Option Addr} {C : Nat -> Nat} {V : Value} {s : Kp} (h : KpMem B w n g gm cm A C V s) {p : Nat} (hg : w.grownBy w' (some p)) (hp : p ≠ g) (hq : p ≠ gm) {cs : Array Value} {T : TypeId} {fr : Nat × Nat} (hT : w.heap[p]? = some (.cells cs T fr)) (h1 : T ≠ 9) (h3 : T ≠ 98) : KpMem B w' n g gm cm A C V s :=
 ⟨h.sq.keep hg (fun e => hp (by simpa using e)) (fun k e => by simp only [Option.some.injEq] at e; subst e; exact ⟨_,_,_,hT,h1⟩),World.ownsRow.kept h.pl hg (.inr (fun e => hq (by have e' : some gm = some p := e; simpa using e'.symm))),own_keepBy h.jb hg (fun k e => by simp only [Option.some.injEq] at e; subst e; exact ⟨_,_,_,hT,h3⟩),h.ne,h.nj⟩
theorem KeeperAt.setP {B pk n g c gm cm : Nat} {w : World} {z st : Int} {A : Nat -> Option Addr} {C : Nat -> Nat} {V : Value} {s : Kp} {aN : Addr} (h : KeeperAt B w pk z st n g c gm cm A C V s aN) {p : Nat} (o : Nat) (v : Value) (hp : p ≠ g) (hq : p ≠ gm) (hk : p ≠ pk) (hB : B <= p) {cs : Array Value} {T : TypeId} {fr : Nat × Nat} (hT : w.heap[p]? = some (.cells cs T fr)) (h1 : T ≠ 9) (h3 : T ≠ 98) : KeeperAt B (w.setCell ⟨p,o,none⟩ v) pk z st n g c gm cm A C V s aN :=
 ⟨h.mem.keepP (grown_set w ⟨p,o,none⟩ v) hp hq hT h1 h3,set_other h.box hk v,h.nk,h.bk,by
  rw [World.cell?_setCell_other _ _ _ _ (by intro e2; simp only [Addr.mk.injEq] at e2; have := h.eb; omega)]
  exact h.er,h.eb⟩
theorem Frame.setNew {B : Nat} {L : List Nat} {w w1 : World} (h : Frame B L w w1) {p : Nat} (hp : w.heap.size <= p) (hB : B <= p) (o : Nat) (v : Value) : Frame B L w (w1.setCell ⟨p,o,none⟩ v) :=
 ⟨h.below.setCell (p := ⟨p,o,none⟩) hB v,fun q cs T fr h1 h2 h3 h4 => set_other (h.other q cs T fr h1 h2 h3 h4) (fun e => by have := (Array.getElem?_eq_some_iff.1 h4).1; omega) v⟩
def IPost (r : Option Kp) (v : Value) (R : (Nat -> Option Addr) -> Prop) (B pk : Nat) (z st : Int) (n g c gm cm : Nat) (aN : Addr) (w : World) (e : Ending) (w' : World) : Prop :=
 Frame B [g,pk,gm] w w' ∧ match r with
  | none => e = .panicked [{ v := noRoomV aN,recovered := false }]
  | some s' => e = .returned v ∧ ∃ A C V,KeeperAt B w' pk z st n g c gm cm A C V s' aN ∧ R A
theorem noted_in {B pk n g c gm cm g' c' : Nat} {w w' : World} {z st kd sq : Int} {tx : ByteArray} {A : Nat -> Option Addr} {C : Nat -> Nat} {aj : Option Addr} {cj : Nat} {s : Kp} {aN : Addr} (hB : B <= w.heap.size) (h : KeeperAt B w pk z st n g c gm cm A C (.slice aj s.js.length cj) s aN)
  (hr : w.grownBy w' (Value.slice aj s.js.length cj).ownBlock) (ho : w'.ownsRow B 98 3 (.slice (some ⟨g',0,none⟩) (s.js.length + 1) c') (s.js.length + 1) (jbL s.js ++ [.int .i64 kd,.int .i64 sq,.string tx]))
  (hat : (Value.slice aj s.js.length cj).ownBlock = some g' ∨ w.heap.size <= g') :
  KeeperAt B (w'.setCell ⟨pk,5,none⟩ (.slice (some ⟨g',0,none⟩) (s.js.length + 1) c')) pk z st n g c gm cm A C (.slice (some ⟨g',0,none⟩) (s.js.length + 1) c') ⟨s.qs,s.ps,s.op,s.js ++ [(kd,sq,tx)]⟩ aN := by
 have hk : ∀ (p : Nat) (cs : Array Value) (T : TypeId) (fr : Nat × Nat),w.heap[p]? = some (.cells cs T fr) -> T ≠ 98 -> w'.heap[p]? = some (.cells cs T fr) := fun p cs T fr h1 h2 => by
  rw [hr.block p (Array.getElem?_eq_some_iff.1 h1).1 (fun e => ?_)]
  ·exact h1
  ·obtain ⟨cs',fz,h3⟩ := Go.Lib.ownsRow_kind h.mem.jb p e.symm
   rw [h1] at h3
   simp only [Option.some.injEq,Obj.cells.injEq] at h3
   exact h2 h3.2.1
 have e : s.js.length + 1 = (s.js ++ [(kd,sq,tx)]).length := by simp
 have ho' : JbOwn B w' (.slice (some ⟨g',0,none⟩) (s.js.length + 1) c') (s.js ++ [(kd,sq,tx)]) := by
  show World.ownsRow _ _ _ _ _ (s.js ++ [(kd,sq,tx)]).length (jbL (s.js ++ [(kd,sq,tx)]))
  rw [<- e,<- jbL_snoc]
  exact ho
 have hm := h.mem.noted (j := (kd,sq,tx)) hr ho' (hat.imp (fun e => e.symm) (fun e => ⟨g',rfl,e⟩))
 have hp' := hk pk _ _ _ h.box (by decide)
 have hne : 1 ≠ pk := by have := h.eb; have := h.bk; omega
 have her : w'.cell? ⟨1,0,none⟩ = some (noRoomV aN) := by
  rw [World.cell?_of_block (w := w) (a := ⟨1,0,none⟩) (hr.block _ (Nat.lt_of_lt_of_le h.eb hB) (fun e2 => ?_))]
  ·exact h.er
  ·have h1 : B <= 1 := (World.ownsRow.lt h.mem.jb _ e2.symm).1
   have h2 := h.eb
   omega
 refine ⟨hm.set _ h.nk hp' (by decide) (by decide) (by decide),set_block hp' 5 _ (by simp),h.nk,h.bk,?_,h.eb⟩
 rw [World.cell?_setCell_other _ _ _ _ (by intro e2; simp only [Addr.mk.injEq] at e2; omega)]
 exact her
set_option maxHeartbeats 3200000 in
theorem do_any (B pk : Nat) (z st : Int) (n g c gm cm : Nat) (A : Nat -> Option Addr) (C : Nat -> Nat) (V : Value) (s : Kp) (aN : Addr) (kd sq : Int) (tx : ByteArray) (w : World) (h : KeeperAt B w pk z st n g c gm cm A C V s aN) (hB : B <= w.heap.size) (hok : chipOk z s.qs = true) (htx : tx.size <= maxLen) (hjs : s.js.length <= 1048576) :
  Calls Tryz.prog 186 #[.pointer (some ⟨pk,0,none⟩),.agg #[.int .i64 kd,.int .i64 sq,.string tx]] w fun e w' => IPost (doK z s (kd,sq,tx)) (.tuple #[]) (fun A' => ∀ j : Nat,(j : Int) ≠ sq -> A' j = A j) B pk z st n g c gm cm aN w e w' := by
 obtain ⟨wA,hwA⟩ : ∃ wA,wA = w.alloc (.cells #[.int .i64 kd,.int .i64 sq,.string tx] 98) := ⟨_,rfl⟩
 have hzA : wA.heap.size = w.heap.size + 1 := by rw [hwA]; simp
 have HBA : Hid (Below w.heap.size w wA) := by rw [hwA]; exact (Below.refl _ _).alloc (Nat.le_refl _) _
 have HJ : Hid (wA.heap[w.heap.size]? = some (.cells #[.int .i64 kd,.int .i64 sq,.string tx] 98)) := by rw [hwA]; exact heap_new _ _
 have HA := hide (h.later HBA.out hB)
 obtain ⟨bd1,bd2,bd3,bd4,bd5⟩ := h.bound
 obtain ⟨aj,cj,rfl,hcj⟩ := jb_form h.mem.jb
 have HDO : Hid (doK z s (kd,sq,tx) = if canJ z s.qs (kd,sq,tx) then some ⟨doJ z s.qs (kd,sq,tx),s.ps,s.op,s.js ++ [(kd,sq,tx)]⟩ else none) := rfl
 have HC : ∀ w9,Hid (Below wA.heap.size wA w9 -> Calls Tryz.prog 125 #[.agg #[.int .i64 z,.slice (some ⟨g,0,none⟩) n c],.agg #[.int .i64 kd,.int .i64 sq,.string tx]] w9 fun e w' => e = .returned (.bool (canJ z s.qs (kd,sq,tx))) ∧ ∃ A' C',GrowSqs B w' n (doJ z s.qs (kd,sq,tx)) g A' C' ∧ Only B g wA w' ∧ ∀ j : Nat,(j : Int) ≠ sq -> A' j = A j) := fun w9 h9 =>
  (alter_at c B z n s.qs g A C kd sq tx w9 ((HA.out.later h9 (by omega)).mem.sq) (by have := h9.size; omega) hok htx).mono (fun e w' hh => ⟨hh.1,by obtain ⟨_,A',C',h2,h3,h4⟩ := hh; exact ⟨A',C',h2,(only_of_below h9 (by omega)).trans h3,h4⟩⟩)
 have HNK := hide h.nk
 have HBK := hide h.bk
 have HEB := hide h.eb
 clear h hok
 obtain ⟨b0,b1,b2⟩ := three_cells HJ.out
 obtain ⟨x0,x1,x2,x3,x4,x5⟩ := six_cells HA.out.box
 go_enter Tryz.func186,Tryz.ntmps186
 go_upto_region 1 with fail
 rw [<- hwA]
 clear hwA
 go_cut [10] (fun d wx => d = .bool (!canJ z s.qs (kd,sq,tx)) ∧ ∃ A' C',GrowSqs B wx n (doJ z s.qs (kd,sq,tx)) g A' C' ∧ Only B g wA wx ∧ ∀ j : Nat,(j : Int) ≠ sq -> A' j = A j)
 case first =>
  go_region_with (go_at_call 125; refine ((HC _).out (by exact (Below.refl _ wA).drew)).mono ?_; rintro e w1 ⟨rfl,A',C',hG1,hO1,hJ1⟩; have HG1 := hide hG1; have HO1 := hide hO1; have HJ9 := hide hJ1; clear hG1 hO1 hJ1)
  all_goals
   go_wp2_with fail
   go_meet
   exact ⟨rfl,_,_,HG1.out,HO1.out,HJ9.out⟩
 case rest =>
  obtain ⟨rfl,A',C',hG1,hO1,hJ1⟩ := hcut
  have HJ9 := hide hJ1
  clear hJ1
  obtain ⟨w1,hw1⟩ : ∃ w1,w1 = wc := ⟨_,rfl⟩
  subst hw1
  have HB1 := hide ((frame_of_below (L := [g,pk,gm]) HBA.out hB).trans (frame_of_only hO1 (by simp)))
  have hs1 := hO1.below.size
  have HX1 := hide (hO1.other pk _ _ _ HNK.out (by decide) HA.out.box)
  have er1 := (hO1.below.cell (p := ⟨1,0,none⟩) HEB.out).trans HA.out.er
  have HM1 : Hid (KeeperAt B w1 pk z st n g c gm cm A' C' (.slice aj s.js.length cj) ⟨doJ z s.qs (kd,sq,tx),s.ps,s.op,s.js⟩ aN) := ⟨HA.out.mem.did hG1 hO1 (by omega),HX1.out,HNK.out,HBK.out,er1,HEB.out⟩
  have HJ1 := hide (hO1.other w.heap.size _ _ _ (by omega) (by decide) HJ.out)
  clear hG1 hO1 HC HA HJ b0 b1 b2 x0 x1 x2 x3 x4 x5
  cases hcan : canJ z s.qs (kd,sq,tx) with
  | false =>
   have HE : Hid (doK z s (kd,sq,tx) = none) := by show _ = _; rw [HDO.out,hcan]; rfl
   unfold noRoomV at er1
   go_wp2_with fail
   refine ⟨rfl,?_⟩
   unfold IPost
   rw [HE.out]
   exact ⟨HB1.out,rfl⟩
  | true =>
   have HE : Hid (doK z s (kd,sq,tx) = some ⟨doJ z s.qs (kd,sq,tx),s.ps,s.op,s.js ++ [(kd,sq,tx)]⟩) := by show _ = _; rw [HDO.out,hcan]; rfl
   clear hcan HDO er1
   obtain ⟨j0,j1,j2⟩ := three_cells HJ1.out
   obtain ⟨x0,x1,x2,x3,x4,p0⟩ := six_cells HX1.out
   clear x0 x1 x2 x3 x4
   obtain ⟨i0,hi0,hzz0,hzz1,hzz2⟩ := info_parts Tryz.infoJobI
   have HBB := hide ((Below.refl w1.heap.size w1).alloc (Nat.le_refl _) (.cells #[.int .i64 kd,.int .i64 sq,.string tx] 98))
   have HMB := hide (HM1.out.later HBB.out (by omega))
   have HOD : Hid (World.ownsRow (w1.alloc (.cells #[.int .i64 kd,.int .i64 sq,.string tx] 98)).drew B 98 3 (.slice aj s.js.length cj) s.js.length (jbL s.js)) := World.ownsRow.drew HMB.out.mem.jb
   have hzB : (w1.alloc (.cells #[.int .i64 kd,.int .i64 sq,.string tx] 98)).heap.size = w1.heap.size + 1 := by simp
   have HZB := hide hzB
   clear hzB
   obtain ⟨y0,y1,y2,y3,y4,p1⟩ := six_cells HMB.out.box
   clear y0 y1 y2 y3 y4
   have f1 := four_frozen HMB.out.box 5
   have HNE : Hid (some pk ≠ (Value.slice aj s.js.length cj).ownBlock) := fun e => by
    obtain ⟨cs,fz,h2⟩ := Go.Lib.ownsRow_kind HMB.out.mem.jb pk e.symm
    rw [HMB.out.box] at h2
    simp only [Option.some.injEq,Obj.cells.injEq] at h2
    exact absurd h2.2.1 (by decide)
   have hpl1 : pk < w1.heap.size := by omega
   go_upto_region 3 with fail
   go_region_law (refine step_append_lies _ (by rfl) _ _ _ (by rfl) B 98 i0 (.agg #[.int .i64 0,.int .i64 0,.string ByteArray.empty]) 3 32 Tryz.underlying91 hi0 hzz0 hzz1 hzz2 rfl (by decide) (.slice aj s.js.length cj) s.js.length (jbL s.js) (by rfl) HOD.out ⟨w1.heap.size,0,none⟩ 1 1 [.int .i64 kd,.int .i64 sq,.string tx] (by rfl) rfl (cell_three_new _ _ _ _ _) (job_one _ _ _) (by omega) (by unfold maxLen; omega) (by omega) (by simp; omega) (w1.heap.size + 1) (by simp) ?_; intro g' c' w5 hown5 hgr5 hat5 hlt5; have c5 := (hgr5.cell_far ⟨pk,5,none⟩ (by simp; omega) HNE.out).trans p1; have f5 := (hgr5.frozen_far ⟨pk,5,none⟩ (by simp; omega) HNE.out).trans f1; have HO5 := hide hown5; have HR5 := hide hgr5; have HA5 := hide hat5; clear hown5 hgr5 hat5)
   all_goals
    have hzB := HZB.out
    have HR6 : Hid ((w1.alloc (.cells #[.int .i64 kd,.int .i64 sq,.string tx] 98)).grownBy w5 (Value.slice aj s.js.length cj).ownBlock) := ⟨HR5.out.os,HR5.out.tape,HR5.out.output,HR5.out.size,fun k hk hne => HR5.out.block k hk hne⟩
    have HF := hide (noted_in (s := ⟨doJ z s.qs (kd,sq,tx),s.ps,s.op,s.js⟩) (by omega) HMB.out HR6.out HO5.out (HA5.out.imp id (fun e => by omega)))
    have HBF := hide (((HB1.out.on HBB.out (by omega)).noted HMB.out.mem.jb HR6.out (by omega)).set (p := pk) (by simp) HBK.out 5 (.slice (some ⟨g',0,none⟩) (s.js.length + 1) c'))
    go_wp2_with fail
    go_end0
    unfold IPost
    rw [HE.out]
    exact ⟨HBF.out,rfl,_,_,_,HF.out,HJ9.out⟩
set_option maxHeartbeats 3200000 in
theorem write_any (B pk : Nat) (z st : Int) (n g c gm cm : Nat) (A : Nat -> Option Addr) (C : Nat -> Nat) (V : Value) (s : Kp) (aN : Addr) (o : Nat) (tx : ByteArray) (w : World) (h : KeeperAt B w pk z st n g c gm cm A C V s aN) (hB : B <= w.heap.size) (hok : chipOk z s.qs = true) (ho : s.op = (o : Int)) (hon : o < n) (htx : tx.size <= maxLen) (hjs : s.js.length <= 1048576) :
  Calls Tryz.prog 152 #[.pointer (some ⟨pk,0,none⟩),.string tx] w fun e w' => IPost (doK z s (1,(o : Int),tx)) (.agg #[.int .i64 (o : Int),.int .i64 ((sqAt s.qs o).1.length : Int)]) (fun A' => ∀ j : Nat,j ≠ o -> A' j = A j) B pk z st n g c gm cm aN w e w' := by
 obtain ⟨wA,hwA⟩ : ∃ wA,wA = w.alloc (.cells #[.int .i64 0,.int .i64 0] 39) := ⟨_,rfl⟩
 have hzA : wA.heap.size = w.heap.size + 1 := by rw [hwA]; simp
 have HBA : Hid (Below w.heap.size w wA) := by rw [hwA]; exact (Below.refl _ _).alloc (Nat.le_refl _) _
 have HR : Hid (wA.heap[w.heap.size]? = some (.cells #[.int .i64 0,.int .i64 0] 39)) := by rw [hwA]; exact heap_new _ _
 have HA := hide (h.later HBA.out hB)
 have hn12 : n <= 12 := by have := (chipOk_parts hok).2.2.2.1; rw [h.mem.sq.len] at this; exact this
 obtain ⟨bd1,bd2,bd3,bd4,bd5⟩ := h.bound
 have HCK := hide hok
 have hol : (sqAt s.qs o).1.length <= 8 := by
  have h1 := (sqOk_parts (chipOk_at hok (show o < s.qs.length by rw [h.mem.sq.len]; exact hon))).1
  have h2 := (chipOk_parts hok).2.1
  omega
 have hoi : (o : Int) < (n : Int) := by omega
 obtain ⟨x0,x1,x2,x3,x4,x5⟩ := six_cells HA.out.box
 obtain ⟨z0,_,_⟩ := HA.out.mem.sq.cells hon
 rw [ho] at x3
 obtain ⟨lo,hlo⟩ : ∃ lo,lo = (sqAt s.qs o).1.length := ⟨_,rfl⟩
 rw [<- hlo] at z0 hol
 rw [<- hlo]
 clear h hok hlo x4 x5
 go_enter Tryz.func152,Tryz.ntmps152
 go_upto_region 1 with fail
 rw [<- hwA]
 clear hwA
 go_cut [5] (fun d wx => ∃ g',d = .pointer (some ⟨g',0,none⟩) ∧ wA.heap.size <= g' ∧ wx.heap[g']? = some (.cells #[.int .i64 (o : Int),.int .i64 (lo : Int)] 39) ∧ Below wA.heap.size wA wx)
 case first =>
  have HBX : Hid (Below wA.heap.size wA (wA.alloc (.cells #[.int .i64 (o : Int),.int .i64 (lo : Int)] 39)).drew) := ((Below.refl wA.heap.size wA).alloc (Nat.le_refl _) _).drew
  have bd1' : pk < wA.heap.size := by omega
  have bd2' : g < wA.heap.size := by omega
  have HZA := hide hzA
  clear hzA
  go_region
  go_wp2_with fail
  go_meet
  exact ⟨_,rfl,Nat.le_refl _,heap_new wA _,HBX.out⟩
 case rest =>
  obtain ⟨tb,rfl,htb,htc,hbw⟩ := hcut
  obtain ⟨w4,hw4⟩ : ∃ w4,w4 = wc := ⟨_,rfl⟩
  subst hw4
  have HTC := hide htc
  have HA4 := hide (HA.out.later hbw (by omega))
  have HF4 := hide (frame_of_below (L := [g,pk,gm]) (below_here HBA.out hbw) hB)
  have HR4 := hide (block_on HR.out hbw)
  have hs4 := hbw.size
  clear htc hbw x0 x1 x2 x3 z0
  obtain ⟨a0,a1,a2,a3,a4,a5⟩ := six_cells HA4.out.box
  rw [ho] at a3
  clear a4 a5
  have HCL : ∀ w',Hid (Below w4.heap.size w4 w' -> Calls Tryz.prog 186 #[.pointer (some ⟨pk,0,none⟩),.agg #[.int .i64 1,.int .i64 (o : Int),.string tx]] w' fun e w'' => IPost (doK z s (1,(o : Int),tx)) (.tuple #[]) (fun A' => ∀ j : Nat,(j : Int) ≠ (o : Int) -> A' j = A j) B pk z st n g c gm cm aN w' e w'') := fun w' hb' =>
   do_any B pk z st n g c gm cm A C V s aN 1 (o : Int) tx w' (HA4.out.later hb' (by omega)) (by have := hb'.size; omega) HCK.out htx hjs
  go_wp2_with fail
  refine ((HCL _).out (Below.refl _ _)).mono ?_
  rintro e w5 ⟨hf5,hk5⟩
  have HF5 := hide (HF4.out.trans hf5)
  have HT5 := hide (hf5.other tb _ _ _ (by simp; omega) (by decide) (by decide) HTC.out)
  have HR5 := hide (hf5.other w.heap.size _ _ _ (by simp; omega) (by decide) (by decide) HR4.out)
  clear hf5 HCL a0 a1 a2 a3
  cases hd : doK z s (1,(o : Int),tx) with
  | none =>
   rw [hd] at hk5
   dsimp only at hk5
   subst hk5
   unfold noRoomV
   go_wp2_with fail
   refine ⟨rfl,?_⟩
   unfold IPost
   rw [hd]
   exact ⟨HF5.out,rfl⟩
  | some s' =>
   rw [hd] at hk5
   dsimp only at hk5
   obtain ⟨rfl,A5,C5,V5,hA5,hJ5⟩ := hk5
   have HJ5 := hide hJ5
   clear hJ5
   have HA5 := hide hA5
   have HD := hide hd
   clear hA5 hd
   obtain ⟨t0,t1⟩ := two_cells HT5.out
   obtain ⟨q0,q1⟩ := two_cells HR5.out
   have f0 := four_frozen HR5.out 0
   have f1 := four_frozen HR5.out 1
   have HRS := hide (two_set HR5.out (.int .i64 (o : Int)) (.int .i64 (lo : Int)))
   have HAS := hide (two_aside (b := w.heap.size) (Aside.refl w.heap.size (w.heap.size + 1) w5) (Nat.le_refl _) (Nat.lt_succ_self _) (.int .i64 (o : Int)) (.int .i64 (lo : Int)))
   have HAF := hide ((HA5.out.setP 0 (.int .i64 (o : Int)) (p := w.heap.size) (by omega) (by omega) (by omega) hB HR5.out (by decide) (by decide)).setP 1 (.int .i64 (lo : Int)) (p := w.heap.size) (by omega) (by omega) (by omega) hB (set_block HR5.out 0 (.int .i64 (o : Int)) (by simp)) (by decide) (by decide))
   have HFF := hide ((HF5.out.setNew (p := w.heap.size) (Nat.le_refl _) hB 0 (.int .i64 (o : Int))).setNew (p := w.heap.size) (Nat.le_refl _) hB 1 (.int .i64 (lo : Int)))
   go_wp2_with fail
   refine bodyPost_ret (results_cell rfl rfl (run_loadVar_row _ _ _ _ _ _ _ HRS.out Tryz.underlying39 rfl (by kernel_rfl))) rfl ?_
   unfold IPost
   rw [HD.out]
   exact ⟨HFF.out,rfl,A5,C5,V5,HAF.out,fun j hj => HJ5.out j (by omega)⟩
end Go.Proofs.YtgjoepdfhadmcaaGreatDoor
end

section
namespace Go.Proofs.YtgjoepdfhadmcaaGreatDoor
open Go.RowKit
set_option linter.unusedVariables false
set_option maxRecDepth 20000
theorem KeeperAt.led {B pk n g c gm cm : Nat} {w : World} {z st : Int} {A : Nat -> Option Addr} {C : Nat -> Nat} {V : Value} {s : Kp} {aN : Addr} (h : KeeperAt B w pk z st n g c gm cm A C V s aN) {i : Nat} (hi : i < s.ps.length) (x : Pl) :
  KeeperAt B ((w.setCell ⟨gm,i * 2,none⟩ (.int .i64 x.1)).setCell ⟨gm,i * 2 + 1,none⟩ (.int .i64 x.2)) pk z st n g c gm cm A C V ⟨s.qs,s.ps.set i x,s.op,s.js⟩ aN := by
 have h1 := h.apart
 have hb := h.bound
 have he := h.eb
 refine ⟨h.mem.led hi x,?_,h.nk,h.bk,?_,h.eb⟩
 ·dsimp only
  rw [List.length_set]
  exact set_other (set_other h.box h1 _) h1 _
 ·rw [World.cell?_setCell_other _ _ _ _ (by intro e2; simp only [Addr.mk.injEq] at e2; omega),World.cell?_setCell_other _ _ _ _ (by intro e2; simp only [Addr.mk.injEq] at e2; omega)]
  exact h.er
theorem putK_in {z : Int} {s : Kp} {i o : Nat} {tx : ByteArray} (ho : s.op = (o : Int)) : putK z s i tx = (doK z s (1,(o : Int),tx)).map fun s' => ⟨s'.qs,s'.ps.set i ((o : Int),((sqAt s.qs o).1.length : Int)),s'.op,s'.js⟩ := by
 unfold putK nextP
 rw [ho,Int.toNat_natCast]
theorem doK_room {z : Int} {s : Kp} {o k : Nat} {tx : ByteArray} (hK : KOk z s) (ho : s.op = (o : Int)) (hon : o < s.qs.length) (hk : (sqAt s.qs o).1.length <= k) (hz : (k : Int) < z) (h1 : 1 <= tx.size) (h2 : tx.size <= 200) : (doK z s (1,(o : Int),tx)).isSome = true := by
 have hb : (sqAt s.qs o).2.2 = false := by
  have := hK.good
  unfold opOk at this
  rw [ho] at this
  simpa using this
 have hc : canJ z s.qs (1,(o : Int),tx) = true := by
  unfold canJ canK txOk inB
  simp only [Int.toNat_natCast,hb]
  simp
  omega
 unfold doK
 rw [if_pos hc]
 rfl
theorem moveP_room {z : Int} {v o : Nat} {s : Kp} (hK : KOk z s) (hv : (v : Int) ≠ s.op) (ho : s.op = (o : Int)) (h0 : (sqAt s.qs o).1.length = 0) : ∀ {k : Nat} {t : Kp},moveP z v s k = some t -> (sqAt t.qs o).1.length <= k
 | 0,t,h => by unfold moveP at h; simp only [Option.some.injEq] at h; subst h; omega
 | k + 1,t,h => by
  unfold moveP at h
  cases hp : moveP z v s k with
  | none => rw [hp] at h; cases h
  | some u =>
   have ih := moveP_room hK hv ho h0 hp
   have hM := moveP_moved hK hv hp
   rw [hp,Option.bind_some] at h
   by_cases hex : ∃ i,i < u.ps.length ∧ plAt u.ps i = ((v : Int),(k : Int))
   ·obtain ⟨i,hi,he⟩ := hex
    rw [moveI_one hM.ok he hi (Nat.le_refl _)] at h
    obtain ⟨o',ho',hl',_,_,_,_,_,rfl⟩ := putK_parts h
    have e : o' = o := by have := hM.op; omega
    subst e
    dsimp only
    rw [sqAt_set _ _ hl',if_pos rfl]
    simp
    omega
   ·rw [moveI_none (fun i hi e => hex ⟨i,hi,e⟩)] at h
    simp only [Option.some.injEq] at h
    subst h
    omega
set_option maxHeartbeats 3200000 in
theorem moveFrom_any (B pk : Nat) (z st : Int) (n g c gm cm : Nat) (A : Nat -> Option Addr) (C : Nat -> Nat) (V : Value) (s : Kp) (aN : Addr) (v : Nat) (w : World) (h : KeeperAt B w pk z st n g c gm cm A C V s aN) (hB : B <= w.heap.size) (hK : KOk z s) (o : Nat) (ho : s.op = (o : Int)) (hv : (v : Int) ≠ s.op) (hvl : v < s.qs.length) (hjs : s.js.length <= 100000) (hemp : (sqAt s.qs o).1.length = 0) :
  Calls Tryz.prog 215 #[.pointer (some ⟨pk,0,none⟩),.int .i64 (v : Int)] w fun e w' => IPost (moveK z v s) (.tuple #[]) (fun _ => True) B pk z st n g c gm cm aN w e w' := by
 have hL : (sqAt s.qs v).1.length <= 8 := by
  have h1 := (sqOk_parts (chipOk_at hK.map.chip hvl)).1
  have h2 := (chipOk_parts hK.map.chip).2.1
  omega
 have hm64 := hK.map.few
 have hnl := h.mem.sq.len
 have hn12 : n <= 12 := by have := (chipOk_parts hK.map.chip).2.2.2.1; omega
 have hvn : v < n := by omega
 have hvi : (v : Int) < (n : Int) := by omega
 have hon : o < n := by have := hK.hi; omega
 obtain ⟨L,hLe⟩ : ∃ L,L = (sqAt s.qs v).1.length := ⟨_,rfl⟩
 obtain ⟨m,hme⟩ : ∃ m,m = s.ps.length := ⟨_,rfl⟩
 have HLE := hide hLe
 have HME := hide hme
 obtain ⟨x0,x1,x2,x3,x4,x5⟩ := six_cells h.box
 obtain ⟨y0,_,_⟩ := h.mem.sq.cells hvn
 rw [<- hLe] at hL y0
 rw [<- hme] at hm64
 obtain ⟨av,hav⟩ : ∃ av,av = A v := ⟨_,rfl⟩
 obtain ⟨cv,hcv⟩ : ∃ cv,cv = C v := ⟨_,rfl⟩
 rw [<- hav,<- hcv] at y0
 have HAV : Hid (A v = av) := hav.symm
 have HK := hide hK
 have H0 := hide h
 have HO := hide ho
 have HV := hide hv
 clear h hK ho hv hLe hme hav hcv
 go_enter Tryz.func215,Tryz.ntmps215
 go_wp2_with fail
 go_loopw [17] (fun i wr => ∃ (k : Nat) (t : Kp) (A : Nat -> Option Addr) (C : Nat -> Nat) (V : Value),k <= L ∧ i = .int .i64 (k : Int) ∧ moveP z v s k = some t ∧ KeeperAt B wr pk z st n g c gm cm A C V t aN ∧ A v = av ∧ Frame B [g,pk,gm] w wr) (fun i _ => L - (intOf i).toNat)
 case atStart => exact ⟨0,s,A,C,V,Nat.zero_le _,rfl,rfl,H0.out,HAV.out,Frame.refl _ _ _⟩
 case round =>
  obtain ⟨k,t,A',C',V',hk,rfl,hmv,hat,hva,hfr⟩ := hrel
  have hMV := moveP_moved HK.out HV.out hmv
  have hln := (moveP_len hmv).1
  have htm : t.ps.length = m := hMV.places.trans HME.out.symm
  have htq : t.qs.length = n := hMV.squares.trans hnl
  have hsv : sqAt t.qs v = sqAt s.qs v := hMV.other v HV.out
  have hsz := hfr.below.size
  have hop : t.op = (o : Int) := hMV.op.trans HO.out
  have HMV := hide hmv
  have HAT := hide hat
  have HFR := hide hfr
  have HKT := hide hMV.ok
  obtain ⟨bd1,bd2,bd3,bd4,bd5⟩ := hat.bound
  clear x0 x1 x2 x3 x4 x5 y0
  obtain ⟨x0,x1,x2,x3,x4,x5⟩ := six_cells hat.box
  rw [htm] at x2
  by_cases hlt : k < L
  ·have hlt2 : (k : Int) < (L : Int) := by omega
   have hpl : (sqAt t.qs v).1.length = L := by rw [hsv]; exact HLE.out.symm
   have hpo := hat.mem.sq.pages.own v hvn
   rw [hva] at hpo
   obtain ⟨pb,hpb⟩ : ∃ pb,av = some ⟨pb,0,none⟩ := by
    rcases pg_form hpo with ⟨_,e,_⟩ | ⟨pb,e,_⟩
    ·rw [e] at hpl; simp at hpl; omega
    ·exact ⟨pb,e⟩
   subst hpb
   have hck : wr.cell? ⟨pb,k,none⟩ = some (.string (txAt t.qs v k)) := by
    rw [World.ownsRow.cellAt hpo k (by omega)]
    unfold pgV txAt
    rw [List.getElem?_map,List.getD_eq_getElem?_getD,List.getElem?_eq_getElem (by omega)]
    rfl
   have htz0 : 1 <= (txAt t.qs v k).size ∧ (txAt t.qs v k).size <= 200 := by
    have h1 := (sqOk_parts (chipOk_at hMV.ok.map.chip (show v < t.qs.length by omega))).2.2.2
    refine h1 (txAt t.qs v k) ?_
    unfold txAt
    rw [List.getD_eq_getElem?_getD,List.getElem?_eq_getElem (by omega)]
    exact List.getElem_mem _
   have htz1 := htz0.1
   have htz := htz0.2
   clear htz0
   have HTO := hide (moveP_room HK.out HV.out HO.out hemp hmv)
   have hLz : (k : Int) < z := by
    have h1 := (sqOk_parts (chipOk_at hMV.ok.map.chip (show v < t.qs.length by omega))).1
    omega
   have hno : (v : Int) ≠ t.op := by rw [hop,<- HO.out]; exact HV.out
   have HNE : Hid (noneOf t.ps m ((v : Int),(k : Int)) = true -> moveP z v s (k + 1) = some t) := fun hh => by
    rw [moveP_step HMV.out,htm]
    refine moveI_none (fun i hi e => ?_)
    unfold noneOf at hh
    have := List.all_eq_true.1 hh i (List.mem_range.2 hi)
    simp [e] at this
   have HYE : Hid (∀ i,i < m -> plAt t.ps i = ((v : Int),(k : Int)) -> moveP z v s (k + 1) = putK z t i (txAt t.qs v k)) := fun i hi e => by
    rw [moveP_step HMV.out,htm]
    exact moveI_one HKT.out e hi (by omega)
   have HPK := hide (fun i => putK_in (z := z) (i := i) (tx := txAt t.qs v k) hop)
   have HCK := hide hMV.ok.map.chip
   have HVA := hide hva
   have hvo2 : v ≠ o := fun e => hno (by rw [hop,e])
   obtain ⟨tx,htx⟩ : ∃ tx,tx = txAt t.qs v k := ⟨_,rfl⟩
   rw [<- htx] at hck htz htz1 HYE HPK
   have hjt : t.js.length <= 1048576 := by rw [<- HME.out] at hln; have : k * m <= 8 * 64 := Nat.mul_le_mul (by omega) hm64; omega
   have HPL := hide (pl_places hat.mem.pl)
   rw [htm] at HPL
   clear htx hmv hat hfr hpo hva
   go_wp2_with fail
   refine (indexPl_at (some ⟨gm,0,none⟩) m cm t.ps (v : Int) (k : Int) wr HPL.out (by omega)).mono ?_
   rintro e w1 ⟨r,rfl,hr,b1⟩
   have HA1 := hide (HAT.out.later b1 (by omega))
   have HF1 := hide (HFR.out.on b1 (by omega))
   have hs1 := b1.size
   clear b1 x0 x1 x2 x3 x4 x5 hck HPL
   rcases hr with ⟨rfl,hnn⟩ | ⟨i,rfl,him,hie⟩
   ·have HS := hide (HNE.out hnn)
    clear hnn
    go_wp2_with fail
    go_roundw
    case rel => exact ⟨k + 1,t,A',C',V',by omega,by go_num,HS.out,HA1.out,HVA.out,HF1.out⟩
    case measure => simp [intOf]; omega
   ·have HS := hide (HYE.out i him hie)
    have HPI := hide (HPK.out i)
    have g0 : decide ((i : Int) >= 0) = true := by simp
    have him2 : (i : Int) < (m : Int) := by omega
    have HWR : ∀ w',Hid (Below w1.heap.size w1 w' -> Calls Tryz.prog 152 #[.pointer (some ⟨pk,0,none⟩),.string tx] w' fun e w'' => IPost (doK z t (1,(o : Int),tx)) (.agg #[.int .i64 (o : Int),.int .i64 ((sqAt t.qs o).1.length : Int)]) (fun A'' => ∀ j : Nat,j ≠ o -> A'' j = A' j) B pk z st n g c gm cm aN w' e w'') := fun w' hb' =>
     write_any B pk z st n g c gm cm A' C' V' t aN o tx w' (HA1.out.later hb' (by omega)) (by have := hb'.size; omega) HCK.out hop hon (by unfold maxLen; omega) hjt
    obtain ⟨lo,hlo⟩ : ∃ lo,lo = (sqAt t.qs o).1.length := ⟨_,rfl⟩
    rw [<- hlo] at HWR HPI
    obtain ⟨a0,a1,a2,a3,a4,a5⟩ := six_cells HA1.out.box
    rw [htm] at a2
    clear hlo hie HNE HYE HPK a0 a1 a3 a4 a5
    cases hd : doK z t (1,(o : Int),tx) with
    | none =>
     have h9 := doK_room (z := z) (s := t) (o := o) (tx := tx) HKT.out hop (by omega) HTO.out hLz htz1 htz
     rw [hd] at h9
     cases h9
    | some t1 =>
     obtain ⟨h1,h2⟩ := doK_op hd
     have hu1 : t1.ps.length = m := by rw [h2]; exact htm
     have HS1 : Hid (moveP z v s (k + 1) = some ⟨t1.qs,t1.ps.set i ((o : Int),(lo : Int)),t1.op,t1.js⟩) := by show _ = _; rw [HS.out,HPI.out,hd]; rfl
     rw [hd] at HWR
     unfold IPost at HWR
     dsimp only at HWR
     clear hd
     go_upto_region 5 with fail
     go_region_with (go_at_call 152; refine ((HWR _).out (by exact (Below.refl _ w1).drew)).mono ?_; rintro e w5 ⟨hf5,rfl,A5,C5,V5,hA5,hJ5⟩; have HF5 := hide ((HF1.out.on (Below.refl w1.heap.size w1).drew (by omega)).trans hf5); have HA5 := hide hA5; have HJ5 := hide ((hJ5 v hvo2).trans HVA.out); obtain ⟨p0,p1,f0,f1⟩ := hA5.mem.cells (i := i) (by omega); obtain ⟨e0,e1,e2,e3,e4,e5⟩ := six_cells hA5.box; rw [hu1] at e2; clear hf5 hA5 hJ5 e0 e1 e3 e4 e5)
     all_goals
      have HL := hide (HA5.out.led (i := i) (by omega) ((o : Int),(lo : Int)))
      have HFL := hide ((HF5.out.set (p := gm) (by simp) bd4 (i * 2) (.int .i64 (o : Int))).set (p := gm) (by simp) bd4 (i * 2 + 1) (.int .i64 (lo : Int)))
      go_wp2_with fail
      go_roundw
      case rel => exact ⟨k + 1,_,A5,C5,V5,by omega,by go_num,HS1.out,HL.out,HJ5.out,HFL.out⟩
      case measure => simp [intOf]; omega
  ·obtain rfl : k = L := by omega
   have HE : Hid (moveK z v s = some t) := by show moveP z v s _ = _; rw [<- HLE.out]; exact hmv
   clear hmv hat hfr
   go_wp2_with fail
   go_end0
   unfold IPost
   rw [HE.out]
   exact ⟨HFR.out,rfl,A',C',V',HAT.out,trivial⟩
end Go.Proofs.YtgjoepdfhadmcaaGreatDoor
end

section
namespace Go.Proofs.YtgjoepdfhadmcaaGreatDoor
open Go.RowKit
set_option linter.unusedVariables false
set_option maxRecDepth 20000
theorem victimV_neg {z : Int} {qs : List Sq} {ps : List Pl} {op : Int} (h : victimV z qs ps op < 0) : victimV z qs ps op = -1 := by
 unfold victimV at h ⊢
 split
 ·rfl
 ·rename_i b hb
  rw [hb] at h
  dsimp only at h
  split
  ·rfl
  ·rename_i h2
   rw [if_neg h2] at h
   omega
theorem KeeperAt.opened {B pk n g c gm cm : Nat} {w : World} {z st : Int} {A : Nat -> Option Addr} {C : Nat -> Nat} {V : Value} {s : Kp} {aN : Addr} (h : KeeperAt B w pk z st n g c gm cm A C V s aN) (o : Int) :
  KeeperAt B (w.setCell ⟨pk,3,none⟩ (.int .i64 o)) pk z st n g c gm cm A C V (withOp s o) aN := by
 have hm := h.mem.set (o := 3) (.int .i64 o) h.nk h.box (by decide) (by decide) (by decide)
 refine ⟨⟨hm.sq,hm.pl,hm.jb,hm.ne,hm.nj⟩,set_block h.box 3 _ (by simp),h.nk,h.bk,?_,h.eb⟩
 rw [World.cell?_setCell_other _ _ _ _ (by intro e2; simp only [Addr.mk.injEq] at e2; have := h.eb; have := h.bk; omega)]
 exact h.er
theorem first_int {w : World} {lo hi n : Nat} {a : Option Addr} {l : List Nat} (h : OwnInts lo hi w a n (l.map (fun (i : Nat) => (i : Int)))) : l.length = n ∧ (0 < n -> ∃ ge off,a = some ⟨ge,off,none⟩ ∧ ge < w.heap.size ∧ w.cell? ⟨ge,off,none⟩ = some (.int .i64 ((l.getD 0 0 : Nat) : Int))) := by
 obtain ⟨h1,h2,h3⟩ := h
 rw [List.length_map] at h1
 refine ⟨h1,fun h0 => ?_⟩
 obtain ⟨b,off,e,_,hb,hc⟩ := h3 h0
 refine ⟨b,off,e,by omega,?_⟩
 have := (hc 0 h0).1
 rw [Nat.add_zero] at this
 rw [this]
 unfold cellI
 have h0' : 0 < l.length := by omega
 simp [List.getD_eq_getElem?_getD,List.getElem?_eq_getElem h0']
set_option maxHeartbeats 6400000 in
theorem stepToRoom_any (B pk : Nat) (z st : Int) (n g c gm cm : Nat) (A : Nat -> Option Addr) (C : Nat -> Nat) (V : Value) (t : Kp) (aN : Addr) (w1 : World) (h : KeeperAt B w1 pk z st n g c gm cm A C V t aN) (hB : B <= w1.heap.size) (hK : KOk z t) (hjl : t.js.length <= 20000) :
  Calls Tryz.prog 185 #[.pointer (some ⟨pk,0,none⟩)] w1 fun e w' => IPost (stepK z t) (.tuple #[]) (fun _ => True) B pk z st n g c gm cm aN w1 e w' := by
 have hm64 := hK.map.few
 have htq := h.mem.sq.len
 have hn12 : n <= 12 := by have := (chipOk_parts hK.map.chip).2.2.2.1; omega
 obtain ⟨m,hme⟩ : ∃ m,m = t.ps.length := ⟨_,rfl⟩
 have htm : t.ps.length = m := hme.symm
 rw [<- hme] at hm64
 have hmc : m <= cm := by
  obtain ⟨a9,c9,e9,h9⟩ := pl_form h.mem.pl
  simp only [Value.slice.injEq,true_and] at e9
  rw [htm,<- e9.2] at h9
  exact h9
 obtain ⟨bd1,bd2,bd3,bd4,bd5⟩ := h.bound
 have HKT := hide hK
 have HA1 := hide h
 have HVN := hide (fun hh => victimV_neg (z := z) (qs := t.qs) (ps := t.ps) (op := t.op) hh)
 clear h hK hme
 obtain ⟨x0,x1,x2,x3,x4,x5⟩ := six_cells HA1.out.box
 go_enter Tryz.func185,Tryz.ntmps185
 go_wp2_with fail
 refine (implEmpty_any z (some ⟨g,0,none⟩) n c t.qs w1 HA1.out.mem.sq.ownS.squares (Nat.le_refl _) (by omega) (chipOk_fits HKT.out.map.chip)).mono ?_
 rintro e w2 ⟨ea,E,ec,rfl,_,hel,hev,b2⟩
 have hev2 : OwnInts w1.heap.size w2.heap.size w2 ea E ((emptyK t.qs t.qs.length).map (fun (i : Nat) => (i : Int))) := by
  have e9 : emptyL z t.qs = (emptyK t.qs t.qs.length).map (fun (i : Nat) => (i : Int)) := by unfold emptyL; rw [HKT.out.map.chip]; rfl
  rw [<- e9]; exact hev
 have HA2 := hide (HA1.out.later b2 hB)
 have HF2 := hide (frame_of_below (L := [g,pk,gm]) b2 hB)
 have hs2 := b2.size
 obtain ⟨hE,hfst⟩ := first_int hev2
 have HFS := hide hfst
 have HEF := hide (fun hh => empty_first (qs := t.qs) hh)
 obtain ⟨e0,he0⟩ : ∃ e0,e0 = (emptyK t.qs t.qs.length).getD 0 0 := ⟨_,rfl⟩
 rw [<- he0] at HFS
 rw [hE,<- he0] at HEF
 have HE1 : Hid (E = (emptyK t.qs t.qs.length).length) := hE.symm
 have HE0 := hide he0
 clear hE he0 hev hev2 b2 x0 x1 x2 x3 x4 x5 hfst
 obtain ⟨x0,x1,x2,x3,x4,x5⟩ := six_cells HA2.out.box
 have fz := four_frozen HA2.out.box 3
 rw [htm] at x2
 by_cases h2 : 2 <= E
 ·obtain ⟨ge,oe,rfl,hgl,hge⟩ := HFS.out (by omega)
  obtain ⟨i1,i2,i3⟩ := HEF.out (by omega)
  have g2 : decide ((E : Int) >= 2) = true := by simp; omega
  have hEi : (0 : Int) < (E : Int) := by omega
  have HOP := hide (HA2.out.opened (e0 : Int))
  have HFO := hide (HF2.out.set (p := pk) (by simp) HA2.out.bk 3 (.int .i64 (e0 : Int)))
  have HST : Hid (stepK z t = some (withOp t (e0 : Int))) := by
   show _ = _
   unfold stepK
   rw [if_pos (by rw [<- HE1.out]; exact h2),<- HE0.out]
  go_wp2_with fail
  go_end0
  unfold IPost
  rw [HST.out]
  exact ⟨HFO.out,rfl,A,C,V,HOP.out,trivial⟩
 ·have g2 : decide ((E : Int) >= 2) = false := by simp; omega
  have HCV : ∀ w',Hid (Below w2.heap.size w2 w' -> Calls Tryz.prog 213 #[.agg #[.int .i64 z,.slice (some ⟨g,0,none⟩) n c],.slice (some ⟨gm,0,none⟩) m cm,.int .i64 t.op] w' fun e w'' => e = .returned (.int .i64 (victimV z t.qs t.ps t.op)) ∧ Below w'.heap.size w' w'') := fun w' hb' => by
   have h9 := HA2.out.later hb' (by omega)
   have hpl := pl_places h9.mem.pl
   rw [htm] at hpl
   have e9 : victim z t.qs t.ps t.op = victimV z t.qs t.ps t.op := by unfold victim; rw [HKT.out.map.ok]; rfl
   rw [<- e9]
   exact implVictim_any z (some ⟨g,0,none⟩) n c t.qs (some ⟨gm,0,none⟩) m cm t.ps t.op w' h9.mem.sq.ownS.squares (Nat.le_refl _) (by omega) (chipOk_fits HKT.out.map.chip) hpl (Nat.le_refl _) (by omega) hmc
  have HVP := hide (fun hh => victim_parts (z := z) (op := t.op) HKT.out.map hh)
  obtain ⟨vv,hvv⟩ : ∃ vv,vv = victimV z t.qs t.ps t.op := ⟨_,rfl⟩
  rw [<- hvv] at HVP HCV HVN
  have HVV := hide hvv
  clear hvv
  go_upto_region 3 with fail
  refine wp_region_quiet_tail 12 (by kernel_rfl) (by kernel_rfl) ?_
  simp only [List.take_succ_cons,List.take_zero,List.drop_succ_cons,List.drop_zero]
  repeat (go_big_quiet_step (fail))
  refine wpQuiet_nil ?_
  rintro _ ⟨nq,rfl⟩
  have HBQ : Hid (Below w2.heap.size w2 (w2.drewN nq)) := ⟨rfl,rfl,rfl,Nat.le_refl _,fun _ _ => rfl⟩
  generalize w2.drewN nq = wq at *
  go_wp2_with fail
  refine ((HCV _).out HBQ.out).mono ?_
  rintro e w3 ⟨rfl,b3⟩
  have HB3 := hide (below_here HBQ.out b3)
  have HA3 := hide (HA2.out.later HB3.out (by omega))
  have HF3 := hide (HF2.out.on HB3.out (by omega))
  have hs3 := HB3.out.size
  clear b3 HCV x0 x1 x2 x3 x4 x5 fz
  obtain ⟨x0,x1,x2,x3,x4,x5⟩ := six_cells HA3.out.box
  rw [htm] at x2
  have er3 := HA3.out.er
  unfold noRoomV at er3
  by_cases hv : vv < 0
  ·have hv1 := HVN.out hv
   subst hv1
   have HE : Hid (stepK z t = none) := by
    show _ = _
    unfold stepK
    rw [if_neg (by rw [<- HE1.out]; exact h2),<- HVV.out,if_pos (by omega)]
   go_wp2_with fail
   refine ⟨rfl,?_⟩
   unfold IPost
   rw [HE.out]
   exact ⟨HF3.out,rfl⟩
  ·obtain ⟨v,hvn,hvl,hvo,hvp,hvb,hvz,_⟩ := HVP.out (by omega)
   subst hvn
   clear HVP hvz HVN
   have hvm : v < n := by omega
   have g3 : ((v : Int) == -1) = false := by simp
   have HV0 : Hid (victimV z t.qs t.ps t.op = (v : Int)) := HVV.out.symm
   have HWL : Hid (ByteArray.empty.size <= maxLen) := Nat.zero_le _
   go_wp2_with fail
   refine (placesIn_any (some ⟨gm,0,none⟩) m cm t.ps (v : Int) w3 (by have h9 := pl_places HA3.out.mem.pl; rw [htm] at h9; exact h9) (by omega)).mono ?_
   rintro e w4 ⟨rfl,b4⟩
   have HB4 := hide (below_here HB3.out b4)
   have HA4 := hide (HA3.out.later b4 (by omega))
   have HF4 := hide (HF3.out.on b4 (by omega))
   have hs4 := b4.size
   clear b4 x0 x1 x2 x3 x4 x5 er3
   obtain ⟨x0,x1,x2,x3,x4,x5⟩ := six_cells HA4.out.box
   rw [htm] at x2
   have er4 := HA4.out.er
   unfold noRoomV at er4
   have hll := liveN_le t.ps (v : Int)
   rw [htm] at hll
   have HSW := hide (fun hh => stepK_wipe (z := z) (s := t) (v := v) (by rw [<- HE1.out]; exact h2) HV0.out hh)
   have HSS := hide (fun hh hh' => stepK_stuck (z := z) (s := t) (v := v) hh HV0.out hh')
   have HSM := hide (fun hh hh' => stepK_move (z := z) (s := t) (v := v) (by rw [<- HE1.out]; exact h2) hh HV0.out hh')
   rw [<- HE1.out] at HSS HSM
   rw [<- HE0.out] at HSM
   obtain ⟨lv,hlv⟩ : ∃ lv,lv = liveN t.ps (v : Int) := ⟨_,rfl⟩
   rw [<- hlv] at hll HSW HSS HSM
   rw [<- hlv]
   clear hlv
   by_cases hl0 : lv = 0
   ·have HS0 := hide (HSW.out hl0)
    subst hl0
    simp only [show ((0 : Nat) : Int) = 0 from rfl]
    go_wp2_with fail
    refine (do_any B pk z st n g c gm cm A C V t aN 2 (v : Int) ByteArray.empty w4 HA4.out (by omega) HKT.out.map.chip HWL.out (by omega)).mono ?_
    rintro e w5 ⟨hf5,hk5⟩
    have HF5 := hide (HF4.out.trans hf5)
    clear hf5 x0 x1 x2 x3 x4 x5 er4
    cases hd : doK z t (2,(v : Int),ByteArray.empty) with
    | none =>
     have HE : Hid (stepK z t = none) := HS0.out.trans hd
     rw [hd] at hk5
     dsimp only at hk5
     subst hk5
     unfold noRoomV
     go_wp2_with fail
     refine ⟨rfl,?_⟩
     unfold IPost
     rw [HE.out]
     exact ⟨HF5.out,rfl⟩
    | some t1 =>
     have HE : Hid (stepK z t = some t1) := HS0.out.trans hd
     rw [hd] at hk5
     dsimp only at hk5
     obtain ⟨rfl,A5,C5,V5,hA5,_⟩ := hk5
     have HA5 := hide hA5
     clear hA5 hd
     go_wp2_with fail
     go_end0
     unfold IPost
     rw [HE.out]
     exact ⟨HF5.out,rfl,A5,C5,V5,HA5.out,trivial⟩
   ·have g4 : decide ((lv : Int) > 0) = true := by simp; omega
    by_cases hE0 : E = 0
    ·have HE := hide (HSS.out hE0 (by omega))
     subst hE0
     simp only [show ((0 : Nat) : Int) = 0 from rfl]
     go_wp2_with fail
     refine ⟨rfl,?_⟩
     unfold IPost
     rw [HE.out]
     exact ⟨HF4.out,rfl⟩
    ·have g5 : ((E : Int) == 0) = false := by simpa using (show (E : Int) ≠ 0 by omega)
     obtain ⟨ge,oe,rfl,hgl,hge⟩ := HFS.out (by omega)
     obtain ⟨i1,i2,i3⟩ := HEF.out (by omega)
     have hge4 := (HB4.out.cell (p := ⟨ge,oe,none⟩) hgl).trans hge
     have hEi : (0 : Int) < (E : Int) := by omega
     have HOP := hide (HA4.out.opened (e0 : Int))
     have HKO := hide (withOp_ok HKT.out i1 i3)
     have HFO := hide (HF4.out.set (p := pk) (by simp) HA4.out.bk 3 (.int .i64 (e0 : Int)))
     have fz := four_frozen HA4.out.box 3
     have hvne : v ≠ e0 := fun e => by subst e; omega
     have HSM1 := hide (HSM.out hE0 (by omega))
     obtain ⟨wM,hwM⟩ : ∃ wM,wM = w4.setCell ⟨pk,3,none⟩ (.int .i64 (e0 : Int)) := ⟨_,rfl⟩
     have hsM : wM.heap.size = w4.heap.size := by rw [hwM,Go.Deep.nblk_setCell]
     have HSZ := hide hsM
     rw [<- hwM] at HOP HFO
     clear hge hsM
     go_wp2_with fail
     rw [<- hwM]
     clear hwM x0 x1 x2 x3 x4 x5 fz er4
     refine (moveFrom_any B pk z st n g c gm cm A C V (withOp t (e0 : Int)) aN v wM HOP.out (by rw [HSZ.out]; omega) HKO.out e0 rfl (by show (v : Int) ≠ (e0 : Int); omega) hvl (by show t.js.length <= _; omega) i2).mono ?_
     rintro e w5 ⟨hf5,hk5⟩
     have HF5 := hide (HFO.out.trans hf5)
     have hs5 := hf5.below.size
     rw [HSZ.out] at hs5
     clear hf5
     cases hmv : moveK z v (withOp t (e0 : Int)) with
     | none =>
      have HE : Hid (stepK z t = none) := by show _ = _; rw [HSM1.out,hmv]; rfl
      rw [hmv] at hk5
      dsimp only at hk5
      subst hk5
      unfold noRoomV
      go_wp2_with fail
      refine ⟨rfl,?_⟩
      unfold IPost
      rw [HE.out]
      exact ⟨HF5.out,rfl⟩
     | some t1 =>
      rw [hmv] at hk5
      dsimp only at hk5
      obtain ⟨rfl,A5,C5,V5,hA5,_⟩ := hk5
      have HA5 := hide hA5
      have HS1 : Hid (stepK z t = doK z t1 (2,(v : Int),ByteArray.empty)) := by show _ = _; rw [HSM1.out,hmv]; rfl
      have hM1 := moveP_moved HKO.out (show (v : Int) ≠ (withOp t (e0 : Int)).op by show (v : Int) ≠ (e0 : Int); omega) hmv
      have hln := (moveP_len hmv).1
      have HCK := hide hM1.ok.map.chip
      have hln2 : t1.js.length <= 100000 := by
       have h6 : (sqAt (withOp t (e0 : Int)).qs v).1.length * (withOp t (e0 : Int)).ps.length <= 8 * 64 := by
        refine Nat.mul_le_mul ?_ (by show t.ps.length <= 64; omega)
        have h7 := (sqOk_parts (chipOk_at HKT.out.map.chip hvl)).1
        have h8 := (chipOk_parts HKT.out.map.chip).2.1
        show (sqAt t.qs v).1.length <= 8
        omega
       have h9 : (withOp t (e0 : Int)).js.length = t.js.length := rfl
       rw [h9] at hln
       omega
      clear hA5 hmv hM1 hln
      go_wp2_with fail
      refine (do_any B pk z st n g c gm cm A5 C5 V5 t1 aN 2 (v : Int) ByteArray.empty w5 HA5.out (by omega) HCK.out HWL.out (by omega)).mono ?_
      rintro e w6 ⟨hf6,hk6⟩
      have HF6 := hide (HF5.out.trans hf6)
      clear hf6
      cases hd : doK z t1 (2,(v : Int),ByteArray.empty) with
      | none =>
       have HE : Hid (stepK z t = none) := HS1.out.trans hd
       rw [hd] at hk6
       dsimp only at hk6
       subst hk6
       unfold noRoomV
       go_wp2_with fail
       refine ⟨rfl,?_⟩
       unfold IPost
       rw [HE.out]
       exact ⟨HF6.out,rfl⟩
      | some t2 =>
       have HE : Hid (stepK z t = some t2) := HS1.out.trans hd
       rw [hd] at hk6
       dsimp only at hk6
       obtain ⟨rfl,A6,C6,V6,hA6,_⟩ := hk6
       have HA6 := hide hA6
       clear hA6 hd
       go_wp2_with fail
       go_end0
       unfold IPost
       rw [HE.out]
       exact ⟨HF6.out,rfl,A6,C6,V6,HA6.out,trivial⟩
set_option maxHeartbeats 1600000 in
theorem hasRoom_any (z : Int) (a : Option Addr) (n cap : Nat) (t : Kp) (w : World) {lo hi : Nat} (h : Squares lo hi w a n t.qs) (hhi : hi <= w.heap.size) (hn : n <= 12) (hl8 : ∀ q ∈ t.qs,q.1.length <= 8) (hop : t.op < (n : Int)) :
  Calls Tryz.prog 184 #[.agg #[.int .i64 z,.slice a n cap],.int .i64 t.op] w fun e w' => e = .returned (.bool (roomy z t)) ∧ Below w.heap.size w w' := by
 obtain ⟨wA,hwA⟩ : ∃ wA,wA = w.alloc (.cells #[.int .i64 z,.slice a n cap] 26) := ⟨_,rfl⟩
 have hzA : wA.heap.size = w.heap.size + 1 := by rw [hwA]; simp
 have HBA : Hid (Below w.heap.size w wA) := by rw [hwA]; exact (Below.refl _ _).alloc (Nat.le_refl _) _
 have H0 : Hid (wA.heap[w.heap.size]? = some (.cells #[.int .i64 z,.slice a n cap] 26)) := by rw [hwA]; exact heap_new _ _
 have HS := hide (h.later HBA.out hhi)
 have HL := hide h.1
 have HL8 := hide hl8
 clear h hl8
 obtain ⟨c0,c1⟩ := two_cells H0.out
 have k0 := cell_regrown c0
 have k1 := cell_regrown c1
 by_cases h0 : 0 <= t.op
 ·obtain ⟨o,ho⟩ : ∃ o : Nat,t.op = (o : Int) := ⟨t.op.toNat,by omega⟩
  have hon : o < n := by omega
  have hoi : (o : Int) < (n : Int) := by omega
  have HR : Hid (roomy z t = decide (((sqAt t.qs o).1.length : Int) < z)) := by show _ = _; unfold roomy; rw [ho]; simp
  have hin : inB (o : Int) 0 ((n : Int) - 1) = true := by unfold inB; simp; omega
  have cS : ∀ d os,Calls Tryz.prog 144 #[.agg #[.int .i64 z,.slice a n cap],.int .i64 (o : Int)] (Go.Sort.grow (redrawn wA d) os) fun e w'' => e = .returned (.bool true) ∧ ∃ p : Regrown,w'' = Go.Sort.grow (redrawn wA p.d) p.os := fun d os => Calls.regrown_of (by have h9 := hasSquare_any z a n cap (o : Int) (Go.Sort.grow (redrawn wA d) os); rw [hin] at h9; exact h9)
  obtain ⟨_,A,C,hx,ht⟩ := HS.out
  obtain ⟨b,off,rfl,_,hb,hc⟩ := hx.2 (by omega)
  obtain ⟨y0,_,_⟩ := sq_cells hc (Below.refl wA.heap.size wA) (show b < wA.heap.size by have := hx.1; omega) hon
  have k2 := cell_regrown y0
  have hol : (sqAt t.qs o).1.length <= 8 := HL8.out _ (sqAt_mem (by rw [HL.out]; exact hon))
  obtain ⟨lo,hlo⟩ : ∃ lo,lo = (sqAt t.qs o).1.length := ⟨_,rfl⟩
  rw [<- hlo] at k2 y0 HR hol
  rw [ho]
  clear hlo hc hx ht hin ho h0 hop
  go_enter Tryz.func184,Tryz.ntmps184
  go_upto_region 1 with fail
  rw [<- hwA]
  clear hwA
  refine wp_region_quiet_below (by kernel_rfl) (by kernel_rfl) ?_
  repeat (go_big_quiet_step ((go_at_call 144; exact cS _ _)))
  refine wpQuiet_nil ?_
  intro _ hw'
  obtain ⟨⟨dq,osq⟩,hw''⟩ := hw'
  subst hw''
  have HBQ := hide (below_here HBA.out (below_regrown wA dq osq))
  go_wp2_with fail
  go_ret
  exact ⟨ret_bool HR.out.symm,HBQ.out⟩
 ·have HR : Hid (roomy z t = false) := by show _ = _; unfold roomy; rw [show decide (0 <= t.op) = false by simpa using h0]; rfl
  have hin : inB t.op 0 ((n : Int) - 1) = false := by unfold inB; rw [show decide (0 <= t.op) = false by simpa using h0]; rfl
  have cS : ∀ d os,Calls Tryz.prog 144 #[.agg #[.int .i64 z,.slice a n cap],.int .i64 t.op] (Go.Sort.grow (redrawn wA d) os) fun e w'' => e = .returned (.bool false) ∧ ∃ p : Regrown,w'' = Go.Sort.grow (redrawn wA p.d) p.os := fun d os => Calls.regrown_of (by have h9 := hasSquare_any z a n cap t.op (Go.Sort.grow (redrawn wA d) os); rw [hin] at h9; exact h9)
  clear hin h0
  go_enter Tryz.func184,Tryz.ntmps184
  go_upto_region 1 with fail
  rw [<- hwA]
  clear hwA
  refine wp_region_quiet_below (by kernel_rfl) (by kernel_rfl) ?_
  repeat (go_big_quiet_step ((go_at_call 144; exact cS _ _)))
  refine wpQuiet_nil ?_
  intro _ hw'
  obtain ⟨⟨dq,osq⟩,hw''⟩ := hw'
  subst hw''
  have HBQ := hide (below_here HBA.out (below_regrown wA dq osq))
  go_wp2_with fail
  go_ret
  exact ⟨ret_bool HR.out.symm,HBQ.out⟩
set_option maxHeartbeats 3200000 in
theorem makeRoom_any (B pk : Nat) (z st : Int) (n g c gm cm : Nat) (A : Nat -> Option Addr) (C : Nat -> Nat) (V : Value) (s : Kp) (aN : Addr) (w : World) (h : KeeperAt B w pk z st n g c gm cm A C V s aN) (hB : B <= w.heap.size) (hK : KOk z s) (hjs : s.js.length <= 1000) :
  Calls Tryz.prog 151 #[.pointer (some ⟨pk,0,none⟩)] w fun e w' => IPost (roomK z 20 s) (.tuple #[]) (fun _ => True) B pk z st n g c gm cm aN w e w' := by
 have hnl := h.mem.sq.len
 have hn12 : n <= 12 := by have := (chipOk_parts hK.map.chip).2.2.2.1; omega
 have HNL := hide hnl
 have HK := hide hK
 have H0 := hide h
 clear h hK hnl
 go_enter Tryz.func151,Tryz.ntmps151
 go_wp2_with fail
 go_loopw [2] (fun i wr => ∃ (k : Nat) (t : Kp) (A : Nat -> Option Addr) (C : Nat -> Nat) (V : Value),k <= 20 ∧ i = .int .i64 (k : Int) ∧ roomK z 20 s = roomK z (20 - k) t ∧ KOk z t ∧ t.qs.length = n ∧ t.js.length <= s.js.length + 513 * k ∧ KeeperAt B wr pk z st n g c gm cm A C V t aN ∧ Frame B [g,pk,gm] w wr) (fun i _ => 21 - (intOf i).toNat)
 case atStart => exact ⟨0,s,A,C,V,Nat.zero_le _,rfl,rfl,HK.out,HNL.out,by omega,H0.out,Frame.refl _ _ _⟩
 case round =>
  obtain ⟨k,t,A,C,V,hk,rfl,hrm,hKT,htq,hjl,hat,hfr⟩ := hrel
  have HRM := hide hrm
  have HKT := hide hKT
  have HAT := hide hat
  have HFR := hide hfr
  have hsz := hfr.below.size
  have hhi := hKT.hi
  rw [htq] at hhi
  have HL8 : Hid (∀ q ∈ t.qs,q.1.length <= 8) := fun q hq => by have h1 := (sqOk_parts ((chipOk_parts hKT.map.chip).2.2.2.2 q hq)).1; have h2 := (chipOk_parts hKT.map.chip).2.1; omega
  obtain ⟨x0,x1,x2,x3,x4,x5⟩ := six_cells hat.box
  have cR : ∀ W,Hid (Below wr.heap.size wr W -> Calls Tryz.prog 184 #[.agg #[.int .i64 z,.slice (some ⟨g,0,none⟩) n c],.int .i64 t.op] W fun e w'' => e = .returned (.bool (roomy z t)) ∧ Below W.heap.size W w'') := fun W hb => hasRoom_any z (some ⟨g,0,none⟩) n c t W ((HAT.out.later hb (by omega)).mem.sq.ownS.squares) (Nat.le_refl _) hn12 HL8.out hhi
  clear hrm hKT hat hfr
  go_upto_region 1 with fail
  refine wp_region_quiet_tail 8 (by kernel_rfl) (by kernel_rfl) ?_
  simp only [List.take_succ_cons,List.take_zero,List.drop_succ_cons,List.drop_zero]
  repeat (go_big_quiet_step (fail))
  refine wpQuiet_nil ?_
  rintro _ ⟨nq,rfl⟩
  have HBQ : Hid (Below wr.heap.size wr (wr.drewN nq)) := ⟨rfl,rfl,rfl,Nat.le_refl _,fun _ _ => rfl⟩
  generalize wr.drewN nq = wq at *
  go_wp2_with fail
  refine ((cR _).out HBQ.out).mono ?_
  rintro e w1 ⟨rfl,b1⟩
  have HB1 := hide (below_here HBQ.out b1)
  have HA1 := hide (HAT.out.later HB1.out (by omega))
  have HF1 := hide (HFR.out.on HB1.out (by omega))
  have hs1 := HB1.out.size
  clear b1 x0 x1 x2 x3 x4 x5 cR
  have er1 := HA1.out.er
  unfold noRoomV at er1
  cases hro : roomy z t with
  | true =>
   have HE : Hid (roomK z 20 s = some t) := by show _ = _; rw [HRM.out]; exact roomK_yes hro _
   go_wp2_with fail
   go_end0
   unfold IPost
   rw [HE.out]
   exact ⟨HF1.out,rfl,A,C,V,HA1.out,trivial⟩
  | false =>
   by_cases hk20 : k = 20
   ·subst hk20
    have HE : Hid (roomK z 20 s = none) := by show _ = _; rw [HRM.out]; exact roomK_end hro
    simp only [show ((20 : Nat) : Int) = 20 from rfl]
    go_wp2_with fail
    refine ⟨rfl,?_⟩
    unfold IPost
    rw [HE.out]
    exact ⟨HF1.out,rfl⟩
   ·have g1 : ((k : Int) == 20) = false := by simpa using (show (k : Int) ≠ 20 by omega)
    have HN : Hid (roomK z 20 s = (stepK z t).bind (roomK z (19 - k))) := by show _ = _; rw [HRM.out,show 20 - k = (19 - k) + 1 by omega]; exact roomK_next hro _
    clear hro HRM er1
    go_wp2_with fail
    refine (stepToRoom_any B pk z st n g c gm cm A C V t aN w1 HA1.out (by omega) HKT.out (by omega)).mono ?_
    rintro e w2 ⟨hf2,hk2⟩
    have HF2 := hide (HF1.out.trans hf2)
    clear hf2
    cases hst : stepK z t with
    | none =>
     have HE : Hid (roomK z 20 s = none) := by show _ = _; rw [HN.out,hst]; rfl
     rw [hst] at hk2
     dsimp only at hk2
     subst hk2
     unfold noRoomV
     go_wp2_with fail
     refine ⟨rfl,?_⟩
     unfold IPost
     rw [HE.out]
     exact ⟨HF2.out,rfl⟩
    | some t1 =>
     have HE : Hid (roomK z 20 s = roomK z (20 - (k + 1)) t1) := by show _ = _; rw [HN.out,hst,show 20 - (k + 1) = 19 - k by omega]; rfl
     rw [hst] at hk2
     dsimp only at hk2
     obtain ⟨rfl,A2,C2,V2,hA2,_⟩ := hk2
     have HA2 := hide hA2
     have HSO := hide (stepK_ok HKT.out hst)
     have hsl := stepK_len HKT.out hst
     clear hA2 hst
     go_wp2_with fail
     go_roundw
     case rel => exact ⟨k + 1,t1,A2,C2,V2,by omega,by go_num,HE.out,HSO.out.ok,HSO.out.squares.trans htq,by omega,HA2.out,HF2.out⟩
     case measure => simp [intOf]; omega
end Go.Proofs.YtgjoepdfhadmcaaGreatDoor
end

section
namespace Go.Proofs.YtgjoepdfhadmcaaGreatDoor
open Go.RowKit
set_option linter.unusedVariables false
set_option maxRecDepth 20000
structure XAt (B : Nat) (w : World) (px n g c gm cm : Nat) (A : Nat -> Option Addr) (C : Nat -> Nat) (f : Fv) : Prop where
 sq : GrowSqs B w n f.qs g A C
 pl : PlOwn B w (.slice (some ⟨gm,0,none⟩) f.ps.length cm) f.ps
 ne : gm ≠ g
 ftl : w.heap[px]? = some (.cells #[.int .i64 f.z,.slice (some ⟨g,0,none⟩) n c,.slice (some ⟨gm,0,none⟩) f.ps.length cm,.int .i64 f.op,.int .i64 f.st] 29)
 nx : px ≠ g
 bx : B <= px
theorem XAt.later {B px n g c gm cm : Nat} {w w' : World} {A : Nat -> Option Addr} {C : Nat -> Nat} {f : Fv} (h : XAt B w px n g c gm cm A C f) (hb : Below w.heap.size w w') : XAt B w' px n g c gm cm A C f :=
 ⟨h.sq.later hb,own_keepBy h.pl (grown_below hb none) (fun k e => by cases e),h.ne,block_on h.ftl hb,h.nx,h.bx⟩
theorem XAt.own {B px n g c gm cm : Nat} {w : World} {A : Nat -> Option Addr} {C : Nat -> Nat} {f : Fv} (h : XAt B w px n g c gm cm A C f) : FtlOwn B w.heap.size w (some ⟨g,0,none⟩) (some ⟨gm,0,none⟩) f.qs f.ps := own_of_parts h.sq h.pl h.ne
theorem xat_of {B px pj n g c gm cm : Nat} {w : World} {z st : Int} {A : Nat -> Option Addr} {C : Nat -> Nat} {V : Value} {s : Kp} (h : FtlAt B w px pj z st n g c gm cm A C V s) : XAt B w px n g c gm cm A C ⟨z,s.qs,s.ps,s.op,st⟩ := ⟨h.mem.sq,h.mem.pl,h.mem.ne,h.ftl,h.nx,h.bx⟩
theorem row_frame {B D : Nat} {L : List Nat} {w w' : World} {e n : Nat} {v : Value} {xs : List Value} (h : w.ownsRow D e 1 v n xs) (hf : Frame B L w w') (h1 : e ≠ 9) (h2 : e ≠ 98) (hL : ∀ k,k ∈ L -> v.ownBlock ≠ some k) : w'.ownsRow D e 1 v n xs := by
 obtain ⟨k1,k2 | ⟨p,c,cs,e',hp,hb,hr⟩⟩ := h
 ·exact ⟨k1,.inl k2⟩
 ·refine ⟨k1,.inr ⟨p,c,cs,e',hp,hf.other p _ _ _ (fun hm => hL p hm (by rw [e']; rfl)) h1 h2 hb,hr⟩⟩
theorem pl_two {B : Nat} {w : World} {gm cm I : Nat} {ps : List Pl} (h : PlOwn B w (.slice (some ⟨gm,0,none⟩) ps.length cm) ps) (hI : I < ps.length) : w.cell? ⟨gm,I * 2,none⟩ = some (.int .i64 (plAt ps I).1) ∧ w.cell? ⟨gm,I * 2 + 1,none⟩ = some (.int .i64 (plAt ps I).2) := by
 rw [World.ownsRow.cellAt h (I * 2) (by omega),World.ownsRow.cellAt h (I * 2 + 1) (by omega),plL_at ps (by omega),plL_at ps (by omega),show I * 2 = 2 * I by omega,cellP0,cellP1]
 exact ⟨rfl,rfl⟩
set_option maxHeartbeats 8000000 in
theorem specScrubbed_any (z : Int) (a : Option Addr) (n cap : Nat) (qs : List Sq) (am : Option Addr) (m cm : Nat) (ps : List Pl) (op st : Int) (w : World) {lo hi lo' hi' : Nat} (h : Squares lo hi w a n qs) (hhi : hi <= w.heap.size) (hn : n <= 1048576) (hf : ∀ x ∈ qs,sqFits x) (hp : Places lo' hi' w am m ps) (hhi' : hi' <= w.heap.size) (hm : m <= 1048576) :
  Calls Tryz.prog 32 #[.agg #[.int .i64 z,.slice a n cap,.slice am m cm,.int .i64 op,.int .i64 st]] w fun e w' => ∃ v,e = .returned (.tuple #[v,.bool (scrubB ⟨z,qs,ps,op,st⟩)]) ∧ FtlAns w (scrubF ⟨z,qs,ps,op,st⟩) v w' := by
 obtain ⟨F,hF⟩ : ∃ F : Fv,F = ⟨z,qs,ps,op,st⟩ := ⟨_,rfl⟩
 have HFF := hide hF
 rw [<- hF]
 have HOF : Hid (okF F = ftlOk z qs ps op st) := by rw [hF]; rfl
 have HRV : Hid (rotF z qs ps op st = rotV F) := by rw [hF]; rfl
 have HFP : Hid (F.ps = ps ∧ F.qs = qs ∧ F.z = z) := by rw [hF]; exact ⟨rfl,rfl,rfl⟩
 clear hF
 obtain ⟨sb,hsb⟩ : ∃ x,x = scrubB F := ⟨_,rfl⟩
 obtain ⟨fv,hfv⟩ : ∃ x,x = scrubF F := ⟨_,rfl⟩
 have HSB := hide hsb
 have HFV := hide hfv
 rw [<- hsb,<- hfv]
 clear hsb hfv
 obtain ⟨wA,hwA⟩ : ∃ wA,wA = (w.alloc (.cells #[.int .i64 z,.slice a n cap,.slice am m cm,.int .i64 op,.int .i64 st] 29)).alloc (.cells #[.int .i64 0,.slice none 0 0,.slice none 0 0,.int .i64 0,.int .i64 0] 29) := ⟨_,rfl⟩
 have hzA : wA.heap.size = w.heap.size + 1 + 1 := by rw [hwA]; simp
 have HBA : Hid (Below w.heap.size w wA) := by rw [hwA]; exact ((Below.refl _ _).alloc (Nat.le_refl _) _).alloc (by simp) _
 have H0 : Hid (wA.heap[w.heap.size]? = some (.cells #[.int .i64 z,.slice a n cap,.slice am m cm,.int .i64 op,.int .i64 st] 29)) := by rw [hwA]; exact heap_old (heap_new _ _)
 have H2 : Hid (wA.heap[w.heap.size + 1]? = some (.cells #[.int .i64 0,.slice none 0 0,.slice none 0 0,.int .i64 0,.int .i64 0] 29)) := by rw [hwA]; exact heap_at (by simp)
 have HSQ := hide (h.later HBA.out hhi)
 have HPL := hide (hp.later HBA.out hhi')
 have HL := hide h.1
 have HLP := hide hp.1
 have HF := hide hf
 clear h hf hp
 obtain ⟨c0,c1,c2,c3,c4⟩ := five_cells H0.out
 go_enter Tryz.func32,Tryz.ntmps32
 go_wp2_with fail
 rw [<- hwA]
 clear hwA
 refine (specFtlOk_any z a n cap qs am m cm ps op st wA HSQ.out (by omega) hn HF.out HPL.out (by omega) hm).mono ?_
 rintro e w1 ⟨rfl,b1⟩
 have K0 := hide (block_on H0.out b1)
 have K2 := hide (block_on H2.out b1)
 have HS1 := hide (HSQ.out.later b1 (by omega))
 have HP1 := hide (HPL.out.later b1 (by omega))
 have HB1 := hide (below_here HBA.out b1)
 have hs1 := b1.size
 clear b1 H0 H2 HSQ HPL HBA c0 c1 c2 c3 c4
 cases hok : ftlOk z qs ps op st with
 | false =>
  have HE : Hid (sb = false) := by show _ = _; rw [HSB.out]; unfold scrubB; rw [HOF.out,hok]; rfl
  have HFE : Hid (fv = ⟨0,[],[],0,0⟩) := by show _ = _; rw [HFV.out]; unfold scrubF; rw [HOF.out,hok]; rfl
  obtain ⟨p0,p1,p2,p3,p4⟩ := five_cells K2.out
  have f0 := four_frozen K2.out 0
  have f1 := four_frozen K2.out 1
  have f2 := four_frozen K2.out 2
  have f3 := four_frozen K2.out 3
  have f4 := four_frozen K2.out 4
  have HRS := hide (five_set K2.out (.int .i64 0) (.slice none 0 0) (.slice none 0 0) (.int .i64 0) (.int .i64 0))
  have HAS := hide (five_aside (b := w.heap.size + 1) (Aside.refl (w.heap.size + 1) (w.heap.size + 1 + 1) w1) (Nat.le_refl _) (Nat.lt_succ_self _) (.int .i64 0) (.slice none 0 0) (.slice none 0 0) (.int .i64 0) (.int .i64 0))
  have HBF := hide (HB1.out.trans (HAS.out.below (B := w.heap.size) (by omega) (by omega)))
  go_wp2_with fail
  refine bodyPost_ret (results_ct rfl rfl (run_loadVar_row _ _ _ _ _ _ _ HRS.out Tryz.underlying29 rfl (by kernel_rfl))) rfl ⟨.agg #[.int .i64 0,.slice none 0 0,.slice none 0 0,.int .i64 0,.int .i64 0],by rw [HE.out]; rfl,none,0,none,0,by rw [HFE.out]; rfl,⟨Nat.le_refl _,.inl ?_⟩,HBF.out,by rw [HFE.out]; exact Nat.le_refl _⟩
  rw [HFE.out]; exact ⟨rfl,rfl⟩
 | true =>
  have HOK : Hid (okF F = true) := by show _ = _; rw [HOF.out]; exact hok
  have HRL := hide (rotL_of HOK.out)
  have HSI : Hid (∀ k g,k <= (rotV F).length -> scrubK F (rotV F) k = some g -> ScrubI F (rotV F) k g) := fun k g h1 h2 => scrubI_of HOK.out h1 h2
  obtain ⟨hmo,_,_,hst0,hst1,_,_⟩ := ftlOk_parts hok
  have hm64 : m <= 64 := by have := (mapOk_len hmo).2; rw [HLP.out] at this; exact this
  have hm1 : 1 <= m := by have := (mapOk_len hmo).1; rw [HLP.out] at this; exact this
  have HCK := hide (mapOk_chip hmo)
  have hrl := rotF_len z qs ps op st
  clear hok hmo
  obtain ⟨c0,c1,c2,c3,c4⟩ := five_cells K0.out
  go_wp2_with fail
  refine (l10Copy_any z a n cap qs am m cm ps op st w1 HS1.out (by omega) HCK.out HP1.out (by omega) hm1 hm64).mono ?_
  rintro e w2 ⟨g,c,gm,cm',A,C,rfl,hG,hP,hgm,b2⟩
  obtain ⟨wX,hwX⟩ : ∃ wX,wX = w2.alloc (.cells #[.int .i64 z,.slice (some ⟨g,0,none⟩) n c,.slice (some ⟨gm,0,none⟩) m cm',.int .i64 op,.int .i64 st] 29) := ⟨_,rfl⟩
  have hzX : wX.heap.size = w2.heap.size + 1 := by rw [hwX]; simp
  have HBX : Hid (Below w2.heap.size w2 wX) := by rw [hwX]; exact (Below.refl _ _).alloc (Nat.le_refl _) _
  have HX : Hid (wX.heap[w2.heap.size]? = some (.cells #[.int .i64 z,.slice (some ⟨g,0,none⟩) n c,.slice (some ⟨gm,0,none⟩) m cm',.int .i64 op,.int .i64 st] 29)) := by rw [hwX]; exact heap_new _ _
  have hs2 := b2.size
  have hg1 := hG.atG
  have hg2 : g < w2.heap.size := by have := hG.row.1; omega
  have hgm2 : gm < w2.heap.size := (World.ownsRow.lt hP gm rfl).2
  have HXA : Hid (XAt w1.heap.size wX w2.heap.size n g c gm cm' A C F) := by
   rw [HFF.out]
   exact ⟨hG.later HBX.out,own_keepBy hP (grown_below HBX.out none) (fun k e => by cases e),hgm,by dsimp only; rw [HLP.out]; exact HX.out,by omega,by omega⟩
  have K02 := hide (block_on (block_on K0.out b2) HBX.out)
  have K22 := hide (block_on (block_on K2.out b2) HBX.out)
  have HS2 := hide ((HS1.out.later b2 (by omega)).later HBX.out (by omega))
  have HP2 := hide ((HP1.out.later b2 (by omega)).later HBX.out (by omega))
  have HB2 := hide (below_here (below_here HB1.out b2) HBX.out)
  clear hG hP b2 HX K0 K2 HS1 HP1 HB1 c0 c1 c2 c3 c4
  go_upto_region 4 with fail
  rw [<- hwX]
  clear hwX
  obtain ⟨c0,c1,c2,c3,c4⟩ := five_cells K02.out
  go_wp2_with fail
  refine (specRotten_any z a n cap qs am m cm ps op st wX HS2.out (by omega) hn HF.out HP2.out (by omega) hm).mono ?_
  rintro e w3 ⟨al,cl,rfl,hlc,hOL,b3⟩
  rw [HRV.out] at hlc hOL hrl
  rw [HRV.out]
  obtain ⟨l,hl⟩ : ∃ l,l = rotV F := ⟨_,rfl⟩
  rw [<- hl] at hlc hOL hrl HSI HRL
  rw [<- hl]
  have HLV := hide hl
  clear hl
  obtain ⟨L,hL⟩ : ∃ L,L = l.length := ⟨_,rfl⟩
  rw [<- hL] at hlc hOL hrl HSI
  rw [<- hL]
  have HLL := hide hL
  clear hL
  have HOL := hide hOL
  have HX3 := hide (HXA.out.later b3)
  have K03 := hide (block_on K02.out b3)
  have K23 := hide (block_on K22.out b3)
  have HS3 := hide (HS2.out.later b3 (by omega))
  have HP3 := hide (HP2.out.later b3 (by omega))
  have HB3 := hide (below_here HB2.out b3)
  have hs3 := b3.size
  have HZX := hide hzX
  clear hOL b3 HXA K02 K22 HS2 HP2 HB2 hzX c0 c1 c2 c3 c4
  have hX3 : w2.heap.size < w3.heap.size := by have := HZX.out; omega
  go_wp2_with fail
  go_loopw [6] (fun i wr => ∃ (k : Nat) (gk : Fv) (A : Nat -> Option Addr) (C : Nat -> Nat),k <= L ∧ i = .int .i64 (k : Int) ∧ scrubK F l k = some gk ∧ XAt w1.heap.size wr w2.heap.size n g c gm cm' A C gk ∧ wr.ownsRow wX.heap.size 2 1 (.slice al L cl) L (valN l) ∧ Below w1.heap.size w3 wr) (fun i _ => L - (intOf i).toNat)
  case atStart => exact ⟨0,F,A,C,Nat.zero_le _,rfl,rfl,HX3.out,HOL.out,Below.refl _ _⟩
  case round =>
   obtain ⟨k,gk,A,C,hk,rfl,hsk,hXk,hOk,hbk⟩ := hrel
   have HSK := hide hsk
   have HXK := hide hXk
   have HOK2 := hide hOk
   have HBK := hide hbk
   have hszr := hbk.size
   have HI := hide (HSI.out k gk hk hsk)
   have N0 : Hid (wr.heap[w.heap.size]? = some (.cells #[.int .i64 z,.slice a n cap,.slice am m cm,.int .i64 op,.int .i64 st] 29)) := (hbk.block _ (by omega)).trans K03.out
   have N2 : Hid (wr.heap[w.heap.size + 1]? = some (.cells #[.int .i64 0,.slice none 0 0,.slice none 0 0,.int .i64 0,.int .i64 0] 29)) := (hbk.block _ (by omega)).trans K23.out
   have HBR := hide (HB3.out.trans (hbk.mono (show w.heap.size <= w1.heap.size by omega)))
   clear hsk hXk hOk hbk
   by_cases hlt : k < L
   ·have hkl : k < l.length := by rw [<- HLL.out]; exact hlt
    obtain ⟨I,hI⟩ : ∃ I,I = l.getD k 0 := ⟨_,rfl⟩
    have hIm : I < m := by have := HRL.out.lt k hkl; rw [<- hI,HFP.out.1,HLP.out] at this; exact this
    have hIF : I < F.ps.length := by rw [HFP.out.1,HLP.out]; exact hIm
    have hgl : gk.ps.length = m := by rw [HI.out.pl,HFP.out.1,HLP.out]
    have hql : gk.qs.length = n := HXK.out.sq.len
    obtain ⟨bl,rfl,hbl,hcl⟩ := valN_cell HOK2.out hlt HLL.out
    rw [<- hI] at hcl
    have hblX : wX.heap.size <= bl := (World.ownsRow.lt HOK2.out bl rfl).1
    obtain ⟨m0,m1⟩ := pl_two HXK.out.pl (show I < gk.ps.length by omega)
    obtain ⟨x0,x1,x2,x3,x4⟩ := five_cells HXK.out.ftl
    rw [hgl] at x2
    have HPG : Hid (pgN gk I = pgN F I) := by
     have hr := HRL.out.rot k hkl
     rw [<- hI] at hr
     have hpp := rot_parts HOK.out hIF hr
     refine pg_same HOK.out HI.out.ok HI.out.z HI.out.pl hIF hpp.1 (HI.out.same I hIF (fun j hj => ?_))
     rw [hI]
     exact HRL.out.apart j k hj hkl
    have HST : Hid (scrubK F l (k + 1) = entS gk (pgN F I).1 (pgN F I).2.1 (pgN F I).2.2.2.1) := by
     show _ = _
     unfold scrubK
     rw [HSK.out,hI]
     rfl
    clear hI
    have hgz : gk.z = z := by rw [HI.out.z,HFP.out.2.2]
    have HCG : Hid (chipOk z gk.qs = true) := by rw [<- hgz]; exact mapOk_chip (ftlOk_map HI.out.ok)
    have HKO := hide (kok_of (show ftlOk gk.z gk.qs gk.ps gk.op gk.st = true from HI.out.ok) [])
    have hgst : 0 <= gk.st ∧ gk.st <= 1000000 := ⟨(ftlOk_parts HI.out.ok).2.2.2.1,(ftlOk_parts HI.out.ok).2.2.2.2.1⟩
    obtain ⟨y,hy⟩ : ∃ y,y = plAt gk.ps I := ⟨_,rfl⟩
    have HPY : Hid (pgN F I = pgOf z gk.qs y) := by show _ = _; rw [<- HPG.out,hy,<- hgz]; rfl
    rw [<- hy] at m0 m1
    clear hy HPG
    obtain ⟨p,q⟩ := y
    dsimp only at m0 m1
    obtain ⟨r,hr⟩ : ∃ r,r = pgN F I := ⟨_,rfl⟩
    rw [<- hr] at HST HPY
    have hgs : (FtlOwn w1.heap.size wr.heap.size wr (some ⟨g,0,none⟩) (some ⟨gm,0,none⟩) gk.qs gk.ps) := HXK.out.own
    have HSG := hide hgs.squares
    rw [hql] at HSG
    have HCL : ∀ w',Hid (Below wr.heap.size wr w' -> Calls Tryz.prog 70 #[.agg #[.int .i64 z,.slice (some ⟨g,0,none⟩) n c],.agg #[.int .i64 p,.int .i64 q]] w' fun e w'' => e = .returned (lyV r) ∧ Below w'.heap.size w' w'') := fun w' hb' => by
     rw [HPY.out]
     have hs' := hb'.size
     exact l10Page_any z (some ⟨g,0,none⟩) n c gk.qs p q w' (HSG.out.later hb' (Nat.le_refl _)) hs' hn (chipOk_fits HCG.out) HCG.out
    clear hr hgs HPY
    obtain ⟨r0,r1,r2,r3,r4⟩ := r
    unfold lyV at HCL
    dsimp only at HCL HST
    rw [hgz] at x0
    have hpx : w2.heap.size < wr.heap.size := by omega
    have hgmr : gm < wr.heap.size := by omega
    have HK : ∀ w',Hid (Below wr.heap.size wr w' -> w'.cell? ⟨w2.heap.size,0,none⟩ = some (.int .i64 z) ∧ w'.cell? ⟨w2.heap.size,1,none⟩ = some (.slice (some ⟨g,0,none⟩) n c) ∧ w'.cell? ⟨w2.heap.size,2,none⟩ = some (.slice (some ⟨gm,0,none⟩) m cm') ∧ w'.cell? ⟨bl,k,none⟩ = some (.int .i64 (I : Int)) ∧ w'.cell? ⟨gm,I * 2,none⟩ = some (.int .i64 p) ∧ w'.cell? ⟨gm,I * 2 + 1,none⟩ = some (.int .i64 q)) := fun w' hb' => ⟨(hb'.cell (p := ⟨_,_,none⟩) hpx).trans x0,(hb'.cell (p := ⟨_,_,none⟩) hpx).trans x1,(hb'.cell (p := ⟨_,_,none⟩) hpx).trans x2,(hb'.cell (p := ⟨_,_,none⟩) hbl).trans hcl,(hb'.cell (p := ⟨_,_,none⟩) hgmr).trans m0,(hb'.cell (p := ⟨_,_,none⟩) hgmr).trans m1⟩
    have hkL : (k : Int) < (L : Int) := by omega
    have hImI : (I : Int) < (m : Int) := by omega
    go_upto_region 8 with fail
    go_cut [7] (fun v wx => ∃ gp,v = .pointer (some ⟨gp,0,none⟩) ∧ wx.heap[gp]? = some (.cells #[.int .i64 r0,.int .i64 r1,.int .i64 r2,.string r3] 31) ∧ Below wr.heap.size wr wx)
    case first =>
     have HB0 : Hid (Below wr.heap.size wr wr.drew) := (Below.refl wr.heap.size wr).drew
     have HBa : Hid (Below wr.heap.size wr (wr.alloc (.cells #[.int .i64 0,.int .i64 0,.int .i64 0,.string ⟨#[]⟩] 31)).drew) := ((Below.refl wr.heap.size wr).alloc (Nat.le_refl _) _).drew
     have HEa : Hid ((wr.alloc (.cells #[.int .i64 0,.int .i64 0,.int .i64 0,.string ⟨#[]⟩] 31)).drew.heap[wr.heap.size]? = some (.cells #[.int .i64 0,.int .i64 0,.int .i64 0,.string ⟨#[]⟩] 31)) := heap_new wr _
     go_region_held3 (fun w' => w'.cell? ⟨w2.heap.size,0,none⟩ = some (.int .i64 z) ∧ w'.cell? ⟨w2.heap.size,1,none⟩ = some (.slice (some ⟨g,0,none⟩) n c) ∧ w'.cell? ⟨w2.heap.size,2,none⟩ = some (.slice (some ⟨gm,0,none⟩) m cm') ∧ w'.cell? ⟨bl,k,none⟩ = some (.int .i64 (I : Int)) ∧ w'.cell? ⟨gm,I * 2,none⟩ = some (.int .i64 p) ∧ w'.cell? ⟨gm,I * 2 + 1,none⟩ = some (.int .i64 q))
      (first | exact (HK _).out HB0.out | exact (HK _).out HBa.out | exact (HK _).out HB5.out | exact (HK _).out HBS.out | exact (HK _).out HB6.out | exact ⟨x0,x1,x2,hcl,m0,m1⟩ | fail)
      (first
       | (go_at_call 70; refine ((HCL _).out HB0.out).mono ?_; rintro e w5 ⟨rfl,b5⟩; have HB5 := hide (below_here HB0.out b5); have hs5 := b5.size; have HB6 := hide (HB5.out.alloc HB5.out.size (.cells #[.int .i64 0,.int .i64 0,.int .i64 0,.string ⟨#[]⟩] 31)); have HBS := hide (HB5.out.alloc HB5.out.size (.cells #[.int .i64 r0,.int .i64 r1,.int .i64 r2,.string r3] 31)); have HRS := hide (heap_new w5 (.cells #[.int .i64 r0,.int .i64 r1,.int .i64 r2,.string r3] 31)))
       | (go_at_call 70; refine ((HCL _).out HBa.out).mono ?_; rintro e w5 ⟨rfl,b5⟩; have HB5 := hide (below_here HBa.out b5); have hs5 := b5.size; have E5 := hide (block_on HEa.out b5); obtain ⟨e0,e1,e2,e3⟩ := four_cells E5.out; have f0 := four_frozen E5.out 0; have f1 := four_frozen E5.out 1; have f2 := four_frozen E5.out 2; have f3 := four_frozen E5.out 3; have HRS := hide (four_set E5.out (.int .i64 r0) (.int .i64 r1) (.int .i64 r2) (.string r3)); have HBS := hide (four_below (b := wr.heap.size) HB5.out (Nat.le_refl _) (.int .i64 r0) (.int .i64 r1) (.int .i64 r2) (.string r3))))
     all_goals
      clear HB0 HBa HEa HK HCL x0 x1 x2 x3 x4 m0 m1 hcl b5 HB5 hs5
      go_wp2_with fail
      go_meet
      exact ⟨_,rfl,HRS.out,HBS.out⟩
    case rest =>
     obtain ⟨gp,rfl,hgp,hb5⟩ := hcut
     obtain ⟨w5,hw5⟩ : ∃ w5,w5 = wc := ⟨_,rfl⟩
     subst hw5
     have HGP := hide hgp
     have HX5 := hide (HXK.out.later hb5)
     have HO5 := hide (own_keepBy HOK2.out (grown_below hb5 none) (fun k e => by cases e))
     have HB5 := hide (HBK.out.trans (hb5.mono (by omega)))
     have M0 := hide (block_on N0.out hb5)
     have M2 := hide (block_on N2.out hb5)
     have hs5 := hb5.size
     clear hgp hb5 HK HCL x0 x1 x2 x3 x4 m0 m1 hcl HXK HOK2 HBK N0 N2 HSG
     obtain ⟨wJ,hwJ⟩ : ∃ wJ,wJ = (w5.alloc (.cells #[] 98)).alloc (.cells #[.slice (some ⟨w5.heap.size,0,none⟩) 0 0] 91) := ⟨_,rfl⟩
     have hzJ : wJ.heap.size = w5.heap.size + 1 + 1 := by rw [hwJ]; simp
     have HBJ : Hid (Below w5.heap.size w5 wJ) := by rw [hwJ]; exact ((Below.refl _ _).alloc (Nat.le_refl _) _).alloc (by simp) _
     have J0 : Hid (wJ.heap[w5.heap.size]? = some (.cells #[] 98)) := by rw [hwJ]; exact heap_old (heap_new _ _)
     have J1 : Hid (wJ.heap[w5.heap.size + 1]? = some (.cells #[.slice (some ⟨w5.heap.size,0,none⟩) 0 0] 91)) := by rw [hwJ]; exact heap_at (by simp)
     have HXJ := hide (HX5.out.later HBJ.out)
     have HOJ := hide (own_keepBy HO5.out (grown_below HBJ.out none) (fun k e => by cases e))
     have HBL := hide (HB5.out.trans (HBJ.out.mono (by omega)))
     have L0 := hide (block_on M0.out HBJ.out)
     have L2 := hide (block_on M2.out HBJ.out)
     have HGJ := hide (block_on HGP.out HBJ.out)
     have HFA : Hid (FtlAt w1.heap.size wJ w2.heap.size (w5.heap.size + 1) z gk.st n g c gm cm' A C (.slice (some ⟨w5.heap.size,0,none⟩) 0 0) ⟨gk.qs,gk.ps,gk.op,[]⟩) :=
      ⟨⟨HXJ.out.sq,HXJ.out.pl,⟨rfl,.inr ⟨w5.heap.size,0,#[],rfl,by omega,J0.out,Nat.le_refl _,Nat.zero_le _,rfl,rfl⟩⟩,hgm,fun e => by simp [Value.ownBlock] at e; omega⟩,by have h9 := HXJ.out.ftl; rw [hgz] at h9; exact h9,J1.out,HXJ.out.nx,by omega,HXJ.out.bx,by omega⟩
     have HZJ := hide hzJ
     clear HX5 HO5 HB5 M0 M2 HGP hzJ
     go_upto_region 10 with fail
     rw [<- hwJ]
     clear hwJ
     obtain ⟨d0,d1,d2,d3⟩ := four_cells HGJ.out
     go_wp2_with fail
     rw [hgz] at HKO
     refine (l10Enter_any w1.heap.size w2.heap.size (w5.heap.size + 1) z gk.st n g c gm cm' A C _ ⟨gk.qs,gk.ps,gk.op,[]⟩ r0 r1 r2 r3 wJ HFA.out (by have := HZJ.out; omega) HKO.out (by show 0 <= _; omega) hgst).mono ?_
     rintro e w6 ⟨rfl,hf6,hk6⟩
     have hs6 := hf6.below.size
     have HB6 := hide (HBL.out.trans hf6.below)
     have HO6 : Hid (w6.ownsRow wX.heap.size 2 1 (.slice (some ⟨bl,0,none⟩) L cl) L (valN l)) := row_frame HOJ.out hf6 (by decide) (by decide) (fun x hx e => by
      have e2 : bl = x := by simpa [Value.ownBlock] using e
      have := HZX.out
      simp only [List.mem_cons,List.not_mem_nil,or_false] at hx
      omega)
     have P0 : Hid (w6.heap[w.heap.size]? = some (.cells #[.int .i64 z,.slice a n cap,.slice am m cm,.int .i64 op,.int .i64 st] 29)) := (hf6.below.block _ (by omega)).trans L0.out
     have P2 : Hid (w6.heap[w.heap.size + 1]? = some (.cells #[.int .i64 0,.slice none 0 0,.slice none 0 0,.int .i64 0,.int .i64 0] 29)) := (hf6.below.block _ (by omega)).trans L2.out
     have HK6 := hide hk6
     have HBW := hide (HB3.out.trans (HB6.out.mono (show w.heap.size <= w1.heap.size by omega)))
     have HS6 := hide (HS3.out.later HB6.out (by omega))
     have HP6 := hide (HP3.out.later HB6.out (by omega))
     clear hf6 hk6 HXJ HOJ HBL L0 L2 HGJ HFA d0 d1 d2 d3
     have HES : Hid (entS gk r0 r1 r3 = (enterK z ⟨gk.qs,gk.ps,gk.op,[]⟩ gk.st r0 r1 r3).map fun s => ⟨z,s.qs,s.ps,s.op,gk.st + 1⟩) := by show _ = _; unfold entS; rw [hgz]
     cases hrr : enterK z ⟨gk.qs,gk.ps,gk.op,[]⟩ gk.st r0 r1 r3 with
     | none =>
      have HNO : Hid (scrubK F l L = none) := scrubK_none (k := k + 1) (by rw [HST.out,HES.out,hrr]; rfl) L (by omega)
      have HE : Hid (sb = false) := by show _ = _; rw [HSB.out]; unfold scrubB; rw [<- HLV.out,<- HLL.out,HNO.out]; simp
      have HFN : Hid (fv = ⟨z,qs,ps,op,st⟩) := by show _ = _; rw [HFV.out]; unfold scrubF; rw [<- HLV.out,<- HLL.out,HNO.out,HOK.out,<- HFF.out]; rfl
      clear hrr HK6
      obtain ⟨c0,c1,c2,c3,c4⟩ := five_cells P0.out
      rw [Option.isSome_none]
      go_wp2_with fail
      refine (l10Copy_any z a n cap qs am m cm ps op st w6 HS6.out (by have := HZJ.out; omega) HCK.out HP6.out (by have := HZJ.out; omega) hm1 hm64).mono ?_
      rintro e w7 ⟨g',c',gm',cm2,A',C',rfl,hG',hP',hgm',b7⟩
      have HO7 := hide (own_of_parts hG' hP' hgm')
      have HCP7 := hide (pl_cap hP')
      have O2 := hide (block_on P2.out b7)
      have HB7 := hide (below_here HBW.out b7)
      have hs7 := b7.size
      clear hG' hP' b7 c0 c1 c2 c3 c4
      obtain ⟨p0,p1,p2,p3,p4⟩ := five_cells O2.out
      have f0 := four_frozen O2.out 0
      have f1 := four_frozen O2.out 1
      have f2 := four_frozen O2.out 2
      have f3 := four_frozen O2.out 3
      have f4 := four_frozen O2.out 4
      have HRS := hide (five_set O2.out (.int .i64 z) (.slice (some ⟨g',0,none⟩) n c') (.slice (some ⟨gm',0,none⟩) m cm2) (.int .i64 op) (.int .i64 st))
      have HAS := hide (five_aside (b := w.heap.size + 1) (Aside.refl (w.heap.size + 1) (w.heap.size + 1 + 1) w7) (Nat.le_refl _) (Nat.lt_succ_self _) (.int .i64 z) (.slice (some ⟨g',0,none⟩) n c') (.slice (some ⟨gm',0,none⟩) m cm2) (.int .i64 op) (.int .i64 st))
      have HBF := hide (HB7.out.trans (HAS.out.below (B := w.heap.size) (by have := HZJ.out; omega) (by have := HZJ.out; omega)))
      go_wp2_with fail
      refine bodyPost_ret (results_ct rfl rfl (run_loadVar_row _ _ _ _ _ _ _ HRS.out Tryz.underlying29 rfl (by kernel_rfl))) rfl ⟨.agg #[.int .i64 z,.slice (some ⟨g',0,none⟩) n c',.slice (some ⟨gm',0,none⟩) m cm2,.int .i64 op,.int .i64 st],by rw [HE.out]; rfl,some ⟨g',0,none⟩,c',some ⟨gm',0,none⟩,cm2,by rw [HFN.out,<- HL.out,<- HLP.out]; rfl,?_,HBF.out,by rw [HFN.out]; exact HCP7.out⟩
      rw [HFN.out]
      exact (HO7.out.aside HAS.out (.inl (by have := HZJ.out; omega))).wide (by have := HZJ.out; omega) HAS.out.size (Nat.le_refl _)
     | some s' =>
      have HNX : Hid (scrubK F l (k + 1) = some ⟨z,s'.qs,s'.ps,s'.op,gk.st + 1⟩) := by show _ = _; rw [HST.out,HES.out,hrr]; rfl
      obtain ⟨A',C',V',hA'⟩ := HK6.out s' hrr
      have HX6 := hide (xat_of hA')
      clear hrr HK6 hA'
      rw [Option.isSome_some]
      go_wp2_with fail
      exact ⟨⟨k + 1,_,A',C',by omega,by go_num,HNX.out,HX6.out,HO6.out,HB6.out⟩,by simp [intOf]; omega⟩
   ·obtain rfl : k = L := by omega
    have HE : Hid (sb = true) := by show _ = _; rw [HSB.out]; unfold scrubB; rw [<- HLV.out,<- HLL.out,HSK.out,HOK.out]; rfl
    have HFN : Hid (fv = gk) := by show _ = _; rw [HFV.out]; unfold scrubF; rw [<- HLV.out,<- HLL.out,HSK.out,HOK.out]; rfl
    have HO4 := hide HXK.out.own
    have HCP4 := hide (pl_cap HXK.out.pl)
    have HLN := hide HXK.out.sq.len
    obtain ⟨c0,c1,c2,c3,c4⟩ := five_cells HXK.out.ftl
    obtain ⟨p0,p1,p2,p3,p4⟩ := five_cells N2.out
    have f0 := four_frozen N2.out 0
    have f1 := four_frozen N2.out 1
    have f2 := four_frozen N2.out 2
    have f3 := four_frozen N2.out 3
    have f4 := four_frozen N2.out 4
    have HRS := hide (five_set N2.out (.int .i64 gk.z) (.slice (some ⟨g,0,none⟩) n c) (.slice (some ⟨gm,0,none⟩) gk.ps.length cm') (.int .i64 gk.op) (.int .i64 gk.st))
    have HAS := hide (five_aside (b := w.heap.size + 1) (Aside.refl (w.heap.size + 1) (w.heap.size + 1 + 1) wr) (Nat.le_refl _) (Nat.lt_succ_self _) (.int .i64 gk.z) (.slice (some ⟨g,0,none⟩) n c) (.slice (some ⟨gm,0,none⟩) gk.ps.length cm') (.int .i64 gk.op) (.int .i64 gk.st))
    have HBF := hide (HBR.out.trans (HAS.out.below (B := w.heap.size) (by omega) (by omega)))
    go_wp2_with fail
    refine bodyPost_ret (results_ct rfl rfl (run_loadVar_row _ _ _ _ _ _ _ HRS.out Tryz.underlying29 rfl (by kernel_rfl))) rfl ⟨.agg #[.int .i64 gk.z,.slice (some ⟨g,0,none⟩) n c,.slice (some ⟨gm,0,none⟩) gk.ps.length cm',.int .i64 gk.op,.int .i64 gk.st],by rw [HE.out]; rfl,some ⟨g,0,none⟩,c,some ⟨gm,0,none⟩,cm',by rw [HFN.out]; unfold fvV; rw [HLN.out],?_,HBF.out,by rw [HFN.out]; exact HCP4.out⟩
    rw [HFN.out]
    exact (HO4.out.aside HAS.out (.inl (by omega))).wide (by omega) HAS.out.size (Nat.le_refl _)
end Go.Proofs.YtgjoepdfhadmcaaGreatDoor
end

