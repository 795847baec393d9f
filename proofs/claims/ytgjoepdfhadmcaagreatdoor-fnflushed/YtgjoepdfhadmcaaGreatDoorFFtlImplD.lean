/- Several texts in one: FtlImplD, FtlImplE, FtlImplF, HeldImpl3, MountFind, MountMap, FindImpl, MountFit, MountInv. -/
import Derived.Test.YtgjoepdfhadmcaaGreatDoorFFtlMath
import Derived.Test.YtgjoepdfhadmcaaGreatDoorFWearImplB
import Derived.Test.YtgjoepdfhadmcaaGreatDoorFQuietTail
import Derived.Deep.RegionWith
import Derived.Deep.DeepCutAuto
import Derived.BigRegion
import Derived.BigQuiet
import Derived.Test.YtgjoepdfhadmcaaGreatDoorFChipCutS
import Derived.Test.YtgjoepdfhadmcaaGreatDoorFCSpecD
import Derived.Deep.RegionHeld3
import Derived.Test.YtgjoepdfhadmcaaGreatDoorFFtlOwnP
import Derived.Maps.OwnSet
import Derived.DeepKeys4
import Derived.Test.YtgjoepdfhadmcaaGreatDoorFChipOwn2
import Derived.Test.YtgjoepdfhadmcaaGreatDoorFPageMath
import Derived.Test.YtgjoepdfhadmcaaGreatDoorFPageBase
import Derived.Test.YtgjoepdfhadmcaaGreatDoorFWeaveSpec
import Derived.Lib.QuietBelow
import Derived.Test.YtgjoepdfhadmcaaGreatDoorFChipGrow
section
namespace Go.Proofs.YtgjoepdfhadmcaaGreatDoor
open Go.RowKit
set_option linter.unusedVariables false
set_option maxRecDepth 20000
theorem Tryz.infoJobI : (Tryz.prog.info? 98).map (fun i => (i.zero,i.size,i.bytes)) = some (some (.agg #[.int .i64 0,.int .i64 0,.string ByteArray.empty]),3,32) := by kernel_rfl
theorem six_cells {W : World} {b : Nat} {c0 c1 c2 c3 c4 c5 : Value} {t : TypeId} {fr : Nat × Nat} (h : W.heap[b]? = some (.cells #[c0,c1,c2,c3,c4,c5] t fr)) :
  W.cell? ⟨b,0,none⟩ = some c0 ∧ W.cell? ⟨b,1,none⟩ = some c1 ∧ W.cell? ⟨b,2,none⟩ = some c2 ∧ W.cell? ⟨b,3,none⟩ = some c3 ∧ W.cell? ⟨b,4,none⟩ = some c4 ∧ W.cell? ⟨b,5,none⟩ = some c5 := by
 simp [World.cell?,h]
def noRoomV (aN : Addr) : Value := .iface 312 (.pointer (some aN))
structure KeeperAt (B : Nat) (w : World) (pk : Nat) (z st : Int) (n g c gm cm : Nat) (A : Nat -> Option Addr) (C : Nat -> Nat) (V : Value) (s : Kp) (aN : Addr) : Prop where
 mem : KpMem B w n g gm cm A C V s
 box : w.heap[pk]? = some (.cells #[.int .i64 z,.slice (some ⟨g,0,none⟩) n c,.slice (some ⟨gm,0,none⟩) s.ps.length cm,.int .i64 s.op,.int .i64 st,V] 161)
 nk : pk ≠ g
 bk : B <= pk
 er : w.cell? ⟨1,0,none⟩ = some (noRoomV aN)
 eb : 1 < B
section
variable {B pk n g c gm cm : Nat} {w w' : World} {z st : Int} {A : Nat -> Option Addr} {C : Nat -> Nat} {V : Value} {s : Kp} {aN : Addr}
theorem KeeperAt.later (h : KeeperAt B w pk z st n g c gm cm A C V s aN) (hb : Below w.heap.size w w') (hB : B <= w.heap.size) : KeeperAt B w' pk z st n g c gm cm A C V s aN :=
 ⟨h.mem.later hb,block_on h.box hb,h.nk,h.bk,(hb.cell (p := ⟨_,_,none⟩) (Nat.lt_of_lt_of_le h.eb hB)).trans h.er,h.eb⟩
theorem KeeperAt.apart (h : KeeperAt B w pk z st n g c gm cm A C V s aN) : gm ≠ pk := by
 obtain ⟨cs,fz,hk⟩ := h.mem.kind
 intro e
 rw [e,h.box] at hk
 simp only [Option.some.injEq,Obj.cells.injEq] at hk
 exact absurd hk.2.1 (by decide)
theorem KeeperAt.bound (h : KeeperAt B w pk z st n g c gm cm A C V s aN) : pk < w.heap.size ∧ g < w.heap.size ∧ gm < w.heap.size ∧ B <= gm ∧ B <= g := by
 obtain ⟨cs,fz,hk⟩ := h.mem.kind
 exact ⟨(Array.getElem?_eq_some_iff.1 h.box).1,by have := h.mem.sq.row.1; omega,(Array.getElem?_eq_some_iff.1 hk).1,(World.ownsRow.lt h.mem.pl gm rfl).1,h.mem.sq.atG⟩
end
theorem KpMem.keepP {B n g gm cm : Nat} {w w' : World} {A : Nat -> Option Addr} {C : Nat -> Nat} {V : Value} {s : Kp} (h : KpMem B w n g gm cm A C V s) {p : Nat} (hg : w.grownBy w' (some p)) (hp : p ≠ g) (hq : p ≠ gm) {cs : Array Value} {T : TypeId} {fr : Nat × Nat} (hT : w.heap[p]? = some (.cells cs T fr)) (h1 : T ≠ 9) (h3 : T ≠ 98) : KpMem B w' n g gm cm A C V s :=
 ⟨h.sq.keep hg (fun e => hp (by simpa using e)) (fun k e => by simp only [Option.some.injEq] at e; subst e; exact ⟨_,_,_,hT,h1⟩),World.ownsRow.kept h.pl hg (.inr (fun e => hq (by have e' : some gm = some p := e; simpa using e'.symm))),own_keepBy h.jb hg (fun k e => by simp only [Option.some.injEq] at e; subst e; exact ⟨_,_,_,hT,h3⟩),h.ne,h.nj⟩
theorem KeeperAt.setP {B pk n g c gm cm : Nat} {w : World} {z st : Int} {A : Nat -> Option Addr} {C : Nat -> Nat} {V : Value} {s : Kp} {aN : Addr} (h : KeeperAt B w pk z st n g c gm cm A C V s aN) {p : Nat} (o : Nat) (v : Value) (hp : p ≠ g) (hq : p ≠ gm) (hk : p ≠ pk) (hB : B <= p) {cs : Array Value} {T : TypeId} {fr : Nat × Nat} (hT : w.heap[p]? = some (.cells cs T fr)) (h1 : T ≠ 9) (h3 : T ≠ 98) : KeeperAt B (w.setCell ⟨p,o,none⟩ v) pk z st n g c gm cm A C V s aN :=
 ⟨h.mem.keepP (grown_set w ⟨p,o,none⟩ v) hp hq hT h1 h3,set_other h.box hk v,h.nk,h.bk,by
  rw [World.cell?_setCell_other _ _ _ _ (by intro e2; simp only [Addr.mk.injEq] at e2; have := h.eb; omega)]
  exact h.er,h.eb⟩
theorem Frame.setNew {B : Nat} {L : List Nat} {w w1 : World} (h : Frame B L w w1) {p : Nat} (hp : w.heap.size <= p) (hB : B <= p) (o : Nat) (v : Value) : Frame B L w (w1.setCell ⟨p,o,none⟩ v) :=
 ⟨h.below.setCell (p := ⟨p,o,none⟩) hB v,fun q cs T fr h1 h2 h3 h4 => set_other (h.other q cs T fr h1 h2 h3 h4) (fun e => by have := (Array.getElem?_eq_some_iff.1 h4).1; omega) v⟩
def IPost (r : Option Kp) (v : Value) (R : (Nat -> Option Addr) -> Prop) (B pk : Nat) (z st : Int) (n g c gm cm : Nat) (aN : Addr) (w : World) (e : Ending) (w' : World) : Prop :=
 Frame B [g,pk,gm] w w' ∧ match r with
  | none => e = .panicked [{ v := noRoomV aN,recovered := false }]
  | some s' => e = .returned v ∧ ∃ A C V,KeeperAt B w' pk z st n g c gm cm A C V s' aN ∧ R A
theorem noted_in {B pk n g c gm cm g' c' : Nat} {w w' : World} {z st kd sq : Int} {tx : ByteArray} {A : Nat -> Option Addr} {C : Nat -> Nat} {aj : Option Addr} {cj : Nat} {s : Kp} {aN : Addr} (hB : B <= w.heap.size) (h : KeeperAt B w pk z st n g c gm cm A C (.slice aj s.js.length cj) s aN)
  (hr : w.grownBy w' (Value.slice aj s.js.length cj).ownBlock) (ho : w'.ownsRow B 98 3 (.slice (some ⟨g',0,none⟩) (s.js.length + 1) c') (s.js.length + 1) (jbL s.js ++ [.int .i64 kd,.int .i64 sq,.string tx]))
  (hat : (Value.slice aj s.js.length cj).ownBlock = some g' ∨ w.heap.size <= g') :
  KeeperAt B (w'.setCell ⟨pk,5,none⟩ (.slice (some ⟨g',0,none⟩) (s.js.length + 1) c')) pk z st n g c gm cm A C (.slice (some ⟨g',0,none⟩) (s.js.length + 1) c') ⟨s.qs,s.ps,s.op,s.js ++ [(kd,sq,tx)]⟩ aN := by
 have hk : ∀ (p : Nat) (cs : Array Value) (T : TypeId) (fr : Nat × Nat),w.heap[p]? = some (.cells cs T fr) -> T ≠ 98 -> w'.heap[p]? = some (.cells cs T fr) := fun p cs T fr h1 h2 => by
  rw [hr.block p (Array.getElem?_eq_some_iff.1 h1).1 (fun e => ?_)]
  ·exact h1
  ·obtain ⟨cs',fz,h3⟩ := Go.Lib.ownsRow_kind h.mem.jb p e.symm
   rw [h1] at h3
   simp only [Option.some.injEq,Obj.cells.injEq] at h3
   exact h2 h3.2.1
 have e : s.js.length + 1 = (s.js ++ [(kd,sq,tx)]).length := by simp
 have ho' : JbOwn B w' (.slice (some ⟨g',0,none⟩) (s.js.length + 1) c') (s.js ++ [(kd,sq,tx)]) := by
  show World.ownsRow _ _ _ _ _ (s.js ++ [(kd,sq,tx)]).length (jbL (s.js ++ [(kd,sq,tx)]))
  rw [<- e,<- jbL_snoc]
  exact ho
 have hm := h.mem.noted (j := (kd,sq,tx)) hr ho' (hat.imp (fun e => e.symm) (fun e => ⟨g',rfl,e⟩))
 have hp' := hk pk _ _ _ h.box (by decide)
 have hne : 1 ≠ pk := by have := h.eb; have := h.bk; omega
 have her : w'.cell? ⟨1,0,none⟩ = some (noRoomV aN) := by
  rw [World.cell?_of_block (w := w) (a := ⟨1,0,none⟩) (hr.block _ (Nat.lt_of_lt_of_le h.eb hB) (fun e2 => ?_))]
  ·exact h.er
  ·have h1 : B <= 1 := (World.ownsRow.lt h.mem.jb _ e2.symm).1
   have h2 := h.eb
   omega
 refine ⟨hm.set _ h.nk hp' (by decide) (by decide) (by decide),set_block hp' 5 _ (by simp),h.nk,h.bk,?_,h.eb⟩
 rw [World.cell?_setCell_other _ _ _ _ (by intro e2; simp only [Addr.mk.injEq] at e2; omega)]
 exact her
set_option maxHeartbeats 3200000 in
theorem do_any (B pk : Nat) (z st : Int) (n g c gm cm : Nat) (A : Nat -> Option Addr) (C : Nat -> Nat) (V : Value) (s : Kp) (aN : Addr) (kd sq : Int) (tx : ByteArray) (w : World) (h : KeeperAt B w pk z st n g c gm cm A C V s aN) (hB : B <= w.heap.size) (hok : chipOk z s.qs = true) (htx : tx.size <= maxLen) (hjs : s.js.length <= 1048576) :
  Calls Tryz.prog 186 #[.pointer (some ⟨pk,0,none⟩),.agg #[.int .i64 kd,.int .i64 sq,.string tx]] w fun e w' => IPost (doK z s (kd,sq,tx)) (.tuple #[]) (fun A' => ∀ j : Nat,(j : Int) ≠ sq -> A' j = A j) B pk z st n g c gm cm aN w e w' := by
 obtain ⟨wA,hwA⟩ : ∃ wA,wA = w.alloc (.cells #[.int .i64 kd,.int .i64 sq,.string tx] 98) := ⟨_,rfl⟩
 have hzA : wA.heap.size = w.heap.size + 1 := by rw [hwA]; simp
 have HBA : Hid (Below w.heap.size w wA) := by rw [hwA]; exact (Below.refl _ _).alloc (Nat.le_refl _) _
 have HJ : Hid (wA.heap[w.heap.size]? = some (.cells #[.int .i64 kd,.int .i64 sq,.string tx] 98)) := by rw [hwA]; exact heap_new _ _
 have HA := hide (h.later HBA.out hB)
 obtain ⟨bd1,bd2,bd3,bd4,bd5⟩ := h.bound
 obtain ⟨aj,cj,rfl,hcj⟩ := jb_form h.mem.jb
 have HDO : Hid (doK z s (kd,sq,tx) = if canJ z s.qs (kd,sq,tx) then some ⟨doJ z s.qs (kd,sq,tx),s.ps,s.op,s.js ++ [(kd,sq,tx)]⟩ else none) := rfl
 have HC : ∀ w9,Hid (Below wA.heap.size wA w9 -> Calls Tryz.prog 125 #[.agg #[.int .i64 z,.slice (some ⟨g,0,none⟩) n c],.agg #[.int .i64 kd,.int .i64 sq,.string tx]] w9 fun e w' => e = .returned (.bool (canJ z s.qs (kd,sq,tx))) ∧ ∃ A' C',GrowSqs B w' n (doJ z s.qs (kd,sq,tx)) g A' C' ∧ Only B g wA w' ∧ ∀ j : Nat,(j : Int) ≠ sq -> A' j = A j) := fun w9 h9 =>
  (alter_at c B z n s.qs g A C kd sq tx w9 ((HA.out.later h9 (by omega)).mem.sq) (by have := h9.size; omega) hok htx).mono (fun e w' hh => ⟨hh.1,by obtain ⟨_,A',C',h2,h3,h4⟩ := hh; exact ⟨A',C',h2,(only_of_below h9 (by omega)).trans h3,h4⟩⟩)
 have HNK := hide h.nk
 have HBK := hide h.bk
 have HEB := hide h.eb
 clear h hok
 obtain ⟨b0,b1,b2⟩ := three_cells HJ.out
 obtain ⟨x0,x1,x2,x3,x4,x5⟩ := six_cells HA.out.box
 go_enter Tryz.func186,Tryz.ntmps186
 go_upto_region 1 with fail
 rw [<- hwA]
 clear hwA
 go_cut [10] (fun d wx => d = .bool (!canJ z s.qs (kd,sq,tx)) ∧ ∃ A' C',GrowSqs B wx n (doJ z s.qs (kd,sq,tx)) g A' C' ∧ Only B g wA wx ∧ ∀ j : Nat,(j : Int) ≠ sq -> A' j = A j)
 case first =>
  go_region_with (go_at_call 125; refine ((HC _).out (by exact (Below.refl _ wA).drew)).mono ?_; rintro e w1 ⟨rfl,A',C',hG1,hO1,hJ1⟩; have HG1 := hide hG1; have HO1 := hide hO1; have HJ9 := hide hJ1; clear hG1 hO1 hJ1)
  all_goals
   go_wp2_with fail
   go_meet
   exact ⟨rfl,_,_,HG1.out,HO1.out,HJ9.out⟩
 case rest =>
  obtain ⟨rfl,A',C',hG1,hO1,hJ1⟩ := hcut
  have HJ9 := hide hJ1
  clear hJ1
  obtain ⟨w1,hw1⟩ : ∃ w1,w1 = wc := ⟨_,rfl⟩
  subst hw1
  have HB1 := hide ((frame_of_below (L := [g,pk,gm]) HBA.out hB).trans (frame_of_only hO1 (by simp)))
  have hs1 := hO1.below.size
  have HX1 := hide (hO1.other pk _ _ _ HNK.out (by decide) HA.out.box)
  have er1 := (hO1.below.cell (p := ⟨1,0,none⟩) HEB.out).trans HA.out.er
  have HM1 : Hid (KeeperAt B w1 pk z st n g c gm cm A' C' (.slice aj s.js.length cj) ⟨doJ z s.qs (kd,sq,tx),s.ps,s.op,s.js⟩ aN) := ⟨HA.out.mem.did hG1 hO1 (by omega),HX1.out,HNK.out,HBK.out,er1,HEB.out⟩
  have HJ1 := hide (hO1.other w.heap.size _ _ _ (by omega) (by decide) HJ.out)
  clear hG1 hO1 HC HA HJ b0 b1 b2 x0 x1 x2 x3 x4 x5
  cases hcan : canJ z s.qs (kd,sq,tx) with
  | false =>
   have HE : Hid (doK z s (kd,sq,tx) = none) := by show _ = _; rw [HDO.out,hcan]; rfl
   unfold noRoomV at er1
   go_wp2_with fail
   refine ⟨rfl,?_⟩
   unfold IPost
   rw [HE.out]
   exact ⟨HB1.out,rfl⟩
  | true =>
   have HE : Hid (doK z s (kd,sq,tx) = some ⟨doJ z s.qs (kd,sq,tx),s.ps,s.op,s.js ++ [(kd,sq,tx)]⟩) := by show _ = _; rw [HDO.out,hcan]; rfl
   clear hcan HDO er1
   obtain ⟨j0,j1,j2⟩ := three_cells HJ1.out
   obtain ⟨x0,x1,x2,x3,x4,p0⟩ := six_cells HX1.out
   clear x0 x1 x2 x3 x4
   obtain ⟨i0,hi0,hzz0,hzz1,hzz2⟩ := info_parts Tryz.infoJobI
   have HBB := hide ((Below.refl w1.heap.size w1).alloc (Nat.le_refl _) (.cells #[.int .i64 kd,.int .i64 sq,.string tx] 98))
   have HMB := hide (HM1.out.later HBB.out (by omega))
   have HOD : Hid (World.ownsRow (w1.alloc (.cells #[.int .i64 kd,.int .i64 sq,.string tx] 98)).drew B 98 3 (.slice aj s.js.length cj) s.js.length (jbL s.js)) := World.ownsRow.drew HMB.out.mem.jb
   have hzB : (w1.alloc (.cells #[.int .i64 kd,.int .i64 sq,.string tx] 98)).heap.size = w1.heap.size + 1 := by simp
   have HZB := hide hzB
   clear hzB
   obtain ⟨y0,y1,y2,y3,y4,p1⟩ := six_cells HMB.out.box
   clear y0 y1 y2 y3 y4
   have f1 := four_frozen HMB.out.box 5
   have HNE : Hid (some pk ≠ (Value.slice aj s.js.length cj).ownBlock) := fun e => by
    obtain ⟨cs,fz,h2⟩ := Go.Lib.ownsRow_kind HMB.out.mem.jb pk e.symm
    rw [HMB.out.box] at h2
    simp only [Option.some.injEq,Obj.cells.injEq] at h2
    exact absurd h2.2.1 (by decide)
   have hpl1 : pk < w1.heap.size := by omega
   go_upto_region 3 with fail
   go_region_law (refine step_append_lies _ (by rfl) _ _ _ (by rfl) B 98 i0 (.agg #[.int .i64 0,.int .i64 0,.string ByteArray.empty]) 3 32 Tryz.underlying91 hi0 hzz0 hzz1 hzz2 rfl (by decide) (.slice aj s.js.length cj) s.js.length (jbL s.js) (by rfl) HOD.out ⟨w1.heap.size,0,none⟩ 1 1 [.int .i64 kd,.int .i64 sq,.string tx] (by rfl) rfl (cell_three_new _ _ _ _ _) (job_one _ _ _) (by omega) (by unfold maxLen; omega) (by omega) (by simp; omega) (w1.heap.size + 1) (by simp) ?_; intro g' c' w5 hown5 hgr5 hat5 hlt5; have c5 := (hgr5.cell_far ⟨pk,5,none⟩ (by simp; omega) HNE.out).trans p1; have f5 := (hgr5.frozen_far ⟨pk,5,none⟩ (by simp; omega) HNE.out).trans f1; have HO5 := hide hown5; have HR5 := hide hgr5; have HA5 := hide hat5; clear hown5 hgr5 hat5)
   all_goals
    have hzB := HZB.out
    have HR6 : Hid ((w1.alloc (.cells #[.int .i64 kd,.int .i64 sq,.string tx] 98)).grownBy w5 (Value.slice aj s.js.length cj).ownBlock) := ⟨HR5.out.os,HR5.out.tape,HR5.out.output,HR5.out.size,fun k hk hne => HR5.out.block k hk hne⟩
    have HF := hide (noted_in (s := ⟨doJ z s.qs (kd,sq,tx),s.ps,s.op,s.js⟩) (by omega) HMB.out HR6.out HO5.out (HA5.out.imp id (fun e => by omega)))
    have HBF := hide (((HB1.out.on HBB.out (by omega)).noted HMB.out.mem.jb HR6.out (by omega)).set (p := pk) (by simp) HBK.out 5 (.slice (some ⟨g',0,none⟩) (s.js.length + 1) c'))
    go_wp2_with fail
    go_end0
    unfold IPost
    rw [HE.out]
    exact ⟨HBF.out,rfl,_,_,_,HF.out,HJ9.out⟩
set_option maxHeartbeats 3200000 in
theorem write_any (B pk : Nat) (z st : Int) (n g c gm cm : Nat) (A : Nat -> Option Addr) (C : Nat -> Nat) (V : Value) (s : Kp) (aN : Addr) (o : Nat) (tx : ByteArray) (w : World) (h : KeeperAt B w pk z st n g c gm cm A C V s aN) (hB : B <= w.heap.size) (hok : chipOk z s.qs = true) (ho : s.op = (o : Int)) (hon : o < n) (htx : tx.size <= maxLen) (hjs : s.js.length <= 1048576) :
  Calls Tryz.prog 152 #[.pointer (some ⟨pk,0,none⟩),.string tx] w fun e w' => IPost (doK z s (1,(o : Int),tx)) (.agg #[.int .i64 (o : Int),.int .i64 ((sqAt s.qs o).1.length : Int)]) (fun A' => ∀ j : Nat,j ≠ o -> A' j = A j) B pk z st n g c gm cm aN w e w' := by
 obtain ⟨wA,hwA⟩ : ∃ wA,wA = w.alloc (.cells #[.int .i64 0,.int .i64 0] 39) := ⟨_,rfl⟩
 have hzA : wA.heap.size = w.heap.size + 1 := by rw [hwA]; simp
 have HBA : Hid (Below w.heap.size w wA) := by rw [hwA]; exact (Below.refl _ _).alloc (Nat.le_refl _) _
 have HR : Hid (wA.heap[w.heap.size]? = some (.cells #[.int .i64 0,.int .i64 0] 39)) := by rw [hwA]; exact heap_new _ _
 have HA := hide (h.later HBA.out hB)
 have hn12 : n <= 12 := by have := (chipOk_parts hok).2.2.2.1; rw [h.mem.sq.len] at this; exact this
 obtain ⟨bd1,bd2,bd3,bd4,bd5⟩ := h.bound
 have HCK := hide hok
 have hol : (sqAt s.qs o).1.length <= 8 := by
  have h1 := (sqOk_parts (chipOk_at hok (show o < s.qs.length by rw [h.mem.sq.len]; exact hon))).1
  have h2 := (chipOk_parts hok).2.1
  omega
 have hoi : (o : Int) < (n : Int) := by omega
 obtain ⟨x0,x1,x2,x3,x4,x5⟩ := six_cells HA.out.box
 obtain ⟨z0,_,_⟩ := HA.out.mem.sq.cells hon
 rw [ho] at x3
 obtain ⟨lo,hlo⟩ : ∃ lo,lo = (sqAt s.qs o).1.length := ⟨_,rfl⟩
 rw [<- hlo] at z0 hol
 rw [<- hlo]
 clear h hok hlo x4 x5
 go_enter Tryz.func152,Tryz.ntmps152
 go_upto_region 1 with fail
 rw [<- hwA]
 clear hwA
 go_cut [5] (fun d wx => ∃ g',d = .pointer (some ⟨g',0,none⟩) ∧ wA.heap.size <= g' ∧ wx.heap[g']? = some (.cells #[.int .i64 (o : Int),.int .i64 (lo : Int)] 39) ∧ Below wA.heap.size wA wx)
 case first =>
  have HBX : Hid (Below wA.heap.size wA (wA.alloc (.cells #[.int .i64 (o : Int),.int .i64 (lo : Int)] 39)).drew) := ((Below.refl wA.heap.size wA).alloc (Nat.le_refl _) _).drew
  have bd1' : pk < wA.heap.size := by omega
  have bd2' : g < wA.heap.size := by omega
  have HZA := hide hzA
  clear hzA
  go_region
  go_wp2_with fail
  go_meet
  exact ⟨_,rfl,Nat.le_refl _,heap_new wA _,HBX.out⟩
 case rest =>
  obtain ⟨tb,rfl,htb,htc,hbw⟩ := hcut
  obtain ⟨w4,hw4⟩ : ∃ w4,w4 = wc := ⟨_,rfl⟩
  subst hw4
  have HTC := hide htc
  have HA4 := hide (HA.out.later hbw (by omega))
  have HF4 := hide (frame_of_below (L := [g,pk,gm]) (below_here HBA.out hbw) hB)
  have HR4 := hide (block_on HR.out hbw)
  have hs4 := hbw.size
  clear htc hbw x0 x1 x2 x3 z0
  obtain ⟨a0,a1,a2,a3,a4,a5⟩ := six_cells HA4.out.box
  rw [ho] at a3
  clear a4 a5
  have HCL : ∀ w',Hid (Below w4.heap.size w4 w' -> Calls Tryz.prog 186 #[.pointer (some ⟨pk,0,none⟩),.agg #[.int .i64 1,.int .i64 (o : Int),.string tx]] w' fun e w'' => IPost (doK z s (1,(o : Int),tx)) (.tuple #[]) (fun A' => ∀ j : Nat,(j : Int) ≠ (o : Int) -> A' j = A j) B pk z st n g c gm cm aN w' e w'') := fun w' hb' =>
   do_any B pk z st n g c gm cm A C V s aN 1 (o : Int) tx w' (HA4.out.later hb' (by omega)) (by have := hb'.size; omega) HCK.out htx hjs
  go_wp2_with fail
  refine ((HCL _).out (Below.refl _ _)).mono ?_
  rintro e w5 ⟨hf5,hk5⟩
  have HF5 := hide (HF4.out.trans hf5)
  have HT5 := hide (hf5.other tb _ _ _ (by simp; omega) (by decide) (by decide) HTC.out)
  have HR5 := hide (hf5.other w.heap.size _ _ _ (by simp; omega) (by decide) (by decide) HR4.out)
  clear hf5 HCL a0 a1 a2 a3
  cases hd : doK z s (1,(o : Int),tx) with
  | none =>
   rw [hd] at hk5
   dsimp only at hk5
   subst hk5
   unfold noRoomV
   go_wp2_with fail
   refine ⟨rfl,?_⟩
   unfold IPost
   rw [hd]
   exact ⟨HF5.out,rfl⟩
  | some s' =>
   rw [hd] at hk5
   dsimp only at hk5
   obtain ⟨rfl,A5,C5,V5,hA5,hJ5⟩ := hk5
   have HJ5 := hide hJ5
   clear hJ5
   have HA5 := hide hA5
   have HD := hide hd
   clear hA5 hd
   obtain ⟨t0,t1⟩ := two_cells HT5.out
   obtain ⟨q0,q1⟩ := two_cells HR5.out
   have f0 := four_frozen HR5.out 0
   have f1 := four_frozen HR5.out 1
   have HRS := hide (two_set HR5.out (.int .i64 (o : Int)) (.int .i64 (lo : Int)))
   have HAS := hide (two_aside (b := w.heap.size) (Aside.refl w.heap.size (w.heap.size + 1) w5) (Nat.le_refl _) (Nat.lt_succ_self _) (.int .i64 (o : Int)) (.int .i64 (lo : Int)))
   have HAF := hide ((HA5.out.setP 0 (.int .i64 (o : Int)) (p := w.heap.size) (by omega) (by omega) (by omega) hB HR5.out (by decide) (by decide)).setP 1 (.int .i64 (lo : Int)) (p := w.heap.size) (by omega) (by omega) (by omega) hB (set_block HR5.out 0 (.int .i64 (o : Int)) (by simp)) (by decide) (by decide))
   have HFF := hide ((HF5.out.setNew (p := w.heap.size) (Nat.le_refl _) hB 0 (.int .i64 (o : Int))).setNew (p := w.heap.size) (Nat.le_refl _) hB 1 (.int .i64 (lo : Int)))
   go_wp2_with fail
   refine bodyPost_ret (results_cell rfl rfl (run_loadVar_row _ _ _ _ _ _ _ HRS.out Tryz.underlying39 rfl (by kernel_rfl))) rfl ?_
   unfold IPost
   rw [HD.out]
   exact ⟨HFF.out,rfl,A5,C5,V5,HAF.out,fun j hj => HJ5.out j (by omega)⟩
end Go.Proofs.YtgjoepdfhadmcaaGreatDoor
end

section
namespace Go.Proofs.YtgjoepdfhadmcaaGreatDoor
open Go.RowKit
set_option linter.unusedVariables false
set_option maxRecDepth 20000
theorem KeeperAt.led {B pk n g c gm cm : Nat} {w : World} {z st : Int} {A : Nat -> Option Addr} {C : Nat -> Nat} {V : Value} {s : Kp} {aN : Addr} (h : KeeperAt B w pk z st n g c gm cm A C V s aN) {i : Nat} (hi : i < s.ps.length) (x : Pl) :
  KeeperAt B ((w.setCell ⟨gm,i * 2,none⟩ (.int .i64 x.1)).setCell ⟨gm,i * 2 + 1,none⟩ (.int .i64 x.2)) pk z st n g c gm cm A C V ⟨s.qs,s.ps.set i x,s.op,s.js⟩ aN := by
 have h1 := h.apart
 have hb := h.bound
 have he := h.eb
 refine ⟨h.mem.led hi x,?_,h.nk,h.bk,?_,h.eb⟩
 ·dsimp only
  rw [List.length_set]
  exact set_other (set_other h.box h1 _) h1 _
 ·rw [World.cell?_setCell_other _ _ _ _ (by intro e2; simp only [Addr.mk.injEq] at e2; omega),World.cell?_setCell_other _ _ _ _ (by intro e2; simp only [Addr.mk.injEq] at e2; omega)]
  exact h.er
theorem putK_in {z : Int} {s : Kp} {i o : Nat} {tx : ByteArray} (ho : s.op = (o : Int)) : putK z s i tx = (doK z s (1,(o : Int),tx)).map fun s' => ⟨s'.qs,s'.ps.set i ((o : Int),((sqAt s.qs o).1.length : Int)),s'.op,s'.js⟩ := by
 unfold putK nextP
 rw [ho,Int.toNat_natCast]
theorem doK_room {z : Int} {s : Kp} {o k : Nat} {tx : ByteArray} (hK : KOk z s) (ho : s.op = (o : Int)) (hon : o < s.qs.length) (hk : (sqAt s.qs o).1.length <= k) (hz : (k : Int) < z) (h1 : 1 <= tx.size) (h2 : tx.size <= 200) : (doK z s (1,(o : Int),tx)).isSome = true := by
 have hb : (sqAt s.qs o).2.2 = false := by
  have := hK.good
  unfold opOk at this
  rw [ho] at this
  simpa using this
 have hc : canJ z s.qs (1,(o : Int),tx) = true := by
  unfold canJ canK txOk inB
  simp only [Int.toNat_natCast,hb]
  simp
  omega
 unfold doK
 rw [if_pos hc]
 rfl
theorem moveP_room {z : Int} {v o : Nat} {s : Kp} (hK : KOk z s) (hv : (v : Int) ≠ s.op) (ho : s.op = (o : Int)) (h0 : (sqAt s.qs o).1.length = 0) : ∀ {k : Nat} {t : Kp},moveP z v s k = some t -> (sqAt t.qs o).1.length <= k
 | 0,t,h => by unfold moveP at h; simp only [Option.some.injEq] at h; subst h; omega
 | k + 1,t,h => by
  unfold moveP at h
  cases hp : moveP z v s k with
  | none => rw [hp] at h; cases h
  | some u =>
   have ih := moveP_room hK hv ho h0 hp
   have hM := moveP_moved hK hv hp
   rw [hp,Option.bind_some] at h
   by_cases hex : ∃ i,i < u.ps.length ∧ plAt u.ps i = ((v : Int),(k : Int))
   ·obtain ⟨i,hi,he⟩ := hex
    rw [moveI_one hM.ok he hi (Nat.le_refl _)] at h
    obtain ⟨o',ho',hl',_,_,_,_,_,rfl⟩ := putK_parts h
    have e : o' = o := by have := hM.op; omega
    subst e
    dsimp only
    rw [sqAt_set _ _ hl',if_pos rfl]
    simp
    omega
   ·rw [moveI_none (fun i hi e => hex ⟨i,hi,e⟩)] at h
    simp only [Option.some.injEq] at h
    subst h
    omega
set_option maxHeartbeats 3200000 in
theorem moveFrom_any (B pk : Nat) (z st : Int) (n g c gm cm : Nat) (A : Nat -> Option Addr) (C : Nat -> Nat) (V : Value) (s : Kp) (aN : Addr) (v : Nat) (w : World) (h : KeeperAt B w pk z st n g c gm cm A C V s aN) (hB : B <= w.heap.size) (hK : KOk z s) (o : Nat) (ho : s.op = (o : Int)) (hv : (v : Int) ≠ s.op) (hvl : v < s.qs.length) (hjs : s.js.length <= 100000) (hemp : (sqAt s.qs o).1.length = 0) :
  Calls Tryz.prog 215 #[.pointer (some ⟨pk,0,none⟩),.int .i64 (v : Int)] w fun e w' => IPost (moveK z v s) (.tuple #[]) (fun _ => True) B pk z st n g c gm cm aN w e w' := by
 have hL : (sqAt s.qs v).1.length <= 8 := by
  have h1 := (sqOk_parts (chipOk_at hK.map.chip hvl)).1
  have h2 := (chipOk_parts hK.map.chip).2.1
  omega
 have hm64 := hK.map.few
 have hnl := h.mem.sq.len
 have hn12 : n <= 12 := by have := (chipOk_parts hK.map.chip).2.2.2.1; omega
 have hvn : v < n := by omega
 have hvi : (v : Int) < (n : Int) := by omega
 have hon : o < n := by have := hK.hi; omega
 obtain ⟨L,hLe⟩ : ∃ L,L = (sqAt s.qs v).1.length := ⟨_,rfl⟩
 obtain ⟨m,hme⟩ : ∃ m,m = s.ps.length := ⟨_,rfl⟩
 have HLE := hide hLe
 have HME := hide hme
 obtain ⟨x0,x1,x2,x3,x4,x5⟩ := six_cells h.box
 obtain ⟨y0,_,_⟩ := h.mem.sq.cells hvn
 rw [<- hLe] at hL y0
 rw [<- hme] at hm64
 obtain ⟨av,hav⟩ : ∃ av,av = A v := ⟨_,rfl⟩
 obtain ⟨cv,hcv⟩ : ∃ cv,cv = C v := ⟨_,rfl⟩
 rw [<- hav,<- hcv] at y0
 have HAV : Hid (A v = av) := hav.symm
 have HK := hide hK
 have H0 := hide h
 have HO := hide ho
 have HV := hide hv
 clear h hK ho hv hLe hme hav hcv
 go_enter Tryz.func215,Tryz.ntmps215
 go_wp2_with fail
 go_loopw [17] (fun i wr => ∃ (k : Nat) (t : Kp) (A : Nat -> Option Addr) (C : Nat -> Nat) (V : Value),k <= L ∧ i = .int .i64 (k : Int) ∧ moveP z v s k = some t ∧ KeeperAt B wr pk z st n g c gm cm A C V t aN ∧ A v = av ∧ Frame B [g,pk,gm] w wr) (fun i _ => L - (intOf i).toNat)
 case atStart => exact ⟨0,s,A,C,V,Nat.zero_le _,rfl,rfl,H0.out,HAV.out,Frame.refl _ _ _⟩
 case round =>
  obtain ⟨k,t,A',C',V',hk,rfl,hmv,hat,hva,hfr⟩ := hrel
  have hMV := moveP_moved HK.out HV.out hmv
  have hln := (moveP_len hmv).1
  have htm : t.ps.length = m := hMV.places.trans HME.out.symm
  have htq : t.qs.length = n := hMV.squares.trans hnl
  have hsv : sqAt t.qs v = sqAt s.qs v := hMV.other v HV.out
  have hsz := hfr.below.size
  have hop : t.op = (o : Int) := hMV.op.trans HO.out
  have HMV := hide hmv
  have HAT := hide hat
  have HFR := hide hfr
  have HKT := hide hMV.ok
  obtain ⟨bd1,bd2,bd3,bd4,bd5⟩ := hat.bound
  clear x0 x1 x2 x3 x4 x5 y0
  obtain ⟨x0,x1,x2,x3,x4,x5⟩ := six_cells hat.box
  rw [htm] at x2
  by_cases hlt : k < L
  ·have hlt2 : (k : Int) < (L : Int) := by omega
   have hpl : (sqAt t.qs v).1.length = L := by rw [hsv]; exact HLE.out.symm
   have hpo := hat.mem.sq.pages.own v hvn
   rw [hva] at hpo
   obtain ⟨pb,hpb⟩ : ∃ pb,av = some ⟨pb,0,none⟩ := by
    rcases pg_form hpo with ⟨_,e,_⟩ | ⟨pb,e,_⟩
    ·rw [e] at hpl; simp at hpl; omega
    ·exact ⟨pb,e⟩
   subst hpb
   have hck : wr.cell? ⟨pb,k,none⟩ = some (.string (txAt t.qs v k)) := by
    rw [World.ownsRow.cellAt hpo k (by omega)]
    unfold pgV txAt
    rw [List.getElem?_map,List.getD_eq_getElem?_getD,List.getElem?_eq_getElem (by omega)]
    rfl
   have htz0 : 1 <= (txAt t.qs v k).size ∧ (txAt t.qs v k).size <= 200 := by
    have h1 := (sqOk_parts (chipOk_at hMV.ok.map.chip (show v < t.qs.length by omega))).2.2.2
    refine h1 (txAt t.qs v k) ?_
    unfold txAt
    rw [List.getD_eq_getElem?_getD,List.getElem?_eq_getElem (by omega)]
    exact List.getElem_mem _
   have htz1 := htz0.1
   have htz := htz0.2
   clear htz0
   have HTO := hide (moveP_room HK.out HV.out HO.out hemp hmv)
   have hLz : (k : Int) < z := by
    have h1 := (sqOk_parts (chipOk_at hMV.ok.map.chip (show v < t.qs.length by omega))).1
    omega
   have hno : (v : Int) ≠ t.op := by rw [hop,<- HO.out]; exact HV.out
   have HNE : Hid (noneOf t.ps m ((v : Int),(k : Int)) = true -> moveP z v s (k + 1) = some t) := fun hh => by
    rw [moveP_step HMV.out,htm]
    refine moveI_none (fun i hi e => ?_)
    unfold noneOf at hh
    have := List.all_eq_true.1 hh i (List.mem_range.2 hi)
    simp [e] at this
   have HYE : Hid (∀ i,i < m -> plAt t.ps i = ((v : Int),(k : Int)) -> moveP z v s (k + 1) = putK z t i (txAt t.qs v k)) := fun i hi e => by
    rw [moveP_step HMV.out,htm]
    exact moveI_one HKT.out e hi (by omega)
   have HPK := hide (fun i => putK_in (z := z) (i := i) (tx := txAt t.qs v k) hop)
   have HCK := hide hMV.ok.map.chip
   have HVA := hide hva
   have hvo2 : v ≠ o := fun e => hno (by rw [hop,e])
   obtain ⟨tx,htx⟩ : ∃ tx,tx = txAt t.qs v k := ⟨_,rfl⟩
   rw [<- htx] at hck htz htz1 HYE HPK
   have hjt : t.js.length <= 1048576 := by rw [<- HME.out] at hln; have : k * m <= 8 * 64 := Nat.mul_le_mul (by omega) hm64; omega
   have HPL := hide (pl_places hat.mem.pl)
   rw [htm] at HPL
   clear htx hmv hat hfr hpo hva
   go_wp2_with fail
   refine (indexPl_at (some ⟨gm,0,none⟩) m cm t.ps (v : Int) (k : Int) wr HPL.out (by omega)).mono ?_
   rintro e w1 ⟨r,rfl,hr,b1⟩
   have HA1 := hide (HAT.out.later b1 (by omega))
   have HF1 := hide (HFR.out.on b1 (by omega))
   have hs1 := b1.size
   clear b1 x0 x1 x2 x3 x4 x5 hck HPL
   rcases hr with ⟨rfl,hnn⟩ | ⟨i,rfl,him,hie⟩
   ·have HS := hide (HNE.out hnn)
    clear hnn
    go_wp2_with fail
    go_roundw
    case rel => exact ⟨k + 1,t,A',C',V',by omega,by go_num,HS.out,HA1.out,HVA.out,HF1.out⟩
    case measure => simp [intOf]; omega
   ·have HS := hide (HYE.out i him hie)
    have HPI := hide (HPK.out i)
    have g0 : decide ((i : Int) >= 0) = true := by simp
    have him2 : (i : Int) < (m : Int) := by omega
    have HWR : ∀ w',Hid (Below w1.heap.size w1 w' -> Calls Tryz.prog 152 #[.pointer (some ⟨pk,0,none⟩),.string tx] w' fun e w'' => IPost (doK z t (1,(o : Int),tx)) (.agg #[.int .i64 (o : Int),.int .i64 ((sqAt t.qs o).1.length : Int)]) (fun A'' => ∀ j : Nat,j ≠ o -> A'' j = A' j) B pk z st n g c gm cm aN w' e w'') := fun w' hb' =>
     write_any B pk z st n g c gm cm A' C' V' t aN o tx w' (HA1.out.later hb' (by omega)) (by have := hb'.size; omega) HCK.out hop hon (by unfold maxLen; omega) hjt
    obtain ⟨lo,hlo⟩ : ∃ lo,lo = (sqAt t.qs o).1.length := ⟨_,rfl⟩
    rw [<- hlo] at HWR HPI
    obtain ⟨a0,a1,a2,a3,a4,a5⟩ := six_cells HA1.out.box
    rw [htm] at a2
    clear hlo hie HNE HYE HPK a0 a1 a3 a4 a5
    cases hd : doK z t (1,(o : Int),tx) with
    | none =>
     have h9 := doK_room (z := z) (s := t) (o := o) (tx := tx) HKT.out hop (by omega) HTO.out hLz htz1 htz
     rw [hd] at h9
     cases h9
    | some t1 =>
     obtain ⟨h1,h2⟩ := doK_op hd
     have hu1 : t1.ps.length = m := by rw [h2]; exact htm
     have HS1 : Hid (moveP z v s (k + 1) = some ⟨t1.qs,t1.ps.set i ((o : Int),(lo : Int)),t1.op,t1.js⟩) := by show _ = _; rw [HS.out,HPI.out,hd]; rfl
     rw [hd] at HWR
     unfold IPost at HWR
     dsimp only at HWR
     clear hd
     go_upto_region 5 with fail
     go_region_with (go_at_call 152; refine ((HWR _).out (by exact (Below.refl _ w1).drew)).mono ?_; rintro e w5 ⟨hf5,rfl,A5,C5,V5,hA5,hJ5⟩; have HF5 := hide ((HF1.out.on (Below.refl w1.heap.size w1).drew (by omega)).trans hf5); have HA5 := hide hA5; have HJ5 := hide ((hJ5 v hvo2).trans HVA.out); obtain ⟨p0,p1,f0,f1⟩ := hA5.mem.cells (i := i) (by omega); obtain ⟨e0,e1,e2,e3,e4,e5⟩ := six_cells hA5.box; rw [hu1] at e2; clear hf5 hA5 hJ5 e0 e1 e3 e4 e5)
     all_goals
      have HL := hide (HA5.out.led (i := i) (by omega) ((o : Int),(lo : Int)))
      have HFL := hide ((HF5.out.set (p := gm) (by simp) bd4 (i * 2) (.int .i64 (o : Int))).set (p := gm) (by simp) bd4 (i * 2 + 1) (.int .i64 (lo : Int)))
      go_wp2_with fail
      go_roundw
      case rel => exact ⟨k + 1,_,A5,C5,V5,by omega,by go_num,HS1.out,HL.out,HJ5.out,HFL.out⟩
      case measure => simp [intOf]; omega
  ·obtain rfl : k = L := by omega
   have HE : Hid (moveK z v s = some t) := by show moveP z v s _ = _; rw [<- HLE.out]; exact hmv
   clear hmv hat hfr
   go_wp2_with fail
   go_end0
   unfold IPost
   rw [HE.out]
   exact ⟨HFR.out,rfl,A',C',V',HAT.out,trivial⟩
end Go.Proofs.YtgjoepdfhadmcaaGreatDoor
end

section
namespace Go.Proofs.YtgjoepdfhadmcaaGreatDoor
open Go.RowKit
set_option linter.unusedVariables false
set_option maxRecDepth 20000
theorem victimV_neg {z : Int} {qs : List Sq} {ps : List Pl} {op : Int} (h : victimV z qs ps op < 0) : victimV z qs ps op = -1 := by
 unfold victimV at h ⊢
 split
 ·rfl
 ·rename_i b hb
  rw [hb] at h
  dsimp only at h
  split
  ·rfl
  ·rename_i h2
   rw [if_neg h2] at h
   omega
theorem KeeperAt.opened {B pk n g c gm cm : Nat} {w : World} {z st : Int} {A : Nat -> Option Addr} {C : Nat -> Nat} {V : Value} {s : Kp} {aN : Addr} (h : KeeperAt B w pk z st n g c gm cm A C V s aN) (o : Int) :
  KeeperAt B (w.setCell ⟨pk,3,none⟩ (.int .i64 o)) pk z st n g c gm cm A C V (withOp s o) aN := by
 have hm := h.mem.set (o := 3) (.int .i64 o) h.nk h.box (by decide) (by decide) (by decide)
 refine ⟨⟨hm.sq,hm.pl,hm.jb,hm.ne,hm.nj⟩,set_block h.box 3 _ (by simp),h.nk,h.bk,?_,h.eb⟩
 rw [World.cell?_setCell_other _ _ _ _ (by intro e2; simp only [Addr.mk.injEq] at e2; have := h.eb; have := h.bk; omega)]
 exact h.er
theorem first_int {w : World} {lo hi n : Nat} {a : Option Addr} {l : List Nat} (h : OwnInts lo hi w a n (l.map (fun (i : Nat) => (i : Int)))) : l.length = n ∧ (0 < n -> ∃ ge off,a = some ⟨ge,off,none⟩ ∧ ge < w.heap.size ∧ w.cell? ⟨ge,off,none⟩ = some (.int .i64 ((l.getD 0 0 : Nat) : Int))) := by
 obtain ⟨h1,h2,h3⟩ := h
 rw [List.length_map] at h1
 refine ⟨h1,fun h0 => ?_⟩
 obtain ⟨b,off,e,_,hb,hc⟩ := h3 h0
 refine ⟨b,off,e,by omega,?_⟩
 have := (hc 0 h0).1
 rw [Nat.add_zero] at this
 rw [this]
 unfold cellI
 have h0' : 0 < l.length := by omega
 simp [List.getD_eq_getElem?_getD,List.getElem?_eq_getElem h0']
set_option maxHeartbeats 6400000 in
theorem stepToRoom_any (B pk : Nat) (z st : Int) (n g c gm cm : Nat) (A : Nat -> Option Addr) (C : Nat -> Nat) (V : Value) (t : Kp) (aN : Addr) (w1 : World) (h : KeeperAt B w1 pk z st n g c gm cm A C V t aN) (hB : B <= w1.heap.size) (hK : KOk z t) (hjl : t.js.length <= 20000) :
  Calls Tryz.prog 185 #[.pointer (some ⟨pk,0,none⟩)] w1 fun e w' => IPost (stepK z t) (.tuple #[]) (fun _ => True) B pk z st n g c gm cm aN w1 e w' := by
 have hm64 := hK.map.few
 have htq := h.mem.sq.len
 have hn12 : n <= 12 := by have := (chipOk_parts hK.map.chip).2.2.2.1; omega
 obtain ⟨m,hme⟩ : ∃ m,m = t.ps.length := ⟨_,rfl⟩
 have htm : t.ps.length = m := hme.symm
 rw [<- hme] at hm64
 have hmc : m <= cm := by
  obtain ⟨a9,c9,e9,h9⟩ := pl_form h.mem.pl
  simp only [Value.slice.injEq,true_and] at e9
  rw [htm,<- e9.2] at h9
  exact h9
 obtain ⟨bd1,bd2,bd3,bd4,bd5⟩ := h.bound
 have HKT := hide hK
 have HA1 := hide h
 have HVN := hide (fun hh => victimV_neg (z := z) (qs := t.qs) (ps := t.ps) (op := t.op) hh)
 clear h hK hme
 obtain ⟨x0,x1,x2,x3,x4,x5⟩ := six_cells HA1.out.box
 go_enter Tryz.func185,Tryz.ntmps185
 go_wp2_with fail
 refine (implEmpty_any z (some ⟨g,0,none⟩) n c t.qs w1 HA1.out.mem.sq.ownS.squares (Nat.le_refl _) (by omega) (chipOk_fits HKT.out.map.chip)).mono ?_
 rintro e w2 ⟨ea,E,ec,rfl,_,hel,hev,b2⟩
 have hev2 : OwnInts w1.heap.size w2.heap.size w2 ea E ((emptyK t.qs t.qs.length).map (fun (i : Nat) => (i : Int))) := by
  have e9 : emptyL z t.qs = (emptyK t.qs t.qs.length).map (fun (i : Nat) => (i : Int)) := by unfold emptyL; rw [HKT.out.map.chip]; rfl
  rw [<- e9]; exact hev
 have HA2 := hide (HA1.out.later b2 hB)
 have HF2 := hide (frame_of_below (L := [g,pk,gm]) b2 hB)
 have hs2 := b2.size
 obtain ⟨hE,hfst⟩ := first_int hev2
 have HFS := hide hfst
 have HEF := hide (fun hh => empty_first (qs := t.qs) hh)
 obtain ⟨e0,he0⟩ : ∃ e0,e0 = (emptyK t.qs t.qs.length).getD 0 0 := ⟨_,rfl⟩
 rw [<- he0] at HFS
 rw [hE,<- he0] at HEF
 have HE1 : Hid (E = (emptyK t.qs t.qs.length).length) := hE.symm
 have HE0 := hide he0
 clear hE he0 hev hev2 b2 x0 x1 x2 x3 x4 x5 hfst
 obtain ⟨x0,x1,x2,x3,x4,x5⟩ := six_cells HA2.out.box
 have fz := four_frozen HA2.out.box 3
 rw [htm] at x2
 by_cases h2 : 2 <= E
 ·obtain ⟨ge,oe,rfl,hgl,hge⟩ := HFS.out (by omega)
  obtain ⟨i1,i2,i3⟩ := HEF.out (by omega)
  have g2 : decide ((E : Int) >= 2) = true := by simp; omega
  have hEi : (0 : Int) < (E : Int) := by omega
  have HOP := hide (HA2.out.opened (e0 : Int))
  have HFO := hide (HF2.out.set (p := pk) (by simp) HA2.out.bk 3 (.int .i64 (e0 : Int)))
  have HST : Hid (stepK z t = some (withOp t (e0 : Int))) := by
   show _ = _
   unfold stepK
   rw [if_pos (by rw [<- HE1.out]; exact h2),<- HE0.out]
  go_wp2_with fail
  go_end0
  unfold IPost
  rw [HST.out]
  exact ⟨HFO.out,rfl,A,C,V,HOP.out,trivial⟩
 ·have g2 : decide ((E : Int) >= 2) = false := by simp; omega
  have HCV : ∀ w',Hid (Below w2.heap.size w2 w' -> Calls Tryz.prog 213 #[.agg #[.int .i64 z,.slice (some ⟨g,0,none⟩) n c],.slice (some ⟨gm,0,none⟩) m cm,.int .i64 t.op] w' fun e w'' => e = .returned (.int .i64 (victimV z t.qs t.ps t.op)) ∧ Below w'.heap.size w' w'') := fun w' hb' => by
   have h9 := HA2.out.later hb' (by omega)
   have hpl := pl_places h9.mem.pl
   rw [htm] at hpl
   have e9 : victim z t.qs t.ps t.op = victimV z t.qs t.ps t.op := by unfold victim; rw [HKT.out.map.ok]; rfl
   rw [<- e9]
   exact implVictim_any z (some ⟨g,0,none⟩) n c t.qs (some ⟨gm,0,none⟩) m cm t.ps t.op w' h9.mem.sq.ownS.squares (Nat.le_refl _) (by omega) (chipOk_fits HKT.out.map.chip) hpl (Nat.le_refl _) (by omega) hmc
  have HVP := hide (fun hh => victim_parts (z := z) (op := t.op) HKT.out.map hh)
  obtain ⟨vv,hvv⟩ : ∃ vv,vv = victimV z t.qs t.ps t.op := ⟨_,rfl⟩
  rw [<- hvv] at HVP HCV HVN
  have HVV := hide hvv
  clear hvv
  go_upto_region 3 with fail
  refine wp_region_quiet_tail 12 (by kernel_rfl) (by kernel_rfl) ?_
  simp only [List.take_succ_cons,List.take_zero,List.drop_succ_cons,List.drop_zero]
  repeat (go_big_quiet_step (fail))
  refine wpQuiet_nil ?_
  rintro _ ⟨nq,rfl⟩
  have HBQ : Hid (Below w2.heap.size w2 (w2.drewN nq)) := ⟨rfl,rfl,rfl,Nat.le_refl _,fun _ _ => rfl⟩
  generalize w2.drewN nq = wq at *
  go_wp2_with fail
  refine ((HCV _).out HBQ.out).mono ?_
  rintro e w3 ⟨rfl,b3⟩
  have HB3 := hide (below_here HBQ.out b3)
  have HA3 := hide (HA2.out.later HB3.out (by omega))
  have HF3 := hide (HF2.out.on HB3.out (by omega))
  have hs3 := HB3.out.size
  clear b3 HCV x0 x1 x2 x3 x4 x5 fz
  obtain ⟨x0,x1,x2,x3,x4,x5⟩ := six_cells HA3.out.box
  rw [htm] at x2
  have er3 := HA3.out.er
  unfold noRoomV at er3
  by_cases hv : vv < 0
  ·have hv1 := HVN.out hv
   subst hv1
   have HE : Hid (stepK z t = none) := by
    show _ = _
    unfold stepK
    rw [if_neg (by rw [<- HE1.out]; exact h2),<- HVV.out,if_pos (by omega)]
   go_wp2_with fail
   refine ⟨rfl,?_⟩
   unfold IPost
   rw [HE.out]
   exact ⟨HF3.out,rfl⟩
  ·obtain ⟨v,hvn,hvl,hvo,hvp,hvb,hvz,_⟩ := HVP.out (by omega)
   subst hvn
   clear HVP hvz HVN
   have hvm : v < n := by omega
   have g3 : ((v : Int) == -1) = false := by simp
   have HV0 : Hid (victimV z t.qs t.ps t.op = (v : Int)) := HVV.out.symm
   have HWL : Hid (ByteArray.empty.size <= maxLen) := Nat.zero_le _
   go_wp2_with fail
   refine (placesIn_any (some ⟨gm,0,none⟩) m cm t.ps (v : Int) w3 (by have h9 := pl_places HA3.out.mem.pl; rw [htm] at h9; exact h9) (by omega)).mono ?_
   rintro e w4 ⟨rfl,b4⟩
   have HB4 := hide (below_here HB3.out b4)
   have HA4 := hide (HA3.out.later b4 (by omega))
   have HF4 := hide (HF3.out.on b4 (by omega))
   have hs4 := b4.size
   clear b4 x0 x1 x2 x3 x4 x5 er3
   obtain ⟨x0,x1,x2,x3,x4,x5⟩ := six_cells HA4.out.box
   rw [htm] at x2
   have er4 := HA4.out.er
   unfold noRoomV at er4
   have hll := liveN_le t.ps (v : Int)
   rw [htm] at hll
   have HSW := hide (fun hh => stepK_wipe (z := z) (s := t) (v := v) (by rw [<- HE1.out]; exact h2) HV0.out hh)
   have HSS := hide (fun hh hh' => stepK_stuck (z := z) (s := t) (v := v) hh HV0.out hh')
   have HSM := hide (fun hh hh' => stepK_move (z := z) (s := t) (v := v) (by rw [<- HE1.out]; exact h2) hh HV0.out hh')
   rw [<- HE1.out] at HSS HSM
   rw [<- HE0.out] at HSM
   obtain ⟨lv,hlv⟩ : ∃ lv,lv = liveN t.ps (v : Int) := ⟨_,rfl⟩
   rw [<- hlv] at hll HSW HSS HSM
   rw [<- hlv]
   clear hlv
   by_cases hl0 : lv = 0
   ·have HS0 := hide (HSW.out hl0)
    subst hl0
    simp only [show ((0 : Nat) : Int) = 0 from rfl]
    go_wp2_with fail
    refine (do_any B pk z st n g c gm cm A C V t aN 2 (v : Int) ByteArray.empty w4 HA4.out (by omega) HKT.out.map.chip HWL.out (by omega)).mono ?_
    rintro e w5 ⟨hf5,hk5⟩
    have HF5 := hide (HF4.out.trans hf5)
    clear hf5 x0 x1 x2 x3 x4 x5 er4
    cases hd : doK z t (2,(v : Int),ByteArray.empty) with
    | none =>
     have HE : Hid (stepK z t = none) := HS0.out.trans hd
     rw [hd] at hk5
     dsimp only at hk5
     subst hk5
     unfold noRoomV
     go_wp2_with fail
     refine ⟨rfl,?_⟩
     unfold IPost
     rw [HE.out]
     exact ⟨HF5.out,rfl⟩
    | some t1 =>
     have HE : Hid (stepK z t = some t1) := HS0.out.trans hd
     rw [hd] at hk5
     dsimp only at hk5
     obtain ⟨rfl,A5,C5,V5,hA5,_⟩ := hk5
     have HA5 := hide hA5
     clear hA5 hd
     go_wp2_with fail
     go_end0
     unfold IPost
     rw [HE.out]
     exact ⟨HF5.out,rfl,A5,C5,V5,HA5.out,trivial⟩
   ·have g4 : decide ((lv : Int) > 0) = true := by simp; omega
    by_cases hE0 : E = 0
    ·have HE := hide (HSS.out hE0 (by omega))
     subst hE0
     simp only [show ((0 : Nat) : Int) = 0 from rfl]
     go_wp2_with fail
     refine ⟨rfl,?_⟩
     unfold IPost
     rw [HE.out]
     exact ⟨HF4.out,rfl⟩
    ·have g5 : ((E : Int) == 0) = false := by simpa using (show (E : Int) ≠ 0 by omega)
     obtain ⟨ge,oe,rfl,hgl,hge⟩ := HFS.out (by omega)
     obtain ⟨i1,i2,i3⟩ := HEF.out (by omega)
     have hge4 := (HB4.out.cell (p := ⟨ge,oe,none⟩) hgl).trans hge
     have hEi : (0 : Int) < (E : Int) := by omega
     have HOP := hide (HA4.out.opened (e0 : Int))
     have HKO := hide (withOp_ok HKT.out i1 i3)
     have HFO := hide (HF4.out.set (p := pk) (by simp) HA4.out.bk 3 (.int .i64 (e0 : Int)))
     have fz := four_frozen HA4.out.box 3
     have hvne : v ≠ e0 := fun e => by subst e; omega
     have HSM1 := hide (HSM.out hE0 (by omega))
     obtain ⟨wM,hwM⟩ : ∃ wM,wM = w4.setCell ⟨pk,3,none⟩ (.int .i64 (e0 : Int)) := ⟨_,rfl⟩
     have hsM : wM.heap.size = w4.heap.size := by rw [hwM,Go.Deep.nblk_setCell]
     have HSZ := hide hsM
     rw [<- hwM] at HOP HFO
     clear hge hsM
     go_wp2_with fail
     rw [<- hwM]
     clear hwM x0 x1 x2 x3 x4 x5 fz er4
     refine (moveFrom_any B pk z st n g c gm cm A C V (withOp t (e0 : Int)) aN v wM HOP.out (by rw [HSZ.out]; omega) HKO.out e0 rfl (by show (v : Int) ≠ (e0 : Int); omega) hvl (by show t.js.length <= _; omega) i2).mono ?_
     rintro e w5 ⟨hf5,hk5⟩
     have HF5 := hide (HFO.out.trans hf5)
     have hs5 := hf5.below.size
     rw [HSZ.out] at hs5
     clear hf5
     cases hmv : moveK z v (withOp t (e0 : Int)) with
     | none =>
      have HE : Hid (stepK z t = none) := by show _ = _; rw [HSM1.out,hmv]; rfl
      rw [hmv] at hk5
      dsimp only at hk5
      subst hk5
      unfold noRoomV
      go_wp2_with fail
      refine ⟨rfl,?_⟩
      unfold IPost
      rw [HE.out]
      exact ⟨HF5.out,rfl⟩
     | some t1 =>
      rw [hmv] at hk5
      dsimp only at hk5
      obtain ⟨rfl,A5,C5,V5,hA5,_⟩ := hk5
      have HA5 := hide hA5
      have HS1 : Hid (stepK z t = doK z t1 (2,(v : Int),ByteArray.empty)) := by show _ = _; rw [HSM1.out,hmv]; rfl
      have hM1 := moveP_moved HKO.out (show (v : Int) ≠ (withOp t (e0 : Int)).op by show (v : Int) ≠ (e0 : Int); omega) hmv
      have hln := (moveP_len hmv).1
      have HCK := hide hM1.ok.map.chip
      have hln2 : t1.js.length <= 100000 := by
       have h6 : (sqAt (withOp t (e0 : Int)).qs v).1.length * (withOp t (e0 : Int)).ps.length <= 8 * 64 := by
        refine Nat.mul_le_mul ?_ (by show t.ps.length <= 64; omega)
        have h7 := (sqOk_parts (chipOk_at HKT.out.map.chip hvl)).1
        have h8 := (chipOk_parts HKT.out.map.chip).2.1
        show (sqAt t.qs v).1.length <= 8
        omega
       have h9 : (withOp t (e0 : Int)).js.length = t.js.length := rfl
       rw [h9] at hln
       omega
      clear hA5 hmv hM1 hln
      go_wp2_with fail
      refine (do_any B pk z st n g c gm cm A5 C5 V5 t1 aN 2 (v : Int) ByteArray.empty w5 HA5.out (by omega) HCK.out HWL.out (by omega)).mono ?_
      rintro e w6 ⟨hf6,hk6⟩
      have HF6 := hide (HF5.out.trans hf6)
      clear hf6
      cases hd : doK z t1 (2,(v : Int),ByteArray.empty) with
      | none =>
       have HE : Hid (stepK z t = none) := HS1.out.trans hd
       rw [hd] at hk6
       dsimp only at hk6
       subst hk6
       unfold noRoomV
       go_wp2_with fail
       refine ⟨rfl,?_⟩
       unfold IPost
       rw [HE.out]
       exact ⟨HF6.out,rfl⟩
      | some t2 =>
       have HE : Hid (stepK z t = some t2) := HS1.out.trans hd
       rw [hd] at hk6
       dsimp only at hk6
       obtain ⟨rfl,A6,C6,V6,hA6,_⟩ := hk6
       have HA6 := hide hA6
       clear hA6 hd
       go_wp2_with fail
       go_end0
       unfold IPost
       rw [HE.out]
       exact ⟨HF6.out,rfl,A6,C6,V6,HA6.out,trivial⟩
set_option maxHeartbeats 1600000 in
theorem hasRoom_any (z : Int) (a : Option Addr) (n cap : Nat) (t : Kp) (w : World) {lo hi : Nat} (h : Squares lo hi w a n t.qs) (hhi : hi <= w.heap.size) (hn : n <= 12) (hl8 : ∀ q ∈ t.qs,q.1.length <= 8) (hop : t.op < (n : Int)) :
  Calls Tryz.prog 184 #[.agg #[.int .i64 z,.slice a n cap],.int .i64 t.op] w fun e w' => e = .returned (.bool (roomy z t)) ∧ Below w.heap.size w w' := by
 obtain ⟨wA,hwA⟩ : ∃ wA,wA = w.alloc (.cells #[.int .i64 z,.slice a n cap] 26) := ⟨_,rfl⟩
 have hzA : wA.heap.size = w.heap.size + 1 := by rw [hwA]; simp
 have HBA : Hid (Below w.heap.size w wA) := by rw [hwA]; exact (Below.refl _ _).alloc (Nat.le_refl _) _
 have H0 : Hid (wA.heap[w.heap.size]? = some (.cells #[.int .i64 z,.slice a n cap] 26)) := by rw [hwA]; exact heap_new _ _
 have HS := hide (h.later HBA.out hhi)
 have HL := hide h.1
 have HL8 := hide hl8
 clear h hl8
 obtain ⟨c0,c1⟩ := two_cells H0.out
 have k0 := cell_regrown c0
 have k1 := cell_regrown c1
 by_cases h0 : 0 <= t.op
 ·obtain ⟨o,ho⟩ : ∃ o : Nat,t.op = (o : Int) := ⟨t.op.toNat,by omega⟩
  have hon : o < n := by omega
  have hoi : (o : Int) < (n : Int) := by omega
  have HR : Hid (roomy z t = decide (((sqAt t.qs o).1.length : Int) < z)) := by show _ = _; unfold roomy; rw [ho]; simp
  have hin : inB (o : Int) 0 ((n : Int) - 1) = true := by unfold inB; simp; omega
  have cS : ∀ d os,Calls Tryz.prog 144 #[.agg #[.int .i64 z,.slice a n cap],.int .i64 (o : Int)] (Go.Sort.grow (redrawn wA d) os) fun e w'' => e = .returned (.bool true) ∧ ∃ p : Regrown,w'' = Go.Sort.grow (redrawn wA p.d) p.os := fun d os => Calls.regrown_of (by have h9 := hasSquare_any z a n cap (o : Int) (Go.Sort.grow (redrawn wA d) os); rw [hin] at h9; exact h9)
  obtain ⟨_,A,C,hx,ht⟩ := HS.out
  obtain ⟨b,off,rfl,_,hb,hc⟩ := hx.2 (by omega)
  obtain ⟨y0,_,_⟩ := sq_cells hc (Below.refl wA.heap.size wA) (show b < wA.heap.size by have := hx.1; omega) hon
  have k2 := cell_regrown y0
  have hol : (sqAt t.qs o).1.length <= 8 := HL8.out _ (sqAt_mem (by rw [HL.out]; exact hon))
  obtain ⟨lo,hlo⟩ : ∃ lo,lo = (sqAt t.qs o).1.length := ⟨_,rfl⟩
  rw [<- hlo] at k2 y0 HR hol
  rw [ho]
  clear hlo hc hx ht hin ho h0 hop
  go_enter Tryz.func184,Tryz.ntmps184
  go_upto_region 1 with fail
  rw [<- hwA]
  clear hwA
  refine wp_region_quiet_below (by kernel_rfl) (by kernel_rfl) ?_
  repeat (go_big_quiet_step ((go_at_call 144; exact cS _ _)))
  refine wpQuiet_nil ?_
  intro _ hw'
  obtain ⟨⟨dq,osq⟩,hw''⟩ := hw'
  subst hw''
  have HBQ := hide (below_here HBA.out (below_regrown wA dq osq))
  go_wp2_with fail
  go_ret
  exact ⟨ret_bool HR.out.symm,HBQ.out⟩
 ·have HR : Hid (roomy z t = false) := by show _ = _; unfold roomy; rw [show decide (0 <= t.op) = false by simpa using h0]; rfl
  have hin : inB t.op 0 ((n : Int) - 1) = false := by unfold inB; rw [show decide (0 <= t.op) = false by simpa using h0]; rfl
  have cS : ∀ d os,Calls Tryz.prog 144 #[.agg #[.int .i64 z,.slice a n cap],.int .i64 t.op] (Go.Sort.grow (redrawn wA d) os) fun e w'' => e = .returned (.bool false) ∧ ∃ p : Regrown,w'' = Go.Sort.grow (redrawn wA p.d) p.os := fun d os => Calls.regrown_of (by have h9 := hasSquare_any z a n cap t.op (Go.Sort.grow (redrawn wA d) os); rw [hin] at h9; exact h9)
  clear hin h0
  go_enter Tryz.func184,Tryz.ntmps184
  go_upto_region 1 with fail
  rw [<- hwA]
  clear hwA
  refine wp_region_quiet_below (by kernel_rfl) (by kernel_rfl) ?_
  repeat (go_big_quiet_step ((go_at_call 144; exact cS _ _)))
  refine wpQuiet_nil ?_
  intro _ hw'
  obtain ⟨⟨dq,osq⟩,hw''⟩ := hw'
  subst hw''
  have HBQ := hide (below_here HBA.out (below_regrown wA dq osq))
  go_wp2_with fail
  go_ret
  exact ⟨ret_bool HR.out.symm,HBQ.out⟩
set_option maxHeartbeats 3200000 in
theorem makeRoom_any (B pk : Nat) (z st : Int) (n g c gm cm : Nat) (A : Nat -> Option Addr) (C : Nat -> Nat) (V : Value) (s : Kp) (aN : Addr) (w : World) (h : KeeperAt B w pk z st n g c gm cm A C V s aN) (hB : B <= w.heap.size) (hK : KOk z s) (hjs : s.js.length <= 1000) :
  Calls Tryz.prog 151 #[.pointer (some ⟨pk,0,none⟩)] w fun e w' => IPost (roomK z 20 s) (.tuple #[]) (fun _ => True) B pk z st n g c gm cm aN w e w' := by
 have hnl := h.mem.sq.len
 have hn12 : n <= 12 := by have := (chipOk_parts hK.map.chip).2.2.2.1; omega
 have HNL := hide hnl
 have HK := hide hK
 have H0 := hide h
 clear h hK hnl
 go_enter Tryz.func151,Tryz.ntmps151
 go_wp2_with fail
 go_loopw [2] (fun i wr => ∃ (k : Nat) (t : Kp) (A : Nat -> Option Addr) (C : Nat -> Nat) (V : Value),k <= 20 ∧ i = .int .i64 (k : Int) ∧ roomK z 20 s = roomK z (20 - k) t ∧ KOk z t ∧ t.qs.length = n ∧ t.js.length <= s.js.length + 513 * k ∧ KeeperAt B wr pk z st n g c gm cm A C V t aN ∧ Frame B [g,pk,gm] w wr) (fun i _ => 21 - (intOf i).toNat)
 case atStart => exact ⟨0,s,A,C,V,Nat.zero_le _,rfl,rfl,HK.out,HNL.out,by omega,H0.out,Frame.refl _ _ _⟩
 case round =>
  obtain ⟨k,t,A,C,V,hk,rfl,hrm,hKT,htq,hjl,hat,hfr⟩ := hrel
  have HRM := hide hrm
  have HKT := hide hKT
  have HAT := hide hat
  have HFR := hide hfr
  have hsz := hfr.below.size
  have hhi := hKT.hi
  rw [htq] at hhi
  have HL8 : Hid (∀ q ∈ t.qs,q.1.length <= 8) := fun q hq => by have h1 := (sqOk_parts ((chipOk_parts hKT.map.chip).2.2.2.2 q hq)).1; have h2 := (chipOk_parts hKT.map.chip).2.1; omega
  obtain ⟨x0,x1,x2,x3,x4,x5⟩ := six_cells hat.box
  have cR : ∀ W,Hid (Below wr.heap.size wr W -> Calls Tryz.prog 184 #[.agg #[.int .i64 z,.slice (some ⟨g,0,none⟩) n c],.int .i64 t.op] W fun e w'' => e = .returned (.bool (roomy z t)) ∧ Below W.heap.size W w'') := fun W hb => hasRoom_any z (some ⟨g,0,none⟩) n c t W ((HAT.out.later hb (by omega)).mem.sq.ownS.squares) (Nat.le_refl _) hn12 HL8.out hhi
  clear hrm hKT hat hfr
  go_upto_region 1 with fail
  refine wp_region_quiet_tail 8 (by kernel_rfl) (by kernel_rfl) ?_
  simp only [List.take_succ_cons,List.take_zero,List.drop_succ_cons,List.drop_zero]
  repeat (go_big_quiet_step (fail))
  refine wpQuiet_nil ?_
  rintro _ ⟨nq,rfl⟩
  have HBQ : Hid (Below wr.heap.size wr (wr.drewN nq)) := ⟨rfl,rfl,rfl,Nat.le_refl _,fun _ _ => rfl⟩
  generalize wr.drewN nq = wq at *
  go_wp2_with fail
  refine ((cR _).out HBQ.out).mono ?_
  rintro e w1 ⟨rfl,b1⟩
  have HB1 := hide (below_here HBQ.out b1)
  have HA1 := hide (HAT.out.later HB1.out (by omega))
  have HF1 := hide (HFR.out.on HB1.out (by omega))
  have hs1 := HB1.out.size
  clear b1 x0 x1 x2 x3 x4 x5 cR
  have er1 := HA1.out.er
  unfold noRoomV at er1
  cases hro : roomy z t with
  | true =>
   have HE : Hid (roomK z 20 s = some t) := by show _ = _; rw [HRM.out]; exact roomK_yes hro _
   go_wp2_with fail
   go_end0
   unfold IPost
   rw [HE.out]
   exact ⟨HF1.out,rfl,A,C,V,HA1.out,trivial⟩
  | false =>
   by_cases hk20 : k = 20
   ·subst hk20
    have HE : Hid (roomK z 20 s = none) := by show _ = _; rw [HRM.out]; exact roomK_end hro
    simp only [show ((20 : Nat) : Int) = 20 from rfl]
    go_wp2_with fail
    refine ⟨rfl,?_⟩
    unfold IPost
    rw [HE.out]
    exact ⟨HF1.out,rfl⟩
   ·have g1 : ((k : Int) == 20) = false := by simpa using (show (k : Int) ≠ 20 by omega)
    have HN : Hid (roomK z 20 s = (stepK z t).bind (roomK z (19 - k))) := by show _ = _; rw [HRM.out,show 20 - k = (19 - k) + 1 by omega]; exact roomK_next hro _
    clear hro HRM er1
    go_wp2_with fail
    refine (stepToRoom_any B pk z st n g c gm cm A C V t aN w1 HA1.out (by omega) HKT.out (by omega)).mono ?_
    rintro e w2 ⟨hf2,hk2⟩
    have HF2 := hide (HF1.out.trans hf2)
    clear hf2
    cases hst : stepK z t with
    | none =>
     have HE : Hid (roomK z 20 s = none) := by show _ = _; rw [HN.out,hst]; rfl
     rw [hst] at hk2
     dsimp only at hk2
     subst hk2
     unfold noRoomV
     go_wp2_with fail
     refine ⟨rfl,?_⟩
     unfold IPost
     rw [HE.out]
     exact ⟨HF2.out,rfl⟩
    | some t1 =>
     have HE : Hid (roomK z 20 s = roomK z (20 - (k + 1)) t1) := by show _ = _; rw [HN.out,hst,show 20 - (k + 1) = 19 - k by omega]; rfl
     rw [hst] at hk2
     dsimp only at hk2
     obtain ⟨rfl,A2,C2,V2,hA2,_⟩ := hk2
     have HA2 := hide hA2
     have HSO := hide (stepK_ok HKT.out hst)
     have hsl := stepK_len HKT.out hst
     clear hA2 hst
     go_wp2_with fail
     go_roundw
     case rel => exact ⟨k + 1,t1,A2,C2,V2,by omega,by go_num,HE.out,HSO.out.ok,HSO.out.squares.trans htq,by omega,HA2.out,HF2.out⟩
     case measure => simp [intOf]; omega
end Go.Proofs.YtgjoepdfhadmcaaGreatDoor
end

section
namespace Go.Proofs.YtgjoepdfhadmcaaGreatDoor
open Go.RowKit
set_option linter.unusedVariables false
set_option maxRecDepth 20000
theorem HdOwn.on {B : Nat} {w w' : World} {v : Value} {ys : List Hd} (h : HdOwn B w v ys) (hb : Below w.heap.size w w') : HdOwn B w' v ys := own_keepBy h (grown_below hb none) (fun k e => by cases e)
set_option maxHeartbeats 3200000 in
theorem parted_any (b off ni ci : Nat) (ys : List Hd) (room K : Nat) (w : World) {lo hi : Nat} (hy : Helds lo hi w (some ⟨b,off,none⟩) ni ys) (hhi : hi <= w.heap.size) (hn : ni <= 1048576) (hci : ni <= ci) (hr : room <= 1048576) (hK : K = min room ni) :
  Calls Tryz.prog 163 #[.slice (some ⟨b,off,none⟩) ni ci,.int .i64 (room : Int)] w fun e w' => ∃ a1 c1 a2 c2,e = .returned (.tuple #[.slice a1 K c1,.slice a2 (ni - K) c2]) ∧ HdOwn w.heap.size w' (.slice a1 K c1) (ys.take K) ∧ HdOwn w.heap.size w' (.slice a2 (ni - K) c2) (ys.drop K) ∧ Below w.heap.size w w' := by
 have hKn : K <= ni := by omega
 have hmin : min (room : Int) (ni : Int) = (K : Int) := by omega
 have H1 := hide (helds_take hy K hKn)
 have hsl1 := slice_front3 (P := Tryz.prog) 199 83 Tryz.underlying199 (fun _ => by kernel_rfl) b off ni ci K hKn hci
 obtain ⟨ad,had,hsl2⟩ := slice_rest3 (P := Tryz.prog) 199 83 Tryz.underlying199 (fun _ => by kernel_rfl) b off ni ci K hKn hci
 have H2 := hide (helds_rest hy K hKn had)
 have HC1 : ∀ W,Hid (Below w.heap.size w W -> Calls Tryz.prog 204 #[.slice (some ⟨b,off,none⟩) K ci] W fun e w' => ∃ a' c',e = .returned (.slice a' K c') ∧ HdOwn W.heap.size w' (.slice a' K c') (ys.take K) ∧ Below W.heap.size W w') := fun W hb =>
  cloneHd_any _ _ _ _ W (H1.out.later hb hhi) (by have := hb.size; omega) (by omega)
 have HC2 : ∀ W,Hid (Below w.heap.size w W -> Calls Tryz.prog 204 #[.slice (some ad) (ni - K) (ci - K)] W fun e w' => ∃ a' c',e = .returned (.slice a' (ni - K) c') ∧ HdOwn W.heap.size w' (.slice a' (ni - K) c') (ys.drop K) ∧ Below W.heap.size W w') := fun W hb =>
  cloneHd_any _ _ _ _ W (H2.out.later hb hhi) (by have := hb.size; omega) (by omega)
 have HB0 : Hid (Below w.heap.size w w.drew) := (Below.refl w.heap.size w).drew
 have HKE := hide hK
 clear hy H1 H2 had hK
 go_enter Tryz.func163,Tryz.ntmps163
 go_upto_region 2 with fail
 try rw [hmin]
 go_region_with (first
  | (go_at_call 204; refine ((HC1 _).out (by exact HB0.out)).mono ?_; rintro e w1 ⟨a1,c1,rfl,ho1,b1⟩; have HP1 := hide (ho1.mono (Nat.le_refl w.heap.size)); have HB1 := hide (below_here HB0.out b1); clear ho1 b1)
  | (go_at_call 204; refine ((HC2 _).out (by exact HB1.out)).mono ?_; rintro e w2 ⟨a2,c2,rfl,ho2,b2⟩; have HQ2 := hide (ho2.mono HB1.out.size); have HQ1 := hide (HdOwn.on HP1.out b2); have HB2 := hide (below_here HB1.out b2); clear ho2 b2)
  | (go_at_call 204; refine ((HC2 _).out (by exact HB0.out)).mono ?_; rintro e w1 ⟨a2,c2,rfl,ho1,b1⟩; have HP2 := hide (ho1.mono (Nat.le_refl w.heap.size)); have HB1 := hide (below_here HB0.out b1); clear ho1 b1)
  | (go_at_call 204; refine ((HC1 _).out (by exact HB1.out)).mono ?_; rintro e w2 ⟨a1,c1,rfl,ho2,b2⟩; have HQ1 := hide (ho2.mono HB1.out.size); have HQ2 := hide (HdOwn.on HP2.out b2); have HB2 := hide (below_here HB1.out b2); clear ho2 b2))
 all_goals
  go_wp2_with fail
  go_ret2
  exact ⟨a1,c1,a2,c2,rfl,HQ1.out,HQ2.out,HB2.out⟩
end Go.Proofs.YtgjoepdfhadmcaaGreatDoor
end

section
namespace Go.Proofs.YtgjoepdfhadmcaaGreatDoor
open Go.RowKit
set_option linter.unusedVariables false
abbrev Fnd := Int -> Int -> Option Pl
def fndPut (F : Fnd) (a s : Int) (p : Pl) : Fnd := fun a' s' => if a' = a ∧ s' = s then some p else F a' s'
def fndAdd (F : Fnd) (a s : Int) (p : Pl) : Fnd := if (F a s).isSome then F else fndPut F a s p
structure FdOk (n : Nat) (s : Mt) (F : Fnd) : Prop where
 low : ∀ a t,t <= 0 -> F a t = none
 high : ∀ a : Nat,a < n -> ∀ t,stAt s.st a < t -> F (a : Int) t = none
 each : ∀ a : Nat,a < n -> (stAt s.st a = 0 ∧ plAt s.ps a = (-1,0)) ∨ (0 < stAt s.st a ∧ F (a : Int) (stAt s.st a) = some (plAt s.ps a))
 top : ∀ a : Nat,a < n -> stAt s.st a <= s.S
 is : ∃ a : Nat,a < n ∧ stAt s.st a = s.S
theorem fdOk_start {n : Nat} (h : 1 <= n) : FdOk n ⟨List.replicate n 0,List.replicate n (-1,0),0⟩ (fun _ _ => none) := by
 have hs : ∀ a,stAt (List.replicate n (0 : Int)) a = 0 := fun a => by
  unfold stAt; rw [List.getD_eq_getElem?_getD,List.getElem?_replicate]; split <;> rfl
 have hp : ∀ a,a < n -> plAt (List.replicate n ((-1 : Int),(0 : Int))) a = (-1,0) := fun a ha => by
  unfold plAt; rw [List.getD_eq_getElem?_getD,List.getElem?_replicate,if_pos ha]; rfl
 exact ⟨fun _ _ _ => rfl,fun _ _ _ _ => rfl,fun a ha => .inl ⟨hs a,hp a ha⟩,fun a _ => by show stAt (List.replicate n 0) a <= 0; rw [hs a]; exact Int.le_refl _,⟨0,by omega,hs 0⟩⟩
theorem fdOk_hit {n : Nat} {s : Mt} {F : Fnd} {a : Nat} {t : Int} (h : FdOk n s F) (hl : s.st.length = n) (hp : s.ps.length = n) (ha : a < n) (ht : 1 <= t) (i k : Nat) :
  FdOk n (if t > stAt s.st a then ⟨s.st.set a t,s.ps.set a ((i : Int),(k : Int)),maxI s.S t⟩ else ⟨s.st,s.ps,maxI s.S t⟩) (fndAdd F (a : Int) t ((i : Int),(k : Int))) := by
 have hm1 : s.S <= maxI s.S t := by unfold maxI; split <;> omega
 have hm2 : t <= maxI s.S t := by unfold maxI; split <;> omega
 have hlow : ∀ a' t',t' <= 0 -> fndAdd F (a : Int) t ((i : Int),(k : Int)) a' t' = none := fun a' t' h0 => by
  unfold fndAdd fndPut
  split
  ·exact h.low a' t' h0
  ·dsimp only
   rw [if_neg (by omega)]
   exact h.low a' t' h0
 by_cases hg : t > stAt s.st a
 ·rw [if_pos hg]
  have hno : F (a : Int) t = none := h.high a ha t (by omega)
  have hF : fndAdd F (a : Int) t ((i : Int),(k : Int)) = fndPut F (a : Int) t ((i : Int),(k : Int)) := by unfold fndAdd; rw [hno]; rfl
  rw [hF] at hlow ⊢
  have hst : ∀ j,stAt (s.st.set a t) j = if j = a then t else stAt s.st j := fun j => stAt_set s.st t (by rw [hl]; exact ha) j
  have hps : ∀ j,plAt (s.ps.set a ((i : Int),(k : Int))) j = if j = a then ((i : Int),(k : Int)) else plAt s.ps j := fun j => plAt_set s.ps _ (by rw [hp]; exact ha) j
  refine ⟨hlow,fun j hj t' ht' => ?_,fun j hj => ?_,fun j hj => ?_,?_⟩
  ·dsimp only at ht'
   rw [hst] at ht'
   unfold fndPut
   by_cases e : j = a
   ·subst e
    rw [if_pos rfl] at ht'
    rw [if_neg (by omega)]
    exact h.high j hj t' (by omega)
   ·rw [if_neg e] at ht'
    rw [if_neg (by omega)]
    exact h.high j hj t' ht'
  ·dsimp only
   rw [hst,hps]
   unfold fndPut
   by_cases e : j = a
   ·subst e
    rw [if_pos rfl,if_pos rfl,if_pos ⟨rfl,rfl⟩]
    exact .inr ⟨by omega,rfl⟩
   ·rw [if_neg e,if_neg e,if_neg (by omega)]
    exact h.each j hj
  ·dsimp only
   rw [hst]
   split
   ·exact hm2
   ·have := h.top j hj; omega
  ·dsimp only
   by_cases hc : s.S > t
   ·obtain ⟨j,hj,ej⟩ := h.is
    refine ⟨j,hj,?_⟩
    have hne : j ≠ a := fun e => by subst e; omega
    rw [hst,if_neg hne]
    unfold maxI
    rw [if_pos hc]
    exact ej
   ·refine ⟨a,ha,?_⟩
    rw [hst,if_pos rfl]
    unfold maxI
    rw [if_neg hc]
 ·rw [if_neg hg]
  have hpos : 0 < stAt s.st a := by omega
  have hat : F (a : Int) (stAt s.st a) = some (plAt s.ps a) := by
   rcases h.each a ha with e | e
   ·omega
   ·exact e.2
  have hmx : maxI s.S t = s.S := by have := h.top a ha; unfold maxI; split <;> omega
  have hsame : ∀ (j : Nat) (t' : Int),((j : Int) ≠ (a : Int) ∨ t' ≠ t) -> fndAdd F (a : Int) t ((i : Int),(k : Int)) (j : Int) t' = F (j : Int) t' := fun j t' hh => by
   unfold fndAdd fndPut
   split
   ·rfl
   ·dsimp only
    rw [if_neg (by omega)]
  refine ⟨hlow,fun j hj t' ht' => ?_,fun j hj => ?_,fun j hj => ?_,?_⟩
  ·have ht2 : stAt s.st j < t' := ht'
   by_cases e : j = a
   ·subst e
    rw [hsame j t' (.inr (by omega))]
    exact h.high j hj t' ht2
   ·rw [hsame j t' (.inl (by omega))]
    exact h.high j hj t' ht2
  ·show (stAt s.st j = 0 ∧ plAt s.ps j = (-1,0)) ∨ (0 < stAt s.st j ∧ fndAdd F (a : Int) t ((i : Int),(k : Int)) (j : Int) (stAt s.st j) = some (plAt s.ps j))
   rcases h.each j hj with e | ⟨e1,e2⟩
   ·exact .inl e
   ·refine .inr ⟨e1,?_⟩
    unfold fndAdd
    by_cases hsm : (F (a : Int) t).isSome = true
    ·rw [if_pos hsm]; exact e2
    ·rw [if_neg hsm]
     unfold fndPut
     rw [if_neg]
     ·exact e2
     ·rintro ⟨x1,x2⟩
      have x3 : j = a := by omega
      subst x3
      rw [x2] at e2
      rw [e2] at hsm
      exact hsm rfl
  ·show stAt s.st j <= maxI s.S t
   rw [hmx]; exact h.top j hj
  ·show ∃ j,j < n ∧ stAt s.st j = maxI s.S t
   rw [hmx]; exact h.is
def fdOne (n : Nat) (i k : Nat) (r : Int × Int × Int × ByteArray × Int) (F : Fnd) : Fnd := if mtHit n r then fndAdd F r.2.1 r.2.2.1 ((i : Int),(k : Int)) else F
theorem fdOk_one {n i k : Nat} {s : Mt} {F : Fnd} {tx : ByteArray} (h : FdOk n s F) (hl : s.st.length = n) (hp : s.ps.length = n) : FdOk n (mtOne n i k (lyP tx) s) (fdOne n i k (lyP tx) F) := by
 unfold mtOne fdOne
 cases hh : mtHit n (lyP tx) with
 | false => exact h
 | true =>
  rw [if_pos rfl,if_pos rfl]
  unfold mtHit at hh
  simp only [Bool.and_eq_true,Bool.not_eq_true',decide_eq_false_iff_not] at hh
  obtain ⟨w1,w2,w3,w4⟩ := lyP_well hh.1
  have ha : (lyP tx).2.1 = (((lyP tx).2.1.toNat : Nat) : Int) := by omega
  rw [ha,Int.toNat_natCast]
  exact fdOk_hit h hl hp (by omega) w3 i k
theorem fd_max {n : Nat} {s : Mt} {F : Fnd} (h : FdOk n s F) {m : Int} (h1 : ∀ a,a < n -> stAt s.st a <= m) (h2 : ∃ a,a < n ∧ stAt s.st a = m) : m = s.S := by
 obtain ⟨a,ha,ea⟩ := h2
 obtain ⟨b,hb,eb⟩ := h.is
 have := h.top a ha
 have := h1 b hb
 omega
end Go.Proofs.YtgjoepdfhadmcaaGreatDoor
end

section
namespace Go.Proofs.YtgjoepdfhadmcaaGreatDoor
open Go.RowKit Go.Maps
set_option linter.unusedVariables false
set_option maxRecDepth 20000
theorem Tryz.laidOut : laidOutB Tryz.prog = true := by kernel_rfl
theorem Tryz.rowLabel : (117 : TypeId) < Tryz.prog.types.size := of_decide_eq_true (by kernel_rfl)
theorem Tryz.wideLabel : (match Tryz.prog.underlying 117 with | some (.array _ _) | some (.struct _) => true | _ => false) = true := by kernel_rfl
theorem Tryz.keyedLabel : Keyed Tryz.prog 117 := Keyed.of_law (deep_law_laid Tryz.laidOut (m := 2) (by omega) Tryz.rowLabel (by kernel_rfl) Tryz.wideLabel)
theorem Tryz.mapType : Tryz.prog.underlying 111 = some (.map 117 39) := by kernel_rfl
theorem Tryz.zeroPl (w : World) : (zeroValue 39).run Tryz.prog w = .ok (.agg #[.int .i64 0,.int .i64 0]) w := by kernel_rfl
def lbK (a s : Int) : Lit := .string (keyBytes [.int .i64 a,.int .i64 s])
theorem keyOf_label {a s : Int} (ha : (Lit.int .i64 a).wf = true) (hs : (Lit.int .i64 s).wf = true) : keyOf Tryz.prog 117 (.agg #[.int .i64 a,.int .i64 s]) = some (lbK a s) := by
 have h1 : Tryz.prog.keyType 117 = true := by kernel_rfl
 have h3 : Tryz.prog.cellsOf 117 = 2 := by kernel_rfl
 have h4 : Tryz.prog.cellsOf 2 = 1 := by kernel_rfl
 have hf : (Value.agg #[.int .i64 a,.int .i64 s]).formed Tryz.prog 117 = true := by simp [Value.formed,Tryz.underlying117,h3]
 obtain ⟨d,hd⟩ : ∃ d,Tryz.prog.types.size = d + 1 := ⟨Tryz.prog.types.size - 1,(Nat.sub_add_cancel (Nat.lt_of_le_of_lt (Nat.zero_le _) Tryz.rowLabel)).symm⟩
 have hi : ∀ x : Int,(Lit.int .i64 x).wf = true -> Tryz.prog.keyLits (d + 1) 2 [.int .i64 x] = some [.int .i64 x] := fun x hx => by
  unfold Program.keyLits
  rw [Tryz.underlying2]
  simp [hx]
 have hk : Tryz.prog.keyLits (d + 1 + 1) 117 [.int .i64 a,.int .i64 s] = some [.int .i64 a,.int .i64 s] := by
  unfold Program.keyLits
  rw [Tryz.underlying117]
  simp only [h3,List.length_cons,List.length_nil]
  simp [hi a ha,hi s hs,h4]
 unfold keyOf
 rw [Tryz.underlying117]
 dsimp only
 rw [h1,hf,hd]
 show (if (true && true) = true then (Tryz.prog.keyLits (d + 1 + 1) 117 [.int .i64 a,.int .i64 s]).map (fun ls => Lit.string (keyBytes ls)) else none) = _
 rw [hk]
 rfl
theorem lbK_inj {a s a' s' : Int} (ha : (Lit.int .i64 a).wf = true) (hs : (Lit.int .i64 s).wf = true) (ha' : (Lit.int .i64 a').wf = true) (hs' : (Lit.int .i64 s').wf = true) (h : lbK a s = lbK a' s') : a = a' ∧ s = s' := by
 have h1 := keyOf_label ha hs
 have h2 := keyOf_label ha' hs'
 rw [h] at h1
 have h3 := Tryz.keyedLabel.inj h1 h2
 simp only [Value.agg.injEq,Array.mk.injEq,List.cons.injEq,Value.int.injEq,true_and,and_true] at h3
 exact h3
def plD (p : Pl) : DataW Unit := .agg [.lit (.int .i64 p.1),.lit (.int .i64 p.2)]
def plV (p : Pl) : Value := .agg #[.int .i64 p.1,.int .i64 p.2]
theorem plV_inj {p q : Pl} (h : plV p = plV q) : p = q := by
 unfold plV at h
 simp only [Value.agg.injEq,Array.mk.injEq,List.cons.injEq,Value.int.injEq,true_and,and_true] at h
 exact Prod.ext h.1 h.2
open Classical in
noncomputable def plR (v : Value) : Option (DataW Unit × List MemPlace) := if h : ∃ p,v = plV p then some (plD h.choose,[]) else none
theorem plR_of (p : Pl) : plR (plV p) = some (plD p,[]) := by
 have h : ∃ q,plV p = plV q := ⟨p,rfl⟩
 unfold plR
 rw [dif_pos h,<- plV_inj h.choose_spec]
theorem plD_inj {p q : Pl} (h : plD p = plD q) : p = q := by
 unfold plD at h
 simp only [DataW.agg.injEq,List.cons.injEq,DataW.lit.injEq,Lit.int.injEq,true_and,and_true] at h
 exact Prod.ext h.1 h.2
theorem plR_inv {v : Value} {z : DataW Unit × List MemPlace} (h : plR v = some z) : ∃ p,v = plV p ∧ z = (plD p,[]) := by
 by_cases hh : ∃ p,v = plV p
 ·obtain ⟨p,rfl⟩ := hh
  rw [plR_of,Option.some.injEq] at h
  exact ⟨p,rfl,h.symm⟩
 ·unfold plR at h
  rw [dif_neg hh] at h
  cases h
def MapAtM (w : World) (b n : Nat) (F : Fnd) : Prop := ∃ D : DataW Unit,w.ownsMap Tryz.prog 117 plR b n D ∧ ∀ a s,(Lit.int .i64 a).wf = true -> (Lit.int .i64 s).wf = true -> match F a s with | none => Maps.has D (lbK a s) = false | some p => Maps.has D (lbK a s) = true ∧ ∀ z,D.atKey (lbK a s) z = plD p
theorem mapAt_made (w : World) : MapAtM (w.alloc (.map #[] 0)) w.heap.size 0 (fun _ _ => none) :=
 ⟨.map [],World.ownsMap_made w _ _ _,fun a s _ _ => rfl⟩
theorem MapAtM.kept {w w' : World} {b n : Nat} {F : Fnd} (h : MapAtM w b n F) (hb : w'.heap[b]? = w.heap[b]?) : MapAtM w' b n F := by
 obtain ⟨D,⟨es,c,h1,h2⟩,h3⟩ := h
 exact ⟨D,⟨es,c,hb.trans h1,h2⟩,h3⟩
theorem MapAtM.lt {w : World} {b n : Nat} {F : Fnd} (h : MapAtM w b n F) : b < w.heap.size := by
 obtain ⟨D,h1,_⟩ := h
 exact h1.lt
theorem MapAtM.look {w : World} {b n : Nat} {F : Fnd} (h : MapAtM w b n F) {a s : Int} (ha : (Lit.int .i64 a).wf = true) (hs : (Lit.int .i64 s).wf = true) :
  (Instr.lookup 111 (.map (some b)) (.agg #[.int .i64 a,.int .i64 s]) true).run Tryz.prog w = .ok (.tuple #[plV ((F a s).getD (0,0)),.bool (F a s).isSome]) w := by
 obtain ⟨D,h1,h2⟩ := h
 obtain ⟨v,ps,hrun,hv⟩ := h1.look_ok Tryz.keyedLabel Tryz.mapType (Tryz.zeroPl w) (plR_of (0,0)) (keyOf_label ha hs)
 have h3 := h2 a s ha hs
 rw [hrun]
 cases hF : F a s with
 | none =>
  rw [hF] at h3
  dsimp only at h3
  rw [atKey_of_not_has h3] at hv
  obtain ⟨p,rfl,e⟩ := plR_inv hv
  simp only [Prod.mk.injEq] at e
  rw [<- plD_inj e.1,h3]
  rfl
 | some p =>
  rw [hF] at h3
  dsimp only at h3
  rw [h3.2] at hv
  obtain ⟨q,rfl,e⟩ := plR_inv hv
  simp only [Prod.mk.injEq] at e
  rw [<- plD_inj e.1,h3.1]
  rfl
theorem MapAtM.put {w : World} {b n : Nat} {F : Fnd} (h : MapAtM w b n F) (hn : n < maxLen) {a s : Int} (ha : (Lit.int .i64 a).wf = true) (hs : (Lit.int .i64 s).wf = true) (p : Pl) :
  ∃ w',(Instr.mapUpdate 111 (.map (some b)) (.agg #[.int .i64 a,.int .i64 s]) (plV p)).run Tryz.prog w = .ok () w' ∧ MapAtM w' b (n + 1) (fndPut F a s p) ∧ Aside b (b + 1) w w' := by
 obtain ⟨D,h1,h2⟩ := h
 have hk := keyOf_label ha hs
 obtain ⟨w',hrun,h3,h4⟩ := h1.store Tryz.keyedLabel Tryz.mapType hn hk (plR_of p)
 refine ⟨w',hrun,⟨_,h3,fun a' s' ha' hs' => ?_⟩,?_⟩
 ·unfold fndPut
  by_cases e : a' = a ∧ s' = s
  ·rw [if_pos e,e.1,e.2]
   exact ⟨has_put_same h1.isMap (Tryz.keyedLabel.key hk) _,fun z => atKey_put_same h1.isMap (Tryz.keyedLabel.key hk) _ z⟩
  ·rw [if_neg e]
   have hne : lbK a' s' ≠ lbK a s := fun e' => e (lbK_inj ha' hs' ha hs e')
   have h5 := h2 a' s' ha' hs'
   cases hF : F a' s' with
   | none => rw [hF] at h5; dsimp only at h5 ⊢; rw [has_put_other hne]; exact h5
   | some q => rw [hF] at h5; dsimp only at h5 ⊢; rw [has_put_other hne]; exact ⟨h5.1,fun z => by rw [atKey_put_other hne]; exact h5.2 z⟩
 ·have hg := h4.grown
  exact ⟨hg.os,hg.tape,hg.output,hg.size,fun k hk' hh => hg.block k hk' (by simp only [ne_eq,Option.some.injEq]; omega)⟩
end Go.Proofs.YtgjoepdfhadmcaaGreatDoor
end

section
namespace Go.Proofs.YtgjoepdfhadmcaaGreatDoor
open Go.RowKit
set_option linter.unusedVariables false
set_option maxRecDepth 20000
structure Two (b G : Nat) (w w' : World) : Prop where
 os : w'.os = w.os
 tape : w'.tape = w.tape
 output : w'.output = w.output
 size : w.heap.size <= w'.heap.size
 block : ∀ k,k < w.heap.size -> k ≠ b -> k ≠ G -> w'.heap[k]? = w.heap[k]?
theorem Two.refl (b G : Nat) (w : World) : Two b G w w := ⟨rfl,rfl,rfl,Nat.le_refl _,fun _ _ _ _ => rfl⟩
theorem Two.trans {b G : Nat} {w w1 w2 : World} (h : Two b G w w1) (k : Two b G w1 w2) : Two b G w w2 :=
 ⟨k.os.trans h.os,k.tape.trans h.tape,k.output.trans h.output,Nat.le_trans h.size k.size,fun x h1 h2 h3 => (k.block x (Nat.lt_of_lt_of_le h1 h.size) h2 h3).trans (h.block x h1 h2 h3)⟩
theorem Two.of_below {b G : Nat} {w w' : World} (h : Below w.heap.size w w') : Two b G w w' := ⟨h.os,h.tape,h.output,h.size,fun k h1 _ _ => h.block k h1⟩
theorem Two.of_one {b G : Nat} {w w' : World} (h : Aside b (b + 1) w w') : Two b G w w' := ⟨h.os,h.tape,h.output,h.size,fun k h1 h2 _ => h.block k h1 (by omega)⟩
theorem Two.of_two {b G : Nat} {w w' : World} (h : Aside G (G + 1) w w') : Two b G w w' := ⟨h.os,h.tape,h.output,h.size,fun k h1 _ h2 => h.block k h1 (by omega)⟩
theorem Two.below {b G B : Nat} {w w' : World} (h : Two b G w w') (hb : B <= b) (hG : B <= G) (hB : B <= w.heap.size) : Below B w w' := ⟨h.os,h.tape,h.output,h.size,fun k hk => h.block k (by omega) (by omega) (by omega)⟩
theorem Two.drew {b G : Nat} {w w' : World} (h : Two b G w w') : Two b G w w'.drew := ⟨h.os,h.tape,h.output,h.size,h.block⟩
structure FdAt (w : World) (b G N cnt : Nat) (st : List Int) (F : Fnd) : Prop where
 map : MapAtM w b cnt F
 row : Owned G (G + 1) w (some ⟨G,0,none⟩) N (fun j => .int .i64 (stAt st j))
 len : st.length = N
 ne : b ≠ G
theorem FdAt.later {w w' : World} {b G N cnt : Nat} {st : List Int} {F : Fnd} (h : FdAt w b G N cnt st F) (hb : Below w.heap.size w w') : FdAt w' b G N cnt st F :=
 ⟨h.map.kept (hb.block b h.map.lt),h.row.later hb h.row.1,h.len,h.ne⟩
theorem set_max (st : List Int) {a : Nat} (t : Int) (h : a < st.length) : st.set a (max (stAt st a) t) = if t > stAt st a then st.set a t else st := by
 split
 ·rename_i hg; rw [show max (stAt st a) t = t by omega]
 ·rename_i hg
  rw [show max (stAt st a) t = stAt st a by omega]
  unfold stAt
  rw [List.getD_eq_getElem?_getD,List.getElem?_eq_getElem h]
  simp
theorem mapAt_mono {w : World} {b n : Nat} {F : Fnd} (h : MapAtM w b n F) : MapAtM w b (n + 1) F := by
 obtain ⟨D,h1,h2⟩ := h
 exact ⟨D,h1.mono (Nat.le_succ _),h2⟩
set_option maxHeartbeats 3200000 in
theorem add_any (b G N cnt a : Nat) (st : List Int) (F : Fnd) (kd t : Int) (tx : ByteArray) (p q : Int) (w : World) (h : FdAt w b G N cnt st F) (ha : a < N) (hN : N <= 64) (ht1 : 1 <= t) (ht2 : t <= 1000000) (hcnt : cnt <= 1000) :
  Calls Tryz.prog 137 #[.agg #[.map (some b),.slice (some ⟨G,0,none⟩) N N],.agg #[.int .i64 kd,.int .i64 (a : Int),.int .i64 t,.string tx],.agg #[.int .i64 p,.int .i64 q]] w fun e w' => e = .returned (.tuple #[]) ∧ FdAt w' b G N (cnt + 1) (st.set a (max (stAt st a) t)) (fndAdd F (a : Int) t (p,q)) ∧ Two b G w w' := by
 have hwa : (Lit.int .i64 (a : Int)).wf = true := WalkArith.wf_i64 (by omega)
 have hwt : (Lit.int .i64 t).wf = true := WalkArith.wf_i64 (by omega)
 obtain ⟨wA,hwA⟩ : ∃ wA,wA = (((w.alloc (.cells #[.map (some b),.slice (some ⟨G,0,none⟩) N N] 113)).alloc (.cells #[.int .i64 kd,.int .i64 (a : Int),.int .i64 t,.string tx] 31)).alloc (.cells #[.int .i64 p,.int .i64 q] 39)).alloc (.cells #[.int .i64 (a : Int),.int .i64 t] 117) := ⟨_,rfl⟩
 have hzA : wA.heap.size = w.heap.size + 1 + 1 + 1 + 1 := by rw [hwA]; simp
 have HBA : Hid (Below w.heap.size w wA) := by rw [hwA]; exact ((((Below.refl _ _).alloc (Nat.le_refl _) _).alloc (by simp) _).alloc (by simp; omega) _).alloc (by simp; omega) _
 have H0 : Hid (wA.heap[w.heap.size]? = some (.cells #[.map (some b),.slice (some ⟨G,0,none⟩) N N] 113)) := by rw [hwA]; exact heap_old (heap_old (heap_old (heap_new _ _)))
 have H1 : Hid (wA.heap[w.heap.size + 1]? = some (.cells #[.int .i64 kd,.int .i64 (a : Int),.int .i64 t,.string tx] 31)) := by rw [hwA]; exact heap_old (heap_old (heap_at (by simp)))
 have H2 : Hid (wA.heap[w.heap.size + 1 + 1]? = some (.cells #[.int .i64 p,.int .i64 q] 39)) := by rw [hwA]; exact heap_old (heap_at (by simp))
 have H3 : Hid (wA.heap[w.heap.size + 1 + 1 + 1]? = some (.cells #[.int .i64 (a : Int),.int .i64 t] 117)) := by rw [hwA]; exact heap_at (by simp)
 have HFA := hide (h.later HBA.out)
 have hbl := h.map.lt
 have hGl : G < w.heap.size := by have := h.row.1; omega
 clear h
 go_enter Tryz.func137,Tryz.ntmps137
 go_upto_region 2 with fail
 rw [<- hwA]
 clear hwA
 obtain ⟨c0,c1⟩ := two_cells H0.out
 obtain ⟨l0,l1⟩ := two_cells H3.out
 have hlook := HFA.out.map.look hwa hwt
 obtain ⟨v,hv⟩ : ∃ v,v = F (a : Int) t := ⟨_,rfl⟩
 have HV := hide hv
 rw [<- hv] at hlook
 clear hv
 have haN : (a : Int) < (N : Int) := by omega
 cases v with
 | none =>
  have HFP : Hid (fndAdd F (a : Int) t (p,q) = fndPut F (a : Int) t (p,q)) := by show _ = _; unfold fndAdd; rw [<- HV.out]; rfl
  unfold plV at hlook
  simp only [Option.getD_none,Option.isSome_none] at hlook
  obtain ⟨wB,hwB⟩ : ∃ wB,wB = wA.alloc (.cells #[.int .i64 0,.int .i64 0] 39) := ⟨_,rfl⟩
  have hzB : wB.heap.size = wA.heap.size + 1 := by rw [hwB]; simp
  have HBB : Hid (Below wA.heap.size wA wB) := by rw [hwB]; exact (Below.refl _ _).alloc (Nat.le_refl _) _
  have HZB := hide hzB
  clear hzB
  go_upto_region 4 with fail
  rw [<- hwB]
  clear hwB c0 c1 l0 l1 hlook
  have HFB := hide (HFA.out.later HBB.out)
  obtain ⟨w2,hput,hm2,hA2⟩ := HFB.out.map.put (by unfold maxLen; omega) hwa hwt (p,q)
  unfold plV at hput
  have HM2 := hide hm2
  have K0 : Hid (w2.heap[w.heap.size]? = some (.cells #[.map (some b),.slice (some ⟨G,0,none⟩) N N] 113)) := (hA2.block _ (by have := HZB.out; omega) (by omega)).trans (block_on H0.out HBB.out)
  have K1 : Hid (w2.heap[w.heap.size + 1]? = some (.cells #[.int .i64 kd,.int .i64 (a : Int),.int .i64 t,.string tx] 31)) := (hA2.block _ (by have := HZB.out; omega) (by omega)).trans (block_on H1.out HBB.out)
  have HR2 := hide (HFB.out.row.aside hA2 (by have := HFB.out.ne; omega))
  have HT2 := hide ((Two.of_below (b := b) (G := G) (below_here HBA.out HBB.out)).trans (Two.of_one hA2))
  have HLN := hide HFB.out.len
  have HNE := hide HFB.out.ne
  obtain ⟨c0,c1⟩ := two_cells (block_on H0.out HBB.out)
  obtain ⟨l0,l1⟩ := two_cells (block_on H3.out HBB.out)
  obtain ⟨q0,q1⟩ := two_cells (block_on H2.out HBB.out)
  clear hm2 hA2
  go_upto_region 5 with fail
  clear c0 c1 l0 l1 q0 q1 hput
  obtain ⟨d0,d1⟩ := two_cells K0.out
  obtain ⟨e0,e1,e2,e3⟩ := four_cells K1.out
  obtain ⟨g0,g1⟩ := HR2.out.at0 ha
  have HSET := hide ((HR2.out.set0 ha (.int .i64 (max (stAt st a) t))).congr (g := fun j => .int .i64 (stAt (st.set a (max (stAt st a) t)) j)) (fun j _ => by
   show (if j = a then Value.int .i64 (max (stAt st a) t) else .int .i64 (stAt st j)) = _
   rw [stAt_set st _ (by rw [HLN.out]; exact ha)]
   split <;> rfl))
  have HTS := hide (HT2.out.trans (Two.of_two (b := b) ((Aside.refl G (G + 1) w2).setCell (p := ⟨G,a,none⟩) (Nat.le_refl _) (Nat.lt_succ_self _) (.int .i64 (max (stAt st a) t)))))
  have HMS := hide (HM2.out.kept (show (w2.setCell ⟨G,a,none⟩ (.int .i64 (max (stAt st a) t))).heap[b]? = w2.heap[b]? from ((Aside.refl G (G + 1) w2).setCell (p := ⟨G,a,none⟩) (Nat.le_refl _) (Nat.lt_succ_self _) (.int .i64 (max (stAt st a) t))).block b HM2.out.lt (by have := HNE.out; omega)))
  obtain ⟨X,hX⟩ : ∃ X,X = stAt st a := ⟨_,rfl⟩
  rw [<- hX] at g0 HSET HTS HMS
  have HX := hide hX
  clear hX
  go_region
  go_wp2_with fail
  go_end0
  rw [<- HX.out]
  refine ⟨rfl,⟨?_,HSET.out,by rw [List.length_set]; exact HLN.out,HNE.out⟩,HTS.out.drew⟩
  rw [HFP.out]
  exact HMS.out
 | some v =>
  have HFP : Hid (fndAdd F (a : Int) t (p,q) = F) := by show _ = _; unfold fndAdd; rw [<- HV.out]; rfl
  unfold plV at hlook
  simp only [Option.getD_some,Option.isSome_some] at hlook
  obtain ⟨w2,hwB⟩ : ∃ wB,wB = wA.alloc (.cells #[.int .i64 v.1,.int .i64 v.2] 39) := ⟨_,rfl⟩
  have hzB : w2.heap.size = wA.heap.size + 1 := by rw [hwB]; simp
  have HBB : Hid (Below wA.heap.size wA w2) := by rw [hwB]; exact (Below.refl _ _).alloc (Nat.le_refl _) _
  have HZB := hide hzB
  clear hzB
  go_upto_region 5 with fail
  rw [<- hwB]
  clear hwB c0 c1 l0 l1 hlook
  have HFB := hide (HFA.out.later HBB.out)
  have HM2 := hide HFB.out.map
  have K0 := hide (block_on H0.out HBB.out)
  have K1 := hide (block_on H1.out HBB.out)
  have HR2 := hide HFB.out.row
  have HT2 := hide (Two.of_below (b := b) (G := G) (below_here HBA.out HBB.out))
  have HLN := hide HFB.out.len
  have HNE := hide HFB.out.ne
  obtain ⟨d0,d1⟩ := two_cells K0.out
  obtain ⟨e0,e1,e2,e3⟩ := four_cells K1.out
  obtain ⟨g0,g1⟩ := HR2.out.at0 ha
  have HSET := hide ((HR2.out.set0 ha (.int .i64 (max (stAt st a) t))).congr (g := fun j => .int .i64 (stAt (st.set a (max (stAt st a) t)) j)) (fun j _ => by
   show (if j = a then Value.int .i64 (max (stAt st a) t) else .int .i64 (stAt st j)) = _
   rw [stAt_set st _ (by rw [HLN.out]; exact ha)]
   split <;> rfl))
  have HTS := hide (HT2.out.trans (Two.of_two (b := b) ((Aside.refl G (G + 1) w2).setCell (p := ⟨G,a,none⟩) (Nat.le_refl _) (Nat.lt_succ_self _) (.int .i64 (max (stAt st a) t)))))
  have HMS := hide (HM2.out.kept (show (w2.setCell ⟨G,a,none⟩ (.int .i64 (max (stAt st a) t))).heap[b]? = w2.heap[b]? from ((Aside.refl G (G + 1) w2).setCell (p := ⟨G,a,none⟩) (Nat.le_refl _) (Nat.lt_succ_self _) (.int .i64 (max (stAt st a) t))).block b HM2.out.lt (by have := HNE.out; omega)))
  obtain ⟨X,hX⟩ : ∃ X,X = stAt st a := ⟨_,rfl⟩
  rw [<- hX] at g0 HSET HTS HMS
  have HX := hide hX
  clear hX
  go_region
  go_wp2_with fail
  go_end0
  rw [<- HX.out]
  refine ⟨rfl,⟨?_,HSET.out,by rw [List.length_set]; exact HLN.out,HNE.out⟩,HTS.out.drew⟩
  rw [HFP.out]
  exact mapAt_mono HMS.out
end Go.Proofs.YtgjoepdfhadmcaaGreatDoor
end

section
namespace Go.Proofs.YtgjoepdfhadmcaaGreatDoor
open Go.RowKit
set_option linter.unusedVariables false
theorem mountF_fit (z : Int) (qs : List Sq) (n : Int) : (mountF z qs n).qs.length + weight (mountF z qs n).qs <= 1048576 ∧ (mountF z qs n).ps.length <= 64 := by
 unfold mountF
 cases h : (chipOk z qs && inB n 1 64) with
 | false => simp [weight]
 | true =>
  rw [if_pos rfl]
  simp only [Bool.and_eq_true] at h
  have hn : 1 <= n ∧ n <= 64 := by have := h.2; unfold inB at this; simpa using this
  refine ⟨chipOk_fit h.1,?_⟩
  show (mtAll n.toNat qs).ps.length <= 64
  rw [(mtAll_ok n.toNat qs).ps]
  omega
end Go.Proofs.YtgjoepdfhadmcaaGreatDoor
end

section
namespace Go.Proofs.YtgjoepdfhadmcaaGreatDoor
open Go.RowKit
set_option linter.unusedVariables false
set_option maxRecDepth 20000
def PgIn (qs : List Sq) (t : ByteArray) : Prop := ∃ s k : Nat,s < qs.length ∧ k < (sqAt qs s).1.length ∧ txAt qs s k = t
theorem txAt_in {qs : List Sq} {v p : Nat} (h : 1 <= (txAt qs v p).size) : PgIn qs (txAt qs v p) := by
 by_cases hv : v < qs.length
 ·by_cases hp : p < (sqAt qs v).1.length
  ·exact ⟨v,p,hv,hp,rfl⟩
  ·exfalso
   unfold txAt at h
   rw [List.getD_eq_getElem?_getD,List.getElem?_eq_none (by omega)] at h
   simp at h
 ·exfalso
  have e : sqAt qs v = ([],0,false) := by unfold sqAt; rw [List.getD_eq_getElem?_getD,List.getElem?_eq_none (by omega)]; rfl
  unfold txAt at h
  rw [e] at h
  simp at h
theorem putK_pages {z : Int} {s s' : Kp} {i : Nat} {tx t : ByteArray} (h : putK z s i tx = some s') (ht : PgIn s'.qs t) : PgIn s.qs t ∨ t = tx := by
 obtain ⟨o,ho,hl,hb,hz,t1,t2,hc,rfl⟩ := putK_parts h
 obtain ⟨a,k,ha,hk,e⟩ := ht
 dsimp only at ha hk e
 rw [List.length_set] at ha
 unfold txAt at e
 rw [sqAt_set s.qs _ hl a] at hk e
 by_cases ea : a = o
 ·subst ea
  rw [if_pos rfl] at hk e
  dsimp only at hk e
  rw [List.length_append,List.length_singleton] at hk
  rw [List.getD_eq_getElem?_getD] at e
  by_cases hk2 : k < (sqAt s.qs a).1.length
  ·left
   refine ⟨a,k,ha,hk2,?_⟩
   rw [List.getElem?_append_left hk2] at e
   unfold txAt; rw [List.getD_eq_getElem?_getD]; exact e
  ·right
   have ek : k = (sqAt s.qs a).1.length := by omega
   subst ek
   rw [List.getElem?_append_right (Nat.le_refl _)] at e
   simpa using e.symm
 ·rw [if_neg ea] at hk e
  exact .inl ⟨a,k,ha,hk,e⟩
theorem moveI_pages {z : Int} {v p : Nat} {s : Kp} : ∀ {k : Nat} {s' : Kp},moveI z v p s k = some s' -> ∀ t,PgIn s'.qs t -> PgIn s.qs t
 | 0,s',h,t,ht => by
  simp only [moveI,Option.some.injEq] at h
  subst h; exact ht
 | k + 1,s',h,t,ht => by
  unfold moveI at h
  obtain ⟨s1,h1,h2⟩ := Option.bind_eq_some_iff.1 h
  split at h2
  ·obtain ⟨o,_,_,_,_,t1,_⟩ := putK_parts h2
   rcases putK_pages h2 ht with h3 | rfl
   ·exact moveI_pages h1 t h3
   ·exact moveI_pages h1 _ (txAt_in t1)
  ·simp only [Option.some.injEq] at h2
   subst h2; exact moveI_pages h1 t ht
theorem moveP_pages {z : Int} {v : Nat} {s : Kp} : ∀ {k : Nat} {s' : Kp},moveP z v s k = some s' -> ∀ t,PgIn s'.qs t -> PgIn s.qs t
 | 0,s',h,t,ht => by
  simp only [moveP,Option.some.injEq] at h
  subst h; exact ht
 | k + 1,s',h,t,ht => by
  unfold moveP at h
  obtain ⟨s1,h1,h2⟩ := Option.bind_eq_some_iff.1 h
  exact moveP_pages h1 t (moveI_pages h2 t ht)
theorem wipe_pages {z : Int} {s s' : Kp} {v : Nat} (h : doK z s (2,(v : Int),ByteArray.empty) = some s') {t : ByteArray} (ht : PgIn s'.qs t) : PgIn s.qs t := by
 obtain ⟨hl,hb,hw,hc,rfl⟩ := wipe_parts h
 obtain ⟨a,k,ha,hk,e⟩ := ht
 dsimp only at ha hk e
 rw [List.length_set] at ha
 unfold txAt at e
 rw [sqAt_set s.qs _ hl a] at hk e
 by_cases ea : a = v
 ·rw [if_pos ea] at hk
  simp at hk
 ·rw [if_neg ea] at hk e
  exact ⟨a,k,ha,hk,e⟩
theorem stepK_pages {z : Int} {s s' : Kp} (hK : KOk z s) (h : stepK z s = some s') {t : ByteArray} (ht : PgIn s'.qs t) : PgIn s.qs t := by
 unfold stepK at h
 split at h
 ·simp only [Option.some.injEq] at h
  subst h
  exact ht
 ·split at h
  ·cases h
  ·rename_i hv
   obtain ⟨v,ev,hvl,hvo,hvp,hvb,_,_⟩ := victim_parts hK.map hv
   rw [ev] at h
   split at h
   ·split at h
    ·cases h
    ·rw [Int.toNat_natCast] at h
     obtain ⟨s1,h1,h2⟩ := Option.bind_eq_some_iff.1 h
     unfold moveK at h1
     exact moveP_pages h1 t (wipe_pages h2 ht)
   ·exact wipe_pages h ht
theorem roomK_pages {z : Int} : ∀ {k : Nat} {s s' : Kp},KOk z s -> roomK z k s = some s' -> ∀ t,PgIn s'.qs t -> PgIn s.qs t
 | 0,s,s',hK,h,t,ht => by
  unfold roomK at h
  split at h
  ·simp only [Option.some.injEq] at h
   subst h; exact ht
  ·cases h
 | k + 1,s,s',hK,h,t,ht => by
  unfold roomK at h
  split at h
  ·simp only [Option.some.injEq] at h
   subst h; exact ht
  ·obtain ⟨s1,h1,h2⟩ := Option.bind_eq_some_iff.1 h
   exact stepK_pages hK h1 (roomK_pages (stepK_ok hK h1).ok h2 t ht)
structure MInv (qs : List Sq) (ps : List Pl) (st : Int) : Prop where
 each : ∀ t,PgIn qs t -> lyWell (lyP t).2.2.2.2 = true -> ∀ j : Nat,j < ps.length -> (lyP t).2.1 = (j : Int) -> plAt ps j ≠ (-1,0) ∧ (lyP t).2.2.1 <= (lyP (txt qs (plAt ps j))).2.2.1 ∧ ((lyP t).2.2.1 = (lyP (txt qs (plAt ps j))).2.2.1 -> t = txt qs (plAt ps j))
 top : ∀ t,PgIn qs t -> lyWell (lyP t).2.2.2.2 = true -> (lyP t).2.2.1 <= st
theorem minv_room {z : Int} {s s' : Kp} {st : Int} (h : MInv s.qs s.ps st) (hS : Stepped z s s') (hp : ∀ t,PgIn s'.qs t -> PgIn s.qs t) : MInv s'.qs s'.ps st := by
 refine ⟨fun t ht hw j hj ha => ?_,fun t ht hw => h.top t (hp t ht) hw⟩
 have hj' : j < s.ps.length := by rw [<- hS.places]; exact hj
 obtain ⟨h1,h2,h3⟩ := h.each t (hp t ht) hw j hj' ha
 obtain ⟨e1,e2⟩ := hS.same j hj'
 rw [e2 h1]
 exact ⟨fun e => h1 (e1.1 e),h2,h3⟩
theorem minv_enter {z : Int} {qs : List Sq} {ps : List Pl} {op st kd a : Int} {tx : ByteArray} {s : Kp} (h : planR z qs ps op st kd a tx = some s) (hI : MInv qs ps st) : MInv s.qs s.ps (st + 1) := by
 obtain ⟨hf,hm,s1,h1,h2⟩ := planR_some h
 have hK0 := kok_of hf []
 have hS := (roomK_ok hK0 h1).1
 have hI1 : MInv s1.qs s1.ps st := minv_room (s := ⟨qs,ps,op,[]⟩) hI hS (roomK_pages hK0 h1)
 unfold mayEnt at hm
 rw [Bool.and_eq_true] at hm
 obtain ⟨hpo,hin⟩ := hm
 unfold inB at hin
 simp only [Bool.and_eq_true,decide_eq_true_eq] at hin
 have hsp : s1.ps.length = ps.length := hS.places
 have ha : a.toNat < s1.ps.length := by omega
 obtain ⟨k1,k2,k3,k4,k5,k6,k7,k8,k9⟩ := putK_ok hS.ok ha h2
 obtain ⟨hly,hlz⟩ := ly_laid hpo
 have hna : plAt s.ps a.toNat ≠ (-1,0) := by
  rw [k8]
  obtain ⟨o,ho,_⟩ := putK_parts h2
  unfold nextP
  rw [ho]
  exact ne_none
 refine ⟨fun t ht hw j hj hat => ?_,fun t ht hw => ?_⟩
 ·by_cases e : j = a.toNat
  ·subst e
   rw [k9,hly]
   dsimp only
   rcases putK_pages h2 ht with h3 | rfl
   ·have := hI1.top t h3 hw
    exact ⟨hna,by omega,fun e => by omega⟩
   ·rw [hly]
    exact ⟨hna,Int.le_refl _,fun _ => rfl⟩
  ·rcases putK_pages h2 ht with h3 | rfl
   ·obtain ⟨g1,g2,g3⟩ := hI1.each t h3 hw j (by omega) hat
    obtain ⟨e1,e2⟩ := k7 j (by omega) e
    rw [e2 g1]
    exact ⟨fun e => g1 (e1.1 e),g2,g3⟩
   ·rw [hly] at hat
    dsimp only at hat
    omega
 ·rcases putK_pages h2 ht with h3 | rfl
  ·have := hI1.top t h3 hw
   omega
  ·rw [hly]
   exact Int.le_refl _
theorem mtOne_grow {n i k : Nat} {qs : List Sq} {s : Mt} (h : MtOk n qs s) (t : ByteArray) {j : Nat} (hj : j < n) : stAt s.st j <= stAt (mtOne n i k (lyP t) s).st j ∧ (mtHit n (lyP t) = true -> (lyP t).2.1 = (j : Int) -> (lyP t).2.2.1 <= stAt (mtOne n i k (lyP t) s).st j) := by
 unfold mtOne
 cases hh : mtHit n (lyP t) with
 | false => exact ⟨Int.le_refl _,fun e => (by cases e)⟩
 | true =>
  rw [if_pos rfl]
  unfold mtHit at hh
  simp only [Bool.and_eq_true,Bool.not_eq_true',decide_eq_false_iff_not] at hh
  obtain ⟨hw,ha⟩ := hh
  obtain ⟨w1,w2,w3,w4⟩ := lyP_well hw
  split
  ·rename_i hgt
   dsimp only
   rw [stAt_set s.st _ (by rw [h.st]; omega)]
   by_cases e : j = (lyP t).2.1.toNat
   ·rw [if_pos e]
    subst e
    exact ⟨by omega,fun _ _ => Int.le_refl _⟩
   ·rw [if_neg e]
    exact ⟨Int.le_refl _,fun _ e' => absurd (by omega) e⟩
  ·rename_i hgt
   dsimp only
   refine ⟨Int.le_refl _,fun _ e' => ?_⟩
   have e2 : (lyP t).2.1.toNat = j := by omega
   rw [e2] at hgt
   omega
theorem mtPages_top {n i : Nat} {qs : List Sq} {s : Mt} (h : MtOk n qs s) (hi : i < qs.length) {j : Nat} (hj : j < n) : ∀ k,k <= (sqAt qs i).1.length -> stAt s.st j <= stAt (mtPages n qs i s k).st j ∧ ∀ p,p < k -> mtHit n (lyP (txAt qs i p)) = true -> (lyP (txAt qs i p)).2.1 = (j : Int) -> (lyP (txAt qs i p)).2.2.1 <= stAt (mtPages n qs i s k).st j
 | 0,_ => ⟨Int.le_refl _,fun p hp => absurd hp (by omega)⟩
 | k + 1,hk => by
  obtain ⟨i1,i2⟩ := mtPages_top h hi hj k (by omega)
  obtain ⟨g1,g2⟩ := mtOne_grow (i := i) (k := k) (mtPages_ok h hi k (by omega)) (txAt qs i k) hj
  show _ <= stAt (mtOne n i k (lyP (txAt qs i k)) (mtPages n qs i s k)).st j ∧ ∀ p,_ -> _ -> _ -> _ <= stAt (mtOne n i k (lyP (txAt qs i k)) (mtPages n qs i s k)).st j
  refine ⟨by omega,fun p hp hh ha => ?_⟩
  by_cases e : p = k
  ·subst e; exact g2 hh ha
  ·have := i2 p (by omega) hh ha
   omega
theorem mtSqs_top {n : Nat} {qs : List Sq} {j : Nat} (hj : j < n) : ∀ i,i <= qs.length -> ∀ q,q < i -> ∀ p,p < (sqAt qs q).1.length -> mtHit n (lyP (txAt qs q p)) = true -> (lyP (txAt qs q p)).2.1 = (j : Int) -> (lyP (txAt qs q p)).2.2.1 <= stAt (mtSqs n qs i).st j
 | 0,_,q,hq => absurd hq (by omega)
 | i + 1,hi,q,hq => by
  intro p hp hh ha
  obtain ⟨g1,g2⟩ := mtPages_top (mtSqs_ok i (by omega)) (show i < qs.length by omega) hj _ (Nat.le_refl _)
  show _ <= stAt (mtPages n qs i (mtSqs n qs i) (sqAt qs i).1.length).st j
  by_cases e : q = i
  ·subst e; exact g2 p hp hh ha
  ·have := mtSqs_top hj i (by omega) q (by omega) p hp hh ha
   omega
theorem mounted_same {f : Fv} (hf : ftlOkF f = true) (hI : MInv f.qs f.ps f.st) {j : Nat} (hj : j < f.ps.length) : sameAt f.qs f.ps f.qs (mtAll f.ps.length f.qs).ps j := by
 have hm := mtAll_ok f.ps.length f.qs
 have hf' := hf
 unfold ftlOkF at hf'
 have hM := mapR_of (ftlOk_map hf')
 obtain ⟨_,_,_,hst0,hst1,_,hfp⟩ := ftlOk_parts hf'
 rcases hm.each j hj with ⟨e,es⟩ | ⟨i,k,e,hi,hk,hw,ha,es⟩
 ·-- nothing found: nothing was there
  have hn : plAt f.ps j = (-1,0) := by
   rcases hM.there j hj with h1 | h1
   ·exact h1
   ·by_cases hno : plAt f.ps j = (-1,0)
    ·exact hno
    ·exfalso
     obtain ⟨a,b,h2,h3,h4⟩ := plThere_iff.1 h1
     have h5 := (fpOk_iff.1 (hfp j hj)).resolve_left hno
     rw [pgOf_thereE hM.chip h1,h2] at h5
     obtain ⟨w1,w2,w3⟩ := h5
     have ht : txt f.qs ((a : Int),(b : Int)) = txAt f.qs a b := by unfold txt; simp only [Int.toNat_natCast]
     rw [ht] at w1 w2 w3
     have hhit : mtHit f.ps.length (lyP (txAt f.qs a b)) = true := by
      unfold mtHit
      rw [w1,w2]
      simp
      omega
     have := mtSqs_top hj f.qs.length (Nat.le_refl _) a h3 b h4 hhit w2
     have hst : stAt (mtAll f.ps.length f.qs).st j = stAt (mtSqs f.ps.length f.qs f.qs.length).st j := rfl
     have := (lyP_well w1).2.2.1
     omega
  exact ⟨⟨fun _ => hn,fun _ => e⟩,fun h => absurd hn h⟩
 ·obtain ⟨g1,g2,g3⟩ := hI.each (txAt f.qs i k) ⟨i,k,hi,hk,rfl⟩ hw j hj ha
  have ht2 : txt f.qs ((i : Int),(k : Int)) = txAt f.qs i k := by unfold txt; simp only [Int.toNat_natCast]
  refine ⟨⟨fun e' => ?_,fun e' => absurd e' g1⟩,fun _ => ?_⟩
  ·rw [e] at e'; exact absurd e' ne_none
  ·rw [e,ht2]
   apply g3
   have h1 := (hM.there j hj).resolve_left g1
   obtain ⟨a,b,h2,h3,h4⟩ := plThere_iff.1 h1
   have h5 := (fpOk_iff.1 (hfp j hj)).resolve_left g1
   rw [pgOf_thereE hM.chip h1,h2] at h5
   obtain ⟨w1,w2,w3⟩ := h5
   have ht : txt f.qs ((a : Int),(b : Int)) = txAt f.qs a b := by unfold txt; simp only [Int.toNat_natCast]
   rw [ht] at w1 w2 w3
   rw [h2,ht] at g2 ⊢
   have hhit : mtHit f.ps.length (lyP (txAt f.qs a b)) = true := by
    unfold mtHit
    rw [w1,w2]
    simp
    omega
   have hmx := mtSqs_top hj f.qs.length (Nat.le_refl _) a h3 b h4 hhit w2
   have hst : stAt (mtAll f.ps.length f.qs).st j = stAt (mtSqs f.ps.length f.qs f.qs.length).st j := rfl
   omega
def mtF (f : Fv) : Fv := ⟨f.z,f.qs,(mtAll f.ps.length f.qs).ps,-1,(mtAll f.ps.length f.qs).S⟩
theorem mtF_ok {f : Fv} (hf : ftlOkF f = true) : ftlOkF (mtF f) = true ∧ (mtF f).ps.length = f.ps.length := by
 unfold ftlOkF at hf
 have hM := mapR_of (ftlOk_map hf)
 exact ⟨mounted_ok hM.chip hM.one hM.few,(mtAll_ok f.ps.length f.qs).ps⟩
theorem mtF_get {f : Fv} (hf : ftlOkF f = true) (hI : MInv f.qs f.ps f.st) {j : Nat} (hj : j < f.ps.length) : getF (mtF f) (j : Int) = getF f (j : Int) := by
 obtain ⟨h1,h2⟩ := mtF_ok hf
 exact get_same hf h1 h2 hj (mounted_same hf hI hj)
theorem minv_none {qs : List Sq} {ps : List Pl} {st : Int} (h : ∀ s,s < qs.length -> (sqAt qs s).1 = []) : MInv qs ps st := by
 have hn : ∀ t,¬ PgIn qs t := fun t ⟨s,k,hs,hk,_⟩ => by rw [h s hs] at hk; simp at hk
 exact ⟨fun t ht => absurd ht (hn t),fun t ht => absurd ht (hn t)⟩
end Go.Proofs.YtgjoepdfhadmcaaGreatDoor
end

