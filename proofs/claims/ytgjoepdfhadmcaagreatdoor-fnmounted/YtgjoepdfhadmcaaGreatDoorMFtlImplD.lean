/- Several texts in one: FtlImplD, FtlImplE. -/
import Derived.Test.YtgjoepdfhadmcaaGreatDoorMFtlMath
import Derived.Test.YtgjoepdfhadmcaaGreatDoorMChipImplF
import Derived.Test.YtgjoepdfhadmcaaGreatDoorMQuietTail
import Derived.Deep.RegionWith
import Derived.Deep.DeepCutAuto
import Derived.BigRegion
import Derived.BigQuiet
import Derived.Test.YtgjoepdfhadmcaaGreatDoorMChipCutS
section
namespace Go.Proofs.YtgjoepdfhadmcaaGreatDoor
open Go.RowKit
set_option linter.unusedVariables false
set_option maxRecDepth 20000
theorem Tryz.infoJobI:(Tryz.prog.info? 98).map (fun i=>(i.zero,i.size,i.bytes))=some (some (.agg #[.int .i64 0,.int .i64 0,.string ByteArray.empty]),3,32):=by kernel_rfl
theorem six_cells {W:World}{b:Nat}{c0 c1 c2 c3 c4 c5:Value}{t:TypeId}{fr:Nat×Nat}(h:W.heap[b]?=some (.cells #[c0,c1,c2,c3,c4,c5] t fr)) :
  W.cell? ⟨b,0,none⟩=some c0∧W.cell? ⟨b,1,none⟩=some c1∧W.cell? ⟨b,2,none⟩=some c2∧W.cell? ⟨b,3,none⟩=some c3∧W.cell? ⟨b,4,none⟩=some c4∧W.cell? ⟨b,5,none⟩=some c5:=by
 simp[World.cell?,h]
def noRoomV (aN:Addr):Value:=.iface 312 (.pointer (some aN))
structure KeeperAt (B:Nat)(w:World)(pk:Nat)(z st:Int)(n g c gm cm:Nat)(A:Nat->Option Addr)(C:Nat->Nat)(V:Value)(s:Kp)(aN:Addr):Prop where
 mem:KpMem B w n g gm cm A C V s
 box:w.heap[pk]?=some (.cells #[.int .i64 z,.slice (some ⟨g,0,none⟩) n c,.slice (some ⟨gm,0,none⟩) s.ps.length cm,.int .i64 s.op,.int .i64 st,V] 161)
 nk:pk≠g
 bk:B<=pk
 er:w.cell? ⟨1,0,none⟩=some (noRoomV aN)
 eb:1<B
section
variable {B pk n g c gm cm:Nat}{w w':World}{z st:Int}{A:Nat->Option Addr}{C:Nat->Nat}{V:Value}{s:Kp}{aN:Addr}
theorem KeeperAt.later (h:KeeperAt B w pk z st n g c gm cm A C V s aN)(hb:Below w.heap.size w w')(hB:B<=w.heap.size):KeeperAt B w' pk z st n g c gm cm A C V s aN :=
 ⟨h.mem.later hb,block_on h.box hb,h.nk,h.bk,(hb.cell (p:=⟨_,_,none⟩) (Nat.lt_of_lt_of_le h.eb hB)).trans h.er,h.eb⟩
theorem KeeperAt.apart (h:KeeperAt B w pk z st n g c gm cm A C V s aN):gm≠pk:=by
 obtain⟨cs,fz,hk⟩:=h.mem.kind
 intro e
 rw[e,h.box] at hk
 simp only[Option.some.injEq,Obj.cells.injEq] at hk
 exact absurd hk.2.1 (by decide)
theorem KeeperAt.bound (h:KeeperAt B w pk z st n g c gm cm A C V s aN):pk<w.heap.size∧g<w.heap.size∧gm<w.heap.size∧B<=gm∧B<=g:=by
 obtain⟨cs,fz,hk⟩:=h.mem.kind
 exact⟨(Array.getElem?_eq_some_iff.1 h.box).1,by have:=h.mem.sq.row.1;omega,(Array.getElem?_eq_some_iff.1 hk).1,(World.ownsRow.lt h.mem.pl gm rfl).1,h.mem.sq.atG⟩
end
theorem KpMem.keepP {B n g gm cm:Nat}{w w':World}{A:Nat->Option Addr}{C:Nat->Nat}{V:Value}{s:Kp}(h:KpMem B w n g gm cm A C V s){p:Nat}(hg:w.grownBy w' (some p))(hp:p≠g)(hq:p≠gm){cs:Array Value}{T:TypeId}{fr:Nat×Nat}(hT:w.heap[p]?=some (.cells cs T fr))(h1:T≠9)(h3:T≠98):KpMem B w' n g gm cm A C V s :=
 ⟨h.sq.keep hg (fun e=>hp (by simpa using e)) (fun k e=>by simp only[Option.some.injEq] at e;subst e;exact⟨_,_,_,hT,h1⟩),World.ownsRow.kept h.pl hg (.inr (fun e=>hq (by have e':some gm=some p:=e;simpa using e'.symm))),own_keepBy h.jb hg (fun k e=>by simp only[Option.some.injEq] at e;subst e;exact⟨_,_,_,hT,h3⟩),h.ne,h.nj⟩
theorem KeeperAt.setP {B pk n g c gm cm:Nat}{w:World}{z st:Int}{A:Nat->Option Addr}{C:Nat->Nat}{V:Value}{s:Kp}{aN:Addr}(h:KeeperAt B w pk z st n g c gm cm A C V s aN){p:Nat}(o:Nat)(v:Value)(hp:p≠g)(hq:p≠gm)(hk:p≠pk)(hB:B<=p){cs:Array Value}{T:TypeId}{fr:Nat×Nat}(hT:w.heap[p]?=some (.cells cs T fr))(h1:T≠9)(h3:T≠98):KeeperAt B (w.setCell ⟨p,o,none⟩ v) pk z st n g c gm cm A C V s aN :=
 ⟨h.mem.keepP (grown_set w ⟨p,o,none⟩ v) hp hq hT h1 h3,set_other h.box hk v,h.nk,h.bk,by
  rw[World.cell?_setCell_other _ _ _ _ (by intro e2;simp only[Addr.mk.injEq] at e2;have:=h.eb;omega)]
  exact h.er,h.eb⟩
theorem Frame.setNew {B:Nat}{L:List Nat}{w w1:World}(h:Frame B L w w1){p:Nat}(hp:w.heap.size<=p)(hB:B<=p)(o:Nat)(v:Value):Frame B L w (w1.setCell ⟨p,o,none⟩ v) :=
 ⟨h.below.setCell (p:=⟨p,o,none⟩) hB v,fun q cs T fr h1 h2 h3 h4=>set_other (h.other q cs T fr h1 h2 h3 h4) (fun e=>by have:=(Array.getElem?_eq_some_iff.1 h4).1;omega) v⟩
def IPost (r:Option Kp)(v:Value)(R:(Nat->Option Addr)->Prop)(B pk:Nat)(z st:Int)(n g c gm cm:Nat)(aN:Addr)(w:World)(e:Ending)(w':World):Prop :=
 Frame B [g,pk,gm] w w'∧match r with
  | none=>e=.panicked [{ v:=noRoomV aN,recovered:=false }]
  | some s'=>e=.returned v∧∃A C V,KeeperAt B w' pk z st n g c gm cm A C V s' aN∧R A
theorem noted_in {B pk n g c gm cm g' c':Nat}{w w':World}{z st kd sq:Int}{tx:ByteArray}{A:Nat->Option Addr}{C:Nat->Nat}{aj:Option Addr}{cj:Nat}{s:Kp}{aN:Addr}(hB:B<=w.heap.size)(h:KeeperAt B w pk z st n g c gm cm A C (.slice aj s.js.length cj) s aN)
  (hr:w.grownBy w' (Value.slice aj s.js.length cj).ownBlock) (ho:w'.ownsRow B 98 3 (.slice (some ⟨g',0,none⟩) (s.js.length+1) c') (s.js.length+1) (jbL s.js++[.int .i64 kd,.int .i64 sq,.string tx]))
  (hat:(Value.slice aj s.js.length cj).ownBlock=some g'∨w.heap.size<=g') :
  KeeperAt B (w'.setCell ⟨pk,5,none⟩ (.slice (some ⟨g',0,none⟩) (s.js.length+1) c')) pk z st n g c gm cm A C (.slice (some ⟨g',0,none⟩) (s.js.length+1) c') ⟨s.qs,s.ps,s.op,s.js++[(kd,sq,tx)]⟩ aN:=by
 have hk:∀(p:Nat) (cs:Array Value) (T:TypeId) (fr:Nat×Nat),w.heap[p]?=some (.cells cs T fr)->T≠98->w'.heap[p]?=some (.cells cs T fr):=fun p cs T fr h1 h2=>by
  rw[hr.block p (Array.getElem?_eq_some_iff.1 h1).1 (fun e=>?_)]
  ·exact h1
  ·obtain⟨cs',fz,h3⟩:=Go.Lib.ownsRow_kind h.mem.jb p e.symm
   rw[h1] at h3
   simp only[Option.some.injEq,Obj.cells.injEq] at h3
   exact h2 h3.2.1
 have e:s.js.length+1=(s.js++[(kd,sq,tx)]).length:=by simp
 have ho':JbOwn B w' (.slice (some ⟨g',0,none⟩) (s.js.length+1) c') (s.js++[(kd,sq,tx)]):=by
  show World.ownsRow _ _ _ _ _ (s.js++[(kd,sq,tx)]).length (jbL (s.js++[(kd,sq,tx)]))
  rw[<- e,<- jbL_snoc]
  exact ho
 have hm:=h.mem.noted (j:=(kd,sq,tx)) hr ho' (hat.imp (fun e=>e.symm) (fun e=>⟨g',rfl,e⟩))
 have hp':=hk pk _ _ _ h.box (by decide)
 have hne:1≠pk:=by have:=h.eb;have:=h.bk;omega
 have her:w'.cell? ⟨1,0,none⟩=some (noRoomV aN):=by
  rw[World.cell?_of_block (w:=w) (a:=⟨1,0,none⟩) (hr.block _ (Nat.lt_of_lt_of_le h.eb hB) (fun e2=>?_))]
  ·exact h.er
  ·have h1:B<=1:=(World.ownsRow.lt h.mem.jb _ e2.symm).1
   have h2:=h.eb
   omega
 refine⟨hm.set _ h.nk hp' (by decide) (by decide) (by decide),set_block hp' 5 _ (by simp),h.nk,h.bk,?_,h.eb⟩
 rw[World.cell?_setCell_other _ _ _ _ (by intro e2;simp only[Addr.mk.injEq] at e2;omega)]
 exact her
set_option maxHeartbeats 3200000 in
theorem do_any (B pk:Nat)(z st:Int)(n g c gm cm:Nat)(A:Nat->Option Addr)(C:Nat->Nat)(V:Value)(s:Kp)(aN:Addr)(kd sq:Int)(tx:ByteArray)(w:World)(h:KeeperAt B w pk z st n g c gm cm A C V s aN)(hB:B<=w.heap.size)(hok:chipOk z s.qs=true)(htx:tx.size<=maxLen)(hjs:s.js.length<=1048576) :
  Calls Tryz.prog 186 #[.pointer (some ⟨pk,0,none⟩),.agg #[.int .i64 kd,.int .i64 sq,.string tx]] w fun e w'=>IPost (doK z s (kd,sq,tx)) (.tuple #[]) (fun A'=>∀j:Nat,(j:Int)≠sq->A' j=A j) B pk z st n g c gm cm aN w e w':=by
 obtain⟨wA,hwA⟩:∃wA,wA=w.alloc (.cells #[.int .i64 kd,.int .i64 sq,.string tx] 98):=⟨_,rfl⟩
 have hzA:wA.heap.size=w.heap.size+1:=by rw[hwA];simp
 have HBA:Hid (Below w.heap.size w wA):=by rw[hwA];exact(Below.refl _ _).alloc (Nat.le_refl _) _
 have HJ:Hid (wA.heap[w.heap.size]?=some (.cells #[.int .i64 kd,.int .i64 sq,.string tx] 98)):=by rw[hwA];exact heap_new _ _
 have HA:=hide (h.later HBA.out hB)
 obtain⟨bd1,bd2,bd3,bd4,bd5⟩:=h.bound
 obtain⟨aj,cj,rfl,hcj⟩:=jb_form h.mem.jb
 have HDO:Hid (doK z s (kd,sq,tx)=if canJ z s.qs (kd,sq,tx) then some ⟨doJ z s.qs (kd,sq,tx),s.ps,s.op,s.js++[(kd,sq,tx)]⟩ else none):=rfl
 have HC:∀w9,Hid (Below wA.heap.size wA w9->Calls Tryz.prog 125 #[.agg #[.int .i64 z,.slice (some ⟨g,0,none⟩) n c],.agg #[.int .i64 kd,.int .i64 sq,.string tx]] w9 fun e w'=>e=.returned (.bool (canJ z s.qs (kd,sq,tx)))∧∃A' C',GrowSqs B w' n (doJ z s.qs (kd,sq,tx)) g A' C'∧Only B g wA w'∧∀j:Nat,(j:Int)≠sq->A' j=A j):=fun w9 h9 =>
  (alter_at c B z n s.qs g A C kd sq tx w9 ((HA.out.later h9 (by omega)).mem.sq) (by have:=h9.size;omega) hok htx).mono (fun e w' hh=>⟨hh.1,by obtain⟨_,A',C',h2,h3,h4⟩:=hh;exact⟨A',C',h2,(only_of_below h9 (by omega)).trans h3,h4⟩⟩)
 have HNK:=hide h.nk
 have HBK:=hide h.bk
 have HEB:=hide h.eb
 clear h hok
 obtain⟨b0,b1,b2⟩:=three_cells HJ.out
 obtain⟨x0,x1,x2,x3,x4,x5⟩:=six_cells HA.out.box
 go_enter Tryz.func186,Tryz.ntmps186
 go_upto_region 1 with fail
 rw[<- hwA]
 clear hwA
 go_cut [10] (fun d wx=>d=.bool (!canJ z s.qs (kd,sq,tx))∧∃A' C',GrowSqs B wx n (doJ z s.qs (kd,sq,tx)) g A' C'∧Only B g wA wx∧∀j:Nat,(j:Int)≠sq->A' j=A j)
 case first =>
  go_region_with (go_at_call 125;refine((HC _).out (by exact(Below.refl _ wA).drew)).mono ?_;rintro e w1 ⟨rfl,A',C',hG1,hO1,hJ1⟩;have HG1:=hide hG1;have HO1:=hide hO1;have HJ9:=hide hJ1;clear hG1 hO1 hJ1)
  all_goals
   go_wp2_with fail
   go_meet
   exact⟨rfl,_,_,HG1.out,HO1.out,HJ9.out⟩
 case rest =>
  obtain⟨rfl,A',C',hG1,hO1,hJ1⟩:=hcut
  have HJ9:=hide hJ1
  clear hJ1
  obtain⟨w1,hw1⟩:∃w1,w1=wc:=⟨_,rfl⟩
  subst hw1
  have HB1:=hide ((frame_of_below (L:=[g,pk,gm]) HBA.out hB).trans (frame_of_only hO1 (by simp)))
  have hs1:=hO1.below.size
  have HX1:=hide (hO1.other pk _ _ _ HNK.out (by decide) HA.out.box)
  have er1:=(hO1.below.cell (p:=⟨1,0,none⟩) HEB.out).trans HA.out.er
  have HM1:Hid (KeeperAt B w1 pk z st n g c gm cm A' C' (.slice aj s.js.length cj) ⟨doJ z s.qs (kd,sq,tx),s.ps,s.op,s.js⟩ aN):=⟨HA.out.mem.did hG1 hO1 (by omega),HX1.out,HNK.out,HBK.out,er1,HEB.out⟩
  have HJ1:=hide (hO1.other w.heap.size _ _ _ (by omega) (by decide) HJ.out)
  clear hG1 hO1 HC HA HJ b0 b1 b2 x0 x1 x2 x3 x4 x5
  cases hcan:canJ z s.qs (kd,sq,tx) with
  | false =>
   have HE:Hid (doK z s (kd,sq,tx)=none):=by show _=_;rw[HDO.out,hcan];rfl
   unfold noRoomV at er1
   go_wp2_with fail
   refine⟨rfl,?_⟩
   unfold IPost
   rw[HE.out]
   exact⟨HB1.out,rfl⟩
  | true =>
   have HE:Hid (doK z s (kd,sq,tx)=some ⟨doJ z s.qs (kd,sq,tx),s.ps,s.op,s.js++[(kd,sq,tx)]⟩):=by show _=_;rw[HDO.out,hcan];rfl
   clear hcan HDO er1
   obtain⟨j0,j1,j2⟩:=three_cells HJ1.out
   obtain⟨x0,x1,x2,x3,x4,p0⟩:=six_cells HX1.out
   clear x0 x1 x2 x3 x4
   obtain⟨i0,hi0,hzz0,hzz1,hzz2⟩:=info_parts Tryz.infoJobI
   have HBB:=hide ((Below.refl w1.heap.size w1).alloc (Nat.le_refl _) (.cells #[.int .i64 kd,.int .i64 sq,.string tx] 98))
   have HMB:=hide (HM1.out.later HBB.out (by omega))
   have HOD:Hid (World.ownsRow (w1.alloc (.cells #[.int .i64 kd,.int .i64 sq,.string tx] 98)).drew B 98 3 (.slice aj s.js.length cj) s.js.length (jbL s.js)):=World.ownsRow.drew HMB.out.mem.jb
   have hzB:(w1.alloc (.cells #[.int .i64 kd,.int .i64 sq,.string tx] 98)).heap.size=w1.heap.size+1:=by simp
   have HZB:=hide hzB
   clear hzB
   obtain⟨y0,y1,y2,y3,y4,p1⟩:=six_cells HMB.out.box
   clear y0 y1 y2 y3 y4
   have f1:=four_frozen HMB.out.box 5
   have HNE:Hid (some pk≠(Value.slice aj s.js.length cj).ownBlock):=fun e=>by
    obtain⟨cs,fz,h2⟩:=Go.Lib.ownsRow_kind HMB.out.mem.jb pk e.symm
    rw[HMB.out.box] at h2
    simp only[Option.some.injEq,Obj.cells.injEq] at h2
    exact absurd h2.2.1 (by decide)
   have hpl1:pk<w1.heap.size:=by omega
   go_upto_region 3 with fail
   go_region_law (refine step_append_lies _ (by rfl) _ _ _ (by rfl) B 98 i0 (.agg #[.int .i64 0,.int .i64 0,.string ByteArray.empty]) 3 32 Tryz.underlying91 hi0 hzz0 hzz1 hzz2 rfl (by decide) (.slice aj s.js.length cj) s.js.length (jbL s.js) (by rfl) HOD.out ⟨w1.heap.size,0,none⟩ 1 1 [.int .i64 kd,.int .i64 sq,.string tx] (by rfl) rfl (cell_three_new _ _ _ _ _) (job_one _ _ _) (by omega) (by unfold maxLen;omega) (by omega) (by simp;omega) (w1.heap.size+1) (by simp) ?_;intro g' c' w5 hown5 hgr5 hat5 hlt5;have c5:=(hgr5.cell_far ⟨pk,5,none⟩ (by simp;omega) HNE.out).trans p1;have f5:=(hgr5.frozen_far ⟨pk,5,none⟩ (by simp;omega) HNE.out).trans f1;have HO5:=hide hown5;have HR5:=hide hgr5;have HA5:=hide hat5;clear hown5 hgr5 hat5)
   all_goals
    have hzB:=HZB.out
    have HR6:Hid ((w1.alloc (.cells #[.int .i64 kd,.int .i64 sq,.string tx] 98)).grownBy w5 (Value.slice aj s.js.length cj).ownBlock):=⟨HR5.out.os,HR5.out.tape,HR5.out.output,HR5.out.size,fun k hk hne=>HR5.out.block k hk hne⟩
    have HF:=hide (noted_in (s:=⟨doJ z s.qs (kd,sq,tx),s.ps,s.op,s.js⟩) (by omega) HMB.out HR6.out HO5.out (HA5.out.imp id (fun e=>by omega)))
    have HBF:=hide (((HB1.out.on HBB.out (by omega)).noted HMB.out.mem.jb HR6.out (by omega)).set (p:=pk) (by simp) HBK.out 5 (.slice (some ⟨g',0,none⟩) (s.js.length+1) c'))
    go_wp2_with fail
    go_end0
    unfold IPost
    rw[HE.out]
    exact⟨HBF.out,rfl,_,_,_,HF.out,HJ9.out⟩
set_option maxHeartbeats 3200000 in
theorem write_any (B pk:Nat)(z st:Int)(n g c gm cm:Nat)(A:Nat->Option Addr)(C:Nat->Nat)(V:Value)(s:Kp)(aN:Addr)(o:Nat)(tx:ByteArray)(w:World)(h:KeeperAt B w pk z st n g c gm cm A C V s aN)(hB:B<=w.heap.size)(hok:chipOk z s.qs=true)(ho:s.op=(o:Int))(hon:o<n)(htx:tx.size<=maxLen)(hjs:s.js.length<=1048576) :
  Calls Tryz.prog 152 #[.pointer (some ⟨pk,0,none⟩),.string tx] w fun e w'=>IPost (doK z s (1,(o:Int),tx)) (.agg #[.int .i64 (o:Int),.int .i64 ((sqAt s.qs o).1.length:Int)]) (fun A'=>∀j:Nat,j≠o->A' j=A j) B pk z st n g c gm cm aN w e w':=by
 obtain⟨wA,hwA⟩:∃wA,wA=w.alloc (.cells #[.int .i64 0,.int .i64 0] 39):=⟨_,rfl⟩
 have hzA:wA.heap.size=w.heap.size+1:=by rw[hwA];simp
 have HBA:Hid (Below w.heap.size w wA):=by rw[hwA];exact(Below.refl _ _).alloc (Nat.le_refl _) _
 have HR:Hid (wA.heap[w.heap.size]?=some (.cells #[.int .i64 0,.int .i64 0] 39)):=by rw[hwA];exact heap_new _ _
 have HA:=hide (h.later HBA.out hB)
 have hn12:n<=12:=by have:=(chipOk_parts hok).2.2.2.1;rw[h.mem.sq.len] at this;exact this
 obtain⟨bd1,bd2,bd3,bd4,bd5⟩:=h.bound
 have HCK:=hide hok
 have hol:(sqAt s.qs o).1.length<=8:=by
  have h1:=(sqOk_parts (chipOk_at hok (show o<s.qs.length by rw[h.mem.sq.len];exact hon))).1
  have h2:=(chipOk_parts hok).2.1
  omega
 have hoi:(o:Int)<(n:Int):=by omega
 obtain⟨x0,x1,x2,x3,x4,x5⟩:=six_cells HA.out.box
 obtain⟨z0,_,_⟩:=HA.out.mem.sq.cells hon
 rw[ho] at x3
 obtain⟨lo,hlo⟩:∃lo,lo=(sqAt s.qs o).1.length:=⟨_,rfl⟩
 rw[<- hlo] at z0 hol
 rw[<- hlo]
 clear h hok hlo x4 x5
 go_enter Tryz.func152,Tryz.ntmps152
 go_upto_region 1 with fail
 rw[<- hwA]
 clear hwA
 go_cut [5] (fun d wx=>∃g',d=.pointer (some ⟨g',0,none⟩)∧wA.heap.size<=g'∧wx.heap[g']?=some (.cells #[.int .i64 (o:Int),.int .i64 (lo:Int)] 39)∧Below wA.heap.size wA wx)
 case first =>
  have HBX:Hid (Below wA.heap.size wA (wA.alloc (.cells #[.int .i64 (o:Int),.int .i64 (lo:Int)] 39)).drew):=((Below.refl wA.heap.size wA).alloc (Nat.le_refl _) _).drew
  have bd1':pk<wA.heap.size:=by omega
  have bd2':g<wA.heap.size:=by omega
  have HZA:=hide hzA
  clear hzA
  go_region
  go_wp2_with fail
  go_meet
  exact⟨_,rfl,Nat.le_refl _,heap_new wA _,HBX.out⟩
 case rest =>
  obtain⟨tb,rfl,htb,htc,hbw⟩:=hcut
  obtain⟨w4,hw4⟩:∃w4,w4=wc:=⟨_,rfl⟩
  subst hw4
  have HTC:=hide htc
  have HA4:=hide (HA.out.later hbw (by omega))
  have HF4:=hide (frame_of_below (L:=[g,pk,gm]) (below_here HBA.out hbw) hB)
  have HR4:=hide (block_on HR.out hbw)
  have hs4:=hbw.size
  clear htc hbw x0 x1 x2 x3 z0
  obtain⟨a0,a1,a2,a3,a4,a5⟩:=six_cells HA4.out.box
  rw[ho] at a3
  clear a4 a5
  have HCL:∀w',Hid (Below w4.heap.size w4 w'->Calls Tryz.prog 186 #[.pointer (some ⟨pk,0,none⟩),.agg #[.int .i64 1,.int .i64 (o:Int),.string tx]] w' fun e w''=>IPost (doK z s (1,(o:Int),tx)) (.tuple #[]) (fun A'=>∀j:Nat,(j:Int)≠(o:Int)->A' j=A j) B pk z st n g c gm cm aN w' e w''):=fun w' hb' =>
   do_any B pk z st n g c gm cm A C V s aN 1 (o:Int) tx w' (HA4.out.later hb' (by omega)) (by have:=hb'.size;omega) HCK.out htx hjs
  go_wp2_with fail
  refine((HCL _).out (Below.refl _ _)).mono ?_
  rintro e w5 ⟨hf5,hk5⟩
  have HF5:=hide (HF4.out.trans hf5)
  have HT5:=hide (hf5.other tb _ _ _ (by simp;omega) (by decide) (by decide) HTC.out)
  have HR5:=hide (hf5.other w.heap.size _ _ _ (by simp;omega) (by decide) (by decide) HR4.out)
  clear hf5 HCL a0 a1 a2 a3
  cases hd:doK z s (1,(o:Int),tx) with
  | none =>
   rw[hd] at hk5
   dsimp only at hk5
   subst hk5
   unfold noRoomV
   go_wp2_with fail
   refine⟨rfl,?_⟩
   unfold IPost
   rw[hd]
   exact⟨HF5.out,rfl⟩
  | some s' =>
   rw[hd] at hk5
   dsimp only at hk5
   obtain⟨rfl,A5,C5,V5,hA5,hJ5⟩:=hk5
   have HJ5:=hide hJ5
   clear hJ5
   have HA5:=hide hA5
   have HD:=hide hd
   clear hA5 hd
   obtain⟨t0,t1⟩:=two_cells HT5.out
   obtain⟨q0,q1⟩:=two_cells HR5.out
   have f0:=four_frozen HR5.out 0
   have f1:=four_frozen HR5.out 1
   have HRS:=hide (two_set HR5.out (.int .i64 (o:Int)) (.int .i64 (lo:Int)))
   have HAS:=hide (two_aside (b:=w.heap.size) (Aside.refl w.heap.size (w.heap.size+1) w5) (Nat.le_refl _) (Nat.lt_succ_self _) (.int .i64 (o:Int)) (.int .i64 (lo:Int)))
   have HAF:=hide ((HA5.out.setP 0 (.int .i64 (o:Int)) (p:=w.heap.size) (by omega) (by omega) (by omega) hB HR5.out (by decide) (by decide)).setP 1 (.int .i64 (lo:Int)) (p:=w.heap.size) (by omega) (by omega) (by omega) hB (set_block HR5.out 0 (.int .i64 (o:Int)) (by simp)) (by decide) (by decide))
   have HFF:=hide ((HF5.out.setNew (p:=w.heap.size) (Nat.le_refl _) hB 0 (.int .i64 (o:Int))).setNew (p:=w.heap.size) (Nat.le_refl _) hB 1 (.int .i64 (lo:Int)))
   go_wp2_with fail
   refine bodyPost_ret (results_cell rfl rfl (run_loadVar_row _ _ _ _ _ _ _ HRS.out Tryz.underlying39 rfl (by kernel_rfl))) rfl ?_
   unfold IPost
   rw[HD.out]
   exact⟨HFF.out,rfl,A5,C5,V5,HAF.out,fun j hj=>HJ5.out j (by omega)⟩
end Go.Proofs.YtgjoepdfhadmcaaGreatDoor
end

section
namespace Go.Proofs.YtgjoepdfhadmcaaGreatDoor
open Go.RowKit
set_option linter.unusedVariables false
set_option maxRecDepth 20000
theorem KeeperAt.led {B pk n g c gm cm:Nat}{w:World}{z st:Int}{A:Nat->Option Addr}{C:Nat->Nat}{V:Value}{s:Kp}{aN:Addr}(h:KeeperAt B w pk z st n g c gm cm A C V s aN){i:Nat}(hi:i<s.ps.length)(x:Pl) :
  KeeperAt B ((w.setCell ⟨gm,i*2,none⟩ (.int .i64 x.1)).setCell ⟨gm,i*2+1,none⟩ (.int .i64 x.2)) pk z st n g c gm cm A C V ⟨s.qs,s.ps.set i x,s.op,s.js⟩ aN:=by
 have h1:=h.apart
 have hb:=h.bound
 have he:=h.eb
 refine⟨h.mem.led hi x,?_,h.nk,h.bk,?_,h.eb⟩
 ·dsimp only
  rw[List.length_set]
  exact set_other (set_other h.box h1 _) h1 _
 ·rw[World.cell?_setCell_other _ _ _ _ (by intro e2;simp only[Addr.mk.injEq] at e2;omega),World.cell?_setCell_other _ _ _ _ (by intro e2;simp only[Addr.mk.injEq] at e2;omega)]
  exact h.er
theorem putK_in {z:Int}{s:Kp}{i o:Nat}{tx:ByteArray}(ho:s.op=(o:Int)):putK z s i tx=(doK z s (1,(o:Int),tx)).map fun s'=>⟨s'.qs,s'.ps.set i ((o:Int),((sqAt s.qs o).1.length:Int)),s'.op,s'.js⟩:=by
 unfold putK nextP
 rw[ho,Int.toNat_natCast]
theorem doK_room {z:Int}{s:Kp}{o k:Nat}{tx:ByteArray}(hK:KOk z s)(ho:s.op=(o:Int))(hon:o<s.qs.length)(hk:(sqAt s.qs o).1.length<=k)(hz:(k:Int)<z)(h1:1<=tx.size)(h2:tx.size<=200):(doK z s (1,(o:Int),tx)).isSome=true:=by
 have hb:(sqAt s.qs o).2.2=false:=by
  have:=hK.good
  unfold opOk at this
  rw[ho] at this
  simpa using this
 have hc:canJ z s.qs (1,(o:Int),tx)=true:=by
  unfold canJ canK txOk inB
  simp only[Int.toNat_natCast,hb]
  simp
  omega
 unfold doK
 rw[if_pos hc]
 rfl
theorem moveP_room {z:Int}{v o:Nat}{s:Kp}(hK:KOk z s)(hv:(v:Int)≠s.op)(ho:s.op=(o:Int))(h0:(sqAt s.qs o).1.length=0):∀{k:Nat} {t:Kp},moveP z v s k=some t->(sqAt t.qs o).1.length<=k
 | 0,t,h=>by unfold moveP at h;simp only[Option.some.injEq] at h;subst h;omega
 | k+1,t,h=>by
  unfold moveP at h
  cases hp:moveP z v s k with
  | none=>rw[hp] at h;cases h
  | some u =>
   have ih:=moveP_room hK hv ho h0 hp
   have hM:=moveP_moved hK hv hp
   rw[hp,Option.bind_some] at h
   by_cases hex:∃i,i<u.ps.length∧plAt u.ps i=((v:Int),(k:Int))
   ·obtain⟨i,hi,he⟩:=hex
    rw[moveI_one hM.ok he hi (Nat.le_refl _)] at h
    obtain⟨o',ho',hl',_,_,_,_,_,rfl⟩:=putK_parts h
    have e:o'=o:=by have:=hM.op;omega
    subst e
    dsimp only
    rw[sqAt_set _ _ hl',if_pos rfl]
    simp
    omega
   ·rw[moveI_none (fun i hi e=>hex ⟨i,hi,e⟩)] at h
    simp only[Option.some.injEq] at h
    subst h
    omega
set_option maxHeartbeats 3200000 in
theorem moveFrom_any (B pk:Nat)(z st:Int)(n g c gm cm:Nat)(A:Nat->Option Addr)(C:Nat->Nat)(V:Value)(s:Kp)(aN:Addr)(v:Nat)(w:World)(h:KeeperAt B w pk z st n g c gm cm A C V s aN)(hB:B<=w.heap.size)(hK:KOk z s)(o:Nat)(ho:s.op=(o:Int))(hv:(v:Int)≠s.op)(hvl:v<s.qs.length)(hjs:s.js.length<=100000)(hemp:(sqAt s.qs o).1.length=0) :
  Calls Tryz.prog 215 #[.pointer (some ⟨pk,0,none⟩),.int .i64 (v:Int)] w fun e w'=>IPost (moveK z v s) (.tuple #[]) (fun _=>True) B pk z st n g c gm cm aN w e w':=by
 have hL:(sqAt s.qs v).1.length<=8:=by
  have h1:=(sqOk_parts (chipOk_at hK.map.chip hvl)).1
  have h2:=(chipOk_parts hK.map.chip).2.1
  omega
 have hm64:=hK.map.few
 have hnl:=h.mem.sq.len
 have hn12:n<=12:=by have:=(chipOk_parts hK.map.chip).2.2.2.1;omega
 have hvn:v<n:=by omega
 have hvi:(v:Int)<(n:Int):=by omega
 have hon:o<n:=by have:=hK.hi;omega
 obtain⟨L,hLe⟩:∃L,L=(sqAt s.qs v).1.length:=⟨_,rfl⟩
 obtain⟨m,hme⟩:∃m,m=s.ps.length:=⟨_,rfl⟩
 have HLE:=hide hLe
 have HME:=hide hme
 obtain⟨x0,x1,x2,x3,x4,x5⟩:=six_cells h.box
 obtain⟨y0,_,_⟩:=h.mem.sq.cells hvn
 rw[<- hLe] at hL y0
 rw[<- hme] at hm64
 obtain⟨av,hav⟩:∃av,av=A v:=⟨_,rfl⟩
 obtain⟨cv,hcv⟩:∃cv,cv=C v:=⟨_,rfl⟩
 rw[<- hav,<- hcv] at y0
 have HAV:Hid (A v=av):=hav.symm
 have HK:=hide hK
 have H0:=hide h
 have HO:=hide ho
 have HV:=hide hv
 clear h hK ho hv hLe hme hav hcv
 go_enter Tryz.func215,Tryz.ntmps215
 go_wp2_with fail
 go_loopw [17] (fun i wr=>∃(k:Nat) (t:Kp) (A:Nat->Option Addr) (C:Nat->Nat) (V:Value),k<=L∧i=.int .i64 (k:Int)∧moveP z v s k=some t∧KeeperAt B wr pk z st n g c gm cm A C V t aN∧A v=av∧Frame B [g,pk,gm] w wr) (fun i _=>L-(intOf i).toNat)
 case atStart=>exact⟨0,s,A,C,V,Nat.zero_le _,rfl,rfl,H0.out,HAV.out,Frame.refl _ _ _⟩
 case round =>
  obtain⟨k,t,A',C',V',hk,rfl,hmv,hat,hva,hfr⟩:=hrel
  have hMV:=moveP_moved HK.out HV.out hmv
  have hln:=(moveP_len hmv).1
  have htm:t.ps.length=m:=hMV.places.trans HME.out.symm
  have htq:t.qs.length=n:=hMV.squares.trans hnl
  have hsv:sqAt t.qs v=sqAt s.qs v:=hMV.other v HV.out
  have hsz:=hfr.below.size
  have hop:t.op=(o:Int):=hMV.op.trans HO.out
  have HMV:=hide hmv
  have HAT:=hide hat
  have HFR:=hide hfr
  have HKT:=hide hMV.ok
  obtain⟨bd1,bd2,bd3,bd4,bd5⟩:=hat.bound
  clear x0 x1 x2 x3 x4 x5 y0
  obtain⟨x0,x1,x2,x3,x4,x5⟩:=six_cells hat.box
  rw[htm] at x2
  by_cases hlt:k<L
  ·have hlt2:(k:Int)<(L:Int):=by omega
   have hpl:(sqAt t.qs v).1.length=L:=by rw[hsv];exact HLE.out.symm
   have hpo:=hat.mem.sq.pages.own v hvn
   rw[hva] at hpo
   obtain⟨pb,hpb⟩:∃pb,av=some ⟨pb,0,none⟩:=by
    rcases pg_form hpo with⟨_,e,_⟩|⟨pb,e,_⟩
    ·rw[e] at hpl;simp at hpl;omega
    ·exact⟨pb,e⟩
   subst hpb
   have hck:wr.cell? ⟨pb,k,none⟩=some (.string (txAt t.qs v k)):=by
    rw[World.ownsRow.cellAt hpo k (by omega)]
    unfold pgV txAt
    rw[List.getElem?_map,List.getD_eq_getElem?_getD,List.getElem?_eq_getElem (by omega)]
    rfl
   have htz0:1<=(txAt t.qs v k).size∧(txAt t.qs v k).size<=200:=by
    have h1:=(sqOk_parts (chipOk_at hMV.ok.map.chip (show v<t.qs.length by omega))).2.2.2
    refine h1 (txAt t.qs v k) ?_
    unfold txAt
    rw[List.getD_eq_getElem?_getD,List.getElem?_eq_getElem (by omega)]
    exact List.getElem_mem _
   have htz1:=htz0.1
   have htz:=htz0.2
   clear htz0
   have HTO:=hide (moveP_room HK.out HV.out HO.out hemp hmv)
   have hLz:(k:Int)<z:=by
    have h1:=(sqOk_parts (chipOk_at hMV.ok.map.chip (show v<t.qs.length by omega))).1
    omega
   have hno:(v:Int)≠t.op:=by rw[hop,<- HO.out];exact HV.out
   have HNE:Hid (noneOf t.ps m ((v:Int),(k:Int))=true->moveP z v s (k+1)=some t):=fun hh=>by
    rw[moveP_step HMV.out,htm]
    refine moveI_none (fun i hi e=>?_)
    unfold noneOf at hh
    have:=List.all_eq_true.1 hh i (List.mem_range.2 hi)
    simp[e] at this
   have HYE:Hid (∀i,i<m->plAt t.ps i=((v:Int),(k:Int))->moveP z v s (k+1)=putK z t i (txAt t.qs v k)):=fun i hi e=>by
    rw[moveP_step HMV.out,htm]
    exact moveI_one HKT.out e hi (by omega)
   have HPK:=hide (fun i=>putK_in (z:=z) (i:=i) (tx:=txAt t.qs v k) hop)
   have HCK:=hide hMV.ok.map.chip
   have HVA:=hide hva
   have hvo2:v≠o:=fun e=>hno (by rw[hop,e])
   obtain⟨tx,htx⟩:∃tx,tx=txAt t.qs v k:=⟨_,rfl⟩
   rw[<- htx] at hck htz htz1 HYE HPK
   have hjt:t.js.length<=1048576:=by rw[<- HME.out] at hln;have:k*m<=8*64:=Nat.mul_le_mul (by omega) hm64;omega
   have HPL:=hide (pl_places hat.mem.pl)
   rw[htm] at HPL
   clear htx hmv hat hfr hpo hva
   go_wp2_with fail
   refine(indexPl_at (some ⟨gm,0,none⟩) m cm t.ps (v:Int) (k:Int) wr HPL.out (by omega)).mono ?_
   rintro e w1 ⟨r,rfl,hr,b1⟩
   have HA1:=hide (HAT.out.later b1 (by omega))
   have HF1:=hide (HFR.out.on b1 (by omega))
   have hs1:=b1.size
   clear b1 x0 x1 x2 x3 x4 x5 hck HPL
   rcases hr with⟨rfl,hnn⟩|⟨i,rfl,him,hie⟩
   ·have HS:=hide (HNE.out hnn)
    clear hnn
    go_wp2_with fail
    go_roundw
    case rel=>exact⟨k+1,t,A',C',V',by omega,by go_num,HS.out,HA1.out,HVA.out,HF1.out⟩
    case measure=>simp[intOf];omega
   ·have HS:=hide (HYE.out i him hie)
    have HPI:=hide (HPK.out i)
    have g0:decide ((i:Int)>=0)=true:=by simp
    have him2:(i:Int)<(m:Int):=by omega
    have HWR:∀w',Hid (Below w1.heap.size w1 w'->Calls Tryz.prog 152 #[.pointer (some ⟨pk,0,none⟩),.string tx] w' fun e w''=>IPost (doK z t (1,(o:Int),tx)) (.agg #[.int .i64 (o:Int),.int .i64 ((sqAt t.qs o).1.length:Int)]) (fun A''=>∀j:Nat,j≠o->A'' j=A' j) B pk z st n g c gm cm aN w' e w''):=fun w' hb' =>
     write_any B pk z st n g c gm cm A' C' V' t aN o tx w' (HA1.out.later hb' (by omega)) (by have:=hb'.size;omega) HCK.out hop hon (by unfold maxLen;omega) hjt
    obtain⟨lo,hlo⟩:∃lo,lo=(sqAt t.qs o).1.length:=⟨_,rfl⟩
    rw[<- hlo] at HWR HPI
    obtain⟨a0,a1,a2,a3,a4,a5⟩:=six_cells HA1.out.box
    rw[htm] at a2
    clear hlo hie HNE HYE HPK a0 a1 a3 a4 a5
    cases hd:doK z t (1,(o:Int),tx) with
    | none =>
     have h9:=doK_room (z:=z) (s:=t) (o:=o) (tx:=tx) HKT.out hop (by omega) HTO.out hLz htz1 htz
     rw[hd] at h9
     cases h9
    | some t1 =>
     obtain⟨h1,h2⟩:=doK_op hd
     have hu1:t1.ps.length=m:=by rw[h2];exact htm
     have HS1:Hid (moveP z v s (k+1)=some ⟨t1.qs,t1.ps.set i ((o:Int),(lo:Int)),t1.op,t1.js⟩):=by show _=_;rw[HS.out,HPI.out,hd];rfl
     rw[hd] at HWR
     unfold IPost at HWR
     dsimp only at HWR
     clear hd
     go_upto_region 5 with fail
     go_region_with (go_at_call 152;refine((HWR _).out (by exact(Below.refl _ w1).drew)).mono ?_;rintro e w5 ⟨hf5,rfl,A5,C5,V5,hA5,hJ5⟩;have HF5:=hide ((HF1.out.on (Below.refl w1.heap.size w1).drew (by omega)).trans hf5);have HA5:=hide hA5;have HJ5:=hide ((hJ5 v hvo2).trans HVA.out);obtain⟨p0,p1,f0,f1⟩:=hA5.mem.cells (i:=i) (by omega);obtain⟨e0,e1,e2,e3,e4,e5⟩:=six_cells hA5.box;rw[hu1] at e2;clear hf5 hA5 hJ5 e0 e1 e3 e4 e5)
     all_goals
      have HL:=hide (HA5.out.led (i:=i) (by omega) ((o:Int),(lo:Int)))
      have HFL:=hide ((HF5.out.set (p:=gm) (by simp) bd4 (i*2) (.int .i64 (o:Int))).set (p:=gm) (by simp) bd4 (i*2+1) (.int .i64 (lo:Int)))
      go_wp2_with fail
      go_roundw
      case rel=>exact⟨k+1,_,A5,C5,V5,by omega,by go_num,HS1.out,HL.out,HJ5.out,HFL.out⟩
      case measure=>simp[intOf];omega
  ·obtain rfl:k=L:=by omega
   have HE:Hid (moveK z v s=some t):=by show moveP z v s _=_;rw[<- HLE.out];exact hmv
   clear hmv hat hfr
   go_wp2_with fail
   go_end0
   unfold IPost
   rw[HE.out]
   exact⟨HFR.out,rfl,A',C',V',HAT.out,trivial⟩
end Go.Proofs.YtgjoepdfhadmcaaGreatDoor
end

