/- Several texts in one: FtlSpecC, FtlSpecD, FtlSpecE, FtlSpecF, FtlSpecG, Draw8g, Draw8h. -/
import Derived.Test.YtgjoepdfhadmcaaGreatDoorMFtlMath
import Derived.Test.YtgjoepdfhadmcaaGreatDoorMChipCutS
import Derived.Test.YtgjoepdfhadmcaaGreatDoorMChipGrow
import Derived.Deep.RegionWith
import Derived.Deep.DeepCutAuto
import Derived.Test.YtgjoepdfhadmcaaGreatDoorMQuietTail
import Derived.BigRegion
import Derived.BigQuiet
import Derived.Test.YtgjoepdfhadmcaaGreatDoorMPageMath
import Derived.Test.YtgjoepdfhadmcaaGreatDoorMPageBase
import Derived.Deep.RegionHeld3
import Derived.Test.YtgjoepdfhadmcaaGreatDoorMDraw7
import Derived.Test.YtgjoepdfhadmcaaGreatDoorMChipOwn2
section
namespace Go.Proofs.YtgjoepdfhadmcaaGreatDoor
open Go.RowKit
set_option linter.unusedVariables false
set_option maxRecDepth 20000
set_option maxHeartbeats 1600000 in
theorem l10Copy_any (z:Int)(a:Option Addr)(n cap:Nat)(qs:List Sq)(am:Option Addr)(m cm:Nat)(ps:List Pl)(op st:Int)(w:World){lo hi lo' hi':Nat}(h:Squares lo hi w a n qs)(hhi:hi<=w.heap.size)(hok:chipOk z qs=true)(hp:Places lo' hi' w am m ps)(hhi':hi'<=w.heap.size)(hm1:1<=m)(hm:m<=64) :
  Calls Tryz.prog 104 #[.agg #[.int .i64 z,.slice a n cap,.slice am m cm,.int .i64 op,.int .i64 st]] w fun e w'=>∃g c gm cm' A C,e=.returned (.agg #[.int .i64 z,.slice (some ⟨g,0,none⟩) n c,.slice (some ⟨gm,0,none⟩) m cm',.int .i64 op,.int .i64 st])∧GrowSqs w.heap.size w' n qs g A C∧PlOwn w.heap.size w' (.slice (some ⟨gm,0,none⟩) ps.length cm') ps∧gm≠g∧Below w.heap.size w w':=by
 obtain⟨wA,hwA⟩:∃wA,wA=(w.alloc (.cells #[.int .i64 z,.slice a n cap,.slice am m cm,.int .i64 op,.int .i64 st] 29)).alloc (.cells #[.int .i64 0,.slice none 0 0,.slice none 0 0,.int .i64 0,.int .i64 0] 29):=⟨_,rfl⟩
 have hzA:wA.heap.size=w.heap.size+1+1:=by rw[hwA];simp
 have HBA:Hid (Below w.heap.size w wA):=by rw[hwA];exact((Below.refl _ _).alloc (Nat.le_refl _) _).alloc (by simp) _
 have H0:Hid (wA.heap[w.heap.size]?=some (.cells #[.int .i64 z,.slice a n cap,.slice am m cm,.int .i64 op,.int .i64 st] 29)):=by rw[hwA];exact heap_old (heap_new _ _)
 have H1:Hid (wA.heap[w.heap.size+1]?=some (.cells #[.int .i64 0,.slice none 0 0,.slice none 0 0,.int .i64 0,.int .i64 0] 29)):=by rw[hwA];exact heap_at (by simp)
 have HSQ:=hide (h.later HBA.out hhi)
 have HPL:=hide (hp.later HBA.out hhi')
 clear h hp
 obtain⟨c0,c1,c2,c3,c4⟩:=five_cells H0.out
 go_enter Tryz.func104,Tryz.ntmps104
 go_wp2_with fail
 rw[<- hwA]
 clear hwA
 refine(l8Copy_any z a n cap qs wA HSQ.out (by omega) hok).mono ?_
 rintro e w1 ⟨g,c,A,C,rfl,hG,b1⟩
 have K0:=hide (block_on H0.out b1)
 have K1:=hide (block_on H1.out b1)
 have hs1:=b1.size
 have hG1:=hG.atG
 have hG2:g<w1.heap.size:=by have:=hG.row.1;omega
 have HP1:=hide (HPL.out.later b1 (by omega))
 have HB1:=hide (below_here HBA.out b1)
 have HG1:=hide hG
 clear hG b1 H0 H1 HSQ HPL c0 c1 c2 c3 c4
 obtain⟨wB,hwB⟩:∃wB,wB=(w1.setCell ⟨w.heap.size,0,none⟩ (.int .i64 z)).setCell ⟨w.heap.size,1,none⟩ (.slice (some ⟨g,0,none⟩) n c):=⟨_,rfl⟩
 have HAB:Hid (Aside w.heap.size (w.heap.size+1) w1 wB):=by rw[hwB];exact two_aside (Aside.refl _ _ w1) (Nat.le_refl _) (Nat.lt_succ_self _) _ _
 have hzB:wB.heap.size=w1.heap.size:=by rw[hwB,Go.Deep.nblk_setCell,Go.Deep.nblk_setCell]
 have B0:Hid (wB.heap[w.heap.size]?=some (.cells #[.int .i64 z,.slice (some ⟨g,0,none⟩) n c,.slice am m cm,.int .i64 op,.int .i64 st] 29)):=by rw[hwB];exact set_block (set_block K0.out 0 (.int .i64 z) (by simp)) 1 (.slice (some ⟨g,0,none⟩) n c) (by simp)
 have B1:Hid (wB.heap[w.heap.size+1]?=some (.cells #[.int .i64 0,.slice none 0 0,.slice none 0 0,.int .i64 0,.int .i64 0] 29)):=(HAB.out.block _ (by omega) (.inr (by omega))).trans K1.out
 have HPB:=hide (Places.mk_of HP1.out HAB.out (.inl (by omega)))
 have HGB:=hide (HG1.out.aside HAB.out (.inl (by omega)))
 have HBB:=hide (HB1.out.trans (HAB.out.below (B:=w.heap.size) (by omega) (by omega)))
 obtain⟨wC,hwC⟩:∃wC,wC=wB.alloc (.cells #[] 39):=⟨_,rfl⟩
 have hzC:wC.heap.size=w1.heap.size+1:=by rw[hwC];simp;omega
 have HBC:Hid (Below wB.heap.size wB wC):=by rw[hwC];exact(Below.refl _ _).alloc (Nat.le_refl _) _
 have C0:=hide (block_on B0.out HBC.out)
 have C1:=hide (block_on B1.out HBC.out)
 have HMD:Hid (PlOwn wB.heap.size wC (.slice (some ⟨wB.heap.size,0,none⟩) 0 0) []):=by rw[hwC];exact pl_made0 wB
 obtain⟨gm,cm',w2,hap,hpo,hgr,hat⟩:=append_places (P:=Tryz.prog) Tryz.infoPl9 Tryz.underlying27 HMD.out (by omega) (c:=cm) (HPB.out.later HBC.out (by omega)) hm1 (by omega)
 have HAP:=hide hap
 have hgm:w1.heap.size<=gm:=by omega
 have hs2:=hgr.size
 have HGR:Hid (Below w1.heap.size wC w2):=⟨hgr.os,hgr.tape,hgr.output,hgr.size,fun k hk=>hgr.block k (by omega) (fun e=>by simp only[Option.some.injEq] at e;omega)⟩
 have HG2:=hide ((HGB.out.later HBC.out).keep hgr (fun e=>by simp only[Option.some.injEq] at e;omega) (fun k e=>by simp only[Option.some.injEq] at e;subst e;exact⟨_,_,_,(by rw[hwC];exact heap_new _ _),by decide⟩))
 have E0:Hid (w2.heap[w.heap.size]?=some (.cells #[.int .i64 z,.slice (some ⟨g,0,none⟩) n c,.slice am m cm,.int .i64 op,.int .i64 st] 29)):=(HGR.out.block _ (by omega)).trans C0.out
 have E1:Hid (w2.heap[w.heap.size+1]?=some (.cells #[.int .i64 0,.slice none 0 0,.slice none 0 0,.int .i64 0,.int .i64 0] 29)):=(HGR.out.block _ (by omega)).trans C1.out
 have HPO:=hide hpo
 have HB2:=hide ((below_here HBB.out HBC.out).trans (HGR.out.mono (by omega)))
 clear hap hpo hgr hat HMD
 obtain⟨d0,d1,d2,d3,d4⟩:=five_cells K0.out
 have f0:=four_frozen K0.out 0
 have f1:=four_frozen K0.out 1
 obtain⟨c0,c1,c2,c3,c4⟩:=five_cells C0.out
 obtain⟨e0,e1,e2,e3,e4⟩:=five_cells E0.out
 have g2:=four_frozen E0.out 2
 obtain⟨r0,r1,r2,r3,r4⟩:=five_cells E1.out
 have q0:=four_frozen E1.out 0
 have q1:=four_frozen E1.out 1
 have q2:=four_frozen E1.out 2
 have q3:=four_frozen E1.out 3
 have q4:=four_frozen E1.out 4
 have HA1:=hide ((Aside.refl w.heap.size (w.heap.size+2) w2).setCell (p:=⟨w.heap.size,2,none⟩) (Nat.le_refl _) (by simp) (.slice (some ⟨gm,0,none⟩) m cm'))
 have HAS:=hide (five_aside (b:=w.heap.size+1) HA1.out (by omega) (by omega) (.int .i64 z) (.slice (some ⟨g,0,none⟩) n c) (.slice (some ⟨gm,0,none⟩) m cm') (.int .i64 op) (.int .i64 st))
 have HRS:=hide (five_set (set_other (o:=2) E1.out (show w.heap.size≠w.heap.size+1 by omega) (.slice (some ⟨gm,0,none⟩) m cm')) (.int .i64 z) (.slice (some ⟨g,0,none⟩) n c) (.slice (some ⟨gm,0,none⟩) m cm') (.int .i64 op) (.int .i64 st))
 clear c0 c1 c2 c3 c4 d2 d3 d4
 obtain⟨c0,c1,c2,c3,c4⟩:=five_cells B0.out
 go_upto_region 2 with fail
 rw[<- hwB]
 have HZB:=hide hzB
 have HZC:=hide hzC
 clear hwB d0 d1 f0 f1 hzB hzC
 have c2':=c2
 clear c2
 have c2:(wB.alloc (.cells #[] 39)).cell? ⟨w.heap.size,2,none⟩=some (.slice am m cm):=by rw[<- hwC];exact(five_cells C0.out).2.2.1
 go_wp2_with (at_builtin;rw[<- hwC];refine wpList_append_eq rfl (.tmp 7) (.tmp 9) 27 rfl _ _ _ w2 rfl rfl HAP.out ?_)
 have hzB:=HZB.out
 have hzC:=HZC.out
 refine bodyPost_ret (results_cell rfl rfl (run_loadVar_row _ _ _ _ _ _ _ HRS.out Tryz.underlying29 rfl (by kernel_rfl))) rfl ⟨g,c,gm,cm',A,C,rfl,(HG2.out.aside HAS.out (.inl (by omega))).mono (by omega),?_,by omega,HB2.out.trans (HAS.out.below (by omega) (by omega))⟩
 exact own_aside2 (HPO.out.mono (show w.heap.size+2<=wB.heap.size by omega)) HAS.out (Nat.le_refl _)|>.mono (by omega)
end Go.Proofs.YtgjoepdfhadmcaaGreatDoor
end

section
namespace Go.Proofs.YtgjoepdfhadmcaaGreatDoor
open Go.RowKit
set_option linter.unusedVariables false
set_option maxRecDepth 20000
theorem Tryz.infoJob:(Tryz.prog.info? 98).map (fun i=>(i.zero,i.size,i.bytes))=some (some (.agg #[.int .i64 0,.int .i64 0,.string ByteArray.empty]),3,32):=by kernel_rfl
structure FtlAt (B:Nat)(w:World)(px pj:Nat)(z st:Int)(n g c gm cm:Nat)(A:Nat->Option Addr)(C:Nat->Nat)(V:Value)(s:Kp):Prop where
 mem:KpMem B w n g gm cm A C V s
 ftl:w.heap[px]?=some (.cells #[.int .i64 z,.slice (some ⟨g,0,none⟩) n c,.slice (some ⟨gm,0,none⟩) s.ps.length cm,.int .i64 s.op,.int .i64 st] 29)
 jobs:w.heap[pj]?=some (.cells #[V] 91)
 nx:px≠g
 nj:pj≠g
 bx:B<=px
 bj:B<=pj
theorem FtlAt.later {B px pj n g c gm cm:Nat}{w w':World}{z st:Int}{A:Nat->Option Addr}{C:Nat->Nat}{V:Value}{s:Kp}(h:FtlAt B w px pj z st n g c gm cm A C V s)(hb:Below w.heap.size w w'):FtlAt B w' px pj z st n g c gm cm A C V s :=
 ⟨h.mem.later hb,block_on h.ftl hb,block_on h.jobs hb,h.nx,h.nj,h.bx,h.bj⟩
theorem noted_at {B px pj n g c gm cm g' c':Nat}{w w':World}{z st kd sq:Int}{tx:ByteArray}{A:Nat->Option Addr}{C:Nat->Nat}{aj:Option Addr}{cj:Nat}{s:Kp}(h:KpMem B w n g gm cm A C (.slice aj s.js.length cj) s)
  (hx:w.heap[px]?=some (.cells #[.int .i64 z,.slice (some ⟨g,0,none⟩) n c,.slice (some ⟨gm,0,none⟩) s.ps.length cm,.int .i64 s.op,.int .i64 st] 29)) (hp:w.heap[pj]?=some (.cells #[.slice aj s.js.length cj] 91))
  (hr:w.grownBy w' (Value.slice aj s.js.length cj).ownBlock) (ho:w'.ownsRow B 98 3 (.slice (some ⟨g',0,none⟩) (s.js.length+1) c') (s.js.length+1) (jbL s.js++[.int .i64 kd,.int .i64 sq,.string tx]))
  (hat:(Value.slice aj s.js.length cj).ownBlock=some g'∨w.heap.size<=g') (hnx:px≠g) (hnj:pj≠g) (hbx:B<=px) (hbj:B<=pj) :
  FtlAt B (w'.setCell ⟨pj,0,none⟩ (.slice (some ⟨g',0,none⟩) (s.js.length+1) c')) px pj z st n g c gm cm A C (.slice (some ⟨g',0,none⟩) (s.js.length+1) c') ⟨s.qs,s.ps,s.op,s.js++[(kd,sq,tx)]⟩:=by
 have hk:∀(p:Nat) (cs:Array Value) (T:TypeId) (fr:Nat×Nat),w.heap[p]?=some (.cells cs T fr)->T≠98->w'.heap[p]?=some (.cells cs T fr):=fun p cs T fr h1 h2=>by
  rw[hr.block p (Array.getElem?_eq_some_iff.1 h1).1 (fun e=>?_)]
  ·exact h1
  ·obtain⟨cs',fz,h3⟩:=Go.Lib.ownsRow_kind h.jb p e.symm
   rw[h1] at h3
   simp only[Option.some.injEq,Obj.cells.injEq] at h3
   exact h2 h3.2.1
 have hxj:pj≠px:=fun e=>by
  rw[e,hx] at hp
  simp only[Option.some.injEq,Obj.cells.injEq] at hp
  exact absurd hp.2.1 (by decide)
 have e:s.js.length+1=(s.js++[(kd,sq,tx)]).length:=by simp
 have ho':JbOwn B w' (.slice (some ⟨g',0,none⟩) (s.js.length+1) c') (s.js++[(kd,sq,tx)]):=by
  show World.ownsRow _ _ _ _ _ (s.js++[(kd,sq,tx)]).length (jbL (s.js++[(kd,sq,tx)]))
  rw[<- e,<- jbL_snoc]
  exact ho
 have hm:=h.noted (j:=(kd,sq,tx)) hr ho' (hat.imp (fun e=>e.symm) (fun e=>⟨g',rfl,e⟩))
 have hp':=hk pj _ _ _ hp (by decide)
 exact⟨hm.set _ hnj hp' (by decide) (by decide) (by decide),set_other (hk px _ _ _ hx (by decide)) hxj _,set_block hp' 0 _ (by simp),hnx,hnj,hbx,hbj⟩
def FPost (r:Option Kp)(B px pj:Nat)(z st:Int)(n g c gm cm:Nat)(w:World)(e:Ending)(w':World):Prop :=
 e=.returned (.bool r.isSome)∧Frame B [g,px,pj,gm] w w'∧∀s',r=some s'->∃A C V,FtlAt B w' px pj z st n g c gm cm A C V s'
set_option maxHeartbeats 1600000 in
theorem l10Do_any (B px pj:Nat)(z st:Int)(n g c gm cm:Nat)(A:Nat->Option Addr)(C:Nat->Nat)(V:Value)(s:Kp)(kd sq:Int)(tx:ByteArray)(w:World)(h:FtlAt B w px pj z st n g c gm cm A C V s)(hB:B<=w.heap.size)(hok:chipOk z s.qs=true)(htx:tx.size<=maxLen)(hjs:s.js.length<=1048576) :
  Calls Tryz.prog 158 #[.pointer (some ⟨px,0,none⟩),.pointer (some ⟨pj,0,none⟩),.agg #[.int .i64 kd,.int .i64 sq,.string tx]] w fun e w'=>FPost (doK z s (kd,sq,tx)) B px pj z st n g c gm cm w e w':=by
 obtain⟨wA,hwA⟩:∃wA,wA=w.alloc (.cells #[.int .i64 kd,.int .i64 sq,.string tx] 98):=⟨_,rfl⟩
 have hzA:wA.heap.size=w.heap.size+1:=by rw[hwA];simp
 have HBA:Hid (Below w.heap.size w wA):=by rw[hwA];exact(Below.refl _ _).alloc (Nat.le_refl _) _
 have HJ:Hid (wA.heap[w.heap.size]?=some (.cells #[.int .i64 kd,.int .i64 sq,.string tx] 98)):=by rw[hwA];exact heap_new _ _
 have HA:=hide (h.later HBA.out)
 have hxl:px<w.heap.size:=(Array.getElem?_eq_some_iff.1 h.ftl).1
 have hjl:pj<w.heap.size:=(Array.getElem?_eq_some_iff.1 h.jobs).1
 have hgl:g<w.heap.size:=by have:=h.mem.sq.row.1;omega
 obtain⟨aj,cj,rfl,hcj⟩:=jb_form h.mem.jb
 have HDO:Hid (doK z s (kd,sq,tx)=if canJ z s.qs (kd,sq,tx) then some ⟨doJ z s.qs (kd,sq,tx),s.ps,s.op,s.js++[(kd,sq,tx)]⟩ else none):=rfl
 have HC:∀w9,Hid (Below wA.heap.size wA w9->Calls Tryz.prog 65 #[.pointer (some ⟨px,0,none⟩),.agg #[.int .i64 kd,.int .i64 sq,.string tx]] w9 fun e w'=>e=.returned (.bool (canJ z s.qs (kd,sq,tx)))∧∃A' C',GrowSqs B w' n (doJ z s.qs (kd,sq,tx)) g A' C'∧Only B g wA w'):=fun w9 h9 =>
  (l8Do_at px c B z n s.qs g A C kd sq tx w9 ((HA.out.later h9).mem.sq) (by have:=h9.size;omega) (HA.out.later h9).ftl rfl rfl h.nx hok htx).mono (fun e w' hh=>⟨hh.1,by obtain⟨_,A',C',h2,h3⟩:=hh;exact⟨A',C',h2,(only_of_below h9 (by omega)).trans h3⟩⟩)
 have HNX:=hide h.nx
 have HNJ:=hide h.nj
 have HBX:=hide h.bx
 have HBJ:=hide h.bj
 clear h hok
 obtain⟨b0,b1,b2⟩:=three_cells HJ.out
 go_enter Tryz.func158,Tryz.ntmps158
 go_upto_region 1 with fail
 rw[<- hwA]
 clear hwA
 go_cut [12] (fun d wx=>d=.bool (!canJ z s.qs (kd,sq,tx))∧∃A' C',GrowSqs B wx n (doJ z s.qs (kd,sq,tx)) g A' C'∧Only B g wA wx)
 case first =>
  go_region_with (go_at_call 65;refine((HC _).out (by exact(Below.refl _ wA).drew)).mono ?_;rintro e w1 ⟨rfl,A',C',hG1,hO1⟩;have HG1:=hide hG1;have HO1:=hide hO1;clear hG1 hO1)
  all_goals
   go_wp2_with fail
   go_meet
   exact⟨rfl,_,_,HG1.out,HO1.out⟩
 case rest =>
  obtain⟨rfl,A',C',hG1,hO1⟩:=hcut
  obtain⟨w1,hw1⟩:∃w1,w1=wc:=⟨_,rfl⟩
  subst hw1
  have HB1:=hide ((frame_of_below (L:=[g,px,pj,gm]) HBA.out hB).trans (frame_of_only hO1 (by simp)))
  have hs1:=hO1.below.size
  have HM1:=hide (HA.out.mem.did hG1 hO1 (by omega))
  have HX1:=hide (hO1.other px _ _ _ HNX.out (by decide) HA.out.ftl)
  have HP1:=hide (hO1.other pj _ _ _ HNJ.out (by decide) HA.out.jobs)
  have HJ1:=hide (hO1.other w.heap.size _ _ _ (by omega) (by decide) HJ.out)
  clear hG1 hO1 HC HA HJ b0 b1 b2
  cases hcan:canJ z s.qs (kd,sq,tx) with
  | false =>
   have HE:Hid (doK z s (kd,sq,tx)=none):=by show _=_;rw[HDO.out,hcan];rfl
   go_wp2_with fail
   go_ret
   exact⟨by rw[HE.out];rfl,HB1.out,fun s' hs'=>by rw[HE.out] at hs';cases hs'⟩
  | true =>
   have HE:Hid (doK z s (kd,sq,tx)=some ⟨doJ z s.qs (kd,sq,tx),s.ps,s.op,s.js++[(kd,sq,tx)]⟩):=by show _=_;rw[HDO.out,hcan];rfl
   clear hcan HDO
   obtain⟨j0,j1,j2⟩:=three_cells HJ1.out
   have p0:w1.cell? ⟨pj,0,none⟩=some (.slice aj s.js.length cj):=by simp[World.cell?,HP1.out]
   obtain⟨i0,hi0,hzz0,hzz1,hzz2⟩:=info_parts Tryz.infoJob
   have HBB:=hide ((Below.refl w1.heap.size w1).alloc (Nat.le_refl _) (.cells #[.int .i64 kd,.int .i64 sq,.string tx] 98))
   have HMB:=hide (HM1.out.later HBB.out)
   have HPB:=hide (block_on HP1.out HBB.out)
   have HXB:=hide (block_on HX1.out HBB.out)
   have HOD:Hid (World.ownsRow (w1.alloc (.cells #[.int .i64 kd,.int .i64 sq,.string tx] 98)).drew B 98 3 (.slice aj s.js.length cj) s.js.length (jbL s.js)):=World.ownsRow.drew HMB.out.jb
   have hzB:(w1.alloc (.cells #[.int .i64 kd,.int .i64 sq,.string tx] 98)).heap.size=w1.heap.size+1:=by simp
   have HZB:=hide hzB
   clear hzB
   have p1:(w1.alloc (.cells #[.int .i64 kd,.int .i64 sq,.string tx] 98)).cell? ⟨pj,0,none⟩=some (.slice aj s.js.length cj):=by simp[World.cell?,HPB.out]
   have f1:=four_frozen HPB.out 0
   have HNE:Hid (some pj≠(Value.slice aj s.js.length cj).ownBlock):=fun e=>by
    obtain⟨cs,fz,h2⟩:=Go.Lib.ownsRow_kind HMB.out.jb pj e.symm
    rw[HPB.out] at h2
    simp only[Option.some.injEq,Obj.cells.injEq] at h2
    exact absurd h2.2.1 (by decide)
   have hpl1:pj<w1.heap.size:=by omega
   go_upto_region 3 with fail
   go_region_law (refine step_append_lies _ (by rfl) _ _ _ (by rfl) B 98 i0 (.agg #[.int .i64 0,.int .i64 0,.string ByteArray.empty]) 3 32 Tryz.underlying91 hi0 hzz0 hzz1 hzz2 rfl (by decide) (.slice aj s.js.length cj) s.js.length (jbL s.js) (by rfl) HOD.out ⟨w1.heap.size,0,none⟩ 1 1 [.int .i64 kd,.int .i64 sq,.string tx] (by rfl) rfl (cell_three_new _ _ _ _ _) (job_one _ _ _) (by omega) (by unfold maxLen;omega) (by omega) (by simp;omega) (w1.heap.size+1) (by simp) ?_;intro g' c' w5 hown5 hgr5 hat5 hlt5;have c5:=(hgr5.cell_far ⟨pj,0,none⟩ (by simp;omega) HNE.out).trans p1;have f5:=(hgr5.frozen_far ⟨pj,0,none⟩ (by simp;omega) HNE.out).trans f1;have HO5:=hide hown5;have HR5:=hide hgr5;have HA5:=hide hat5;clear hown5 hgr5 hat5)
   all_goals
    have hzB:=HZB.out
    have HR6:Hid ((w1.alloc (.cells #[.int .i64 kd,.int .i64 sq,.string tx] 98)).grownBy w5 (Value.slice aj s.js.length cj).ownBlock):=⟨HR5.out.os,HR5.out.tape,HR5.out.output,HR5.out.size,fun k hk hne=>HR5.out.block k hk hne⟩
    have HF:=hide (noted_at (s:=⟨doJ z s.qs (kd,sq,tx),s.ps,s.op,s.js⟩) HMB.out HXB.out HPB.out HR6.out HO5.out (HA5.out.imp id (fun e=>by omega)) HNX.out HNJ.out HBX.out HBJ.out)
    have HBF:=hide (((HB1.out.on HBB.out (by omega)).noted HMB.out.jb HR6.out (by omega)).set (p:=pj) (by simp) HBJ.out 0 (.slice (some ⟨g',0,none⟩) (s.js.length+1) c'))
    go_wp2_with fail
    go_ret
    exact⟨by rw[HE.out];rfl,HBF.out,fun s' hs'=>by rw[HE.out] at hs';simp only[Option.some.injEq] at hs';subst hs';exact⟨_,_,_,HF.out⟩⟩
end Go.Proofs.YtgjoepdfhadmcaaGreatDoor
end

section
namespace Go.Proofs.YtgjoepdfhadmcaaGreatDoor
open Go.RowKit
set_option linter.unusedVariables false
set_option maxRecDepth 20000
theorem FtlAt.apart {B px pj n g c gm cm:Nat}{w:World}{z st:Int}{A:Nat->Option Addr}{C:Nat->Nat}{V:Value}{s:Kp}(h:FtlAt B w px pj z st n g c gm cm A C V s):gm≠px∧gm≠pj∧px≠pj:=by
 obtain⟨cs,fz,hk⟩:=h.mem.kind
 refine⟨fun e=>?_,fun e=>?_,fun e=>?_⟩
 ·rw[e,h.ftl] at hk
  simp only[Option.some.injEq,Obj.cells.injEq] at hk
  exact absurd hk.2.1 (by decide)
 ·rw[e,h.jobs] at hk
  simp only[Option.some.injEq,Obj.cells.injEq] at hk
  exact absurd hk.2.1 (by decide)
 ·have:=h.ftl
  rw[e,h.jobs] at this
  simp only[Option.some.injEq,Obj.cells.injEq] at this
  exact absurd this.2.1 (by decide)
theorem FtlAt.led {B px pj n g c gm cm:Nat}{w:World}{z st:Int}{A:Nat->Option Addr}{C:Nat->Nat}{V:Value}{s:Kp}(h:FtlAt B w px pj z st n g c gm cm A C V s){i:Nat}(hi:i<s.ps.length)(x:Pl) :
  FtlAt B ((w.setCell ⟨gm,i*2,none⟩ (.int .i64 x.1)).setCell ⟨gm,i*2+1,none⟩ (.int .i64 x.2)) px pj z st n g c gm cm A C V ⟨s.qs,s.ps.set i x,s.op,s.js⟩:=by
 obtain⟨h1,h2,h3⟩:=h.apart
 refine⟨h.mem.led hi x,?_,set_other (set_other h.jobs h2 _) h2 _,h.nx,h.nj,h.bx,h.bj⟩
 dsimp only
 rw[List.length_set]
 exact set_other (set_other h.ftl h1 _) h1 _
theorem FtlAt.bound {B px pj n g c gm cm:Nat}{w:World}{z st:Int}{A:Nat->Option Addr}{C:Nat->Nat}{V:Value}{s:Kp}(h:FtlAt B w px pj z st n g c gm cm A C V s):px<w.heap.size∧pj<w.heap.size∧g<w.heap.size∧gm<w.heap.size∧B<=gm∧B<=g:=by
 obtain⟨cs,fz,hk⟩:=h.mem.kind
 exact⟨(Array.getElem?_eq_some_iff.1 h.ftl).1,(Array.getElem?_eq_some_iff.1 h.jobs).1,by have:=h.mem.sq.row.1;omega,(Array.getElem?_eq_some_iff.1 hk).1,(World.ownsRow.lt h.mem.pl gm rfl).1,h.mem.sq.atG⟩
theorem putK_of {z:Int}{s:Kp}{i:Nat}{tx:ByteArray}:putK z s i tx=(doK z s (1,s.op,tx)).map fun s'=>⟨s'.qs,s'.ps.set i (nextP s),s'.op,s'.js⟩:=rfl
set_option maxHeartbeats 3200000 in
theorem l10Move_any (B px pj:Nat)(z st:Int)(n g c gm cm:Nat)(A:Nat->Option Addr)(C:Nat->Nat)(V:Value)(s:Kp)(v:Nat)(w:World)(h:FtlAt B w px pj z st n g c gm cm A C V s)(hB:B<=w.heap.size)(hK:KOk z s)(o:Nat)(ho:s.op=(o:Int))(hv:(v:Int)≠s.op)(hvl:v<s.qs.length)(hjs:s.js.length<=100000) :
  Calls Tryz.prog 201 #[.pointer (some ⟨px,0,none⟩),.pointer (some ⟨pj,0,none⟩),.int .i64 (v:Int)] w fun e w'=>FPost (moveK z v s) B px pj z st n g c gm cm w e w':=by
 have hL:(sqAt s.qs v).1.length<=8:=by
  have h1:=(sqOk_parts (chipOk_at hK.map.chip hvl)).1
  have h2:=(chipOk_parts hK.map.chip).2.1
  omega
 have hm64:=hK.map.few
 have hnl:=h.mem.sq.len
 have hn12:n<=12:=by have:=(chipOk_parts hK.map.chip).2.2.2.1;omega
 have hvn:v<n:=by omega
 have hon:o<n:=by have:=hK.hi;omega
 obtain⟨L,hLe⟩:∃L,L=(sqAt s.qs v).1.length:=⟨_,rfl⟩
 obtain⟨m,hme⟩:∃m,m=s.ps.length:=⟨_,rfl⟩
 have HLE:=hide hLe
 have HME:=hide hme
 rw[<- hLe] at hL
 rw[<- hme] at hm64
 clear hLe hme
 have HK:=hide hK
 have H0:=hide h
 have HO:=hide ho
 have HV:=hide hv
 clear h hK ho hv
 have hgx:=H0.out.ftl
 go_enter Tryz.func201,Tryz.ntmps201
 go_wp2_with fail
 go_loopw [7] (fun i wr=>∃(k:Nat) (t:Kp) (A:Nat->Option Addr) (C:Nat->Nat) (V:Value),k<=L∧i=.int .i64 (k:Int)∧moveP z v s k=some t∧FtlAt B wr px pj z st n g c gm cm A C V t∧Frame B [g,px,pj,gm] w wr) (fun i _=>L-(intOf i).toNat)
 case atStart=>exact⟨0,s,A,C,V,Nat.zero_le _,rfl,rfl,H0.out,Frame.refl _ _ _⟩
 case round =>
  obtain⟨k,t,A,C,V,hk,rfl,hmv,hat,hfr⟩:=hrel
  have hMV:=moveP_moved HK.out HV.out hmv
  have hln:=(moveP_len hmv).1
  have htm:t.ps.length=m:=hMV.places.trans HME.out.symm
  have htq:t.qs.length=n:=hMV.squares.trans hnl
  have hsv:sqAt t.qs v=sqAt s.qs v:=hMV.other v HV.out
  have hsz:=hfr.below.size
  have HMV:=hide hmv
  have HAT:=hide hat
  have HFR:=hide hfr
  have HKT:=hide hMV.ok
  have hop:t.op=(o:Int):=hMV.op.trans HO.out
  have HOP:=hide hop
  obtain⟨x0,x1,x2,x3,x4⟩:=five_cells hat.ftl
  obtain⟨y0,_,_⟩:=hat.mem.sq.cells hvn
  rw[hsv,<- HLE.out] at y0
  have hvi:(v:Int)<(n:Int):=by omega
  by_cases hlt:k<L
  ·have hlt2:(k:Int)<(L:Int):=by omega
   obtain⟨wo,hwo⟩:∃wo,wo=wr:=⟨_,rfl⟩
   subst hwo
   clear hmv hat hfr
   go_wp2_with fail
   go_loopw [8] (fun i wr=>∃(j:Nat) (u:Kp) (A:Nat->Option Addr) (C:Nat->Nat) (V:Value),j<=m∧i=.int .i64 (j:Int)∧moveI z v k t j=some u∧FtlAt B wr px pj z st n g c gm cm A C V u∧Frame B [g,px,pj,gm] w wr) (fun i _=>m-(intOf i).toNat)
   case atStart=>exact⟨0,t,A,C,V,Nat.zero_le _,rfl,rfl,HAT.out,HFR.out⟩
   case round =>
    obtain⟨j,u,A,C,V,hj,rfl,hmv,hat,hfr⟩:=hrel
    obtain⟨hKU,hU1,hU2,hU3,hU4⟩:=moveI_part HKT.out (by rw[HOP.out,<- HO.out];exact HV.out) (by omega) hmv
    have hlu:=(moveI_len hmv).1
    have hum:u.ps.length=m:=hU3.trans htm
    have huq:u.qs.length=n:=hU2.trans htq
    have huv:sqAt u.qs v=sqAt s.qs v:=(hU4 v (by rw[HOP.out,<- HO.out];exact HV.out)).trans hsv
    have huo:u.op=(o:Int):=hU1.trans HOP.out
    have hsz2:=hfr.below.size
    have HMV2:=hide hmv
    have HAT2:=hide hat
    have HFR2:=hide hfr
    have HKU:=hide hKU
    clear x0 x1 x2 x3 x4 y0
    obtain⟨x0,x1,x2,x3,x4⟩:=five_cells hat.ftl
    rw[huo] at x3
    rw[hum] at x2
    by_cases hjl:j<m
    ·have hjl2:(j:Int)<(m:Int):=by omega
     obtain⟨p0,p1,f0,f1⟩:=hat.mem.cells (i:=j) (by omega)
     have q2:=Tryz.guardPl
     by_cases heq:plAt u.ps j=((v:Int),(k:Int))
     ·have HST:=hide (moveI_step_yes hmv heq)
      rw[heq] at p0 p1
      have q1:=Tryz.eqPl (v:Int) (k:Int) (v:Int) (k:Int)
      rw[show(((v:Int)==(v:Int))&&((k:Int)==(k:Int)))=true by simp] at q1
      obtain⟨z0,_,_⟩:=hat.mem.sq.cells hon
      obtain⟨y0,_,_⟩:=hat.mem.sq.cells hvn
      have hpo:=hat.mem.sq.pages.own v hvn
      have hpl:(sqAt u.qs v).1.length=L:=by rw[huv];exact HLE.out.symm
      obtain⟨pb,hpb⟩:∃pb,A v=some ⟨pb,0,none⟩:=by
       rcases pg_form hpo with⟨_,e,_⟩|⟨pb,e,_⟩
       ·rw[e] at hpl;simp at hpl;omega
       ·exact⟨pb,e⟩
      have hck:wr.cell? ⟨pb,k,none⟩=some (.string (txAt u.qs v k)):=by
       rw[hpb] at hpo
       rw[World.ownsRow.cellAt hpo k (by omega)]
       unfold pgV txAt
       rw[List.getElem?_map,List.getD_eq_getElem?_getD,List.getElem?_eq_getElem (by omega)]
       rfl
      have htz:(txAt u.qs v k).size<=200:=by
       have h1:=(sqOk_parts (chipOk_at hKU.map.chip (show v<u.qs.length by omega))).2.2.2
       refine(h1 (txAt u.qs v k) ?_).2
       unfold txAt
       rw[List.getD_eq_getElem?_getD,List.getElem?_eq_getElem (by omega)]
       exact List.getElem_mem _
      rw[hpl,hpb] at y0
      have hol:(sqAt u.qs o).1.length<=8:=by
       have h1:=(sqOk_parts (chipOk_at hKU.map.chip (show o<u.qs.length by omega))).1
       have h2:=(chipOk_parts hKU.map.chip).2.1
       omega
      have hoi:(o:Int)<(n:Int):=by omega
      have HNX:Hid (nextP u=((o:Int),((sqAt u.qs o).1.length:Int))):=by show _=_;unfold nextP;rw[huo,Int.toNat_natCast]
      have HDK:Hid (putK z u j (txAt u.qs v k)=(doK z u (1,(o:Int),txAt u.qs v k)).map fun s'=>⟨s'.qs,s'.ps.set j (nextP u),s'.op,s'.js⟩):=by show _=_;rw[putK_of,huo]
      obtain⟨bd1,bd2,bd3,bd4,bd5,bd6⟩:=hat.bound
      have HCK:=hide hKU.map.chip
      obtain⟨tx,htx⟩:∃tx,tx=txAt u.qs v k:=⟨_,rfl⟩
      rw[<- htx] at hck htz HDK HST
      clear htx
      obtain⟨lo,hlo⟩:∃lo,lo=(sqAt u.qs o).1.length:=⟨_,rfl⟩
      rw[<- hlo] at z0 hol HNX
      clear hlo hmv hat hfr hKU heq hpo hpb
      go_upto_region 8 with fail
      go_cut [9] (fun d wx=>∃g',d=.pointer (some ⟨g',0,none⟩)∧wr.heap.size<=g'∧wx.heap[g']?=some (.cells #[.int .i64 (o:Int),.int .i64 (lo:Int)] 39)∧Below wr.heap.size wr wx)
      case first =>
       have HBX:Hid (Below wr.heap.size wr (wr.alloc (.cells #[.int .i64 (o:Int),.int .i64 (lo:Int)] 39)).drew):=((Below.refl wr.heap.size wr).alloc (Nat.le_refl _) _).drew
       go_region
       go_wp2_with fail
       go_meet
       exact⟨_,rfl,Nat.le_refl _,heap_new wr _,HBX.out⟩
      case rest =>
       obtain⟨tb,rfl,htb,htc,hbw⟩:=hcut
       obtain⟨w4,hw4⟩:∃w4,w4=wc:=⟨_,rfl⟩
       subst hw4
       have HTC:=hide htc
       have HAT4:=hide (HAT2.out.later hbw)
       have HFR4:=hide (HFR2.out.on hbw (by omega))
       have hs4:=hbw.size
       obtain⟨a0,a1,a2,a3,a4⟩:=five_cells HAT4.out.ftl
       rw[huo] at a3
       rw[hum] at a2
       have b0:=(hbw.cell (p:=⟨g,v*3,none⟩) bd3).trans y0
       have hpbl:pb<wr.heap.size:=World.block_lt_of_cell? _ _ hck
       have b1:=(hbw.cell (p:=⟨pb,k,none⟩) hpbl).trans hck
       clear x0 x1 x2 x3 x4 y0 z0 p0 p1 f0 f1 hck htc hbw q1 q2
       have HCL:∀w',Hid (Below w4.heap.size w4 w'->Calls Tryz.prog 158 #[.pointer (some ⟨px,0,none⟩),.pointer (some ⟨pj,0,none⟩),.agg #[.int .i64 1,.int .i64 (o:Int),.string tx]] w' fun e w''=>FPost (doK z u (1,(o:Int),tx)) B px pj z st n g c gm cm w' e w''):=fun w' hb' =>
        l10Do_any B px pj z st n g c gm cm A C V u 1 (o:Int) tx w' (HAT4.out.later hb') (by have:=hb'.size;omega) HCK.out (by unfold maxLen;omega) (by rw[<- HME.out] at hln;have:k*m<=8*64:=Nat.mul_le_mul (by omega) hm64;omega)
       go_upto_region 9 with fail
       refine wp_region_quiet_tail 19 (by kernel_rfl) (by kernel_rfl) ?_
       simp only[List.take_succ_cons,List.take_zero,List.drop_succ_cons,List.drop_zero]
       repeat (go_big_quiet_step (fail))
       refine wpQuiet_nil ?_
       rintro _ ⟨nq,rfl⟩
       have HBQ:Hid (Below w4.heap.size w4 (w4.drewN nq)):=⟨rfl,rfl,rfl,Nat.le_refl _,fun _ _=>rfl⟩
       generalize w4.drewN nq=wq at *
       go_wp2_with fail
       refine((HCL _).out HBQ.out).mono ?_
       rintro e w5 ⟨rfl,hf5,hk5⟩
       have HF5:=hide ((HFR4.out.on HBQ.out (by omega)).trans hf5)
       have HT5:=hide (hf5.other tb _ _ _ (by simp;omega) (by decide) (by decide) (block_on HTC.out HBQ.out))
       have HK5:=hide hk5
       clear hf5 hk5 a0 a1 a2 a3 a4 b0 b1 HCL
       cases hd:doK z u (1,(o:Int),tx) with
       | none =>
        have HE:Hid (moveK z v s=none):=by
         show moveP z v s _=_
         rw[hd] at HDK
         rw[<- HLE.out]
         refine moveP_fall (k:=k+1) ?_ (by omega)
         rw[moveP_step HMV.out,htm]
         exact moveI_fall (k:=j+1) (by rw[HST.out,HDK.out];rfl) (by omega)
        rw[Option.isSome_none]
        go_wp2_with fail
        go_ret
        exact⟨by rw[HE.out];rfl,HF5.out,fun s' hs'=>by rw[HE.out] at hs';cases hs'⟩
       | some u1 =>
        obtain⟨A5,C5,V5,hA5⟩:=HK5.out u1 hd
        obtain⟨h1,h2⟩:=doK_op hd
        have hu1:u1.ps.length=m:=by rw[h2];exact hum
        have HS1:Hid (moveI z v k t (j+1)=some ⟨u1.qs,u1.ps.set j ((o:Int),(lo:Int)),u1.op,u1.js⟩):=by show _=_;rw[HST.out,HDK.out,hd,HNX.out];rfl
        have HL:=hide (hA5.led (i:=j) (by omega) ((o:Int),(lo:Int)))
        have HFL:=hide ((HF5.out.set (p:=gm) (by simp) bd5 (j*2) (.int .i64 (o:Int))).set (p:=gm) (by simp) bd5 (j*2+1) (.int .i64 (lo:Int)))
        obtain⟨e0,e1,e2,e3,e4⟩:=five_cells hA5.ftl
        rw[hu1] at e2
        obtain⟨t0,t1⟩:=two_cells HT5.out
        obtain⟨p0,p1,f0,f1⟩:=hA5.mem.cells (i:=j) (by omega)
        clear hA5 hd
        rw[Option.isSome_some]
        go_upto_region 11 with fail
        refine wp_region_quiet_tail 7 (by kernel_rfl) (by kernel_rfl) ?_
        simp only[List.take_succ_cons,List.take_zero,List.drop_succ_cons,List.drop_zero]
        repeat (go_big_quiet_step (fail))
        refine wpQuiet_nil ?_
        rintro _ ⟨nq',rfl⟩
        go_wp2_with fail
        go_roundw
        case rel=>exact⟨j+1,_,A5,C5,V5,by omega,by go_num,HS1.out,HL.out.later ⟨rfl,rfl,rfl,Nat.le_refl _,fun _ _=>rfl⟩,HFL.out.on ⟨rfl,rfl,rfl,Nat.le_refl _,fun _ _=>rfl⟩ (by have:=HFL.out.below.size;omega)⟩
        case measure=>simp[intOf];omega
     ·have HNO:=hide (moveI_step_no hmv heq)
      have hne:(((plAt u.ps j).1==(v:Int))&&((plAt u.ps j).2==(k:Int)))=false:=by
       cases hh:(((plAt u.ps j).1==(v:Int))&&((plAt u.ps j).2==(k:Int))) with
       | false=>rfl
       | true =>
        simp only[Bool.and_eq_true,beq_iff_eq] at hh
        exact absurd (Prod.ext hh.1 hh.2) heq
      clear hmv hat hfr hKU heq
      generalize plAt u.ps j=y at *
      obtain⟨a1,a2⟩:=y
      dsimp only at p0 p1 hne
      have q1:=Tryz.eqPl a1 a2 (v:Int) (k:Int)
      rw[hne] at q1
      go_wp2_with fail
      go_roundw
      case rel=>exact⟨j+1,u,A,C,V,by omega,by go_num,HNO.out,HAT2.out,HFR2.out⟩
      case measure=>simp[intOf];omega
    ·obtain rfl:j=m:=by omega
     have HST:Hid (moveP z v s (k+1)=some u):=by show _=_;rw[moveP_step HMV.out,htm];exact hmv
     clear hmv hat hfr
     go_wp2_with fail
     exact⟨⟨k+1,u,A,C,V,by omega,by go_num,HST.out,HAT2.out,HFR2.out⟩,by simp[intOf];omega⟩
  ·obtain rfl:k=L:=by omega
   have HE:Hid (moveK z v s=some t):=by show moveP z v s _=_;rw[<- HLE.out];exact hmv
   clear hmv hat hfr
   go_wp2_with fail
   go_ret
   exact⟨by rw[HE.out];rfl,HFR.out,fun s' hs'=>by rw[HE.out] at hs';simp only[Option.some.injEq] at hs';subst hs';exact⟨_,_,_,HAT.out⟩⟩
end Go.Proofs.YtgjoepdfhadmcaaGreatDoor
end

section
namespace Go.Proofs.YtgjoepdfhadmcaaGreatDoor
open Go.RowKit
set_option linter.unusedVariables false
set_option maxRecDepth 20000
theorem first_of {w:World}{B:Nat}{v:Value}{l:List Nat}(h:w.ownsRow B 2 1 v l.length (valN l)):∃a c,v=.slice a l.length c∧(0<l.length->∃ge,a=some ⟨ge,0,none⟩∧ge<w.heap.size∧w.cell? ⟨ge,0,none⟩=some (.int .i64 ((l.getD 0 0:Nat):Int))):=by
 rcases h.2 with⟨e,h0⟩|⟨ge,cap,cur,e,hb,hg,hn,_⟩
 ·exact⟨none,0,by rw[e,h0],fun h1=>by omega⟩
 ·subst e
  refine⟨_,cap,rfl,fun h1=>⟨ge,rfl,(Array.getElem?_eq_some_iff.1 hg).1,?_⟩⟩
  rw[h.cellAt 0 (by omega),valN_at h1]
theorem FtlAt.opened {B px pj n g c gm cm:Nat}{w:World}{z st:Int}{A:Nat->Option Addr}{C:Nat->Nat}{V:Value}{s:Kp}(h:FtlAt B w px pj z st n g c gm cm A C V s)(o:Int) :
  FtlAt B (w.setCell ⟨px,3,none⟩ (.int .i64 o)) px pj z st n g c gm cm A C V (withOp s o):=by
 obtain⟨h1,h2,h3⟩:=h.apart
 have hm:=h.mem.set (o:=3) (.int .i64 o) h.nx h.ftl (by decide) (by decide) (by decide)
 exact⟨⟨hm.sq,hm.pl,hm.jb,hm.ne,hm.nj⟩,set_block h.ftl 3 _ (by simp),set_other h.jobs h3 _,h.nx,h.nj,h.bx,h.bj⟩
set_option maxHeartbeats 6400000 in
theorem l10Room_any (B px pj:Nat)(z st:Int)(n g c gm cm:Nat)(A:Nat->Option Addr)(C:Nat->Nat)(V:Value)(s:Kp)(w:World)(h:FtlAt B w px pj z st n g c gm cm A C V s)(hB:B<=w.heap.size)(hK:KOk z s)(hjs:s.js.length<=1000) :
  Calls Tryz.prog 157 #[.pointer (some ⟨px,0,none⟩),.pointer (some ⟨pj,0,none⟩)] w fun e w'=>FPost (roomK z 20 s) B px pj z st n g c gm cm w e w':=by
 have hm64:=hK.map.few
 have hnl:=h.mem.sq.len
 have hn12:n<=12:=by have:=(chipOk_parts hK.map.chip).2.2.2.1;omega
 obtain⟨m,hme⟩:∃m,m=s.ps.length:=⟨_,rfl⟩
 have HME:=hide hme
 rw[<- hme] at hm64
 have HNL:=hide hnl
 have HK:=hide hK
 have H0:=hide h
 clear h hK hme hnl
 go_enter Tryz.func157,Tryz.ntmps157
 go_wp2_with fail
 go_loopw [5] (fun i wr=>∃(k:Nat) (t:Kp) (A:Nat->Option Addr) (C:Nat->Nat) (V:Value),k<=20∧i=.int .i64 (k:Int)∧roomK z 20 s=roomK z (20-k) t∧KOk z t∧t.qs.length=n∧t.ps.length=m∧t.js.length<=s.js.length+513*k∧FtlAt B wr px pj z st n g c gm cm A C V t∧Frame B [g,px,pj,gm] w wr) (fun i _=>21-(intOf i).toNat)
 case atStart=>exact⟨0,s,A,C,V,Nat.zero_le _,rfl,rfl,HK.out,HNL.out,HME.out.symm,by omega,H0.out,Frame.refl _ _ _⟩
 case round =>
  obtain⟨k,t,A,C,V,hk,rfl,hrm,hKT,htq,htm,hjl,hat,hfr⟩:=hrel
  have HRM:=hide hrm
  have HKT:=hide hKT
  have HAT:=hide hat
  have HFR:=hide hfr
  have hsz:=hfr.below.size
  obtain⟨bd1,bd2,bd3,bd4,bd5,bd6⟩:=hat.bound
  have hk2:(k:Int)<=20:=by omega
  have hlo:=hKT.lo
  have hhi:=hKT.hi
  rw[htq] at hhi
  clear hrm
  obtain⟨x0,x1,x2,x3,x4⟩:=five_cells hat.ftl
  rw[htm] at x2
  go_upto_region 4 with fail
  go_cut [37] from 8 to 95 (fun d wx=>d=.bool (roomy z t)∧Below wr.heap.size wr wx)
  case first =>
   by_cases h0:0<=t.op
   ·obtain⟨o,ho⟩:∃o:Nat,t.op=(o:Int):=⟨t.op.toNat,by omega⟩
    have hon:o<n:=by omega
    have hoi:(o:Int)<(n:Int):=by omega
    obtain⟨y0,_,_⟩:=hat.mem.sq.cells hon
    have HR:Hid (roomy z t=decide (((sqAt t.qs o).1.length:Int)<z)):=by show _=_;unfold roomy;rw[ho];simp
    rw[ho] at x3
    have g0:decide ((o:Int)>=0)=true:=by simp
    generalize (sqAt t.qs o).1.length=lo at *
    clear hat hfr hKT h0 ho
    go_quiet (fail)
    have HBQ:Hid (Below wr.heap.size wr (wr.drewN nq)):=⟨rfl,rfl,rfl,Nat.le_refl _,fun _ _=>rfl⟩
    generalize wr.drewN nq=wq at *
    go_wp2_with fail
    go_meet
    exact⟨by rw[HR.out],HBQ.out⟩
   ·have g0:decide (t.op>=0)=false:=by simpa using h0
    have HR:Hid (roomy z t=false):=by show _=_;unfold roomy;rw[show decide (0<=t.op)=false by simpa using h0];rfl
    generalize t.op=oo at *
    clear hat hfr hKT h0
    go_quiet (fail)
    have HBQ:Hid (Below wr.heap.size wr (wr.drewN nq)):=⟨rfl,rfl,rfl,Nat.le_refl _,fun _ _=>rfl⟩
    generalize wr.drewN nq=wq at *
    go_wp2_with fail
    go_meet
    exact⟨by rw[HR.out],HBQ.out⟩
  case rest =>
   obtain⟨rfl,hbw⟩:=hcut
   obtain⟨w1,hw1⟩:∃w1,w1=wc:=⟨_,rfl⟩
   subst hw1
   have HA1:=hide (HAT.out.later hbw)
   have HF1:=hide (HFR.out.on hbw (by omega))
   have hs1:=hbw.size
   clear hat hfr hbw x0 x1 x2 x3 x4
   obtain⟨x0,x1,x2,x3,x4⟩:=five_cells HA1.out.ftl
   rw[htm] at x2
   cases hro:roomy z t with
   | true =>
    have HE:Hid (roomK z 20 s=some t):=by show _=_;rw[HRM.out];exact roomK_yes hro _
    go_wp2_with fail
    go_ret
    exact⟨by rw[HE.out];rfl,HF1.out,fun s' hs'=>by rw[HE.out] at hs';simp only[Option.some.injEq] at hs';subst hs';exact⟨_,_,_,HA1.out⟩⟩
   | false =>
    by_cases hk20:k=20
    ·subst hk20
     have HE:Hid (roomK z 20 s=none):=by show _=_;rw[HRM.out];exact roomK_end hro
     simp only[show((20:Nat):Int)=20 from rfl]
     go_wp2_with fail
     go_ret
     exact⟨by rw[HE.out];rfl,HF1.out,fun s' hs'=>by rw[HE.out] at hs';cases hs'⟩
    ·have g1:((k:Int)==20)=false:=by simpa using(show(k:Int)≠20 by omega)
     have HN:Hid (roomK z 20 s=(stepK z t).bind (roomK z (19-k))):=by show _=_;rw[HRM.out,show 20-k=(19-k)+1 by omega];exact roomK_next hro _
     clear hro HRM
     go_wp2_with fail
     refine(l9Empty_any z (some ⟨g,0,none⟩) n c t.qs w1 HA1.out.mem.sq.ownS.squares (Nat.le_refl _) hn12 (chipOk_fits HKT.out.map.chip)).mono ?_
     rintro e w2 ⟨ev,rfl,hev,b2⟩
     rw[<- htq] at hev
     have HA2:=hide (HA1.out.later b2)
     have HF2:=hide (HF1.out.on b2 (by omega))
     have hs2:=b2.size
     obtain⟨ea,ec,rfl,hfst⟩:=first_of hev
     have HFS:=hide hfst
     have hel:(emptyK t.qs t.qs.length).length<=12:=by have:=emptyK_length t.qs t.qs.length;omega
     have HEF:=hide (fun hh=>empty_first (qs:=t.qs) hh)
     obtain⟨E,hE⟩:∃E,E=(emptyK t.qs t.qs.length).length:=⟨_,rfl⟩
     obtain⟨e0,he0⟩:∃e0,e0=(emptyK t.qs t.qs.length).getD 0 0:=⟨_,rfl⟩
     rw[<- hE,<- he0] at HFS HEF
     rw[<- hE] at hel
     have HE1:=hide hE
     have HE0:=hide he0
     rw[<- hE]
     clear hE he0 hev b2 x0 x1 x2 x3 x4 hfst
     obtain⟨x0,x1,x2,x3,x4⟩:=five_cells HA2.out.ftl
     have fz:=four_frozen HA2.out.ftl 3
     rw[htm] at x2
     by_cases h2:2<=E
     ·obtain⟨ge,rfl,hgl,hge⟩:=HFS.out (by omega)
      obtain⟨i1,i2,i3⟩:=HEF.out (by omega)
      have g2:decide ((E:Int)>=2)=true:=by simp;omega
      have hEi:(0:Int)<(E:Int):=by omega
      have HOP:=hide (HA2.out.opened (e0:Int))
      have HKO:=hide (withOp_ok HKT.out i1 i3)
      have HFO:=hide (HF2.out.set (p:=px) (by simp) HA2.out.bx 3 (.int .i64 (e0:Int)))
      have HST:Hid (roomK z 20 s=roomK z (20-(k+1)) (withOp t (e0:Int))):=by
       show _=_
       rw[HN.out]
       unfold stepK
       rw[if_pos (by rw[<- HE1.out];exact h2),<- HE0.out,show 20-(k+1)=19-k by omega]
       rfl
      go_wp2_with fail
      go_roundw
      case rel=>exact⟨k+1,withOp t (e0:Int),A,C,V,by omega,by go_num,HST.out,HKO.out,htq,htm,by show t.js.length<=_;omega,HOP.out,HFO.out⟩
      case measure=>simp[intOf];omega
     ·have g2:decide ((E:Int)>=2)=false:=by simp;omega
      have HCV:∀w',Hid (Below w2.heap.size w2 w'->Calls Tryz.prog 199 #[.agg #[.int .i64 z,.slice (some ⟨g,0,none⟩) n c],.slice (some ⟨gm,0,none⟩) m cm,.int .i64 t.op] w' fun e w''=>e=.returned (.int .i64 (victimV z t.qs t.ps t.op))∧Below w'.heap.size w' w''):=fun w' hb'=>by
       have h9:=HA2.out.later hb'
       have hpl:=pl_places h9.mem.pl
       rw[htm] at hpl
       exact l9Victim_any z (some ⟨g,0,none⟩) n c t.qs (some ⟨gm,0,none⟩) m cm t.ps t.op w' h9.mem.sq.ownS.squares (Nat.le_refl _) hn12 (chipOk_fits HKT.out.map.chip) hpl (Nat.le_refl _) hm64
      have HVP:=hide (fun hh=>victim_parts (z:=z) (op:=t.op) HKT.out.map hh)
      obtain⟨vv,hvv⟩:∃vv,vv=victimV z t.qs t.ps t.op:=⟨_,rfl⟩
      rw[<- hvv] at HVP HCV
      have HVV:=hide hvv
      clear hvv
      go_upto_region 11 with fail
      refine wp_region_quiet_tail 12 (by kernel_rfl) (by kernel_rfl) ?_
      simp only[List.take_succ_cons,List.take_zero,List.drop_succ_cons,List.drop_zero]
      repeat (go_big_quiet_step (fail))
      refine wpQuiet_nil ?_
      rintro _ ⟨nq,rfl⟩
      have HBQ:Hid (Below w2.heap.size w2 (w2.drewN nq)):=⟨rfl,rfl,rfl,Nat.le_refl _,fun _ _=>rfl⟩
      generalize w2.drewN nq=wq at *
      go_wp2_with fail
      refine((HCV _).out HBQ.out).mono ?_
      rintro e w3 ⟨rfl,b3⟩
      have HA3:=hide ((HA2.out.later HBQ.out).later b3)
      have HB3:=hide (below_here HBQ.out b3)
      have HF3:=hide (HF2.out.on HB3.out (by omega))
      have hs3:=HB3.out.size
      clear b3 HCV x0 x1 x2 x3 x4 fz
      obtain⟨x0,x1,x2,x3,x4⟩:=five_cells HA3.out.ftl
      rw[htm] at x2
      by_cases hv:vv<0
      ·have g3:decide (vv<0)=true:=by simpa using hv
       have HE:Hid (roomK z 20 s=none):=by
        show _=_
        rw[HN.out]
        unfold stepK
        rw[if_neg (by rw[<- HE1.out];exact h2),<- HVV.out,if_pos hv]
        rfl
       go_wp2_with fail
       go_ret
       exact⟨by rw[HE.out];rfl,HF3.out,fun s' hs'=>by rw[HE.out] at hs';cases hs'⟩
      ·have g3:decide (vv<0)=false:=by simpa using hv
       obtain⟨v,hvn,hvl,hvo,hvp,hvb,hvz,_⟩:=HVP.out (by omega)
       subst hvn
       have HVZ:=hide hvz
       clear HVP hvz
       have hvm:v<n:=by omega
       have HV0:Hid (victimV z t.qs t.ps t.op=(v:Int)):=HVV.out.symm
       have HWL:Hid (ByteArray.empty.size<=maxLen):=Nat.zero_le _
       go_wp2_with fail
       refine(l9Live_any (some ⟨gm,0,none⟩) m cm t.ps (v:Int) w3 (by have h9:=pl_places HA3.out.mem.pl;rw[htm] at h9;exact h9) (by omega)).mono ?_
       rintro e w4 ⟨rfl,rfl⟩
       have hll:=liveN_le t.ps (v:Int)
       rw[htm] at hll
       have HSW:=hide (fun hh=>stepK_wipe (z:=z) (s:=t) (v:=v) (by rw[<- HE1.out];exact h2) HV0.out hh)
       have HSS:=hide (fun hh hh'=>stepK_stuck (z:=z) (s:=t) (v:=v) hh HV0.out hh')
       have HSM:=hide (fun hh hh'=>stepK_move (z:=z) (s:=t) (v:=v) (by rw[<- HE1.out];exact h2) hh HV0.out hh')
       have HLZ:=hide (fun hh=>(liveN_zero (ps:=t.ps) (v:=(v:Int))).1 hh)
       rw[<- HE1.out] at HSS HSM
       rw[<- HE0.out] at HSM
       obtain⟨lv,hlv⟩:∃lv,lv=liveN t.ps (v:Int):=⟨_,rfl⟩
       rw[<- hlv] at hll HSW HSS HSM HLZ
       rw[<- hlv]
       clear hlv
       by_cases hl0:lv=0
       ·have HS0:=hide (HSW.out hl0)
        subst hl0
        simp only[show((0:Nat):Int)=0 from rfl]
        go_wp2_with fail
        refine(l10Do_any B px pj z st n g c gm cm A C V t 2 (v:Int) ByteArray.empty w3 HA3.out (by omega) HKT.out.map.chip HWL.out (by omega)).mono ?_
        rintro e w5 ⟨rfl,hf5,hk5⟩
        have HF5:=hide (HF3.out.trans hf5)
        have HK5:=hide hk5
        clear hf5 hk5 x0 x1 x2 x3 x4
        cases hd:doK z t (2,(v:Int),ByteArray.empty) with
        | none =>
         have HE:Hid (roomK z 20 s=none):=by show _=_;rw[HN.out,HS0.out,hd];rfl
         rw[Option.isSome_none]
         go_wp2_with fail
         go_ret
         exact⟨by rw[HE.out];rfl,HF5.out,fun s' hs'=>by rw[HE.out] at hs';cases hs'⟩
        | some t1 =>
         obtain⟨A5,C5,V5,hA5⟩:=HK5.out t1 hd
         have hst:=stepK_ok HKT.out (HS0.out.trans hd)
         have hsl:=stepK_len HKT.out (HS0.out.trans hd)
         have HE:Hid (roomK z 20 s=roomK z (20-(k+1)) t1):=by show _=_;rw[HN.out,HS0.out,hd,show 20-(k+1)=19-k by omega];rfl
         have HA5:=hide hA5
         have HST:=hide hst
         clear hA5 hst hd
         rw[Option.isSome_some]
         go_wp2_with fail
         go_roundw
         case rel=>exact⟨k+1,t1,A5,C5,V5,by omega,by go_num,HE.out,HST.out.ok,HST.out.squares.trans htq,HST.out.places.trans htm,by omega,HA5.out,HF5.out⟩
         case measure=>simp[intOf];omega
       ·have g4:decide ((lv:Int) > 0)=true:=by simp;omega
        by_cases hE0:E=0
        ·subst hE0
         have HE:Hid (roomK z 20 s=none):=by show _=_;rw[HN.out,HSS.out rfl (by omega)];rfl
         simp only[show((0:Nat):Int)=0 from rfl]
         go_wp2_with fail
         go_ret
         exact⟨by rw[HE.out];rfl,HF3.out,fun s' hs'=>by rw[HE.out] at hs';cases hs'⟩
        ·have g5:((E:Int)==0)=false:=by simpa using(show(E:Int)≠0 by omega)
         obtain⟨ge,rfl,hgl,hge⟩:=HFS.out (by omega)
         obtain⟨i1,i2,i3⟩:=HEF.out (by omega)
         have hge3:=(HB3.out.cell (p:=⟨ge,0,none⟩) hgl).trans hge
         have hEi:(0:Int)<(E:Int):=by omega
         have HOP:=hide (HA3.out.opened (e0:Int))
         have HKO:=hide (withOp_ok HKT.out i1 i3)
         have HFO:=hide (HF3.out.set (p:=px) (by simp) HA3.out.bx 3 (.int .i64 (e0:Int)))
         have fz:=four_frozen HA3.out.ftl 3
         have hvne:v≠e0:=fun e=>by subst e;omega
         have HSM1:=hide (HSM.out hE0 (by omega))
         obtain⟨wM,hwM⟩:∃wM,wM=w3.setCell ⟨px,3,none⟩ (.int .i64 (e0:Int)):=⟨_,rfl⟩
         have hsM:wM.heap.size=w3.heap.size:=by rw[hwM,Go.Deep.nblk_setCell]
         have HSZ:=hide hsM
         rw[<- hwM] at HOP HFO
         clear hge hsM
         go_wp2_with fail
         rw[<- hwM]
         clear hwM x0 x1 x2 x3 x4 fz
         refine(l10Move_any B px pj z st n g c gm cm A C V (withOp t (e0:Int)) v wM HOP.out (by rw[HSZ.out];omega) HKO.out e0 rfl (by show(v:Int)≠(e0:Int);omega) hvl (by show t.js.length<=_;omega)).mono ?_
         rintro e w5 ⟨rfl,hf5,hk5⟩
         have HF5:=hide (HFO.out.trans hf5)
         have HK5:=hide hk5
         have hs5:=hf5.below.size
         rw[HSZ.out] at hs5
         clear hf5 hk5
         cases hmv:moveK z v (withOp t (e0:Int)) with
         | none =>
          have HE:Hid (roomK z 20 s=none):=by show _=_;rw[HN.out,HSM1.out,hmv];rfl
          rw[Option.isSome_none]
          go_wp2_with fail
          go_ret
          exact⟨by rw[HE.out];rfl,HF5.out,fun s' hs'=>by rw[HE.out] at hs';cases hs'⟩
         | some t1 =>
          obtain⟨A5,C5,V5,hA5⟩:=HK5.out t1 hmv
          have HA5:=hide hA5
          have HS1:Hid (stepK z t=doK z t1 (2,(v:Int),ByteArray.empty)):=by show _=_;rw[HSM1.out,hmv];rfl
          have hM1:=moveP_moved HKO.out (show(v:Int)≠(withOp t (e0:Int)).op by show(v:Int)≠(e0:Int);omega) hmv
          have hln:=(moveP_len hmv).1
          have HCK:=hide hM1.ok.map.chip
          have hln2:t1.js.length<=100000:=by
           have h6:(sqAt (withOp t (e0:Int)).qs v).1.length*(withOp t (e0:Int)).ps.length<=8*64:=by
            refine Nat.mul_le_mul ?_ (by show t.ps.length<=64;omega)
            have h7:=(sqOk_parts (chipOk_at HKT.out.map.chip hvl)).1
            have h8:=(chipOk_parts HKT.out.map.chip).2.1
            show(sqAt t.qs v).1.length<=8
            omega
           have h9:(withOp t (e0:Int)).js.length=t.js.length:=rfl
           rw[h9] at hln
           omega
          clear hA5 hmv hM1 hln HK5
          rw[Option.isSome_some]
          go_wp2_with fail
          refine(l10Do_any B px pj z st n g c gm cm A5 C5 V5 t1 2 (v:Int) ByteArray.empty w5 HA5.out (by omega) HCK.out HWL.out (by omega)).mono ?_
          rintro e w6 ⟨rfl,hf6,hk6⟩
          have HF6:=hide (HF5.out.trans hf6)
          have HK6:=hide hk6
          clear hf6 hk6
          cases hd:doK z t1 (2,(v:Int),ByteArray.empty) with
          | none =>
           have HE:Hid (roomK z 20 s=none):=by show _=_;rw[HN.out,HS1.out,hd];rfl
           rw[Option.isSome_none]
           go_wp2_with fail
           go_ret
           exact⟨by rw[HE.out];rfl,HF6.out,fun s' hs'=>by rw[HE.out] at hs';cases hs'⟩
          | some t2 =>
           obtain⟨A6,C6,V6,hA6⟩:=HK6.out t2 hd
           have HST:=hide (stepK_ok HKT.out (HS1.out.trans hd))
           have hsl:=stepK_len HKT.out (HS1.out.trans hd)
           have HE:Hid (roomK z 20 s=roomK z (20-(k+1)) t2):=by show _=_;rw[HN.out,HS1.out,hd,show 20-(k+1)=19-k by omega];rfl
           have HA6:=hide hA6
           clear hA6 hd
           rw[Option.isSome_some]
           go_wp2_with fail
           go_roundw
           case rel=>exact⟨k+1,t2,A6,C6,V6,by omega,by go_num,HE.out,HST.out.ok,HST.out.squares.trans htq,HST.out.places.trans htm,by omega,HA6.out,HF6.out⟩
           case measure=>simp[intOf];omega
end Go.Proofs.YtgjoepdfhadmcaaGreatDoor
end

section
namespace Go.Proofs.YtgjoepdfhadmcaaGreatDoor
open Go.RowKit
set_option linter.unusedVariables false
set_option maxRecDepth 20000
theorem FtlAt.stamped {B px pj n g c gm cm:Nat}{w:World}{z st:Int}{A:Nat->Option Addr}{C:Nat->Nat}{V:Value}{s:Kp}(h:FtlAt B w px pj z st n g c gm cm A C V s)(o:Int) :
  FtlAt B (w.setCell ⟨px,4,none⟩ (.int .i64 o)) px pj z o n g c gm cm A C V s:=by
 obtain⟨h1,h2,h3⟩:=h.apart
 have hm:=h.mem.set (o:=4) (.int .i64 o) h.nx h.ftl (by decide) (by decide) (by decide)
 exact⟨⟨hm.sq,hm.pl,hm.jb,hm.ne,hm.nj⟩,set_block h.ftl 4 _ (by simp),set_other h.jobs h3 _,h.nx,h.nj,h.bx,h.bj⟩
def RPost (r:Option Kp)(B px pj:Nat)(z st:Int)(n g c gm cm:Nat)(w w':World):Prop :=
 Frame B [g,px,pj,gm] w w'∧∀s',r=some s'->∃A C V,FtlAt B w' px pj z st n g c gm cm A C V s'
set_option maxHeartbeats 6400000 in
theorem l10Enter_any (B px pj:Nat)(z st:Int)(n g c gm cm:Nat)(A:Nat->Option Addr)(C:Nat->Nat)(V:Value)(s:Kp)(kd a sp:Int)(tx:ByteArray)(w:World)(h:FtlAt B w px pj z st n g c gm cm A C V s)(hB:B<=w.heap.size)(hK:KOk z s)(hjs:s.js.length<=1000)(hst:0<=st∧st<=1000000) :
  Calls Tryz.prog 105 #[.pointer (some ⟨px,0,none⟩),.pointer (some ⟨pj,0,none⟩),.agg #[.int .i64 kd,.int .i64 a,.int .i64 sp,.string tx]] w fun e w'=>FPost (enterK z s st kd a tx) B px pj z (st+1) n g c gm cm w e w':=by
 obtain⟨wA,hwA⟩:∃wA,wA=w.alloc (.cells #[.int .i64 kd,.int .i64 a,.int .i64 (st+1),.string tx] 31):=⟨_,rfl⟩
 have hzA:wA.heap.size=w.heap.size+1:=by rw[hwA];simp
 have HBA:Hid (Below w.heap.size w wA):=by rw[hwA];exact(Below.refl _ _).alloc (Nat.le_refl _) _
 have HP:Hid (wA.heap[w.heap.size]?=some (.cells #[.int .i64 kd,.int .i64 a,.int .i64 (st+1),.string tx] 31)):=by rw[hwA];exact heap_new _ _
 have HA:=hide (h.later HBA.out)
 obtain⟨bd1,bd2,bd3,bd4,bd5,bd6⟩:=h.bound
 have hm64:=hK.map.few
 have hm1:=hK.map.one
 have hnl:=h.mem.sq.len
 have hn12:n<=12:=by have:=(chipOk_parts hK.map.chip).2.2.2.1;omega
 obtain⟨m,hme⟩:∃m,m=s.ps.length:=⟨_,rfl⟩
 have HME:=hide hme
 rw[<- hme] at hm64 hm1
 have HNL:=hide hnl
 have HK:=hide hK
 have hwr:IntKind.i64.wrap (st+1)=st+1:=by rw[IntKind.wrap_i64];omega
 have hst0:=hst.1
 have hst1:=hst.2
 obtain⟨y0,y1,y2,y3,y4⟩:=five_cells h.ftl
 have y4':(w.alloc (.cells #[.int .i64 kd,.int .i64 a,.int .i64 sp,.string tx] 31)).cell? ⟨px,4,none⟩=some (.int .i64 st):=((Below.refl w.heap.size w).alloc (Nat.le_refl _) (.cells #[.int .i64 kd,.int .i64 a,.int .i64 sp,.string tx] 31)).cell (p:=⟨px,4,none⟩) bd1|>.trans y4
 obtain⟨x0,x1,x2,x3,x4⟩:=five_cells HA.out.ftl
 obtain⟨p0,p1,p2,p3⟩:=four_cells HP.out
 rw[<- hme] at x2
 have HMY:Hid (mayEnt s.ps st kd a tx=(pageOk kd a (st+1) tx&&inB a 0 ((m:Int)-1))):=by show _=_;unfold mayEnt;rw[hme]
 clear h hK hme hnl hst y0 y1 y2 y3 y4
 go_enter Tryz.func105,Tryz.ntmps105
 go_upto_region 2 with fail
 rw[<- hwA]
 clear hwA
 have HCP:∀W,Hid (Calls Tryz.prog 82 #[.agg #[.int .i64 kd,.int .i64 a,.int .i64 (st+1),.string tx]] W fun e w'=>e=.returned (.bool (pageOk kd a (st+1) tx))∧Below W.heap.size W w'):=fun W=>specPageOk_any kd a (st+1) tx W
 have HRM:∀W,Hid (Below wA.heap.size wA W->Calls Tryz.prog 157 #[.pointer (some ⟨px,0,none⟩),.pointer (some ⟨pj,0,none⟩)] W fun e w'=>FPost (roomK z 20 s) B px pj z st n g c gm cm W e w'):=fun W hb =>
  l10Room_any B px pj z st n g c gm cm A C V s W (HA.out.later hb) (by have:=hb.size;omega) HK.out hjs
 obtain⟨r,hr⟩:∃r,r=if mayEnt s.ps st kd a tx then roomK z 20 s else none:=⟨_,rfl⟩
 have HR:=hide hr
 clear hr
 have hB':B<=wA.heap.size:=by omega
 have k2:=cell_regrown x2
 have t0:=cell_regrown p0
 have t1:=cell_regrown p1
 have t2:=cell_regrown p2
 have t3:=cell_regrown p3
 go_cut [34] (fun d wx=>d=.bool (!r.isSome)∧RPost r B px pj z st n g c gm cm wA wx)
 case first =>
  cases hpk:pageOk kd a (st+1) tx with
  | false =>
   have HR0:Hid (r=none):=by show _=_;rw[HR.out,HMY.out,hpk];rfl
   rw[hpk] at HCP
   have cP:∀d os,Calls Tryz.prog 82 #[.agg #[.int .i64 kd,.int .i64 a,.int .i64 (st+1),.string tx]] (Go.Sort.grow (redrawn wA d) os) fun e w''=>e=.returned (.bool false)∧∃p:Regrown,w''=Go.Sort.grow (redrawn wA p.d) p.os:=fun d os=>Calls.regrown_of ((HCP _).out)
   clear hpk HRM
   refine wp_region_quiet_below (by kernel_rfl) (by kernel_rfl) ?_
   repeat (go_big_quiet_step ((go_at_call 82;exact cP _ _)))
   refine wpQuiet_nil ?_
   intro _ hw'
   obtain⟨⟨dq,osq⟩,hw''⟩:=hw'
   subst hw''
   have HB1:=hide (below_regrown wA dq osq)
   go_wp2_with fail
   go_meet
   exact⟨by rw[HR0.out];rfl,frame_of_below HB1.out hB',fun t ht=>by rw[HR0.out] at ht;cases ht⟩
  | true =>
   rw[hpk] at HCP
   have cP:∀d os,Calls Tryz.prog 82 #[.agg #[.int .i64 kd,.int .i64 a,.int .i64 (st+1),.string tx]] (Go.Sort.grow (redrawn wA d) os) fun e w''=>e=.returned (.bool true)∧∃p:Regrown,w''=Go.Sort.grow (redrawn wA p.d) p.os:=fun d os=>Calls.regrown_of ((HCP _).out)
   cases hin:inB a 0 ((m:Int)-1) with
   | false =>
    have HR0:Hid (r=none):=by show _=_;rw[HR.out,HMY.out,hpk,hin];rfl
    have cL:∀d os,Calls Tryz.prog 68 #[.int .i64 a,.int .i64 0,.int .i64 ((m:Int)-1)] (Go.Sort.grow (redrawn wA d) os) fun e w''=>e=.returned (.bool false)∧∃p:Regrown,w''=Go.Sort.grow (redrawn wA p.d) p.os:=fun d os=>Calls.regrown_of ((l1In_any a 0 ((m:Int)-1) _).mono fun e w' hh=>by rw[hin] at hh;exact⟨hh.1,by rw[<- hh.2];exact Below.refl _ _⟩)
    clear hpk HRM hin
    refine wp_region_quiet_below (by kernel_rfl) (by kernel_rfl) ?_
    repeat (go_big_quiet_step (first|(go_at_call 82;exact cP _ _)|(go_at_call 68;exact cL _ _)))
    refine wpQuiet_nil ?_
    intro _ hw'
    obtain⟨⟨dq,osq⟩,hw''⟩:=hw'
    subst hw''
    have HB1:=hide (below_regrown wA dq osq)
    go_wp2_with fail
    go_meet
    exact⟨by rw[HR0.out];rfl,frame_of_below HB1.out hB',fun t ht=>by rw[HR0.out] at ht;cases ht⟩
   | true =>
    have HR0:Hid (r=roomK z 20 s):=by show _=_;rw[HR.out,HMY.out,hpk,hin];rfl
    have cL:∀d os,Calls Tryz.prog 68 #[.int .i64 a,.int .i64 0,.int .i64 ((m:Int)-1)] (Go.Sort.grow (redrawn wA d) os) fun e w''=>e=.returned (.bool true)∧∃p:Regrown,w''=Go.Sort.grow (redrawn wA p.d) p.os:=fun d os=>Calls.regrown_of ((l1In_any a 0 ((m:Int)-1) _).mono fun e w' hh=>by rw[hin] at hh;exact⟨hh.1,by rw[<- hh.2];exact Below.refl _ _⟩)
    rw[<- HR0.out] at HRM
    clear hpk hin
    refine wp_region_below_tail 18 (by kernel_rfl) (by kernel_rfl) ?_
    simp only[List.take_succ_cons,List.take_zero,List.drop_succ_cons,List.drop_zero]
    repeat (go_big_quiet_step (first|(go_at_call 82;exact cP _ _)|(go_at_call 68;exact cL _ _)))
    refine wpQuiet_nil ?_
    intro _ hw'
    obtain⟨⟨dq,osq⟩,hw''⟩:=hw'
    subst hw''
    have HB1:=hide (below_regrown wA dq osq)
    go_wp2_with fail
    refine((HRM _).out HB1.out).mono ?_
    rintro e w3 ⟨rfl,hf3,hk3⟩
    have HF3:=hide ((frame_of_below (L:=[g,px,pj,gm]) HB1.out hB').trans hf3)
    have HK3:=hide hk3
    clear hf3 hk3
    go_wp2_with fail
    go_meet
    exact⟨by cases r<;>rfl,HF3.out,HK3.out⟩
 case rest =>
  obtain⟨rfl,hrf,hrk⟩:=hcut
  obtain⟨w1,hw1⟩:∃w1,w1=wc:=⟨_,rfl⟩
  subst hw1
  have HF1:=hide ((frame_of_below (L:=[g,px,pj,gm]) HBA.out hB).trans hrf)
  have HP1:=hide (hrf.other w.heap.size _ _ _ (by simp;omega) (by decide) (by decide) HP.out)
  have hs1:=hrf.below.size
  have HEN:Hid (enterK z s st kd a tx=r.bind fun s'=>putK z s' a.toNat (laid kd a (st+1) tx)):=by
   show _=_
   rw[HR.out]
   cases hme:mayEnt s.ps st kd a tx with
   | true=>rw[enterK_yes hme];rfl
   | false=>rw[enterK_no hme];rfl
  clear hrf x0 x1 x2 x3 x4 p0 p1 p2 p3 k2 t0 t1 t2 t3 y4' HCP HRM
  cases hrr:r with
  | none =>
   have HE:Hid (enterK z s st kd a tx=none):=by show _=_;rw[HEN.out,hrr];rfl
   rw[Option.isSome_none]
   go_wp2_with fail
   go_ret
   exact⟨by rw[HE.out];rfl,HF1.out,fun s' hs'=>by rw[HE.out] at hs';cases hs'⟩
  | some t =>
   obtain⟨A1,C1,V1,hA1⟩:=hrk t hrr
   have hme:mayEnt s.ps st kd a tx=true:=by
    cases hme:mayEnt s.ps st kd a tx with
    | true=>rfl
    | false=>have:=HR.out;rw[hrr,hme] at this;cases this
   have hrm:roomK z 20 s=some t:=by have:=HR.out;rw[hrr,hme] at this;exact this.symm
   obtain⟨hST,hry⟩:=roomK_ok HK.out hrm
   have htm:t.ps.length=m:=hST.places.trans HME.out.symm
   have htq:t.qs.length=n:=hST.squares.trans HNL.out
   have hop:0<=t.op:=by unfold roomy at hry;simp at hry;exact hry.1
   obtain⟨o,ho⟩:∃o:Nat,t.op=(o:Int):=⟨t.op.toNat,by omega⟩
   have hon:o<n:=by have:=hST.ok.hi;omega
   have hoi:(o:Int)<(n:Int):=by omega
   have hmm:=hme
   rw[HMY.out,Bool.and_eq_true] at hmm
   obtain⟨hpk,hin⟩:=hmm
   obtain⟨K,a',S',rfl,rfl,hSe,hK2,ha63,hS1,hS2,hx24⟩:=page_ok hpk
   have hal:a'<m:=by unfold inB at hin;simp only[Bool.and_eq_true,decide_eq_true_eq] at hin;omega
   have hai:(a':Int)<(m:Int):=by omega
   have hjt:t.js.length<=20000:=by have:=roomK_len HK.out hrm;omega
   have HEN2:Hid (enterK z s st (K:Int) (a':Int) tx=putK z t a' (laidB K a' S' tx)):=by show _=_;rw[HEN.out,hrr,Option.bind_some,Int.toNat_natCast,hSe,laid_yes (by rw[<- hSe];exact hpk)]
   have HNX:Hid (nextP t=((o:Int),((sqAt t.qs o).1.length:Int))):=by show _=_;unfold nextP;rw[ho,Int.toNat_natCast]
   have HDK:Hid (putK z t a' (laidB K a' S' tx)=(doK z t (1,(o:Int),laidB K a' S' tx)).map fun s'=>⟨s'.qs,s'.ps.set a' (nextP t),s'.op,s'.js⟩):=by show _=_;rw[putK_of,ho]
   have HCK:=hide hST.ok.map.chip
   have HA1:=hide hA1
   obtain⟨x0,x1,x2,x3,x4⟩:=five_cells hA1.ftl
   obtain⟨z0,_,_⟩:=hA1.mem.sq.cells hon
   have hol:(sqAt t.qs o).1.length<=8:=by
    have h1:=(sqOk_parts (chipOk_at hST.ok.map.chip (show o<t.qs.length by omega))).1
    have h2:=(chipOk_parts hST.ok.map.chip).2.1
    omega
   rw[ho] at x3
   rw[htm] at x2
   obtain⟨bd1,bd2,bd3,bd4,bd5,bd6⟩:=hA1.bound
   obtain⟨lo,hlo⟩:∃lo,lo=(sqAt t.qs o).1.length:=⟨_,rfl⟩
   rw[<- hlo] at z0 hol HNX
   rw[hSe] at HP1
   clear hlo hA1 hrr hme hrm hST hry hop hpk hin hrk HR HEN
   rw[Option.isSome_some]
   go_upto_region 4 with fail
   go_cut [7] (fun d wx=>∃g',d=.pointer (some ⟨g',0,none⟩)∧w1.heap.size<=g'∧wx.heap[g']?=some (.cells #[.int .i64 (o:Int),.int .i64 (lo:Int)] 39)∧Below w1.heap.size w1 wx)
   case first =>
    have HBX:Hid (Below w1.heap.size w1 (w1.alloc (.cells #[.int .i64 (o:Int),.int .i64 (lo:Int)] 39)).drew):=((Below.refl w1.heap.size w1).alloc (Nat.le_refl _) _).drew
    go_region
    go_wp2_with fail
    go_meet
    exact⟨_,rfl,Nat.le_refl _,heap_new w1 _,HBX.out⟩
   case rest =>
    obtain⟨tb,rfl,htb,htc,hbw⟩:=hcut
    obtain⟨w4,hw4⟩:∃w4,w4=wc:=⟨_,rfl⟩
    subst hw4
    have HTC:=hide htc
    have HA4:=hide (HA1.out.later hbw)
    have HF4:=hide (HF1.out.on hbw (by omega))
    have HP4:=hide (block_on HP1.out hbw)
    have hs4:=hbw.size
    obtain⟨a0,a1,a2,a3,a4⟩:=five_cells HA4.out.ftl
    rw[ho] at a3
    rw[htm] at a2
    obtain⟨b0,b1,b2,b3⟩:=four_cells HP4.out
    have k3:=cell_regrown a3
    have t0:=cell_regrown b0
    have t1:=cell_regrown b1
    have t2:=cell_regrown b2
    have t3:=cell_regrown b3
    clear x0 x1 x2 x3 x4 z0 htc hbw
    have cI:∀d os,Calls Tryz.prog 159 #[.agg #[.int .i64 (K:Int),.int .i64 (a':Int),.int .i64 (S':Int),.string tx]] (Go.Sort.grow (redrawn w4 d) os) fun e w''=>e=.returned (.string (laidB K a' S' tx))∧∃p:Regrown,w''=Go.Sort.grow (redrawn w4 p.d) p.os:=fun d os=>Calls.regrown_of (l7Laid_any K a' S' tx _ hK2 ha63 hS2 hx24)
    have HTX:=hide (laidB_small K a' S' tx hx24)
    have HCL:∀w',Hid (Below w4.heap.size w4 w'->Calls Tryz.prog 158 #[.pointer (some ⟨px,0,none⟩),.pointer (some ⟨pj,0,none⟩),.agg #[.int .i64 1,.int .i64 (o:Int),.string (laidB K a' S' tx)]] w' fun e w''=>FPost (doK z t (1,(o:Int),laidB K a' S' tx)) B px pj z st n g c gm cm w' e w''):=fun w' hb' =>
     l10Do_any B px pj z st n g c gm cm A1 C1 V1 t 1 (o:Int) (laidB K a' S' tx) w' (HA4.out.later hb') (by have:=hb'.size;omega) HCK.out (by have:=HTX.out;unfold maxLen;omega) (by omega)
    obtain⟨lt,hlt⟩:∃lt,lt=laidB K a' S' tx:=⟨_,rfl⟩
    rw[<- hlt] at cI HCL HDK HEN2
    clear hlt HTX
    go_upto_region 5 with fail
    refine wp_region_below_tail 9 (by kernel_rfl) (by kernel_rfl) ?_
    simp only[List.take_succ_cons,List.take_zero,List.drop_succ_cons,List.drop_zero]
    repeat (go_big_quiet_step ((go_at_call 159;exact cI _ _)))
    refine wpQuiet_nil ?_
    intro _ hw'
    obtain⟨⟨dq,osq⟩,hw''⟩:=hw'
    subst hw''
    have HBQ:=hide (below_regrown w4 dq osq)
    generalize Go.Sort.grow (redrawn w4 dq) osq=wq at *
    go_wp2_with fail
    refine((HCL _).out HBQ.out).mono ?_
    rintro e w5 ⟨rfl,hf5,hk5⟩
    have HF5:=hide ((HF4.out.on HBQ.out (by omega)).trans hf5)
    have HT5:=hide (hf5.other tb _ _ _ (by simp;omega) (by decide) (by decide) (block_on HTC.out HBQ.out))
    have HP5:=hide (hf5.other w.heap.size _ _ _ (by simp;omega) (by decide) (by decide) (block_on HP4.out HBQ.out))
    have HK5:=hide hk5
    clear hf5 hk5 a0 a1 a2 a3 a4 b0 b1 b2 b3 k3 t0 t1 t2 t3 cI HCL
    cases hd:doK z t (1,(o:Int),lt) with
    | none =>
     have HE:Hid (enterK z s st (K:Int) (a':Int) tx=none):=by show _=_;rw[HEN2.out,HDK.out,hd];rfl
     rw[Option.isSome_none]
     go_wp2_with fail
     go_ret
     exact⟨by rw[HE.out];rfl,HF5.out,fun s' hs'=>by rw[HE.out] at hs';cases hs'⟩
    | some u1 =>
     obtain⟨A5,C5,V5,hA5⟩:=HK5.out u1 hd
     obtain⟨h1,h2⟩:=doK_op hd
     have hu1:u1.ps.length=m:=by rw[h2];exact htm
     have HE:Hid (enterK z s st (K:Int) (a':Int) tx=some ⟨u1.qs,u1.ps.set a' ((o:Int),(lo:Int)),u1.op,u1.js⟩):=by show _=_;rw[HEN2.out,HDK.out,hd,HNX.out];rfl
     have HL:=hide ((hA5.led (i:=a') (by omega) ((o:Int),(lo:Int))).stamped (S':Int))
     have HFL:=hide (((HF5.out.set (p:=gm) (by simp) bd5 (a'*2) (.int .i64 (o:Int))).set (p:=gm) (by simp) bd5 (a'*2+1) (.int .i64 (lo:Int))).set (p:=px) (by simp) hA5.bx 4 (.int .i64 (S':Int)))
     obtain⟨e0,e1,e2,e3,e4⟩:=five_cells hA5.ftl
     rw[hu1] at e2
     obtain⟨t0,t1⟩:=two_cells HT5.out
     obtain⟨b0,b1,b2,b3⟩:=four_cells HP5.out
     obtain⟨p0,p1,f0,f1⟩:=hA5.mem.cells (i:=a') (by omega)
     obtain⟨n1,n2,n3⟩:=hA5.apart
     have fx:=four_frozen hA5.ftl 4
     clear hA5 hd
     rw[Option.isSome_some]
     go_upto_region 7 with fail
     refine wp_region_quiet_tail 8 (by kernel_rfl) (by kernel_rfl) ?_
     simp only[List.take_succ_cons,List.take_zero,List.drop_succ_cons,List.drop_zero]
     repeat (go_big_quiet_step (fail))
     refine wpQuiet_nil ?_
     rintro _ ⟨nq',rfl⟩
     go_wp2_with fail
     go_ret
     refine⟨by rw[HE.out];rfl,HFL.out.on ⟨rfl,rfl,rfl,Nat.le_refl _,fun _ _=>rfl⟩ (by have:=HFL.out.below.size;omega),fun s' hs'=>?_⟩
     rw[HE.out] at hs'
     simp only[Option.some.injEq] at hs'
     subst hs'
     rw[hSe]
     exact⟨_,_,_,HL.out.later ⟨rfl,rfl,rfl,Nat.le_refl _,fun _ _=>rfl⟩⟩
end Go.Proofs.YtgjoepdfhadmcaaGreatDoor
end

section
namespace Go.Proofs.YtgjoepdfhadmcaaGreatDoor
open Go.RowKit
set_option linter.unusedVariables false
set_option linter.unusedSimpArgs false
set_option maxRecDepth 20000
theorem grow_new {B g n:Nat}{w:World}(h:Owned g (g+1) w (some ⟨g,0,none⟩) (3*n) zero3)(hB:B<=g):GrowSqs B w n (List.replicate n ([],0,false)) g (fun _=>none) (fun _=>0) :=
 ⟨by simp,h.congr (fun j _=>cellQ_new n j),⟨fun i _=>by rw[sqAt_new];exact⟨rfl,.inl ⟨rfl,rfl⟩⟩,fun i j m _ _ _ h'=>by simp[oB] at h'⟩,hB,fun i _=>by simp[oB]⟩
theorem chipOk_new {n:Nat}{z:Int}(h1:1<=n)(h2:n<=12)(hz:inB z 1 8=true):chipOk z (List.replicate n ([],0,false))=true:=by
 unfold chipOk
 rw[hz,List.length_replicate]
 have h3:(List.replicate n (([],0,false):Sq)).all (sqOk z)=true:=by
  rw[List.all_eq_true]
  intro x hx
  rw[(List.mem_replicate.1 hx).2]
  have hz':1<=z:=by
   unfold inB at hz;simp at hz;omega
  simp[sqOk,inB]
  try omega
 rw[h3]
 simp[h1,h2]
set_option maxHeartbeats 1600000 in
theorem specNewChip_grow (n:Nat)(z:Int)(w:World)(h1:1<=n)(h2:n<=12)(hz:inB z 1 8=true) :
  Calls Tryz.prog 94 #[.int .i64 (n:Int),.int .i64 z] w fun e w'=>∃g,e=.returned (.tuple #[.agg #[.int .i64 z,.slice (some ⟨g,0,none⟩) n n],.bool true])∧GrowSqs w.heap.size w' n (List.replicate n ([],0,false)) g (fun _=>none) (fun _=>0)∧Below w.heap.size w w':=by
 obtain⟨wA,hwA⟩:∃wA,wA=w.alloc (.cells #[.int .i64 0,.slice none 0 0] 26):=⟨_,rfl⟩
 have hzA:wA.heap.size=w.heap.size+1:=by rw[hwA];simp
 have HBA:Hid (Below w.heap.size w wA):=by rw[hwA];exact(Below.refl _ _).alloc (Nat.le_refl _) _
 have H1:Hid (wA.heap[w.heap.size]?=some (.cells #[.int .i64 0,.slice none 0 0] 26)):=by rw[hwA];exact heap_new _ _
 have hi:inB (n:Int) 1 12=true:=by unfold inB;simp;omega
 have hmk:=make3 (P:=Tryz.prog) 24 42 (.slice none 0 0) (.int .i64 0) (.bool false) 40 Tryz.underlying24 Tryz.infoSq n (by omega) (by omega) wA
 go_enter Tryz.func94,Tryz.ntmps94
 go_wp2_with fail
 rw[<- hwA]
 clear hwA
 refine(l1In_any (n:Int) 1 12 wA).mono ?_
 rintro e w1 ⟨rfl,rfl⟩
 rw[hi]
 go_wp2_with fail
 refine(l1In_any z 1 8 wA).mono ?_
 rintro e w1 ⟨rfl,rfl⟩
 rw[hz]
 obtain⟨a0,a1⟩:=two_cells H1.out
 have f0:=four_frozen H1.out 0
 have f1:=four_frozen H1.out 1
 go_wp2_with fail
 have HRS:=hide (two_set H1.out (.int .i64 z) (.slice (some ⟨w.heap.size+1,0,none⟩) n n))
 have HAS:=hide (two_aside (b:=w.heap.size) (Aside.refl w.heap.size (w.heap.size+1) wA) (Nat.le_refl _) (Nat.lt_succ_self _) (.int .i64 z) (.slice (some ⟨w.heap.size+1,0,none⟩) n n))
 have hsW:((wA.setCell ⟨w.heap.size,0,none⟩ (.int .i64 z)).setCell ⟨w.heap.size,1,none⟩ (.slice (some ⟨w.heap.size+1,0,none⟩) n n)).heap.size=w.heap.size+1:=by rw[Go.Deep.nblk_setCell,Go.Deep.nblk_setCell,hzA]
 have HBW:=hide (HBA.out.trans (HAS.out.below (Nat.le_refl _) (by omega)))
 have HOW:=hide (made3 ((wA.setCell ⟨w.heap.size,0,none⟩ (.int .i64 z)).setCell ⟨w.heap.size,1,none⟩ (.slice (some ⟨w.heap.size+1,0,none⟩) n n)) n 42)
 rw[hsW] at HOW
 refine bodyPost_ret (results_ct rfl rfl (run_loadVar_row _ _ _ _ _ _ _ (heap_old HRS.out) Tryz.underlying26 rfl (by kernel_rfl))) rfl ⟨_,rfl,grow_new HOW.out (by omega),HBW.out.alloc (by omega) _⟩
theorem Aside.trans_below {l r B:Nat}{a w w':World}(h:Aside l r a w)(hb:Below B w w')(hB:a.heap.size<=B):Aside l r a w' :=
 ⟨hb.os.trans h.os,hb.tape.trans h.tape,hb.output.trans h.output,Nat.le_trans h.size hb.size,fun k hk hk'=>(hb.block k (by omega)).trans (h.block k hk hk')⟩
def JobDraws:Prop:=∀(p:Nat) (q:Int) (w:World),Cur w p->q<=4294967296 ->
  Calls Tryz.prog 181 #[.pointer (some ⟨p,0,none⟩),.int .i64 q] w fun e w'=>∃(kd sq:Int) (tx:ByteArray),e=.returned (.agg #[.int .i64 kd,.int .i64 sq,.string tx])∧tx.size<=maxLen∧Cur w' p∧Aside p (p+1) w w'
set_option maxHeartbeats 1600000 in
theorem l8Draw_any (hd:JobDraws)(p:Nat)(w:World)(hc:Cur w p) :
  Calls Tryz.prog 145 #[.pointer (some ⟨p,0,none⟩)] w fun e w'=>∃(z:Int) (g n:Nat) (qs:List Sq) (A:Nat->Option Addr) (C:Nat->Nat),e=.returned (.agg #[.int .i64 z,.slice (some ⟨g,0,none⟩) n n])∧chipOk z qs=true∧GrowSqs w.heap.size w' n qs g A C∧Cur w' p∧Aside p (p+1) w w':=by
 have hpl:=hc.lt
 have HD:=hide hd
 clear hd
 obtain⟨wA,hwA⟩:∃wA,wA=w.alloc (.cells #[.int .i64 0,.slice none 0 0] 26):=⟨_,rfl⟩
 have HC:=hide (hc.alloc (.cells #[.int .i64 0,.slice none 0 0] 26))
 have HA:=hide ((Aside.refl p (p+1) w).alloc (.cells #[.int .i64 0,.slice none 0 0] 26))
 have H1:=hide (heap_new w (.cells #[.int .i64 0,.slice none 0 0] 26))
 rw[<- hwA] at HC HA H1
 clear hc
 go_enter Tryz.func145,Tryz.ntmps145
 go_wp2_with fail
 rw[<- hwA]
 clear hwA
 refine(l1Below_any p 5 wA HC.out (by omega)).mono ?_
 rintro e w1 ⟨x,rfl,x0,x1,c1,s1⟩
 have h1:=aside_block s1 H1.out (by omega)
 have HA1:=hide (HA.out.trans s1)
 clear s1 HC HA H1
 go_wp2_with fail
 refine(l1Below_any p 4 w1 c1 (by omega)).mono ?_
 rintro e w2 ⟨y,rfl,y0,y1,c2,s2⟩
 have h2:=aside_block s2 h1 (by omega)
 have HA2:=hide (HA1.out.trans s2)
 clear s2 c1 HA1 h1
 obtain⟨n,hn⟩:∃n:Nat,1+x=(n:Int):=⟨(1+x).toNat,by omega⟩
 have hn1:1<=n:=by omega
 have hn5:n<=5:=by omega
 obtain⟨z,hz⟩:∃z:Int,1+y=z:=⟨_,rfl⟩
 have hzi:inB z 1 8=true:=by unfold inB;simp;omega
 have hw2:w.heap.size<w2.heap.size:=by
  rcases Nat.lt_or_ge w.heap.size w2.heap.size with h' | h'
  ·exact h'
  ·rw[Array.getElem?_eq_none h'] at h2;simp at h2
 go_wp2_with fail
 refine(specNewChip_grow n z w2 hn1 (by omega) hzi).mono ?_
 rintro e w3 ⟨g,rfl,hG,b3⟩
 have hok:=chipOk_new hn1 (show n<=12 by omega) hzi
 have hs3:=b3.size
 have hg2:=hG.atG
 obtain⟨B,hB⟩:∃B,B=w2.heap.size:=⟨_,rfl⟩
 rw[<- hB] at hG hg2 hw2 hs3
 have hgl:g<w3.heap.size:=by have:=hG.row.1;omega
 obtain⟨wB,hwB⟩:∃wB,wB=w3.alloc (.cells #[.int .i64 z,.slice (some ⟨g,0,none⟩) n n] 26):=⟨_,rfl⟩
 have HGB:Hid (GrowSqs B wB n (List.replicate n ([],0,false)) g (fun _=>none) (fun _=>0)):=by rw[hwB];exact hG.later ((Below.refl _ _).alloc (Nat.le_refl _) _)
 have HKB:Hid (wB.heap[w3.heap.size]?=some (.cells #[.int .i64 z,.slice (some ⟨g,0,none⟩) n n] 26)):=by rw[hwB];exact heap_new _ _
 have HRB:Hid (wB.heap[w.heap.size]?=some (.cells #[.int .i64 0,.slice none 0 0] 26)):=by rw[hwB];exact heap_old (block_on h2 b3)
 have HCB:Hid (Cur wB p):=by rw[hwB];exact(c2.below b3 c2.lt).alloc _
 have HAB:Hid (Aside p (p+1) w wB):=by rw[hwB];exact(HA2.out.trans (aside_of_below b3)).alloc _
 have HOK:=hide hok
 have hzB:wB.heap.size=w3.heap.size+1:=by rw[hwB];simp
 have HZB:=hide hzB
 clear hG b3 c2 HA2 h2 hok hzB hn hz x0 x1 y0 y1
 go_wp2_with fail
 rw[<- hwB]
 clear hwB hB
 refine(l1Below_any p 14 wB HCB.out (by omega)).mono ?_
 rintro e w4 ⟨m,rfl,m0,m1,c4,s4⟩
 have hp3:p<w3.heap.size:=by omega
 have HG4:=hide (HGB.out.aside s4 (.inl (by omega)))
 have HK4:=hide (aside_block s4 HKB.out (by omega))
 have HR4:=hide (aside_block s4 HRB.out (by omega))
 have HA4:=hide (HAB.out.trans s4)
 have hs4:w3.heap.size+1<=w4.heap.size:=by rw[<- HZB.out];exact s4.size
 have HC4:=hide c4
 clear HGB HKB HRB HAB HCB c4 s4 HZB
 obtain⟨M,rfl⟩:∃M:Nat,m=(M:Int):=⟨m.toNat,by omega⟩
 have hM:M<=13:=by omega
 clear m0 m1
 go_wp2_with fail
 go_loopw [5] (fun i wr=>∃(k:Nat) (qs:List Sq) (A:Nat->Option Addr) (C:Nat->Nat),k<=13∧i=.int .i64 (k:Int)∧chipOk z qs=true∧GrowSqs B wr n qs g A C∧wr.heap[w3.heap.size]?=some (.cells #[.int .i64 z,.slice (some ⟨g,0,none⟩) n n] 26)∧wr.heap[w.heap.size]?=some (.cells #[.int .i64 0,.slice none 0 0] 26)∧Cur wr p∧Aside p (p+1) w wr∧w3.heap.size+1<=wr.heap.size) (fun i _=>(intOf i).toNat)
 case atStart=>exact⟨M,_,_,_,hM,rfl,HOK.out,HG4.out,HK4.out,HR4.out,HC4.out,HA4.out,hs4⟩
 case round =>
  obtain⟨k,qs,A,C,hk,rfl,hok,hG,hK,hR,hC,hA,hs⟩:=hrel
  have HOK2:=hide hok
  have HG:=hide hG
  have HK:=hide hK
  have HR:=hide hR
  have HA:=hide hA
  clear HG4 HK4 HR4 HA4 HC4 HOK hok hG hA
  by_cases h0:0<k
  ·obtain⟨a0,a1⟩:=two_cells hK
   clear hK hR
   go_wp2_with fail
   refine(HD.out p (n:Int) wr hC (by omega)).mono ?_
   rintro e w5 ⟨kd,sq,tx,rfl,htx,c5,s5⟩
   have hs5:=s5.size
   have HG5:=hide (HG.out.aside s5 (.inl (by omega)))
   have HK5:=hide (aside_block s5 HK.out (by omega))
   have HR5:=hide (aside_block s5 HR.out (by omega))
   have HA5:=hide (HA.out.trans s5)
   have HC5:=hide c5
   clear HG HK HR HA hC s5 c5 a0 a1
   go_wp2_with fail
   refine(l8Do_any w3.heap.size n B z n qs g A C kd sq tx w5 HG5.out (by omega) HK5.out (by omega) HOK2.out htx).mono ?_
   rintro e w6 ⟨rfl,A6,C6,hG6,hO6⟩
   have HG6:=hide hG6
   have HK6:=hide (hO6.other _ _ _ _ (show w3.heap.size≠g by omega) (by decide) HK5.out)
   have HR6:=hide (hO6.other _ _ _ _ (show w.heap.size≠g by omega) (by decide) HR5.out)
   have HC6:=hide (HC5.out.below hO6.below (by omega))
   have HA6:Hid (Aside p (p+1) w w6):=HA5.out.trans_below hO6.below (by omega)
   have hs6:w3.heap.size+1<=w6.heap.size:=by have:=hO6.below.size;omega
   have HOK6:=hide (doJ_ok (j:=(kd,sq,tx)) HOK2.out)
   clear hG6 hO6 HG5 HK5 HR5 HA5 HC5 HOK2
   go_wp2_with fail
   exact⟨⟨k-1,_,A6,C6,by omega,by go_num,HOK6.out,HG6.out,HK6.out,HR6.out,HC6.out,HA6.out,hs6⟩,by simp[intOf];omega⟩
  ·obtain rfl:k=0:=by omega
   obtain⟨a0,a1⟩:=two_cells hK
   obtain⟨z0,z1⟩:=two_cells hR
   have f0:=four_frozen hR 0
   have f1:=four_frozen hR 1
   have HCC:=hide hC
   clear hK hR hC
   go_wp2_with fail
   refine bodyPost_ret (results_cell rfl rfl (run_loadVar_row _ _ _ _ _ _ _ (two_set HR.out _ _) Tryz.underlying26 rfl (by kernel_rfl))) rfl ⟨z,g,n,qs,A,C,rfl,HOK2.out,?_,?_,?_⟩
   ·exact(HG.out.aside (two_aside (Aside.refl w.heap.size (w.heap.size+1) wr) (Nat.le_refl _) (Nat.lt_succ_self _) _ _) (.inl (by omega))).mono (by omega)
   ·exact(HCC.out.set_new hpl _).set_new hpl _
   ·exact(HA.out.set_new (Nat.le_refl _) _).set_new (Nat.le_refl _) _
end Go.Proofs.YtgjoepdfhadmcaaGreatDoor
end

section
namespace Go.Proofs.YtgjoepdfhadmcaaGreatDoor
open Go.RowKit
set_option linter.unusedVariables false
set_option linter.unusedSimpArgs false
set_option maxRecDepth 20000
theorem four_at (k:Nat)(h:k<4):∃v:Int,(#[.int .i64 0,.int .i64 1,.int .i64 8,.int .i64 9]:Array Value)[k]?=some (.int .i64 v):=by
 rcases(show k=0∨k=1∨k=2∨k=3 by omega) with rfl|rfl|rfl|rfl<;>exact⟨_,rfl⟩
def ChipDrawn (w:World)(p:Nat)(e:Ending)(w':World):Prop:=∃(z:Int) (a:Option Addr) (n c:Nat) (qs:List Sq),e=.returned (.agg #[.int .i64 z,.slice a n c])∧n<=13∧n<=c∧(∀x∈qs,sqFits x)∧(∀x∈qs,x.1.length<=9)∧Squares w.heap.size w'.heap.size w' a n qs∧Cur w' p∧Aside p (p+1) w w'
theorem three_at (x0 x1 x2:Int)(k:Nat)(h:k<3):∃v:Int,(v=x0∨v=x1∨v=x2)∧(#[.int .i64 x0,.int .i64 x1,.int .i64 x2]:Array Value)[k]?=some (.int .i64 v):=by
 rcases(show k=0∨k=1∨k=2 by omega) with rfl|rfl|rfl
 ·exact⟨_,.inl rfl,rfl⟩
 ·exact⟨_,.inr (.inl rfl),rfl⟩
 ·exact⟨_,.inr (.inr rfl),rfl⟩
theorem two_at (k:Nat)(h:k<2):∃tx:ByteArray,tx.size<=4∧(#[.string ⟨#[]⟩,.string ⟨#[106,117,110,107]⟩]:Array Value)[k]?=some (.string tx):=by
 rcases(show k=0∨k=1 by omega) with rfl|rfl
 ·exact⟨_,by decide,rfl⟩
 ·exact⟨_,by decide,rfl⟩
theorem cell_aside {w w':World}{l r g q:Nat}(h:Aside l r w w')(hg:g<w.heap.size)(hr:r<=g):w'.cell? ⟨g,q,none⟩=w.cell? ⟨g,q,none⟩:=World.cell?_of_block (a:=⟨g,q,none⟩) (h.block g hg (.inr hr))
theorem array_cell_new (w:World){cs:Array Value}{t:TypeId}{J:Nat}{v:Value}(hv:cs[J]?=some v):(w.alloc (.cells cs t)).cell? ⟨w.heap.size,J,none⟩=some v:=by rw[World.cell?_alloc_new];exact hv
theorem grow_cell {B n g:Nat}{w:World}{qs:List Sq}{A:Nat->Option Addr}{C:Nat->Nat}(h:GrowSqs B w n qs g A C)(hn:0<n):w.cell? ⟨g,0,none⟩=some (.slice (A 0) (sqAt qs 0).1.length (C 0)):=by
 have h1:=(h.cells (i:=0) hn).1
 rw[Nat.zero_mul] at h1
 exact h1
theorem chip_len {z:Int}{qs:List Sq}(h:chipOk z qs=true){k:Nat}(hk:k<qs.length):(sqAt qs k).1.length<=8:=by
 have h1:=chipOk_parts h
 have h2:sqOk z (sqAt qs k)=true:=by
  unfold chipOk at h
  simp only[Bool.and_eq_true] at h
  have h3:=List.all_eq_true.1 h.2.2.2
  refine h3 _ ?_
  unfold sqAt
  rw[List.getD_eq_getElem?_getD,List.getElem?_eq_getElem hk]
  exact List.getElem_mem hk
 unfold sqOk at h2
 simp only[Bool.and_eq_true,decide_eq_true_eq] at h2
 have h4:=h1.2.1
 have h5:=h2.1
 omega
theorem chip_lens {z:Int}{qs:List Sq}(h:chipOk z qs=true):∀x∈qs,x.1.length<=9:=by
 intro x hx
 obtain⟨k,hk,rfl⟩:=List.getElem_of_mem hx
 have:=chip_len h hk
 unfold sqAt at this
 rw[List.getD_eq_getElem?_getD,List.getElem?_eq_getElem hk] at this
 simp at this
 omega
theorem chip_both {z:Int}{qs:List Sq}(h:chipOk z qs=true):(∀x∈qs,sqFits x)∧∀x∈qs,x.1.length<=9:=⟨chipOk_fits h,chip_lens h⟩
theorem drawn_end {w wL:World}{p lo hi:Nat}{z:Int}{a:Option Addr}{n c:Nat}{qs:List Sq}(hS:OwnSquares lo hi wL a n qs)(hlo:w.heap.size+1<=lo)(hhi:hi<=wL.heap.size)(hC:Cur wL p)(hpl:p<w.heap.size)(hA:Aside p (p+1) w wL)(hn:n<=13)(hc:n<=c)(hf:(∀x∈qs,sqFits x)∧∀x∈qs,x.1.length<=9)(u v:Value) :
  ChipDrawn w p (.returned (.agg #[.int .i64 z,.slice a n c])) ((wL.setCell ⟨w.heap.size,0,none⟩ u).setCell ⟨w.heap.size,1,none⟩ v):=by
 have h1:=hS.aside (two_aside (Aside.refl w.heap.size (w.heap.size+1) wL) (Nat.le_refl _) (Nat.lt_succ_self _) u v) (.inl hlo)
 have h2:((wL.setCell ⟨w.heap.size,0,none⟩ u).setCell ⟨w.heap.size,1,none⟩ v).heap.size=wL.heap.size:=by rw[Go.Deep.nblk_setCell,Go.Deep.nblk_setCell]
 exact⟨z,a,n,c,qs,rfl,hn,hc,hf.1,hf.2,(h1.wide (by omega) (by omega) (Nat.le_refl _)).squares,(hC.set_new hpl _).set_new hpl _,(hA.set_new (Nat.le_refl _) _).set_new (Nat.le_refl _) _⟩
set_option maxHeartbeats 3200000 in
theorem l8DrawAny_any (hd:JobDraws)(p:Nat)(w:World)(hc:Cur w p) :
  Calls Tryz.prog 90 #[.pointer (some ⟨p,0,none⟩)] w (ChipDrawn w p):=by
 have hpl:=hc.lt
 obtain⟨wA,hwA⟩:∃wA,wA=w.alloc (.cells #[.int .i64 0,.slice none 0 0] 26):=⟨_,rfl⟩
 have HC:=hide (hc.alloc (.cells #[.int .i64 0,.slice none 0 0] 26))
 have HA:=hide ((Aside.refl p (p+1) w).alloc (.cells #[.int .i64 0,.slice none 0 0] 26))
 have H1:=hide (heap_new w (.cells #[.int .i64 0,.slice none 0 0] 26))
 have hzA:wA.heap.size=w.heap.size+1:=by rw[hwA];simp
 rw[<- hwA] at HC HA H1
 clear hc
 go_enter Tryz.func90,Tryz.ntmps90
 go_wp2_with fail
 rw[<- hwA]
 clear hwA
 refine(l8Draw_any hd p wA HC.out).mono ?_
 rintro e w3 ⟨z,g,n,qs,A,C,rfl,hok,hG,hC3,hA3⟩
 have HOK:=hide hok
 have hs3:=hA3.size
 have hgB:=hG.atG
 have hgl:g<w3.heap.size:=by have:=hG.row.1;omega
 have hn1:1<=n:=by have:=(chipOk_parts hok).2.2.1;rw[hG.len] at this;exact this
 have hn12:n<=12:=by have:=(chipOk_parts hok).2.2.2.1;rw[hG.len] at this;exact this
 obtain⟨wB,hwB⟩:∃wB,wB=w3.alloc (.cells #[.int .i64 z,.slice (some ⟨g,0,none⟩) n n] 26):=⟨_,rfl⟩
 have HGB:Hid (GrowSqs wA.heap.size wB n qs g A C):=by rw[hwB];exact hG.later ((Below.refl _ _).alloc (Nat.le_refl _) _)
 have HSB:Hid (OwnSquares wA.heap.size w3.heap.size wB (some ⟨g,0,none⟩) n qs):=by rw[hwB];exact hG.ownS.later ((Below.refl _ _).alloc (Nat.le_refl _) _) (Nat.le_refl _)
 have HKB:Hid (wB.heap[w3.heap.size]?=some (.cells #[.int .i64 z,.slice (some ⟨g,0,none⟩) n n] 26)):=by rw[hwB];exact heap_new _ _
 have HRB:Hid (wB.heap[w.heap.size]?=some (.cells #[.int .i64 0,.slice none 0 0] 26)):=by rw[hwB];exact heap_old (aside_block hA3 H1.out (by omega))
 have HCB:Hid (Cur wB p):=by rw[hwB];exact hC3.alloc _
 have HAB:Hid (Aside p (p+1) w wB):=by rw[hwB];exact(HA.out.trans hA3).alloc _
 have hzB:wB.heap.size=w3.heap.size+1:=by rw[hwB];simp
 have HZB:=hide hzB
 clear hok hG hC3 hA3 HC HA H1 hzB
 go_wp2_with fail
 rw[<- hwB]
 clear hwB
 refine(l1Once_any p 12 wB HCB.out (by omega)).mono ?_
 rintro e w4 ⟨b,rfl,c4,s4⟩
 have hp3:p<w3.heap.size:=by omega
 have HG4:=hide (HGB.out.aside s4 (.inl (by omega)))
 have HS4:=hide (HSB.out.aside s4 (.inl (by omega)))
 have HK4:=hide (aside_block s4 HKB.out (by omega))
 have HR4:=hide (aside_block s4 HRB.out (by omega))
 have HA4:=hide (HAB.out.trans s4)
 have hs4:w3.heap.size+1<=w4.heap.size:=by rw[<- HZB.out];exact s4.size
 have HC4:=hide c4
 clear HSB HGB HKB HRB HAB HCB c4 s4 HZB
 cases b with
 | false =>
  obtain⟨a0,a1⟩:=two_cells HK4.out
  obtain⟨z0,z1⟩:=two_cells HR4.out
  have f0:=four_frozen HR4.out 0
  have f1:=four_frozen HR4.out 1
  go_wp2_with fail
  refine bodyPost_ret (results_cell rfl rfl (run_loadVar_row _ _ _ _ _ _ _ (two_set HR4.out _ _) Tryz.underlying26 rfl (by kernel_rfl))) rfl ?_
  exact drawn_end HG4.out.ownS (by omega) (Nat.le_refl _) HC4.out hpl HA4.out (by omega) (Nat.le_refl _) (chip_both HOK.out) _ _
 | true =>
  obtain⟨a0,a1⟩:=two_cells HK4.out
  go_wp2_with fail
  refine(l1Below_any p 4 w4 HC4.out (by omega)).mono ?_
  rintro e w7 ⟨y,rfl,y0,y1,c7,s7⟩
  have HG7:=hide (HG4.out.aside s7 (.inl (by omega)))
  have HS7:=hide (HS4.out.aside s7 (.inl (by omega)))
  have HK7:=hide (aside_block s7 HK4.out (by omega))
  have HR7:=hide (aside_block s7 HR4.out (by omega))
  have HA7:=hide (HA4.out.trans s7)
  have hs7:w3.heap.size+1<=w7.heap.size:=by have:=s7.size;omega
  have HC7:=hide c7
  clear HS4 HG4 HK4 HR4 HA4 HC4 a0 a1 s7 c7
  obtain⟨a0,a1⟩:=two_cells HK7.out
  rcases(show y=0∨y=1∨y=2∨y=3 by omega) with rfl|rfl|rfl|rfl
  ·have HC8:=hide (HC7.out.alloc (.cells #[.int .i64 0,.int .i64 1,.int .i64 8,.int .i64 9] 2))
   go_wp2_with fail
   refine(l1Below_any p 4 _ HC8.out (by omega)).mono ?_
   rintro e w8 ⟨j,rfl,j0,j1,c8,s8⟩
   obtain⟨J,rfl⟩:∃J:Nat,j=(J:Int):=⟨j.toNat,by omega⟩
   have hJ:J<4:=by omega
   obtain⟨v,hv⟩:=four_at J hJ
   have hcell:w8.cell? ⟨w7.heap.size,J,none⟩=some (.int .i64 v):=by
    rw[World.cell?_of_block (a:=⟨w7.heap.size,J,none⟩) (s8.block w7.heap.size (by simp) (.inr (by omega))),World.cell?_alloc_new];exact hv
   have HS8:=hide ((HS7.out.later ((Below.refl w7.heap.size w7).alloc (Nat.le_refl _) (.cells #[.int .i64 0,.int .i64 1,.int .i64 8,.int .i64 9] 2)) (by omega)).aside s8 (.inl (by omega)))
   have HK8:=hide (aside_block s8 (heap_old HK7.out) (by omega))
   have HR8:=hide (aside_block s8 (heap_old HR7.out) (by omega))
   have HA8:=hide ((HA7.out.alloc (.cells #[.int .i64 0,.int .i64 1,.int .i64 8,.int .i64 9] 2)).trans s8)
   have hs8:w3.heap.size+1<=w8.heap.size:=by have:=s8.size;simp at this;omega
   have HCC:=hide c8
   clear HG7 HS7 HK7 HR7 HA7 HC7 HC8 a0 a1 s8 c8 j0 j1 hv
   have HK9:=hide (set_block HK8.out 0 (.int .i64 v) (by simp))
   have HS9:=hide (HS8.out.aside ((Aside.refl w3.heap.size (w3.heap.size+1) w8).setCell (p:=⟨w3.heap.size,0,none⟩) (Nat.le_refl _) (Nat.lt_succ_self _) (.int .i64 v)) (.inr (Nat.le_refl _)))
   have HR9:=hide (set_other (o:=0) HR8.out (show w3.heap.size≠w.heap.size by omega) (.int .i64 v))
   have HC9:=hide (HCC.out.set_new hp3 (q:=0) (.int .i64 v))
   have HA9:=hide (HA8.out.set_new (g:=w3.heap.size) (q:=0) (by omega) (.int .i64 v))
   obtain⟨a0,a1⟩:=two_cells HK8.out
   have g0:=four_frozen HK8.out 0
   obtain⟨z0,z1⟩:=two_cells HR8.out
   have f0:=four_frozen HR8.out 0
   have f1:=four_frozen HR8.out 1
   go_wp2_with fail
   refine bodyPost_ret (results_cell rfl rfl (run_loadVar_row _ _ _ _ _ _ _ (two_set HR9.out _ _) Tryz.underlying26 rfl (by kernel_rfl))) rfl ?_
   exact drawn_end HS9.out (by omega) (by rw[Go.Deep.nblk_setCell];omega) HC9.out hpl HA9.out (by omega) (Nat.le_refl _) (chip_both HOK.out) _ _
  ·have HC8:=hide (HC7.out.alloc (.cells #[.int .i64 (-1),.int .i64 1000000,.int .i64 1000001] 2))
   go_wp2_with fail
   refine(l1Below_any p 3 _ HC8.out (by omega)).mono ?_
   rintro e w8 ⟨j,rfl,j0,j1,c8,s8⟩
   obtain⟨J,rfl⟩:∃J:Nat,j=(J:Int):=⟨j.toNat,by omega⟩
   have hJ:J<3:=by omega
   obtain⟨v,hv3,hv⟩:=three_at (-1) 1000000 1000001 J hJ
   have hcell:w8.cell? ⟨w7.heap.size,J,none⟩=some (.int .i64 v):=by
    rw[World.cell?_of_block (a:=⟨w7.heap.size,J,none⟩) (s8.block w7.heap.size (by simp) (.inr (by omega))),World.cell?_alloc_new];exact hv
   have HS8:=hide ((HS7.out.later ((Below.refl w7.heap.size w7).alloc (Nat.le_refl _) (.cells #[.int .i64 (-1),.int .i64 1000000,.int .i64 1000001] 2)) (by omega)).aside s8 (.inl (by omega)))
   have HG8:=hide ((HG7.out.later ((Below.refl w7.heap.size w7).alloc (Nat.le_refl _) (.cells #[.int .i64 (-1),.int .i64 1000000,.int .i64 1000001] 2))).aside s8 (.inl (by omega)))
   have HK8:=hide (aside_block s8 (heap_old HK7.out) (by omega))
   have HR8:=hide (aside_block s8 (heap_old HR7.out) (by omega))
   have HA8:=hide ((HA7.out.alloc (.cells #[.int .i64 (-1),.int .i64 1000000,.int .i64 1000001] 2)).trans s8)
   have hs8:w3.heap.size+1<=w8.heap.size:=by have:=s8.size;simp at this;omega
   have HCC:=hide c8
   clear HG7 HS7 HK7 HR7 HA7 HC7 HC8 a0 a1 s8 c8 j0 j1 hv
   obtain⟨a0,a1⟩:=two_cells HK8.out
   obtain⟨z0,z1⟩:=two_cells HR8.out
   have f0:=four_frozen HR8.out 0
   have f1:=four_frozen HR8.out 1
   have HG9:=hide (HG8.out.setWipes (i:=0) (by omega) v)
   have HK9:=hide (set_other (o:=0*3+1) HK8.out (show g≠w3.heap.size by omega) (.int .i64 v))
   have HR9:=hide (set_other (o:=0*3+1) HR8.out (show g≠w.heap.size by omega) (.int .i64 v))
   have HC9:=hide (HCC.out.set_new (show p<g by omega) (q:=0*3+1) (.int .i64 v))
   have HA9:=hide (HA8.out.set_new (g:=g) (q:=0*3+1) (by omega) (.int .i64 v))
   obtain⟨y0,y1,y2⟩:=HG8.out.cells (i:=0) (by omega)
   have g1:=HG8.out.open_ (j:=1) (by omega)
   rw[Nat.zero_mul,Nat.zero_add] at HK9 HR9 HC9 HA9 HG9
   obtain⟨b0,b1⟩:=two_cells HK9.out
   have HLX:Hid (∀x∈qs.set 0 ((sqAt qs 0).1,v,(sqAt qs 0).2.2),x.1.length<=9):=by
    intro x hx
    rcases List.mem_or_eq_of_mem_set hx with h' | h'
    ·exact chip_lens HOK.out x h'
    ·rw[h']
     have h9:=chip_len HOK.out (k:=0) (by rw[HG8.out.len];omega)
     show(sqAt qs 0).1.length<=9
     omega
   have HFX:Hid (∀x∈qs.set 0 ((sqAt qs 0).1,v,(sqAt qs 0).2.2),sqFits x):=by
    intro x hx
    rcases List.mem_or_eq_of_mem_set hx with h' | h'
    ·exact chipOk_fits HOK.out x h'
    ·rw[h']
     have h9:=sq_fits (chipOk_fits HOK.out) (k:=0) (by rw[HG8.out.len];omega)
     refine⟨h9.1,h9.2.1,?_⟩
     show(Lit.int .i64 v).wf=true
     rcases hv3 with rfl|rfl|rfl<;>rfl
   go_wp2_with fail
   refine bodyPost_ret (results_cell rfl rfl (run_loadVar_row _ _ _ _ _ _ _ (two_set HR9.out _ _) Tryz.underlying26 rfl (by kernel_rfl))) rfl ?_
   exact drawn_end HG9.out.ownS (by omega) (Nat.le_refl _) HC9.out hpl HA9.out (by omega) (Nat.le_refl _) ⟨HFX.out,HLX.out⟩ _ _
  ·obtain⟨i0,hi0,hzz0,hzz1,hzz2⟩:=info_parts Tryz.infoStrC
   have hqz:0<qs.length:=by rw[HG7.out.len];omega
   have hL8:(sqAt qs 0).1.length<=8:=chip_len HOK.out hqz
   obtain⟨X,hX⟩:∃X,X=(Obj.cells #[.string ⟨#[]⟩,.string ⟨#[106,117,110,107]⟩] 9):=⟨_,rfl⟩
   have HAX:=hide ((Aside.refl p (p+1) w7).alloc X)
   have HCX:=hide (HC7.out.alloc X)
   have hzX:(w7.alloc X).heap.size=w7.heap.size+1:=by simp
   obtain⟨c0,c1,c2⟩:=HG7.out.cells (i:=0) (by omega)
   have f0:=HG7.out.open_ (j:=0) (by omega)
   rw[Nat.zero_mul] at c0
   have cX:=(((Below.refl w7.heap.size w7).alloc (Nat.le_refl _) X).cell (p:=⟨g,0,none⟩) (show g<w7.heap.size by omega)).trans c0
   have HXC:=hide hX
   rw[hX] at cX
   go_wp2_with fail
   have hn0:0<n:=by omega
   have HNE:Hid (some g≠(Value.slice (A 0) (sqAt qs 0).1.length (C 0)).ownBlock):=by show _≠_;rw[ownBlock_slice];exact fun e=>HG7.out.apartG 0 hn0 e.symm
   go_region_law (first
    | (refine step_append_lies _ (by rfl) _ _ _ (by rfl) wA.heap.size 9 i0 (.string ByteArray.empty) 1 16 Tryz.underlying40 hi0 hzz0 hzz1 hzz2 rfl (by decide) (.slice (A 0) (sqAt qs 0).1.length (C 0)) (sqAt qs 0).1.length (pgV (sqAt qs 0).1) (by rfl) (HGa.out.pages.own 0 hn0) ⟨w8.heap.size,0,none⟩ 1 1 [.string tx] (by rfl) rfl (cell_one_new _ _ _) (by simp[Value.oneCell']) (by omega) (by unfold maxLen;omega) (by omega) (by simp;omega) (w8.heap.size+1) (by simp) ?_;intro g' c' w5 hown5 hgr5 hat5 hlt5;have c5:=(hgr5.cell_far ⟨g,0,none⟩ (by simp;omega) HNE.out).trans (grow_cell HGa.out hn0);have f5:=(hgr5.frozen_far ⟨g,0,none⟩ (by simp;omega) HNE.out).trans (HGa.out.open_ (j:=0) (by omega));have HO5:=hide hown5;have HR5:=hide hgr5;have HA5:=hide hat5;have HGP:=HGa;have HKP:=HKa;have HRP:=HRa;have HCP:=HCa;have HAP:=HAa;clear hown5 hgr5 hat5)
    | (refine step_append_lies _ (by rfl) _ _ _ (by rfl) wA.heap.size 9 i0 (.string ByteArray.empty) 1 16 Tryz.underlying40 hi0 hzz0 hzz1 hzz2 rfl (by decide) (.slice (A 0) (sqAt qs 0).1.length (C 0)) (sqAt qs 0).1.length (pgV (sqAt qs 0).1) (by rfl) (HGb.out.pages.own 0 hn0) ⟨w8.heap.size+1,0,none⟩ 1 1 [.string tx] (by rfl) rfl (by have h9:=cell_one_new (w8.alloc (Obj.cells #[.string ⟨#[]⟩,.string ⟨#[106,117,110,107]⟩] 9)) (.string tx) 9;rw[show(w8.alloc (Obj.cells #[.string ⟨#[]⟩,.string ⟨#[106,117,110,107]⟩] 9)).heap.size=w8.heap.size+1 by simp] at h9;exact h9) (by simp[Value.oneCell']) (by omega) (by unfold maxLen;omega) (by omega) (by simp;omega) (w8.heap.size+1+1) (by simp) ?_;intro g' c' w5 hown5 hgr5 hat5 hlt5;have c5:=(hgr5.cell_far ⟨g,0,none⟩ (by simp;omega) HNE.out).trans (grow_cell HGb.out hn0);have f5:=(hgr5.frozen_far ⟨g,0,none⟩ (by simp;omega) HNE.out).trans (HGb.out.open_ (j:=0) (by omega));have HO5:=hide hown5;have HR5:=hide hgr5;have HA5:=hide hat5;have HGP:=HGb;have HKP:=HKb;have HRP:=HRb;have HCP:=HCb;have HAP:=HAb;clear hown5 hgr5 hat5)
    | (go_simp;go_at_call 56;refine(l1Below_any p 2 _ (by first|exact HC7.out|(rw[<- HXC.out];exact HCX.out)) (by omega)).mono ?_;rintro e w8 ⟨j,rfl,j0,j1,c8,s8⟩;dsimp only;obtain⟨J,rfl⟩:∃J:Nat,j=(J:Int):=⟨j.toNat,by omega⟩;have hJ:(J:Int)<2:=(by omega);obtain⟨tx,htx,hv⟩:=two_at J (by omega);have s9:Aside p (p+1) w7 w8:=(by first|exact⟨s8.os,s8.tape,s8.output,s8.size,s8.block⟩|exact HAX.out.trans (by rw[HXC.out];exact⟨s8.os,s8.tape,s8.output,s8.size,s8.block⟩));have e0:=(cell_aside s9 (show g<w7.heap.size by omega) (show p+1<=g by omega)).trans c0;(first|(have e1:w8.cell? ⟨w7.heap.size,J,none⟩=some (.string tx):=(World.cell?_of_block (a:=⟨w7.heap.size,J,none⟩) (s8.block w7.heap.size (by simp) (.inr (by omega)))).trans (array_cell_new w7 hv))|skip);have e2:=array_cell_new w8 (t:=9) hv;have hs8:=s9.size;have HG8:=hide (HG7.out.aside s9 (.inl (by omega)));have HGa:=hide (HG8.out.later ((Below.refl w8.heap.size w8).alloc (Nat.le_refl _) (.cells #[.string tx] 9)));have HGx:=hide (HG8.out.later ((Below.refl w8.heap.size w8).alloc (Nat.le_refl _) (Obj.cells #[.string ⟨#[]⟩,.string ⟨#[106,117,110,107]⟩] 9)));have HGb:=hide (HGx.out.later ((Below.refl _ _).alloc (Nat.le_refl _) (.cells #[.string tx] 9)));have e3:=grow_cell HGa.out hn0;have e4:=grow_cell HGx.out hn0;have e5:=grow_cell HGb.out hn0;have HKa:=hide (heap_old (o:=.cells #[.string tx] 9) (aside_block s9 HK7.out (by omega)));have HKb:=hide (heap_old (o:=.cells #[.string tx] 9) (heap_old (o:=(Obj.cells #[.string ⟨#[]⟩,.string ⟨#[106,117,110,107]⟩] 9)) (aside_block s9 HK7.out (by omega))));have HRa:=hide (heap_old (o:=.cells #[.string tx] 9) (aside_block s9 HR7.out (by omega)));have HRb:=hide (heap_old (o:=.cells #[.string tx] 9) (heap_old (o:=(Obj.cells #[.string ⟨#[]⟩,.string ⟨#[106,117,110,107]⟩] 9)) (aside_block s9 HR7.out (by omega))));have HCa:=hide (c8.alloc (.cells #[.string tx] 9));have HCb:=hide ((c8.alloc (Obj.cells #[.string ⟨#[]⟩,.string ⟨#[106,117,110,107]⟩] 9)).alloc (.cells #[.string tx] 9));have HAa:=hide ((HA7.out.trans s9).alloc (.cells #[.string tx] 9));have HAb:=hide (((HA7.out.trans s9).alloc (Obj.cells #[.string ⟨#[]⟩,.string ⟨#[106,117,110,107]⟩] 9)).alloc (.cells #[.string tx] 9));clear s9 c8 s8 j0 j1))
   all_goals
    have HR6:=HR5.out
    rw[ownBlock_slice] at HR6
    have HGF:=hide (HGP.out.wrote hn0 HR6 HO5.out (HA5.out.imp (fun e=>by rw[ownBlock_slice] at e;exact e) (fun e=>by simp;omega)))
    rw[Nat.zero_mul] at HGF
    have hO:=((Only.refl wA.heap.size g _).grown (HGP.out.pages.own 0 hn0) HR6 (by simp;omega)).set HGP.out.atG 0 (.slice (some ⟨g',0,none⟩) ((sqAt qs 0).1.length+1) c')
    have HK9:=hide (hO.other _ _ _ _ (show w3.heap.size≠g by omega) (by decide) HKP.out)
    have HR9:=hide (hO.other _ _ _ _ (show w.heap.size≠g by omega) (by decide) HRP.out)
    have HC9:=hide (HCP.out.below hO.below (by omega))
    have HA9:=hide (HAP.out.trans_below hO.below (by omega))
    clear hO HR6
    obtain⟨b0,b1⟩:=two_cells HK9.out
    obtain⟨z0,z1⟩:=two_cells HR9.out
    have l0:=four_frozen HR9.out 0
    have l1:=four_frozen HR9.out 1
    have HLX:Hid (∀x∈qs.set 0 ((sqAt qs 0).1++[tx],(sqAt qs 0).2.1,(sqAt qs 0).2.2),x.1.length<=9):=by
     intro x hx
     rcases List.mem_or_eq_of_mem_set hx with h' | h'
     ·exact chip_lens HOK.out x h'
     ·rw[h']
      show((sqAt qs 0).1++[tx]).length<=9
      rw[List.length_append]
      simp
      omega
    have HFX:Hid (∀x∈qs.set 0 ((sqAt qs 0).1++[tx],(sqAt qs 0).2.1,(sqAt qs 0).2.2),sqFits x):=by
     intro x hx
     rcases List.mem_or_eq_of_mem_set hx with h' | h'
     ·exact chipOk_fits HOK.out x h'
     ·rw[h']
      have h9:=sq_fits (chipOk_fits HOK.out) (k:=0) hqz
      refine⟨fun s hs=>?_,by show((sqAt qs 0).1++[tx]).length<=maxLen;rw[List.length_append];unfold maxLen;simp;omega,h9.2.2⟩
      rcases List.mem_append.1 hs with h8|h8
      ·exact h9.1 s h8
      ·rw[List.mem_singleton.1 h8];unfold maxLen;omega
    clear HK9 HKP HRP HCP HAP HGP HO5 HR5 HA5
    go_wp2_with fail
    refine bodyPost_ret (results_cell rfl rfl (run_loadVar_row _ _ _ _ _ _ _ (two_set HR9.out _ _) Tryz.underlying26 rfl (by kernel_rfl))) rfl ?_
    exact drawn_end HGF.out.ownS (by omega) (Nat.le_refl _) HC9.out hpl HA9.out (by omega) (Nat.le_refl _) ⟨HFX.out,HLX.out⟩ _ _
  ·have HC8:=hide (HC7.out.alloc (.cells #[.int .i64 0,.int .i64 12,.int .i64 13] 2))
   go_wp2_with fail
   refine(l1Below_any p 3 _ HC8.out (by omega)).mono ?_
   rintro e w8 ⟨j,rfl,j0,j1,c8,s8⟩
   obtain⟨J,rfl⟩:∃J:Nat,j=(J:Int):=⟨j.toNat,by omega⟩
   have hJ:J<3:=by omega
   obtain⟨v,hv3,hv⟩:=three_at 0 12 13 J hJ
   have hcell:w8.cell? ⟨w7.heap.size,J,none⟩=some (.int .i64 v):=by
    rw[World.cell?_of_block (a:=⟨w7.heap.size,J,none⟩) (s8.block w7.heap.size (by simp) (.inr (by omega))),World.cell?_alloc_new];exact hv
   have HS8:=hide ((HS7.out.later ((Below.refl w7.heap.size w7).alloc (Nat.le_refl _) (.cells #[.int .i64 0,.int .i64 12,.int .i64 13] 2)) (by omega)).aside s8 (.inl (by omega)))
   have HG8:=hide ((HG7.out.later ((Below.refl w7.heap.size w7).alloc (Nat.le_refl _) (.cells #[.int .i64 0,.int .i64 12,.int .i64 13] 2))).aside s8 (.inl (by omega)))
   have HK8:=hide (aside_block s8 (heap_old HK7.out) (by omega))
   have HR8:=hide (aside_block s8 (heap_old HR7.out) (by omega))
   have HA8:=hide ((HA7.out.alloc (.cells #[.int .i64 0,.int .i64 12,.int .i64 13] 2)).trans s8)
   have hs8:w3.heap.size+1<=w8.heap.size:=by have:=s8.size;simp at this;omega
   have HCC:=hide c8
   clear HG7 HS7 HK7 HR7 HA7 HC7 HC8 a0 a1 s8 c8 j0 j1 hv
   obtain⟨a0,a1⟩:=two_cells HK8.out
   obtain⟨z0,z1⟩:=two_cells HR8.out
   have f0:=four_frozen HR8.out 0
   have f1:=four_frozen HR8.out 1
   obtain⟨V,rfl⟩:∃V:Nat,v=(V:Int):=⟨v.toNat,by omega⟩
   have hV:V<=13:=by omega
   have hmk:=make3 (P:=Tryz.prog) 24 42 (.slice none 0 0) (.int .i64 0) (.bool false) 40 Tryz.underlying24 Tryz.infoSq V (by omega) (by omega) w8
   obtain⟨ob,hob⟩:∃ob,ob=Obj.cells (madeCells #[.slice none 0 0,.int .i64 0,.bool false] (V*3)) 42:=⟨_,rfl⟩
   have HOM:=hide (made3 w8 V 42)
   rw[<- hob] at hmk HOM
   have HKM:=hide (heap_old (o:=ob) HK8.out)
   have HRM:=hide (heap_old (o:=ob) HR8.out)
   have HK9:=hide (set_block HKM.out 1 (.slice (some ⟨w8.heap.size,0,none⟩) V V) (by simp))
   have HR9:=hide (set_other (o:=1) HRM.out (show w3.heap.size≠w.heap.size by omega) (.slice (some ⟨w8.heap.size,0,none⟩) V V))
   have HC9:=hide ((HCC.out.alloc ob).set_new hp3 (q:=1) (.slice (some ⟨w8.heap.size,0,none⟩) V V))
   have HA9:=hide ((HA8.out.alloc ob).set_new (g:=w3.heap.size) (q:=1) (by omega) (.slice (some ⟨w8.heap.size,0,none⟩) V V))
   have HSM:=hide (squares_new (lo:=w8.heap.size) HOM.out (Nat.le_refl _))
   have HS9:=hide (HSM.out.aside ((Aside.refl w3.heap.size (w3.heap.size+1) (w8.alloc ob)).setCell (p:=⟨w3.heap.size,1,none⟩) (Nat.le_refl _) (Nat.lt_succ_self _) (.slice (some ⟨w8.heap.size,0,none⟩) V V)) (.inl (by omega)))
   clear a0 a1 z0 z1 f0 f1 hob
   obtain⟨a0,a1⟩:=two_cells HKM.out
   have g1:=four_frozen HKM.out 1
   obtain⟨z0,z1⟩:=two_cells HRM.out
   have f0:=four_frozen HRM.out 0
   have f1:=four_frozen HRM.out 1
   have HLX:Hid (∀x∈List.replicate V (([],0,false):Sq),x.1.length<=9):=by
    intro x hx
    rw[(List.mem_replicate.1 hx).2]
    exact Nat.zero_le _
   have HFX:Hid (∀x∈List.replicate V (([],0,false):Sq),sqFits x):=by
    intro x hx
    rw[(List.mem_replicate.1 hx).2]
    exact⟨fun s hs=>by simp at hs,Nat.zero_le _,rfl⟩
   go_wp2_with fail
   refine bodyPost_ret (results_cell rfl rfl (run_loadVar_row _ _ _ _ _ _ _ (two_set HR9.out _ _) Tryz.underlying26 rfl (by kernel_rfl))) rfl ?_
   exact drawn_end HS9.out (by omega) (by rw[Go.Deep.nblk_setCell];exact Nat.le_refl _) HC9.out hpl HA9.out (by omega) (Nat.le_refl _) ⟨HFX.out,HLX.out⟩ _ _
end Go.Proofs.YtgjoepdfhadmcaaGreatDoor
end

