/- Several texts in one: FtlImplF, DrawRot, SameW, ScrubSpec, MountFit, CacheMath, CacheWalk, CSpecD, CSpecE, CSpecF, CSpecG, CacheBackS, CacheTold, MountInv, MountLaw, MountFind, MountMap, FindImpl. -/
import Derived.Test.YtgjoepdfhadmcaaGreatDoorMFtlImplD
import Derived.Test.YtgjoepdfhadmcaaGreatDoorMWearImplD
import Derived.Test.YtgjoepdfhadmcaaGreatDoorMWearImplE
import Derived.Test.YtgjoepdfhadmcaaGreatDoorMFtlMath
import Derived.Test.YtgjoepdfhadmcaaGreatDoorMDraw10c
import Derived.Test.YtgjoepdfhadmcaaGreatDoorMDraw9
import Derived.Test.YtgjoepdfhadmcaaGreatDoorMChipAns
import Derived.Test.YtgjoepdfhadmcaaGreatDoorMTextEq
import Derived.Test.YtgjoepdfhadmcaaGreatDoorMChipCutS
import Derived.Test.YtgjoepdfhadmcaaGreatDoorMFtlOwnP
import Derived.Test.YtgjoepdfhadmcaaGreatDoorMFtlSpecA
import Derived.Test.YtgjoepdfhadmcaaGreatDoorMFtlSpecH
import Derived.Test.YtgjoepdfhadmcaaGreatDoorMChipOwn2
import Derived.Test.YtgjoepdfhadmcaaGreatDoorMFtlSpecC
import Derived.Deep.RegionHeld3
import Derived.Deep.RegionLaw
import Derived.Test.YtgjoepdfhadmcaaGreatDoorMCopyBase
import Derived.Test.YtgjoepdfhadmcaaGreatDoorMAppendZ
import Derived.Test.YtgjoepdfhadmcaaGreatDoorMCloneW
import Derived.Test.YtgjoepdfhadmcaaGreatDoorMBase
import Derived.Deep.RegionWith
import Derived.Test.YtgjoepdfhadmcaaGreatDoorMDraw7
import Derived.Maps.OwnSet
import Derived.DeepKeys4
import Derived.BigRegion
section
namespace Go.Proofs.YtgjoepdfhadmcaaGreatDoor
open Go.RowKit
set_option linter.unusedVariables false
set_option maxRecDepth 20000
theorem victimV_neg {z:Int}{qs:List Sq}{ps:List Pl}{op:Int}(h:victimV z qs ps op<0):victimV z qs ps op = -1:=by
 unfold victimV at h ⊢
 split
 ·rfl
 ·rename_i b hb
  rw[hb] at h
  dsimp only at h
  split
  ·rfl
  ·rename_i h2
   rw[if_neg h2] at h
   omega
theorem KeeperAt.opened {B pk n g c gm cm:Nat}{w:World}{z st:Int}{A:Nat->Option Addr}{C:Nat->Nat}{V:Value}{s:Kp}{aN:Addr}(h:KeeperAt B w pk z st n g c gm cm A C V s aN)(o:Int) :
  KeeperAt B (w.setCell ⟨pk,3,none⟩ (.int .i64 o)) pk z st n g c gm cm A C V (withOp s o) aN:=by
 have hm:=h.mem.set (o:=3) (.int .i64 o) h.nk h.box (by decide) (by decide) (by decide)
 refine⟨⟨hm.sq,hm.pl,hm.jb,hm.ne,hm.nj⟩,set_block h.box 3 _ (by simp),h.nk,h.bk,?_,h.eb⟩
 rw[World.cell?_setCell_other _ _ _ _ (by intro e2;simp only[Addr.mk.injEq] at e2;have:=h.eb;have:=h.bk;omega)]
 exact h.er
theorem first_int {w:World}{lo hi n:Nat}{a:Option Addr}{l:List Nat}(h:OwnInts lo hi w a n (l.map (fun (i:Nat)=>(i:Int)))):l.length=n∧(0<n->∃ge off,a=some ⟨ge,off,none⟩∧ge<w.heap.size∧w.cell? ⟨ge,off,none⟩=some (.int .i64 ((l.getD 0 0:Nat):Int))):=by
 obtain⟨h1,h2,h3⟩:=h
 rw[List.length_map] at h1
 refine⟨h1,fun h0=>?_⟩
 obtain⟨b,off,e,_,hb,hc⟩:=h3 h0
 refine⟨b,off,e,by omega,?_⟩
 have:=(hc 0 h0).1
 rw[Nat.add_zero] at this
 rw[this]
 unfold cellI
 have h0':0<l.length:=by omega
 simp[List.getD_eq_getElem?_getD,List.getElem?_eq_getElem h0']
set_option maxHeartbeats 6400000 in
theorem stepToRoom_any (B pk:Nat)(z st:Int)(n g c gm cm:Nat)(A:Nat->Option Addr)(C:Nat->Nat)(V:Value)(t:Kp)(aN:Addr)(w1:World)(h:KeeperAt B w1 pk z st n g c gm cm A C V t aN)(hB:B<=w1.heap.size)(hK:KOk z t)(hjl:t.js.length<=20000) :
  Calls Tryz.prog 185 #[.pointer (some ⟨pk,0,none⟩)] w1 fun e w'=>IPost (stepK z t) (.tuple #[]) (fun _=>True) B pk z st n g c gm cm aN w1 e w':=by
 have hm64:=hK.map.few
 have htq:=h.mem.sq.len
 have hn12:n<=12:=by have:=(chipOk_parts hK.map.chip).2.2.2.1;omega
 obtain⟨m,hme⟩:∃m,m=t.ps.length:=⟨_,rfl⟩
 have htm:t.ps.length=m:=hme.symm
 rw[<- hme] at hm64
 have hmc:m<=cm:=by
  obtain⟨a9,c9,e9,h9⟩:=pl_form h.mem.pl
  simp only[Value.slice.injEq,true_and] at e9
  rw[htm,<- e9.2] at h9
  exact h9
 obtain⟨bd1,bd2,bd3,bd4,bd5⟩:=h.bound
 have HKT:=hide hK
 have HA1:=hide h
 have HVN:=hide (fun hh=>victimV_neg (z:=z) (qs:=t.qs) (ps:=t.ps) (op:=t.op) hh)
 clear h hK hme
 obtain⟨x0,x1,x2,x3,x4,x5⟩:=six_cells HA1.out.box
 go_enter Tryz.func185,Tryz.ntmps185
 go_wp2_with fail
 refine(implEmpty_any z (some ⟨g,0,none⟩) n c t.qs w1 HA1.out.mem.sq.ownS.squares (Nat.le_refl _) (by omega) (chipOk_fits HKT.out.map.chip)).mono ?_
 rintro e w2 ⟨ea,E,ec,rfl,_,hel,hev,b2⟩
 have hev2:OwnInts w1.heap.size w2.heap.size w2 ea E ((emptyK t.qs t.qs.length).map (fun (i:Nat)=>(i:Int))):=by
  have e9:emptyL z t.qs=(emptyK t.qs t.qs.length).map (fun (i:Nat)=>(i:Int)):=by unfold emptyL;rw[HKT.out.map.chip];rfl
  rw[<- e9];exact hev
 have HA2:=hide (HA1.out.later b2 hB)
 have HF2:=hide (frame_of_below (L:=[g,pk,gm]) b2 hB)
 have hs2:=b2.size
 obtain⟨hE,hfst⟩:=first_int hev2
 have HFS:=hide hfst
 have HEF:=hide (fun hh=>empty_first (qs:=t.qs) hh)
 obtain⟨e0,he0⟩:∃e0,e0=(emptyK t.qs t.qs.length).getD 0 0:=⟨_,rfl⟩
 rw[<- he0] at HFS
 rw[hE,<- he0] at HEF
 have HE1:Hid (E=(emptyK t.qs t.qs.length).length):=hE.symm
 have HE0:=hide he0
 clear hE he0 hev hev2 b2 x0 x1 x2 x3 x4 x5 hfst
 obtain⟨x0,x1,x2,x3,x4,x5⟩:=six_cells HA2.out.box
 have fz:=four_frozen HA2.out.box 3
 rw[htm] at x2
 by_cases h2:2<=E
 ·obtain⟨ge,oe,rfl,hgl,hge⟩:=HFS.out (by omega)
  obtain⟨i1,i2,i3⟩:=HEF.out (by omega)
  have g2:decide ((E:Int)>=2)=true:=by simp;omega
  have hEi:(0:Int)<(E:Int):=by omega
  have HOP:=hide (HA2.out.opened (e0:Int))
  have HFO:=hide (HF2.out.set (p:=pk) (by simp) HA2.out.bk 3 (.int .i64 (e0:Int)))
  have HST:Hid (stepK z t=some (withOp t (e0:Int))):=by
   show _=_
   unfold stepK
   rw[if_pos (by rw[<- HE1.out];exact h2),<- HE0.out]
  go_wp2_with fail
  go_end0
  unfold IPost
  rw[HST.out]
  exact⟨HFO.out,rfl,A,C,V,HOP.out,trivial⟩
 ·have g2:decide ((E:Int)>=2)=false:=by simp;omega
  have HCV:∀w',Hid (Below w2.heap.size w2 w'->Calls Tryz.prog 213 #[.agg #[.int .i64 z,.slice (some ⟨g,0,none⟩) n c],.slice (some ⟨gm,0,none⟩) m cm,.int .i64 t.op] w' fun e w''=>e=.returned (.int .i64 (victimV z t.qs t.ps t.op))∧Below w'.heap.size w' w''):=fun w' hb'=>by
   have h9:=HA2.out.later hb' (by omega)
   have hpl:=pl_places h9.mem.pl
   rw[htm] at hpl
   have e9:victim z t.qs t.ps t.op=victimV z t.qs t.ps t.op:=by unfold victim;rw[HKT.out.map.ok];rfl
   rw[<- e9]
   exact implVictim_any z (some ⟨g,0,none⟩) n c t.qs (some ⟨gm,0,none⟩) m cm t.ps t.op w' h9.mem.sq.ownS.squares (Nat.le_refl _) (by omega) (chipOk_fits HKT.out.map.chip) hpl (Nat.le_refl _) (by omega) hmc
  have HVP:=hide (fun hh=>victim_parts (z:=z) (op:=t.op) HKT.out.map hh)
  obtain⟨vv,hvv⟩:∃vv,vv=victimV z t.qs t.ps t.op:=⟨_,rfl⟩
  rw[<- hvv] at HVP HCV HVN
  have HVV:=hide hvv
  clear hvv
  go_upto_region 3 with fail
  refine wp_region_quiet_tail 12 (by kernel_rfl) (by kernel_rfl) ?_
  simp only[List.take_succ_cons,List.take_zero,List.drop_succ_cons,List.drop_zero]
  repeat (go_big_quiet_step (fail))
  refine wpQuiet_nil ?_
  rintro _ ⟨nq,rfl⟩
  have HBQ:Hid (Below w2.heap.size w2 (w2.drewN nq)):=⟨rfl,rfl,rfl,Nat.le_refl _,fun _ _=>rfl⟩
  generalize w2.drewN nq=wq at *
  go_wp2_with fail
  refine((HCV _).out HBQ.out).mono ?_
  rintro e w3 ⟨rfl,b3⟩
  have HB3:=hide (below_here HBQ.out b3)
  have HA3:=hide (HA2.out.later HB3.out (by omega))
  have HF3:=hide (HF2.out.on HB3.out (by omega))
  have hs3:=HB3.out.size
  clear b3 HCV x0 x1 x2 x3 x4 x5 fz
  obtain⟨x0,x1,x2,x3,x4,x5⟩:=six_cells HA3.out.box
  rw[htm] at x2
  have er3:=HA3.out.er
  unfold noRoomV at er3
  by_cases hv:vv<0
  ·have hv1:=HVN.out hv
   subst hv1
   have HE:Hid (stepK z t=none):=by
    show _=_
    unfold stepK
    rw[if_neg (by rw[<- HE1.out];exact h2),<- HVV.out,if_pos (by omega)]
   go_wp2_with fail
   refine⟨rfl,?_⟩
   unfold IPost
   rw[HE.out]
   exact⟨HF3.out,rfl⟩
  ·obtain⟨v,hvn,hvl,hvo,hvp,hvb,hvz,_⟩:=HVP.out (by omega)
   subst hvn
   clear HVP hvz HVN
   have hvm:v<n:=by omega
   have g3:((v:Int)== -1)=false:=by simp
   have HV0:Hid (victimV z t.qs t.ps t.op=(v:Int)):=HVV.out.symm
   have HWL:Hid (ByteArray.empty.size<=maxLen):=Nat.zero_le _
   go_wp2_with fail
   refine(placesIn_any (some ⟨gm,0,none⟩) m cm t.ps (v:Int) w3 (by have h9:=pl_places HA3.out.mem.pl;rw[htm] at h9;exact h9) (by omega)).mono ?_
   rintro e w4 ⟨rfl,b4⟩
   have HB4:=hide (below_here HB3.out b4)
   have HA4:=hide (HA3.out.later b4 (by omega))
   have HF4:=hide (HF3.out.on b4 (by omega))
   have hs4:=b4.size
   clear b4 x0 x1 x2 x3 x4 x5 er3
   obtain⟨x0,x1,x2,x3,x4,x5⟩:=six_cells HA4.out.box
   rw[htm] at x2
   have er4:=HA4.out.er
   unfold noRoomV at er4
   have hll:=liveN_le t.ps (v:Int)
   rw[htm] at hll
   have HSW:=hide (fun hh=>stepK_wipe (z:=z) (s:=t) (v:=v) (by rw[<- HE1.out];exact h2) HV0.out hh)
   have HSS:=hide (fun hh hh'=>stepK_stuck (z:=z) (s:=t) (v:=v) hh HV0.out hh')
   have HSM:=hide (fun hh hh'=>stepK_move (z:=z) (s:=t) (v:=v) (by rw[<- HE1.out];exact h2) hh HV0.out hh')
   rw[<- HE1.out] at HSS HSM
   rw[<- HE0.out] at HSM
   obtain⟨lv,hlv⟩:∃lv,lv=liveN t.ps (v:Int):=⟨_,rfl⟩
   rw[<- hlv] at hll HSW HSS HSM
   rw[<- hlv]
   clear hlv
   by_cases hl0:lv=0
   ·have HS0:=hide (HSW.out hl0)
    subst hl0
    simp only[show((0:Nat):Int)=0 from rfl]
    go_wp2_with fail
    refine(do_any B pk z st n g c gm cm A C V t aN 2 (v:Int) ByteArray.empty w4 HA4.out (by omega) HKT.out.map.chip HWL.out (by omega)).mono ?_
    rintro e w5 ⟨hf5,hk5⟩
    have HF5:=hide (HF4.out.trans hf5)
    clear hf5 x0 x1 x2 x3 x4 x5 er4
    cases hd:doK z t (2,(v:Int),ByteArray.empty) with
    | none =>
     have HE:Hid (stepK z t=none):=HS0.out.trans hd
     rw[hd] at hk5
     dsimp only at hk5
     subst hk5
     unfold noRoomV
     go_wp2_with fail
     refine⟨rfl,?_⟩
     unfold IPost
     rw[HE.out]
     exact⟨HF5.out,rfl⟩
    | some t1 =>
     have HE:Hid (stepK z t=some t1):=HS0.out.trans hd
     rw[hd] at hk5
     dsimp only at hk5
     obtain⟨rfl,A5,C5,V5,hA5,_⟩:=hk5
     have HA5:=hide hA5
     clear hA5 hd
     go_wp2_with fail
     go_end0
     unfold IPost
     rw[HE.out]
     exact⟨HF5.out,rfl,A5,C5,V5,HA5.out,trivial⟩
   ·have g4:decide ((lv:Int) > 0)=true:=by simp;omega
    by_cases hE0:E=0
    ·have HE:=hide (HSS.out hE0 (by omega))
     subst hE0
     simp only[show((0:Nat):Int)=0 from rfl]
     go_wp2_with fail
     refine⟨rfl,?_⟩
     unfold IPost
     rw[HE.out]
     exact⟨HF4.out,rfl⟩
    ·have g5:((E:Int)==0)=false:=by simpa using(show(E:Int)≠0 by omega)
     obtain⟨ge,oe,rfl,hgl,hge⟩:=HFS.out (by omega)
     obtain⟨i1,i2,i3⟩:=HEF.out (by omega)
     have hge4:=(HB4.out.cell (p:=⟨ge,oe,none⟩) hgl).trans hge
     have hEi:(0:Int)<(E:Int):=by omega
     have HOP:=hide (HA4.out.opened (e0:Int))
     have HKO:=hide (withOp_ok HKT.out i1 i3)
     have HFO:=hide (HF4.out.set (p:=pk) (by simp) HA4.out.bk 3 (.int .i64 (e0:Int)))
     have fz:=four_frozen HA4.out.box 3
     have hvne:v≠e0:=fun e=>by subst e;omega
     have HSM1:=hide (HSM.out hE0 (by omega))
     obtain⟨wM,hwM⟩:∃wM,wM=w4.setCell ⟨pk,3,none⟩ (.int .i64 (e0:Int)):=⟨_,rfl⟩
     have hsM:wM.heap.size=w4.heap.size:=by rw[hwM,Go.Deep.nblk_setCell]
     have HSZ:=hide hsM
     rw[<- hwM] at HOP HFO
     clear hge hsM
     go_wp2_with fail
     rw[<- hwM]
     clear hwM x0 x1 x2 x3 x4 x5 fz er4
     refine(moveFrom_any B pk z st n g c gm cm A C V (withOp t (e0:Int)) aN v wM HOP.out (by rw[HSZ.out];omega) HKO.out e0 rfl (by show(v:Int)≠(e0:Int);omega) hvl (by show t.js.length<=_;omega) i2).mono ?_
     rintro e w5 ⟨hf5,hk5⟩
     have HF5:=hide (HFO.out.trans hf5)
     have hs5:=hf5.below.size
     rw[HSZ.out] at hs5
     clear hf5
     cases hmv:moveK z v (withOp t (e0:Int)) with
     | none =>
      have HE:Hid (stepK z t=none):=by show _=_;rw[HSM1.out,hmv];rfl
      rw[hmv] at hk5
      dsimp only at hk5
      subst hk5
      unfold noRoomV
      go_wp2_with fail
      refine⟨rfl,?_⟩
      unfold IPost
      rw[HE.out]
      exact⟨HF5.out,rfl⟩
     | some t1 =>
      rw[hmv] at hk5
      dsimp only at hk5
      obtain⟨rfl,A5,C5,V5,hA5,_⟩:=hk5
      have HA5:=hide hA5
      have HS1:Hid (stepK z t=doK z t1 (2,(v:Int),ByteArray.empty)):=by show _=_;rw[HSM1.out,hmv];rfl
      have hM1:=moveP_moved HKO.out (show(v:Int)≠(withOp t (e0:Int)).op by show(v:Int)≠(e0:Int);omega) hmv
      have hln:=(moveP_len hmv).1
      have HCK:=hide hM1.ok.map.chip
      have hln2:t1.js.length<=100000:=by
       have h6:(sqAt (withOp t (e0:Int)).qs v).1.length*(withOp t (e0:Int)).ps.length<=8*64:=by
        refine Nat.mul_le_mul ?_ (by show t.ps.length<=64;omega)
        have h7:=(sqOk_parts (chipOk_at HKT.out.map.chip hvl)).1
        have h8:=(chipOk_parts HKT.out.map.chip).2.1
        show(sqAt t.qs v).1.length<=8
        omega
       have h9:(withOp t (e0:Int)).js.length=t.js.length:=rfl
       rw[h9] at hln
       omega
      clear hA5 hmv hM1 hln
      go_wp2_with fail
      refine(do_any B pk z st n g c gm cm A5 C5 V5 t1 aN 2 (v:Int) ByteArray.empty w5 HA5.out (by omega) HCK.out HWL.out (by omega)).mono ?_
      rintro e w6 ⟨hf6,hk6⟩
      have HF6:=hide (HF5.out.trans hf6)
      clear hf6
      cases hd:doK z t1 (2,(v:Int),ByteArray.empty) with
      | none =>
       have HE:Hid (stepK z t=none):=HS1.out.trans hd
       rw[hd] at hk6
       dsimp only at hk6
       subst hk6
       unfold noRoomV
       go_wp2_with fail
       refine⟨rfl,?_⟩
       unfold IPost
       rw[HE.out]
       exact⟨HF6.out,rfl⟩
      | some t2 =>
       have HE:Hid (stepK z t=some t2):=HS1.out.trans hd
       rw[hd] at hk6
       dsimp only at hk6
       obtain⟨rfl,A6,C6,V6,hA6,_⟩:=hk6
       have HA6:=hide hA6
       clear hA6 hd
       go_wp2_with fail
       go_end0
       unfold IPost
       rw[HE.out]
       exact⟨HF6.out,rfl,A6,C6,V6,HA6.out,trivial⟩
set_option maxHeartbeats 1600000 in
theorem hasRoom_any (z:Int)(a:Option Addr)(n cap:Nat)(t:Kp)(w:World){lo hi:Nat}(h:Squares lo hi w a n t.qs)(hhi:hi<=w.heap.size)(hn:n<=12)(hl8:∀q∈t.qs,q.1.length<=8)(hop:t.op<(n:Int)) :
  Calls Tryz.prog 184 #[.agg #[.int .i64 z,.slice a n cap],.int .i64 t.op] w fun e w'=>e=.returned (.bool (roomy z t))∧Below w.heap.size w w':=by
 obtain⟨wA,hwA⟩:∃wA,wA=w.alloc (.cells #[.int .i64 z,.slice a n cap] 26):=⟨_,rfl⟩
 have hzA:wA.heap.size=w.heap.size+1:=by rw[hwA];simp
 have HBA:Hid (Below w.heap.size w wA):=by rw[hwA];exact(Below.refl _ _).alloc (Nat.le_refl _) _
 have H0:Hid (wA.heap[w.heap.size]?=some (.cells #[.int .i64 z,.slice a n cap] 26)):=by rw[hwA];exact heap_new _ _
 have HS:=hide (h.later HBA.out hhi)
 have HL:=hide h.1
 have HL8:=hide hl8
 clear h hl8
 obtain⟨c0,c1⟩:=two_cells H0.out
 have k0:=cell_regrown c0
 have k1:=cell_regrown c1
 by_cases h0:0<=t.op
 ·obtain⟨o,ho⟩:∃o:Nat,t.op=(o:Int):=⟨t.op.toNat,by omega⟩
  have hon:o<n:=by omega
  have hoi:(o:Int)<(n:Int):=by omega
  have HR:Hid (roomy z t=decide (((sqAt t.qs o).1.length:Int)<z)):=by show _=_;unfold roomy;rw[ho];simp
  have hin:inB (o:Int) 0 ((n:Int)-1)=true:=by unfold inB;simp;omega
  have cS:∀d os,Calls Tryz.prog 144 #[.agg #[.int .i64 z,.slice a n cap],.int .i64 (o:Int)] (Go.Sort.grow (redrawn wA d) os) fun e w''=>e=.returned (.bool true)∧∃p:Regrown,w''=Go.Sort.grow (redrawn wA p.d) p.os:=fun d os=>Calls.regrown_of (by have h9:=hasSquare_any z a n cap (o:Int) (Go.Sort.grow (redrawn wA d) os);rw[hin] at h9;exact h9)
  obtain⟨_,A,C,hx,ht⟩:=HS.out
  obtain⟨b,off,rfl,_,hb,hc⟩:=hx.2 (by omega)
  obtain⟨y0,_,_⟩:=sq_cells hc (Below.refl wA.heap.size wA) (show b<wA.heap.size by have:=hx.1;omega) hon
  have k2:=cell_regrown y0
  have hol:(sqAt t.qs o).1.length<=8:=HL8.out _ (sqAt_mem (by rw[HL.out];exact hon))
  obtain⟨lo,hlo⟩:∃lo,lo=(sqAt t.qs o).1.length:=⟨_,rfl⟩
  rw[<- hlo] at k2 y0 HR hol
  rw[ho]
  clear hlo hc hx ht hin ho h0 hop
  go_enter Tryz.func184,Tryz.ntmps184
  go_upto_region 1 with fail
  rw[<- hwA]
  clear hwA
  refine wp_region_quiet_below (by kernel_rfl) (by kernel_rfl) ?_
  repeat (go_big_quiet_step ((go_at_call 144;exact cS _ _)))
  refine wpQuiet_nil ?_
  intro _ hw'
  obtain⟨⟨dq,osq⟩,hw''⟩:=hw'
  subst hw''
  have HBQ:=hide (below_here HBA.out (below_regrown wA dq osq))
  go_wp2_with fail
  go_ret
  exact⟨ret_bool HR.out.symm,HBQ.out⟩
 ·have HR:Hid (roomy z t=false):=by show _=_;unfold roomy;rw[show decide (0<=t.op)=false by simpa using h0];rfl
  have hin:inB t.op 0 ((n:Int)-1)=false:=by unfold inB;rw[show decide (0<=t.op)=false by simpa using h0];rfl
  have cS:∀d os,Calls Tryz.prog 144 #[.agg #[.int .i64 z,.slice a n cap],.int .i64 t.op] (Go.Sort.grow (redrawn wA d) os) fun e w''=>e=.returned (.bool false)∧∃p:Regrown,w''=Go.Sort.grow (redrawn wA p.d) p.os:=fun d os=>Calls.regrown_of (by have h9:=hasSquare_any z a n cap t.op (Go.Sort.grow (redrawn wA d) os);rw[hin] at h9;exact h9)
  clear hin h0
  go_enter Tryz.func184,Tryz.ntmps184
  go_upto_region 1 with fail
  rw[<- hwA]
  clear hwA
  refine wp_region_quiet_below (by kernel_rfl) (by kernel_rfl) ?_
  repeat (go_big_quiet_step ((go_at_call 144;exact cS _ _)))
  refine wpQuiet_nil ?_
  intro _ hw'
  obtain⟨⟨dq,osq⟩,hw''⟩:=hw'
  subst hw''
  have HBQ:=hide (below_here HBA.out (below_regrown wA dq osq))
  go_wp2_with fail
  go_ret
  exact⟨ret_bool HR.out.symm,HBQ.out⟩
set_option maxHeartbeats 3200000 in
theorem makeRoom_any (B pk:Nat)(z st:Int)(n g c gm cm:Nat)(A:Nat->Option Addr)(C:Nat->Nat)(V:Value)(s:Kp)(aN:Addr)(w:World)(h:KeeperAt B w pk z st n g c gm cm A C V s aN)(hB:B<=w.heap.size)(hK:KOk z s)(hjs:s.js.length<=1000) :
  Calls Tryz.prog 151 #[.pointer (some ⟨pk,0,none⟩)] w fun e w'=>IPost (roomK z 20 s) (.tuple #[]) (fun _=>True) B pk z st n g c gm cm aN w e w':=by
 have hnl:=h.mem.sq.len
 have hn12:n<=12:=by have:=(chipOk_parts hK.map.chip).2.2.2.1;omega
 have HNL:=hide hnl
 have HK:=hide hK
 have H0:=hide h
 clear h hK hnl
 go_enter Tryz.func151,Tryz.ntmps151
 go_wp2_with fail
 go_loopw [2] (fun i wr=>∃(k:Nat) (t:Kp) (A:Nat->Option Addr) (C:Nat->Nat) (V:Value),k<=20∧i=.int .i64 (k:Int)∧roomK z 20 s=roomK z (20-k) t∧KOk z t∧t.qs.length=n∧t.js.length<=s.js.length+513*k∧KeeperAt B wr pk z st n g c gm cm A C V t aN∧Frame B [g,pk,gm] w wr) (fun i _=>21-(intOf i).toNat)
 case atStart=>exact⟨0,s,A,C,V,Nat.zero_le _,rfl,rfl,HK.out,HNL.out,by omega,H0.out,Frame.refl _ _ _⟩
 case round =>
  obtain⟨k,t,A,C,V,hk,rfl,hrm,hKT,htq,hjl,hat,hfr⟩:=hrel
  have HRM:=hide hrm
  have HKT:=hide hKT
  have HAT:=hide hat
  have HFR:=hide hfr
  have hsz:=hfr.below.size
  have hhi:=hKT.hi
  rw[htq] at hhi
  have HL8:Hid (∀q∈t.qs,q.1.length<=8):=fun q hq=>by have h1:=(sqOk_parts ((chipOk_parts hKT.map.chip).2.2.2.2 q hq)).1;have h2:=(chipOk_parts hKT.map.chip).2.1;omega
  obtain⟨x0,x1,x2,x3,x4,x5⟩:=six_cells hat.box
  have cR:∀W,Hid (Below wr.heap.size wr W->Calls Tryz.prog 184 #[.agg #[.int .i64 z,.slice (some ⟨g,0,none⟩) n c],.int .i64 t.op] W fun e w''=>e=.returned (.bool (roomy z t))∧Below W.heap.size W w''):=fun W hb=>hasRoom_any z (some ⟨g,0,none⟩) n c t W ((HAT.out.later hb (by omega)).mem.sq.ownS.squares) (Nat.le_refl _) hn12 HL8.out hhi
  clear hrm hKT hat hfr
  go_upto_region 1 with fail
  refine wp_region_quiet_tail 8 (by kernel_rfl) (by kernel_rfl) ?_
  simp only[List.take_succ_cons,List.take_zero,List.drop_succ_cons,List.drop_zero]
  repeat (go_big_quiet_step (fail))
  refine wpQuiet_nil ?_
  rintro _ ⟨nq,rfl⟩
  have HBQ:Hid (Below wr.heap.size wr (wr.drewN nq)):=⟨rfl,rfl,rfl,Nat.le_refl _,fun _ _=>rfl⟩
  generalize wr.drewN nq=wq at *
  go_wp2_with fail
  refine((cR _).out HBQ.out).mono ?_
  rintro e w1 ⟨rfl,b1⟩
  have HB1:=hide (below_here HBQ.out b1)
  have HA1:=hide (HAT.out.later HB1.out (by omega))
  have HF1:=hide (HFR.out.on HB1.out (by omega))
  have hs1:=HB1.out.size
  clear b1 x0 x1 x2 x3 x4 x5 cR
  have er1:=HA1.out.er
  unfold noRoomV at er1
  cases hro:roomy z t with
  | true =>
   have HE:Hid (roomK z 20 s=some t):=by show _=_;rw[HRM.out];exact roomK_yes hro _
   go_wp2_with fail
   go_end0
   unfold IPost
   rw[HE.out]
   exact⟨HF1.out,rfl,A,C,V,HA1.out,trivial⟩
  | false =>
   by_cases hk20:k=20
   ·subst hk20
    have HE:Hid (roomK z 20 s=none):=by show _=_;rw[HRM.out];exact roomK_end hro
    simp only[show((20:Nat):Int)=20 from rfl]
    go_wp2_with fail
    refine⟨rfl,?_⟩
    unfold IPost
    rw[HE.out]
    exact⟨HF1.out,rfl⟩
   ·have g1:((k:Int)==20)=false:=by simpa using(show(k:Int)≠20 by omega)
    have HN:Hid (roomK z 20 s=(stepK z t).bind (roomK z (19-k))):=by show _=_;rw[HRM.out,show 20-k=(19-k)+1 by omega];exact roomK_next hro _
    clear hro HRM er1
    go_wp2_with fail
    refine(stepToRoom_any B pk z st n g c gm cm A C V t aN w1 HA1.out (by omega) HKT.out (by omega)).mono ?_
    rintro e w2 ⟨hf2,hk2⟩
    have HF2:=hide (HF1.out.trans hf2)
    clear hf2
    cases hst:stepK z t with
    | none =>
     have HE:Hid (roomK z 20 s=none):=by show _=_;rw[HN.out,hst];rfl
     rw[hst] at hk2
     dsimp only at hk2
     subst hk2
     unfold noRoomV
     go_wp2_with fail
     refine⟨rfl,?_⟩
     unfold IPost
     rw[HE.out]
     exact⟨HF2.out,rfl⟩
    | some t1 =>
     have HE:Hid (roomK z 20 s=roomK z (20-(k+1)) t1):=by show _=_;rw[HN.out,hst,show 20-(k+1)=19-k by omega];rfl
     rw[hst] at hk2
     dsimp only at hk2
     obtain⟨rfl,A2,C2,V2,hA2,_⟩:=hk2
     have HA2:=hide hA2
     have HSO:=hide (stepK_ok HKT.out hst)
     have hsl:=stepK_len HKT.out hst
     clear hA2 hst
     go_wp2_with fail
     go_roundw
     case rel=>exact⟨k+1,t1,A2,C2,V2,by omega,by go_num,HE.out,HSO.out.ok,HSO.out.squares.trans htq,by omega,HA2.out,HF2.out⟩
     case measure=>simp[intOf];omega
end Go.Proofs.YtgjoepdfhadmcaaGreatDoor
end

section
namespace Go.Proofs.YtgjoepdfhadmcaaGreatDoor
open Go.RowKit
set_option linter.unusedVariables false
set_option linter.unusedSimpArgs false
set_option maxRecDepth 20000
theorem turned_own {lo hi n g off pb po:Nat}{w:World}{qs:List Sq}{A:Nat->Option Addr}{C P:Nat->Nat}{a:Option Addr}(h:OwnSqs lo hi w a n qs g off A C P){i k:Nat}(hin:i<n)(hk:k<(sqAt qs i).1.length)(hAi:A i=some ⟨pb,po,none⟩)(hPi:pb=P i)(t:ByteArray) :
  OwnSqs lo hi (w.setCell ⟨pb,po+k,none⟩ (.string t)) a n (qs.set i ((sqAt qs i).1.set k t,(sqAt qs i).2.1,(sqAt qs i).2.2)) g off A C P:=by
 have hA:=(Aside.refl pb (pb+1) w).setCell (p:=⟨pb,po+k,none⟩) (Nat.le_refl _) (Nat.lt_succ_self _) (.string t)
 have hq:i<qs.length:=by rw[h.len];exact hin
 have hsq:∀q,sqAt (qs.set i ((sqAt qs i).1.set k t,(sqAt qs i).2.1,(sqAt qs i).2.2)) q=if q=i then((sqAt qs i).1.set k t,(sqAt qs i).2.1,(sqAt qs i).2.2) else sqAt qs q:=fun q=>sqAt_set qs _ hq q
 have hlen:∀q,(sqAt (qs.set i ((sqAt qs i).1.set k t,(sqAt qs i).2.1,(sqAt qs i).2.2)) q).1.length=(sqAt qs q).1.length:=fun q=>by
  rw[hsq]
  by_cases e:q=i
  ·rw[if_pos e,e];simp
  ·rw[if_neg e]
 have hgP:=h.apartG i hin (by omega)
 have hsz:=hA.size
 refine⟨by rw[List.length_set];exact h.len,(h.row.aside hA (by omega)).congr (g:=cellQ A C (qs.set i ((sqAt qs i).1.set k t,(sqAt qs i).2.1,(sqAt qs i).2.2))) (fun j _=>?_),h.addr,fun q hqn=>?_,fun q hqn=>by rw[hlen];exact h.room q hqn,h.atG,h.atP,fun q hqn h0=>h.apartG q hqn (by rw[hlen] at h0;exact h0),fun q r hqn hrn hne h1 h2=>h.apartP q r hqn hrn hne (by rw[hlen] at h1;exact h1) (by rw[hlen] at h2;exact h2),Nat.le_trans h.top hsz⟩
 ·unfold cellQ
  rw[hsq]
  by_cases e:j / 3=i
  ·rw[if_pos e,e];simp
  ·rw[if_neg e]
 ·rw[hsq]
  by_cases e:q=i
  ·subst e
   rw[if_pos rfl]
   have h0:=h.pages q hin
   obtain⟨hl0,ho0⟩:=h0
   rw[hAi] at ho0
   have hs0:=(ho0.set (show k<(sqAt qs q).1.length from hk) (.string t))
   refine⟨rfl,?_⟩
   dsimp only
   rw[List.length_set,hAi]
   refine hs0.congr (g:=cellT ((sqAt qs q).1.set k t)) (fun j _=>?_)
   unfold cellT
   simp only[List.getD_eq_getElem?_getD,List.getElem?_set]
   by_cases e2:j=k
   ·subst e2;simp[hk]
   ·rw[if_neg e2,if_neg (Ne.symm e2)]
  ·rw[if_neg e]
   exact texts_same (h.pages q hqn) hA (fun h0=>by rw[hPi];exact h.apartP q i hqn hin e h0 (by omega))
structure RotAt (w:World)(p bF:Nat)(z op st:Int)(n c:Nat)(am:Option Addr)(cm gm g off:Nat)(A:Nat->Option Addr)(C P:Nat->Nat)(ps:List Pl)(qs:List Sq)(wr:World):Prop where
 var:wr.heap[bF]?=some (.cells #[.int .i64 z,.slice (some ⟨g,off,none⟩) n c,.slice am ps.length cm,.int .i64 op,.int .i64 st] 29)
 res:wr.heap[w.heap.size]?=some zF
 own:OwnSqs (w.heap.size+1) bF wr (some ⟨g,off,none⟩) n qs g off A C P
 pls:OwnPlaces gm (gm+1) wr am ps.length ps
 gm1:w.heap.size+1<=gm
 gm2:gm<bF
 gm3:∀i,i<n->0<(sqAt qs i).1.length->gm≠P i
 fits:∀x∈qs,sqFits x
 txs:∀i,i<n->∀s∈(sqAt qs i).1,1<=s.size∧s.size<=200
 len8:∀i,i<n->(sqAt qs i).1.length<=8
 cur:Cur wr p
 aside:Aside p (p+1) w wr
section
variable {w:World}{p bF:Nat}{z op st:Int}{n c:Nat}{am:Option Addr}{cm gm g off:Nat}{A:Nat->Option Addr}{C P:Nat->Nat}{ps:List Pl}{qs:List Sq}{wr w':World}
theorem RotAt.lt (h:RotAt w p bF z op st n c am cm gm g off A C P ps qs wr):bF<wr.heap.size:=(Array.getElem?_eq_some_iff.1 h.var).1
theorem RotAt.drawn (h:RotAt w p bF z op st n c am cm gm g off A C P ps qs wr)(hp:p<w.heap.size)(hc:Cur w' p)(ha:Aside p (p+1) wr w'):RotAt w p bF z op st n c am cm gm g off A C P ps qs w':=by
 have h1:=h.gm1
 have h2:=h.gm2
 exact⟨aside_block ha h.var (by omega),aside_block ha h.res (by omega),h.own.aside ha (.inl (by omega)),⟨h.pls.1,h.pls.2.aside ha (.inr (by omega))⟩,h1,h2,h.gm3,h.fits,h.txs,h.len8,hc,h.aside.trans ha⟩
theorem RotAt.on (h:RotAt w p bF z op st n c am cm gm g off A C P ps qs wr)(hb:Below wr.heap.size wr w'):RotAt w p bF z op st n c am cm gm g off A C P ps qs w':=by
 have h1:=h.lt
 have h2:=h.gm2
 exact⟨block_on h.var hb,block_on h.res hb,h.own.later hb (by omega),⟨h.pls.1,h.pls.2.later hb (by omega)⟩,h.gm1,h2,h.gm3,h.fits,h.txs,h.len8,h.cur.below hb h.cur.lt,h.aside.trans (aside_new hb)⟩
theorem RotAt.setNew (h:RotAt w p bF z op st n c am cm gm g off A C P ps qs wr)(hp:p<w.heap.size){X q:Nat}(hX:bF<X)(v:Value):RotAt w p bF z op st n c am cm gm g off A C P ps qs (wr.setCell ⟨X,q,none⟩ v):=by
 have h1:=h.gm1
 have h2:=h.gm2
 have hA:=(Aside.refl X (X+1) wr).setCell (p:=⟨X,q,none⟩) (Nat.le_refl _) (Nat.lt_succ_self _) v
 exact⟨aside_block hA h.var (.inl hX),aside_block hA h.res (.inl (by omega)),h.own.aside hA (.inr (by omega)),⟨h.pls.1,h.pls.2.aside hA (.inl (by omega))⟩,h1,h2,h.gm3,h.fits,h.txs,h.len8,h.cur.aside hA (by omega),h.aside.set_new (by omega) v⟩
theorem sqAt_setL {i:Nat}(hq:i<qs.length)(x:Sq)(q:Nat):sqAt (qs.set i x) q=if q=i then x else sqAt qs q:=sqAt_set qs _ hq q
theorem RotAt.turn (h:RotAt w p bF z op st n c am cm gm g off A C P ps qs wr)(hp:p<w.heap.size){i k pb po:Nat}(hin:i<n)(hk:k<(sqAt qs i).1.length)(hAi:A i=some ⟨pb,po,none⟩)(hPi:pb=P i){t:ByteArray}(ht:1<=t.size∧t.size<=200) :
  RotAt w p bF z op st n c am cm gm g off A C P ps (qs.set i ((sqAt qs i).1.set k t,(sqAt qs i).2.1,(sqAt qs i).2.2)) (wr.setCell ⟨pb,po+k,none⟩ (.string t)):=by
 have h1:=h.gm1
 have h2:=h.gm2
 have hq:i<qs.length:=by rw[h.own.len];exact hin
 have hP:=h.own.atP i hin
 have h3:=h.gm3 i hin (by omega)
 have hA:=(Aside.refl pb (pb+1) wr).setCell (p:=⟨pb,po+k,none⟩) (Nat.le_refl _) (Nat.lt_succ_self _) (.string t)
 refine⟨aside_block hA h.var (.inr (by omega)),aside_block hA h.res (.inl (by omega)),turned_own h.own hin hk hAi hPi t,⟨h.pls.1,h.pls.2.aside hA (by omega)⟩,h1,h2,fun q hqn h0=>h.gm3 q hqn ?_,fun x hx=>?_,fun q hqn s hs=>?_,fun q hqn=>?_,h.cur.aside hA (by omega),h.aside.set_new (by omega) _⟩
 ·rw[sqAt_setL hq] at h0
  by_cases e:q=i
  ·rw[e];omega
  ·rw[if_neg e] at h0;exact h0
 ·rcases List.mem_or_eq_of_mem_set hx with h' | h'
  ·exact h.fits x h'
  ·rw[h']
   have h9:=sq_fits h.fits (k:=i) hq
   refine⟨fun s hs=>?_,by show((sqAt qs i).1.set k t).length<=maxLen;rw[List.length_set];exact h9.2.1,h9.2.2⟩
   rcases List.mem_or_eq_of_mem_set hs with h8|h8
   ·exact h9.1 s h8
   ·rw[h8];unfold maxLen;omega
 ·rw[sqAt_setL hq] at hs
  by_cases e:q=i
  ·rw[if_pos e] at hs
   rcases List.mem_or_eq_of_mem_set hs with h8|h8
   ·exact h.txs i hin s h8
   ·rw[h8];exact ht
  ·rw[if_neg e] at hs
   exact h.txs q hqn s hs
 ·rw[sqAt_setL hq]
  by_cases e:q=i
  ·rw[if_pos e];dsimp only;rw[List.length_set];exact h.len8 i hin
  ·rw[if_neg e];exact h.len8 q hqn
end
set_option maxHeartbeats 6400000 in
theorem l11DrawRot_any (p:Nat)(w:World)(hc:Cur w p) :
  Calls Tryz.prog 92 #[.pointer (some ⟨p,0,none⟩)] w (FtlDrawn w p):=by
 have hpl:=hc.lt
 obtain⟨wA,hwA⟩:∃wA,wA=w.alloc zF:=⟨_,rfl⟩
 have hzA:wA.heap.size=w.heap.size+1:=by rw[hwA];simp
 have HC:=hide (hc.alloc zF)
 have HA:=hide ((Aside.refl p (p+1) w).alloc zF)
 have H1:=hide (heap_new w zF)
 rw[<- hwA] at HC HA H1
 clear hc
 go_enter Tryz.func92,Tryz.ntmps92
 go_wp2_with fail
 rw[<- hwA]
 clear hwA
 refine(l10Draw_any p wA HC.out).mono ?_
 rintro e w1 ⟨z,qs,ps,op,st,a,c,am,cm,rfl,ho,hcap,hok,c1,s1⟩
 obtain⟨wF,hwF⟩:∃wF,wF=w1.alloc (.cells #[.int .i64 z,.slice a qs.length c,.slice am ps.length cm,.int .i64 op,.int .i64 st] 29):=⟨_,rfl⟩
 have HBF:Hid (Below w1.heap.size w1 wF):=by rw[hwF];exact(Below.refl _ _).alloc (Nat.le_refl _) _
 have hV0:wF.heap[w1.heap.size]?=some (.cells #[.int .i64 z,.slice a qs.length c,.slice am ps.length cm,.int .i64 op,.int .i64 st] 29):=by rw[hwF];exact heap_new _ _
 have hR0:=block_on (aside_block s1 H1.out (by omega)) HBF.out
 have hO0:=ho.later HBF.out (Nat.le_refl _)
 have hC0:=c1.below HBF.out c1.lt
 have hA0:=(HA.out.trans s1).trans (aside_new HBF.out)
 have hs1:=s1.size
 have hch:=mapOk_chip (ftlOk_map hok)
 have hq1:1<=qs.length:=(chipOk_parts hch).2.2.1
 have hq12:qs.length<=12:=(chipOk_parts hch).2.2.2.1
 have hp64:ps.length<=64:=(mapOk_len (ftlOk_map hok)).2
 obtain⟨hoh,⟨e1,_⟩|⟨g,off,A,C,P,gm,hOS,hOP,hgm1,hgm2,hgm3,hgm4⟩⟩:=hO0
 ·rw[e1] at hq1;simp at hq1
 obtain rfl:=hOS.addr (by omega)
 have HAT:Hid (RotAt w p w1.heap.size z op st qs.length c am cm gm g off A C P ps qs wF) :=
  hide ⟨hV0,hR0,hOS.wide (by omega) (Nat.le_refl _) (by have:=HBF.out.size;omega),hOP,by omega,hgm2,hgm4,chipOk_fits hch,fun i hi s hs=>by
   have h8:=(sqOk_parts (chipOk_at hch hi)).2.2.2 s hs
   omega,fun i hi=>by
   have h8:=(sqOk_parts (chipOk_at hch hi)).1
   have h9:=(chipOk_parts hch).2.1
   omega,hC0,hA0⟩
 have HCAP:=hide hcap
 have HP64:=hide hp64
 obtain⟨n,hn⟩:∃n,n=qs.length:=⟨_,rfl⟩
 rw[<- hn] at HAT hq1 hq12
 obtain⟨bF,hbF⟩:∃bF,bF=w1.heap.size:=⟨_,rfl⟩
 rw[<- hbF] at HAT
 have hbw:w.heap.size+1<=bF:=by omega
 go_upto_region 2 with fail
 rw[<- hwF]
 rw[<- hbF]
 clear hwF ho hcap hok c1 s1 HBF H1 HA HC hV0 hR0 hC0 hA0 hs1 hch hp64 hoh hOS hOP hgm1 hgm2 hgm3 hgm4 hn hbF
 go_wp2_with fail
 refine(l1Below_any p 4 wF HAT.out.cur (by omega)).mono ?_
 rintro e w2 ⟨x,rfl,x0,x1,c2',s2⟩
 have HR2:=hide (HAT.out.drawn hpl c2' s2)
 clear c2' s2 HAT
 go_upto_region 3 with fail
 have HT0:Hid (0<=x∧x<=3):=hide ⟨x0,by omega⟩
 clear x0 x1
 go_loopw [4] (fun i wr=>∃(qs':List Sq) (k:Int),i=.int .i64 k∧0<=k∧k<=3∧RotAt w p bF z op st n c am cm gm g off A C P ps qs' wr) (fun i _=>(intOf i).toNat)
 case atStart=>exact⟨qs,x,rfl,HT0.out.1,HT0.out.2,HR2.out⟩
 case round =>
  obtain⟨qk,k,rfl,k0,k3,hR⟩:=hrel
  have HR:=hide hR
  clear hR HR2 HT0
  obtain⟨c0,c1,c2,c3,c4⟩:=five_cells HR.out.var
  by_cases hlt:0<k
  ·have HRd:Hid (RotAt w p bF z op st n c am cm gm g off A C P ps qk wr.drew):=hide (HR.out.on (Below.refl wr.heap.size wr).drew)
   have HS0:Hid (wr.drew.cell? ⟨bF,1,none⟩=some (.slice (some ⟨g,off,none⟩) n c)):=hide (five_cells HRd.out.var).2.1
   have hnI:(0:Int)<(n:Int):=by omega
   go_upto_region 5 with fail
   go_region_held3 (fun W=>W.cell? ⟨bF,1,none⟩=some (.slice (some ⟨g,off,none⟩) n c))
    (with_reducible (first|exact HS0.out|exact HS1.out|fail))
    (first|(go_at_call 56;refine(l1Below_any p (n:Int) _ (by with_reducible exact HRd.out.cur) (by omega)).mono ?_;rintro e w3 ⟨y,rfl,y0,y1,c3',s3⟩;have HR3:=hide (HRd.out.drawn hpl c3' s3);have HS1:=hide (five_cells HR3.out.var).2.1;have hyI:∃i:Nat,y=(i:Int):=⟨y.toNat,by omega⟩;obtain⟨i,rfl⟩:=hyI;have hin:i<n:=(by omega);have i2:(i:Int)<(n:Int):=(by omega);clear c3' s3 y1)|fail)
   all_goals
    clear HRd HS0 HR c0 c1 c2 c3 c4
    obtain⟨L,hL⟩:∃L,L=(sqAt qk i).1.length:=⟨_,rfl⟩
    have q0:w3.cell? ⟨g,off+i*3,none⟩=some (.slice (A i) L (C i)):=by
     have h9:=(HR3.out.own.row.place (show 3*i<3*n by omega)).1
     rw[cellQ0,<- hL,Nat.mul_comm 3 i] at h9
     exact h9
    have hL8:L<=8:=by rw[hL];exact HR3.out.len8 i hin
    have HL:=hide hL
    clear hL HS1
    by_cases hL0:0<L
    ·have hL0I:(0:Int)<(L:Int):=by omega
     go_wp2_with fail
     refine(l1Below_any p (L:Int) w3 HR3.out.cur (by omega)).mono ?_
     rintro e w4 ⟨y,rfl,y0',y1,c4',s4⟩
     have HR4:=hide (HR3.out.drawn hpl c4' s4)
     obtain⟨j,rfl⟩:∃j:Nat,y=(j:Int):=⟨y.toNat,by omega⟩
     have hjL:j<L:=by omega
     have j2:(j:Int)<(L:Int):=by omega
     clear c4' s4 y1 HR3 q0
     have q0:w4.cell? ⟨g,off+i*3,none⟩=some (.slice (A i) L (C i)):=by
      have h9:=(HR4.out.own.row.place (show 3*i<3*n by omega)).1
      rw[cellQ0,<- HL.out,Nat.mul_comm 3 i] at h9
      exact h9
     have hpg:=HR4.out.own.pages i hin
     rw[<- HL.out] at hpg
     obtain⟨pb,po,hAi,hb1,hb2,hpc⟩:=hpg.2.2 (by omega)
     have HPB:Hid (pb=P i):=hide (by omega)
     have HAI:=hide hAi
     rw[hAi] at q0
     obtain⟨s,hs⟩:∃s,s=(sqAt qk i).1.getD j ByteArray.empty:=⟨_,rfl⟩
     have t0:w4.cell? ⟨pb,po+j,none⟩=some (.string s):=by
      have h9:=(hpc j hjL).1
      rw[h9,hs];rfl
     have hssz:1<=s.size∧s.size<=200:=HR4.out.txs i hin s (by rw[hs,List.getD_eq_getElem?_getD,List.getElem?_eq_getElem (by rw[<- HL.out];exact hjL)];exact List.getElem_mem _)
     have HSZ:=hide hssz
     obtain⟨q,hq⟩:∃q:Nat,s.size=q+1:=⟨s.size-1,by omega⟩
     have HQ:=hide hq
     have hqw:IntKind.i64.wrap ((s.size:Int)-1)=(q:Int):=by rw[IntKind.wrap_i64,hq];omega
     have hq1:(0:Int)<=(q:Int):=by omega
     have hq2:(q:Int)<(s.size:Int):=by rw[hq];omega
     have hqn:q<s.size:=by omega
     have hcv:=run_bytes_of_string (P:=Tryz.prog) w4 9 22 5 s Tryz.underlying9 Tryz.underlying22 Tryz.underlying5
     obtain⟨cap,hcap⟩:∃c,c=grownCap w4 s.size 0 5:=⟨_,rfl⟩
     rw[<- hcap] at hcv
     have HM:=bytes_made w4 s 5 cap ((bytesRow s cap).size+1)
     obtain⟨O,hO⟩:∃O,O=Obj.cells (bytesRow s cap) 5 ((bytesRow s cap).size,(bytesRow s cap).size+1):=⟨_,rfl⟩
     rw[<- hO] at hcv HM
     have HM0:OwnBytes w4.heap.size (w4.heap.size+1) (w4.alloc O).drew (some ⟨w4.heap.size,0,none⟩) s.size s.data.toList:=⟨by simp,HM⟩
     obtain⟨wC,hwC⟩:∃wC,wC=(w4.alloc O).drew:=⟨_,rfl⟩
     have bC:Below w4.heap.size w4 wC:=by rw[hwC];exact((Below.refl _ _).alloc (Nat.le_refl _) _).drew
     rw[<- hwC] at HM0
     rw[show w4.drew.alloc O=(w4.alloc O).drew from rfl,<- hwC] at hcv
     have HRC:=hide (HR4.out.on bC)
     have HMC:=hide HM0
     have hbX:bF<w4.heap.size:=HR4.out.lt
     clear HM HM0 hwC hO hcap hq hs hssz hpg hb1 hb2 hpc hAi HR4 bC
     go_upto_region 9 with fail
     clear hcv t0 q0
     obtain⟨hco,hfo,_,_⟩:=HMC.out.2.at0 hqn
     obtain⟨zz,hz⟩:∃z,z=(s.data.toList.getD q 0).toNat:=⟨_,rfl⟩
     rw[cellB,<- hz] at hco
     have hz8:zz<256:=by rw[hz];exact UInt8.toNat_lt _
     have HCO:=hide hco
     have HFO:=hide hfo
     clear hz
     have HRD:Hid (RotAt w p bF z op st n c am cm gm g off A C P ps qk wC.drew):=hide (HRC.out.on (Below.refl wC.heap.size wC).drew)
     have hpX:p+1<=w4.heap.size:=by omega
     have cont:∀(W:World),Cur W p->Calls Tryz.prog 56 #[.pointer (some ⟨p,0,none⟩),.int .i64 8] W fun e w'=>∃d:Nat,e=.returned (.int .i64 (d:Int))∧d<8∧Cur w' p∧Aside p (p+1) W w':=by
      intro W h
      refine(l1Below_any p 8 W h (by omega)).mono ?_
      rintro e w' ⟨x,rfl,x0,x1,c,s⟩
      exact⟨x.toNat,by rw[Int.toNat_of_nonneg x0],by omega,c,s⟩
     have HCONT:=hide cont
     clear cont
     go_region_with (go_at_call 56;refine(HCONT.out wC.drew (by with_reducible exact HRD.out.cur)).mono ?_;rintro e w5 ⟨d,rfl,hd8,c5,s5⟩;have hcs:=keeps_cell (w:=wC.drew) HCO.out s5 (by omega);have hfs:=keeps_free (w:=wC.drew) HCO.out HFO.out s5 (by omega))
     all_goals
      obtain⟨u,hu⟩:=xor_u8 (zz:Int) (IntKind.u8.wrap (2 ^ min (IntKind.u64.wrap (d:Int)).toNat 8))
      rw[hu]
      have HO5:=hide ((((HMC.out.2.aside (w:=wC.drew) s5 (.inr hpX)).set0 hqn (.int .u8 (u.toNat:Int))).congr (fun i _=>cellB_set s.data.toList q i u (by rw[HMC.out.1];exact hqn))))
      have HR5:=hide ((HRD.out.drawn hpl c5 s5).setNew hpl (X:=w4.heap.size) (q:=q) hbX (.int .u8 (u.toNat:Int)))
      clear hu s5 c5 hcs hfs HRD HRC HCO HFO HCONT hco hfo
      obtain⟨w6,hw6⟩:∃w6,w6=w5.setCell ⟨w4.heap.size,q,none⟩ (.int .u8 (u.toNat:Int)):=⟨_,rfl⟩
      rw[<- hw6] at HO5 HR5 ⊢
      clear hw6
      obtain⟨l6,hl6⟩:∃l6,l6=s.data.toList.set q u:=⟨_,rfl⟩
      have hll:l6.length=s.size:=by rw[hl6,List.length_set];exact HMC.out.1
      rw[<- hl6] at HO5
      have hst:=string_of (P:=Tryz.prog) (lo:=w4.heap.size) (hi:=w4.heap.size+1) (w:=w6.drew) (a:=some ⟨w4.heap.size,0,none⟩) (n:=s.size) (l:=l6) ⟨hll,HO5.out.reads⟩ 22 9 5 cap Tryz.underlying22 Tryz.underlying5 Tryz.underlying9
      have hsz6:(ByteArray.mk l6.toArray).size=s.size:=by rw[size_mk,hll]
      have HT5:=hide (HR5.out.turn hpl hin (k:=j) (by rw[<- HL.out];exact hjL) HAI.out HPB.out (t:=⟨l6.toArray⟩) (by rw[hsz6];exact HSZ.out))
      have q0:w6.cell? ⟨g,off+i*3,none⟩=some (.slice (some ⟨pb,po,none⟩) L (C i)):=by
       have h9:=(HR5.out.own.row.place (show 3*i<3*n by omega)).1
       rw[cellQ0,<- HL.out,Nat.mul_comm 3 i,HAI.out] at h9
       exact h9
      have hfz:w6.frozen? ⟨pb,po+j,none⟩=false:=by
       have hpg:=HR5.out.own.pages i hin
       rw[HAI.out,<- HL.out] at hpg
       exact(hpg.2.place hjL).2.1
      have t0:∃v,w6.cell? ⟨pb,po+j,none⟩=some v:=by
       have hpg:=HR5.out.own.pages i hin
       rw[HAI.out,<- HL.out] at hpg
       exact⟨_,(hpg.2.place hjL).1⟩
      obtain⟨v0,t0⟩:=t0
      clear hsz6 hl6 hll HO5 HMC HR5
      obtain⟨w7,hw7⟩:∃w7,w7=w6.setCell ⟨pb,po+j,none⟩ (.string ⟨l6.toArray⟩):=⟨_,rfl⟩
      rw[<- hw7] at HT5
      go_upto_region 10 with fail
      go_region
      rw[<- hw7]
      clear hw7
      go_wp2_with fail
      go_roundw
      case rel=>exact⟨_,k-1,by go_num,by omega,by omega,HT5.out.on (Below.refl w7.heap.size w7).drew⟩
      case measure=>simp[intOf];omega
    ·have hL0I:¬((0:Int)<(L:Int)):=by omega
     go_wp2_with fail
     go_roundw
     case rel=>exact⟨qk,k-1,by go_num,by omega,by omega,HR3.out⟩
     case measure=>simp[intOf];omega
  ·have HEN:=hide (drawnF_end (z:=z) (op:=op) (st:=st) (c:=c) HR.out.res (squares_wide HR.out.own.squares (Nat.le_refl _) (by have:=HR.out.lt;omega) (Nat.le_refl _)) (places_wide HR.out.pls.places HR.out.gm1 (by have:=HR.out.lt;have:=HR.out.gm2;omega) (Nat.le_refl _)) HR.out.cur HR.out.aside hpl (by omega) HR.out.fits (by have:=HP64.out;omega) HCAP.out)
   obtain⟨p0,p1,p2,p3,p4⟩:=five_cells HR.out.res
   have f0:=four_frozen HR.out.res 0
   have f1:=four_frozen HR.out.res 1
   have f2:=four_frozen HR.out.res 2
   have f3:=four_frozen HR.out.res 3
   have f4:=four_frozen HR.out.res 4
   go_wp2_with fail
   exact bodyPost_ret (results_cell rfl rfl (run_loadVar_row _ _ _ _ _ _ _ HEN.out.1 Tryz.underlying29 rfl (by kernel_rfl))) rfl HEN.out.2
end Go.Proofs.YtgjoepdfhadmcaaGreatDoor
end

section
namespace Go.Proofs.YtgjoepdfhadmcaaGreatDoor
open Go.RowKit
set_option linter.unusedVariables false
set_option maxRecDepth 20000
def sameG (f g:Fv)(i:Nat):Bool:=decide (ftlGet f.z f.qs f.ps f.op f.st (i:Int)=ftlGet g.z g.qs g.ps g.op g.st (i:Int))
def okF (f:Fv):Bool:=ftlOk f.z f.qs f.ps f.op f.st
def sameF (f g:Fv):Bool:=okF f&&(okF g&&(decide (f.ps.length=g.ps.length)&&(List.range f.ps.length).all (sameG f g)))
theorem sameG_of {f g:Fv}{i:Nat}{s t:ByteArray}{b c:Bool}(h1:(s,b)=ftlGet f.z f.qs f.ps f.op f.st (i:Int))(h2:(t,c)=ftlGet g.z g.qs g.ps g.op g.st (i:Int)):sameG f g i=(decide (s=t)&&(b==c)):=by
 unfold sameG
 rw[<- h1,<- h2]
 by_cases e:s=t
 ·subst e;cases b<;>cases c<;>simp
 ·simp[e]
theorem sameF_fall {f g:Fv}{i:Nat}(h:i<f.ps.length)(hf:sameG f g i=false):sameF f g=false:=by
 unfold sameF;rw[all_range_fall h hf];simp
theorem l10Get_is {z:Int}{qs:List Sq}{ps:List Pl}{op st:Int}{k:Nat}(hok:ftlOk z qs ps op st=true)(hk:k<ps.length) :
  (Value.tuple #[.string (if plAt ps k==(-1,0) then ByteArray.empty else(pgOf z qs (plAt ps k)).2.2.2.1),.bool (!(plAt ps k==(-1,0))&&((pgOf z qs (plAt ps k)).1==1))])=.tuple #[.string (ftlGet z qs ps op st (k:Int)).1,.bool (ftlGet z qs ps op st (k:Int)).2]:=by
 have b1:inB (k:Int) 0 ((ps.length:Int)-1)=true:=by unfold inB;simp;omega
 unfold ftlGet
 rw[hok,b1,Int.toNat_natCast]
 cases e:(plAt ps k==(-1,0))<;>simp
set_option maxHeartbeats 6400000 in
theorem specSame_any (f g:Fv)(a:Option Addr)(n cap:Nat)(am:Option Addr)(m cm:Nat)(a':Option Addr)(n' cap':Nat)(am':Option Addr)(m' cm':Nat)(w:World){lo hi lp hp lo' hi' lp' hp':Nat}(h:Squares lo hi w a n f.qs)(hhi:hi<=w.heap.size)(hn:n<=1048576)(hf:∀x∈f.qs,sqFits x)(hpl:Places lp hp w am m f.ps)(hhp:hp<=w.heap.size)(hm:m<=1048576)(h':Squares lo' hi' w a' n' g.qs)(hhi':hi'<=w.heap.size)(hn':n'<=1048576)(hf':∀x∈g.qs,sqFits x)(hpl':Places lp' hp' w am' m' g.ps)(hhp':hp'<=w.heap.size)(hm':m'<=1048576) :
  Calls Tryz.prog 24 #[.agg #[.int .i64 f.z,.slice a n cap,.slice am m cm,.int .i64 f.op,.int .i64 f.st],.agg #[.int .i64 g.z,.slice a' n' cap',.slice am' m' cm',.int .i64 g.op,.int .i64 g.st]] w fun e w'=>e=.returned (.bool (sameF f g))∧Below w.heap.size w w':=by
 obtain⟨sf,hsf⟩:∃s,s=sameF f g:=⟨_,rfl⟩
 have HSF:=hide hsf
 rw[<- hsf]
 clear hsf
 have HFA:Hid (∀i,i<f.ps.length->sameG f g i=false->sameF f g=false):=fun i h1 h2=>sameF_fall h1 h2
 have HUF:Hid (sameF f g=(ftlOk f.z f.qs f.ps f.op f.st&&(ftlOk g.z g.qs g.ps g.op g.st&&(decide (f.ps.length=g.ps.length)&&(List.range f.ps.length).all (sameG f g))))):=rfl
 have HSG:∀i s b t c,Hid ((s,b)=ftlGet f.z f.qs f.ps f.op f.st ((i:Nat):Int)->(t,c)=ftlGet g.z g.qs g.ps g.op g.st (i:Int)->sameG f g i=(decide (s=t)&&(b==c))):=fun i s b t c h1 h2=>sameG_of h1 h2
 obtain⟨G,hG⟩:∃G,G=sameG f g:=⟨_,rfl⟩
 obtain⟨S,hS⟩:∃S,S=sameF f g:=⟨_,rfl⟩
 rw[<- hG,<- hS] at HFA HUF
 rw[<- hG] at HSG
 rw[<- hS] at HSF
 clear hG hS
 obtain⟨z,qs,ps,op,st⟩:=f
 obtain⟨z',qs',ps',op',st'⟩:=g
 dsimp only at h hf hpl h' hf' hpl' HFA HUF HSG ⊢
 obtain⟨wA,hwA⟩:∃wA,wA=(w.alloc (.cells #[.int .i64 z,.slice a n cap,.slice am m cm,.int .i64 op,.int .i64 st] 29)).alloc (.cells #[.int .i64 z',.slice a' n' cap',.slice am' m' cm',.int .i64 op',.int .i64 st'] 29):=⟨_,rfl⟩
 have hzA:wA.heap.size=w.heap.size+1+1:=by rw[hwA];simp
 have HBA:Hid (Below w.heap.size w wA):=by rw[hwA];exact((Below.refl _ _).alloc (Nat.le_refl _) _).alloc (by simp) _
 have H1:Hid (wA.heap[w.heap.size]?=some (.cells #[.int .i64 z,.slice a n cap,.slice am m cm,.int .i64 op,.int .i64 st] 29)):=by rw[hwA];exact heap_old (heap_new _ _)
 have H2:Hid (wA.heap[w.heap.size+1]?=some (.cells #[.int .i64 z',.slice a' n' cap',.slice am' m' cm',.int .i64 op',.int .i64 st'] 29)):=by rw[hwA];exact heap_at (by simp)
 have HSQ:=hide (h.later HBA.out hhi)
 have HPL:=hide (hpl.later HBA.out hhp)
 have HSQ':=hide (h'.later HBA.out hhi')
 have HPL':=hide (hpl'.later HBA.out hhp')
 have HLP:=hide hpl.1
 have HLP':=hide hpl'.1
 have HF:=hide hf
 have HF':=hide hf'
 clear h hf hpl h' hf' hpl'
 obtain⟨c0,c1,c2,c3,c4⟩:=five_cells H1.out
 obtain⟨d0,d1,d2,d3,d4⟩:=five_cells H2.out
 go_enter Tryz.func24,Tryz.ntmps24
 go_wp2_with fail
 rw[<- hwA]
 clear hwA
 refine(specFtlOk_any z a n cap qs am m cm ps op st wA HSQ.out (by omega) hn HF.out HPL.out (by omega) hm).mono ?_
 rintro e w1 ⟨rfl,b1⟩
 have K1:=hide (block_on H1.out b1)
 have K2:=hide (block_on H2.out b1)
 have HB1:=hide (below_here HBA.out b1)
 have HS1:=hide (HSQ.out.later b1 (by omega))
 have HP1:=hide (HPL.out.later b1 (by omega))
 have HS1':=hide (HSQ'.out.later b1 (by omega))
 have HP1':=hide (HPL'.out.later b1 (by omega))
 have hs1:=b1.size
 clear b1 H1 H2 HSQ HPL HSQ' HPL' HBA c0 c1 c2 c3 c4 d0 d1 d2 d3 d4
 obtain⟨c0,c1,c2,c3,c4⟩:=five_cells K1.out
 obtain⟨d0,d1,d2,d3,d4⟩:=five_cells K2.out
 cases hok:ftlOk z qs ps op st with
 | false =>
  have HE:Hid (sf=false):=by show _=_;rw[HSF.out,HUF.out,hok];rfl
  go_wp2_with fail
  go_ret
  exact⟨ret_bool HE.out.symm,HB1.out⟩
 | true =>
  have HOK:=hide hok
  rw[hok,Bool.true_and] at HUF
  clear hok
  go_wp2_with fail
  refine(specFtlOk_any z' a' n' cap' qs' am' m' cm' ps' op' st' w1 HS1'.out (by omega) hn' HF'.out HP1'.out (by omega) hm').mono ?_
  rintro e w2 ⟨rfl,b2⟩
  have K3:=hide (block_on K1.out b2)
  have K4:=hide (block_on K2.out b2)
  have HB2:=hide (below_here HB1.out b2)
  have HS2:=hide (HS1.out.later b2 (by omega))
  have HP2:=hide (HP1.out.later b2 (by omega))
  have HS2':=hide (HS1'.out.later b2 (by omega))
  have HP2':=hide (HP1'.out.later b2 (by omega))
  have hs2:=b2.size
  clear b2 K1 K2 HB1 HS1 HP1 HS1' HP1' c0 c1 c2 c3 c4 d0 d1 d2 d3 d4
  obtain⟨c0,c1,c2,c3,c4⟩:=five_cells K3.out
  obtain⟨d0,d1,d2,d3,d4⟩:=five_cells K4.out
  cases hok':ftlOk z' qs' ps' op' st' with
  | false =>
   have HE:Hid (sf=false):=by show _=_;rw[HSF.out,HUF.out,hok'];rfl
   go_wp2_with fail
   go_ret
   exact⟨ret_bool HE.out.symm,HB2.out⟩
  | true =>
   have HOK':=hide hok'
   rw[hok',Bool.true_and] at HUF
   clear hok'
   by_cases hlen:m=m'
   ·subst hlen
    have HU2:Hid (S=(List.range ps.length).all G):=by show _=_;rw[HUF.out,HLP.out,HLP'.out];simp
    have g1:((m:Int) != (m:Int))=false:=by simp
    have hm64:m<=64:=by have:=(mapOk_len (ftlOk_map HOK.out)).2;rw[HLP.out] at this;exact this
    clear HUF
    go_wp2_with fail
    go_loopw [5] (fun i wr=>∃k:Nat,k<=m∧i=.int .i64 (k:Int)∧(List.range k).all G=true∧Below w2.heap.size w2 wr) (fun i _=>m-(intOf i).toNat)
    case atStart=>exact⟨0,Nat.zero_le _,rfl,rfl,Below.refl _ _⟩
    case round =>
     obtain⟨k,hk,rfl,hall,hbel⟩:=hrel
     have HAL:=hide hall
     have HBB:=hide hbel
     have hszr:=hbel.size
     have KR:=hide (block_on K3.out hbel)
     have KR':=hide (block_on K4.out hbel)
     clear hall hbel c0 c1 c2 c3 c4 d0 d1 d2 d3 d4
     obtain⟨c0,c1,c2,c3,c4⟩:=five_cells KR.out
     obtain⟨d0,d1,d2,d3,d4⟩:=five_cells KR'.out
     by_cases hlt:k<m
     ·have hpl:k<ps.length:=by rw[HLP.out];exact hlt
      have hpl':k<ps'.length:=by rw[HLP'.out];exact hlt
      have hlt2:(k:Int)<(m:Int):=by omega
      have HFK:=hide (HFA.out k hpl)
      have HST:Hid (G k=true->(List.range (k+1)).all G=true):=fun hh=>all_range_step HAL.out hh
      go_wp2_with fail
      refine(l10Get_any z a n cap qs am m cm ps op st k wr (HS2.out.later HBB.out (by omega)) (by omega) hn HF.out (HP2.out.later HBB.out (by omega)) (by omega) hm64 hlt (mapOk_chip (ftlOk_map HOK.out))).mono ?_
      rintro e w3 ⟨rfl,b3⟩
      rw[l10Get_is HOK.out hpl]
      have HB3:=hide (below_here HBB.out b3)
      have KR3:=hide (block_on KR.out b3)
      have KR3':=hide (block_on KR'.out b3)
      have hs3:=b3.size
      clear b3 c0 c1 c2 c3 c4 d0 d1 d2 d3 d4
      obtain⟨c0,c1,c2,c3,c4⟩:=five_cells KR3.out
      obtain⟨d0,d1,d2,d3,d4⟩:=five_cells KR3'.out
      obtain⟨g1,hg1⟩:∃g,g=ftlGet z qs ps op st (k:Int):=⟨_,rfl⟩
      have HG1:=hide hg1
      rw[<- hg1]
      clear hg1
      obtain⟨s,b⟩:=g1
      dsimp only
      go_wp2_with fail
      refine(l10Get_any z' a' n' cap' qs' am' m cm' ps' op' st' k w3 (HS2'.out.later HB3.out (by omega)) (by omega) hn' HF'.out (HP2'.out.later HB3.out (by omega)) (by omega) hm64 hlt (mapOk_chip (ftlOk_map HOK'.out))).mono ?_
      rintro e w4 ⟨rfl,b4⟩
      rw[l10Get_is HOK'.out hpl']
      have HB4:=hide (below_here HB3.out b4)
      have KR4:=hide (block_on KR3.out b4)
      have hs4:=b4.size
      clear b4 c0 c1 c2 c3 c4 d0 d1 d2 d3 d4
      obtain⟨c0,c1,c2,c3,c4⟩:=five_cells KR4.out
      obtain⟨g2,hg2⟩:∃g,g=ftlGet z' qs' ps' op' st' (k:Int):=⟨_,rfl⟩
      have HG2:=hide hg2
      rw[<- hg2]
      clear hg2
      obtain⟨t,c⟩:=g2
      dsimp only
      have HGK:Hid (G k=(decide (s=t)&&(b==c))):=(HSG k s b t c).out HG1.out HG2.out
      have HBR:=hide (below_here HB2.out HB4.out)
      clear HSG HG1 HG2
      by_cases est:s=t
      ·subst est
       rw[show decide (s=s)=true by simp,Bool.true_and] at HGK
       have q1:=text_same s
       by_cases ebc:b=c
       ·subst ebc
        have HN:=hide (HST.out (by rw[HGK.out];simp))
        have q2:(b==b)=true:=by simp
        go_wp2_with fail
        exact⟨⟨k+1,by omega,by go_num,HN.out,HB4.out⟩,by simp[intOf];omega⟩
       ·have q2:(b==c)=false:=by simpa using ebc
        have HE:Hid (sf=false):=by show _=_;rw[HSF.out];exact HFK.out (by rw[HGK.out,q2])
        go_wp2_with fail
        go_ret
        exact⟨ret_bool HE.out.symm,HBR.out⟩
      ·have q1:=text_other est
       have HE:Hid (sf=false):=by show _=_;rw[HSF.out];exact HFK.out (by rw[HGK.out,decide_eq_false est];rfl)
       go_wp2_with fail
       go_ret
       exact⟨ret_bool HE.out.symm,HBR.out⟩
     ·obtain rfl:k=m:=by omega
      have HE:Hid (sf=true):=by show _=_;rw[HSF.out,HU2.out,HLP.out];exact HAL.out
      have HBR:=hide (below_here HB2.out HBB.out)
      go_wp2_with fail
      go_ret
      exact⟨ret_bool HE.out.symm,HBR.out⟩
   ·have g1:((m:Int) != (m':Int))=true:=by simp;omega
    have HE:Hid (sf=false):=by show _=_;rw[HSF.out,HUF.out,HLP.out,HLP'.out,decide_eq_false hlen];rfl
    go_wp2_with fail
    go_ret
    exact⟨ret_bool HE.out.symm,HB2.out⟩
end Go.Proofs.YtgjoepdfhadmcaaGreatDoor
end

section
namespace Go.Proofs.YtgjoepdfhadmcaaGreatDoor
open Go.RowKit
set_option linter.unusedVariables false
set_option maxRecDepth 20000
structure XAt (B:Nat)(w:World)(px n g c gm cm:Nat)(A:Nat->Option Addr)(C:Nat->Nat)(f:Fv):Prop where
 sq:GrowSqs B w n f.qs g A C
 pl:PlOwn B w (.slice (some ⟨gm,0,none⟩) f.ps.length cm) f.ps
 ne:gm≠g
 ftl:w.heap[px]?=some (.cells #[.int .i64 f.z,.slice (some ⟨g,0,none⟩) n c,.slice (some ⟨gm,0,none⟩) f.ps.length cm,.int .i64 f.op,.int .i64 f.st] 29)
 nx:px≠g
 bx:B<=px
theorem XAt.later {B px n g c gm cm:Nat}{w w':World}{A:Nat->Option Addr}{C:Nat->Nat}{f:Fv}(h:XAt B w px n g c gm cm A C f)(hb:Below w.heap.size w w'):XAt B w' px n g c gm cm A C f :=
 ⟨h.sq.later hb,own_keepBy h.pl (grown_below hb none) (fun k e=>by cases e),h.ne,block_on h.ftl hb,h.nx,h.bx⟩
theorem XAt.own {B px n g c gm cm:Nat}{w:World}{A:Nat->Option Addr}{C:Nat->Nat}{f:Fv}(h:XAt B w px n g c gm cm A C f):FtlOwn B w.heap.size w (some ⟨g,0,none⟩) (some ⟨gm,0,none⟩) f.qs f.ps:=own_of_parts h.sq h.pl h.ne
end Go.Proofs.YtgjoepdfhadmcaaGreatDoor
end

section
namespace Go.Proofs.YtgjoepdfhadmcaaGreatDoor
open Go.RowKit
set_option linter.unusedVariables false
theorem mountF_fit (z:Int)(qs:List Sq)(n:Int):(mountF z qs n).qs.length+weight (mountF z qs n).qs<=1048576∧(mountF z qs n).ps.length<=64:=by
 unfold mountF
 cases h:(chipOk z qs&&inB n 1 64) with
 | false=>simp[weight]
 | true =>
  rw[if_pos rfl]
  simp only[Bool.and_eq_true] at h
  have hn:1<=n∧n<=64:=by have:=h.2;unfold inB at this;simpa using this
  refine⟨chipOk_fit h.1,?_⟩
  show(mtAll n.toNat qs).ps.length<=64
  rw[(mtAll_ok n.toNat qs).ps]
  omega
end Go.Proofs.YtgjoepdfhadmcaaGreatDoor
end

section
namespace Go.Proofs.YtgjoepdfhadmcaaGreatDoor
open Go.RowKit
set_option linter.unusedVariables false
structure Cv where
 rm:Int
 ys:List Hd
 f:Fv
def ftlOkF (f:Fv):Bool:=ftlOk f.z f.qs f.ps f.op f.st
structure COk (c:Cv):Prop where
 r0:1<=c.rm
 r1:c.rm<=16
 len:(c.ys.length:Int)<=c.rm
 ftl:ftlOk c.f.z c.f.qs c.f.ps c.f.op c.f.st=true
 item:∀i,i<c.ys.length->0<=(hdAt c.ys i).1∧(hdAt c.ys i).1<(c.f.ps.length:Int)∧(hdAt c.ys i).2.1.size<=24
 apart:∀i,i<c.ys.length->∀k,k<i->(hdAt c.ys k).1≠(hdAt c.ys i).1
theorem COk.other {c:Cv}(h:COk c){a:Int}{k:Nat}(hk:k<c.ys.length)(he:(hdAt c.ys k).1=a):∀j,j<c.ys.length->j≠k->(hdAt c.ys j).1≠a:=by
 intro j hj hne e
 rcases Nat.lt_or_gt_of_ne hne with h1|h1
 ·exact h.apart k hk j h1 (e.trans he.symm)
 ·exact h.apart j hj k h1 (he.trans e.symm)
theorem chipOk_small {z:Int}{qs:List Sq}(h:chipOk z qs=true):qs.length+weight qs<=20000:=by
 obtain⟨h1,h2,h3,h4,h5⟩:=chipOk_parts h
 have:=weight_small (n:=12) h4 (fun q hq=>by
  obtain⟨k1,_,_,k4⟩:=sqOk_parts (h5 q hq)
  have k5:q.1.length<=8:=by omega
  have:=total_small k5 (fun s hs=>(k4 s hs).2)
  omega)
 omega
def CFit (c:Cv):Prop:=c.ys.length<=20∧c.ys.length+(c.f.qs.length+weight c.f.qs)<=1048576∧c.f.ps.length<=64
theorem fit_of {c:Cv}(h:ftlOkF c.f=true)(hl:c.ys.length<=20):CFit c:=by
 unfold ftlOkF at h
 have h1:=(kok_of h []).map.chip
 have h2:c.f.qs.length+weight c.f.qs<=20000:=chipOk_small h1
 have h3:=(kok_of h []).map.few
 exact⟨hl,by omega,h3⟩
theorem COk.fit {c:Cv}(h:COk c):CFit c:=fit_of (c:=c) h.ftl (by have:=h.len;have:=h.r1;omega)
end Go.Proofs.YtgjoepdfhadmcaaGreatDoor
end

section
namespace Go.Proofs.YtgjoepdfhadmcaaGreatDoor
open Go.RowKit
set_option linter.unusedVariables false
set_option maxRecDepth 20000
def CacheOwn (lo hi:Nat)(w:World)(ai a am:Option Addr)(ys:List Hd)(qs:List Sq)(ps:List Pl):Prop :=
 hi<=w.heap.size∧∃l1 r1 l2 r2,lo<=l1∧r1<=hi∧lo<=l2∧r2<=hi∧(r1<=l2∨r2<=l1)∧OwnHelds l1 r1 w ai ys.length ys∧FtlOwn l2 r2 w a am qs ps
section
variable {lo hi:Nat}{w w':World}{ai a am:Option Addr}{ys:List Hd}{qs:List Sq}{ps:List Pl}
theorem CacheOwn.squares (h:CacheOwn lo hi w ai a am ys qs ps):Squares lo hi w a qs.length qs:=by
 obtain⟨h0,l1,r1,l2,r2,h1,h2,h3,h4,h5,h6,h7⟩:=h
 exact(h7.wide h3 h4 h0).squares
theorem CacheOwn.places (h:CacheOwn lo hi w ai a am ys qs ps):Places lo hi w am ps.length ps:=by
 obtain⟨h0,l1,r1,l2,r2,h1,h2,h3,h4,h5,h6,h7⟩:=h
 exact(h7.wide h3 h4 h0).places
theorem CacheOwn.later (h:CacheOwn lo hi w ai a am ys qs ps){B:Nat}(hb:Below B w w')(hB:hi<=B):CacheOwn lo hi w' ai a am ys qs ps:=by
 obtain⟨h0,l1,r1,l2,r2,h1,h2,h3,h4,h5,h6,h7⟩:=h
 exact⟨Nat.le_trans h0 hb.size,l1,r1,l2,r2,h1,h2,h3,h4,h5,h6.later hb (by omega),h7.later hb (by omega)⟩
theorem CacheOwn.aside (h:CacheOwn lo hi w ai a am ys qs ps){l r:Nat}(hb:Aside l r w w')(hB:r<=lo∨hi<=l):CacheOwn lo hi w' ai a am ys qs ps:=by
 obtain⟨h0,l1,r1,l2,r2,h1,h2,h3,h4,h5,h6,h7⟩:=h
 exact⟨Nat.le_trans h0 hb.size,l1,r1,l2,r2,h1,h2,h3,h4,h5,h6.aside hb (by omega),h7.aside hb (by omega)⟩
theorem CacheOwn.wide (h:CacheOwn lo hi w ai a am ys qs ps){lo' hi':Nat}(h1':lo'<=lo)(h2':hi<=hi')(h3':hi'<=w.heap.size):CacheOwn lo' hi' w ai a am ys qs ps:=by
 obtain⟨h0,l1,r1,l2,r2,h1,h2,h3,h4,h5,h6,h7⟩:=h
 exact⟨h3',l1,r1,l2,r2,by omega,by omega,by omega,by omega,h5,h6,h7⟩
end
end Go.Proofs.YtgjoepdfhadmcaaGreatDoor
end

section
namespace Go.Proofs.YtgjoepdfhadmcaaGreatDoor
open Go.RowKit
set_option linter.unusedVariables false
set_option maxRecDepth 20000
structure FtlAt2 (B:Nat)(w:World)(px pj:Nat)(rm:Int)(iv:Value)(z st:Int)(n g c gm cm:Nat)(A:Nat->Option Addr)(C:Nat->Nat)(V:Value)(s:Kp):Prop where
 mem:KpMem B w n g gm cm A C V s
 ftl:w.heap[px]?=some (.cells #[.int .i64 rm,iv,.int .i64 z,.slice (some ⟨g,0,none⟩) n c,.slice (some ⟨gm,0,none⟩) s.ps.length cm,.int .i64 s.op,.int .i64 st] 65)
 jobs:w.heap[pj]?=some (.cells #[V] 91)
 nx:px≠g
 nj:pj≠g
 bx:B<=px
 bj:B<=pj
theorem FtlAt2.later {B px pj n g c gm cm:Nat}{w w':World}{rm:Int}{iv:Value}{z st:Int}{A:Nat->Option Addr}{C:Nat->Nat}{V:Value}{s:Kp}(h:FtlAt2 B w px pj rm iv z st n g c gm cm A C V s)(hb:Below w.heap.size w w'):FtlAt2 B w' px pj rm iv z st n g c gm cm A C V s :=
 ⟨h.mem.later hb,block_on h.ftl hb,block_on h.jobs hb,h.nx,h.nj,h.bx,h.bj⟩
end Go.Proofs.YtgjoepdfhadmcaaGreatDoor
end

section
namespace Go.Proofs.YtgjoepdfhadmcaaGreatDoor
open Go.RowKit
set_option linter.unusedVariables false
set_option maxRecDepth 20000
theorem FtlAt2.apart {B px pj n g c gm cm:Nat}{w:World}{rm:Int}{iv:Value}{z st:Int}{A:Nat->Option Addr}{C:Nat->Nat}{V:Value}{s:Kp}(h:FtlAt2 B w px pj rm iv z st n g c gm cm A C V s):gm≠px∧gm≠pj∧px≠pj:=by
 obtain⟨cs,fz,hk⟩:=h.mem.kind
 refine⟨fun e=>?_,fun e=>?_,fun e=>?_⟩
 ·rw[e,h.ftl] at hk
  simp only[Option.some.injEq,Obj.cells.injEq] at hk
  exact absurd hk.2.1 (by decide)
 ·rw[e,h.jobs] at hk
  simp only[Option.some.injEq,Obj.cells.injEq] at hk
  exact absurd hk.2.1 (by decide)
 ·have:=h.ftl
  rw[e,h.jobs] at this
  simp only[Option.some.injEq,Obj.cells.injEq] at this
  exact absurd this.2.1 (by decide)
theorem FtlAt2.led {B px pj n g c gm cm:Nat}{w:World}{rm:Int}{iv:Value}{z st:Int}{A:Nat->Option Addr}{C:Nat->Nat}{V:Value}{s:Kp}(h:FtlAt2 B w px pj rm iv z st n g c gm cm A C V s){i:Nat}(hi:i<s.ps.length)(x:Pl) :
  FtlAt2 B ((w.setCell ⟨gm,i*2,none⟩ (.int .i64 x.1)).setCell ⟨gm,i*2+1,none⟩ (.int .i64 x.2)) px pj rm iv z st n g c gm cm A C V ⟨s.qs,s.ps.set i x,s.op,s.js⟩:=by
 obtain⟨h1,h2,h3⟩:=h.apart
 refine⟨h.mem.led hi x,?_,set_other (set_other h.jobs h2 _) h2 _,h.nx,h.nj,h.bx,h.bj⟩
 dsimp only
 rw[List.length_set]
 exact set_other (set_other h.ftl h1 _) h1 _
theorem FtlAt2.bound {B px pj n g c gm cm:Nat}{w:World}{rm:Int}{iv:Value}{z st:Int}{A:Nat->Option Addr}{C:Nat->Nat}{V:Value}{s:Kp}(h:FtlAt2 B w px pj rm iv z st n g c gm cm A C V s):px<w.heap.size∧pj<w.heap.size∧g<w.heap.size∧gm<w.heap.size∧B<=gm∧B<=g:=by
 obtain⟨cs,fz,hk⟩:=h.mem.kind
 exact⟨(Array.getElem?_eq_some_iff.1 h.ftl).1,(Array.getElem?_eq_some_iff.1 h.jobs).1,by have:=h.mem.sq.row.1;omega,(Array.getElem?_eq_some_iff.1 hk).1,(World.ownsRow.lt h.mem.pl gm rfl).1,h.mem.sq.atG⟩
end Go.Proofs.YtgjoepdfhadmcaaGreatDoor
end

section
namespace Go.Proofs.YtgjoepdfhadmcaaGreatDoor
open Go.RowKit
set_option linter.unusedVariables false
set_option maxRecDepth 20000
theorem FtlAt2.opened {B px pj n g c gm cm:Nat}{w:World}{rm:Int}{iv:Value}{z st:Int}{A:Nat->Option Addr}{C:Nat->Nat}{V:Value}{s:Kp}(h:FtlAt2 B w px pj rm iv z st n g c gm cm A C V s)(o:Int) :
  FtlAt2 B (w.setCell ⟨px,5,none⟩ (.int .i64 o)) px pj rm iv z st n g c gm cm A C V (withOp s o):=by
 obtain⟨h1,h2,h3⟩:=h.apart
 have hm:=h.mem.set (o:=5) (.int .i64 o) h.nx h.ftl (by decide) (by decide) (by decide)
 exact⟨⟨hm.sq,hm.pl,hm.jb,hm.ne,hm.nj⟩,set_block h.ftl 5 _ (by simp),set_other h.jobs h3 _,h.nx,h.nj,h.bx,h.bj⟩
end Go.Proofs.YtgjoepdfhadmcaaGreatDoor
end

section
namespace Go.Proofs.YtgjoepdfhadmcaaGreatDoor
open Go.RowKit
set_option linter.unusedVariables false
set_option maxRecDepth 20000
theorem FtlAt2.stamped {B px pj n g c gm cm:Nat}{w:World}{rm:Int}{iv:Value}{z st:Int}{A:Nat->Option Addr}{C:Nat->Nat}{V:Value}{s:Kp}(h:FtlAt2 B w px pj rm iv z st n g c gm cm A C V s)(o:Int) :
  FtlAt2 B (w.setCell ⟨px,6,none⟩ (.int .i64 o)) px pj rm iv z o n g c gm cm A C V s:=by
 obtain⟨h1,h2,h3⟩:=h.apart
 have hm:=h.mem.set (o:=6) (.int .i64 o) h.nx h.ftl (by decide) (by decide) (by decide)
 exact⟨⟨hm.sq,hm.pl,hm.jb,hm.ne,hm.nj⟩,set_block h.ftl 6 _ (by simp),set_other h.jobs h3 _,h.nx,h.nj,h.bx,h.bj⟩
end Go.Proofs.YtgjoepdfhadmcaaGreatDoor
end

section
namespace Go.Proofs.YtgjoepdfhadmcaaGreatDoor
open Go.RowKit
set_option linter.unusedVariables false
set_option maxRecDepth 20000
structure CacheMem (B:Nat)(w:World)(px:Nat)(rm:Int)(iv:Value)(z st:Int)(n g c gm cm:Nat)(A:Nat->Option Addr)(C:Nat->Nat)(qs:List Sq)(ps:List Pl)(op:Int):Prop where
 sq:GrowSqs B w n qs g A C
 pl:PlOwn B w (.slice (some ⟨gm,0,none⟩) ps.length cm) ps
 box:w.heap[px]?=some (.cells #[.int .i64 rm,iv,.int .i64 z,.slice (some ⟨g,0,none⟩) n c,.slice (some ⟨gm,0,none⟩) ps.length cm,.int .i64 op,.int .i64 st] 65)
 ne:gm≠g
 nx:px≠g
 bx:B<=px
section
variable {B px n g c gm cm:Nat}{w w':World}{rm:Int}{iv:Value}{z st:Int}{A:Nat->Option Addr}{C:Nat->Nat}{qs:List Sq}{ps:List Pl}{op:Int}
theorem CacheMem.later (h:CacheMem B w px rm iv z st n g c gm cm A C qs ps op)(hb:Below w.heap.size w w'):CacheMem B w' px rm iv z st n g c gm cm A C qs ps op :=
 ⟨h.sq.later hb,own_keepBy h.pl (grown_below hb none) (fun k e=>by cases e),block_on h.box hb,h.ne,h.nx,h.bx⟩
end
theorem Frame.less {B:Nat}{L L':List Nat}{w0 w w':World}(h:Frame B L w w')(hb:Below w0.heap.size w0 w)(hB:B<=w0.heap.size)(hL:∀k,k∈L->k<w0.heap.size->k∈L'):Frame B L' w0 w' :=
 ⟨(hb.mono hB).trans h.below,fun k cs T fr h1 h2 h3 h4=>h.other k cs T fr (fun e=>h1 (hL k e (Array.getElem?_eq_some_iff.1 h4).1)) h2 h3 (block_on h4 hb)⟩
end Go.Proofs.YtgjoepdfhadmcaaGreatDoor
end

section
namespace Go.Proofs.YtgjoepdfhadmcaaGreatDoor
open Go.RowKit
set_option linter.unusedVariables false
set_option maxRecDepth 20000
def getF (f:Fv)(a:Int):ByteArray×Bool:=ftlGet f.z f.qs f.ps f.op f.st a
end Go.Proofs.YtgjoepdfhadmcaaGreatDoor
end

section
namespace Go.Proofs.YtgjoepdfhadmcaaGreatDoor
open Go.RowKit
set_option linter.unusedVariables false
set_option maxRecDepth 20000
def PgIn (qs:List Sq)(t:ByteArray):Prop:=∃s k:Nat,s<qs.length∧k<(sqAt qs s).1.length∧txAt qs s k=t
theorem txAt_in {qs:List Sq}{v p:Nat}(h:1<=(txAt qs v p).size):PgIn qs (txAt qs v p):=by
 by_cases hv:v<qs.length
 ·by_cases hp:p<(sqAt qs v).1.length
  ·exact⟨v,p,hv,hp,rfl⟩
  ·exfalso
   unfold txAt at h
   rw[List.getD_eq_getElem?_getD,List.getElem?_eq_none (by omega)] at h
   simp at h
 ·exfalso
  have e:sqAt qs v=([],0,false):=by unfold sqAt;rw[List.getD_eq_getElem?_getD,List.getElem?_eq_none (by omega)];rfl
  unfold txAt at h
  rw[e] at h
  simp at h
theorem putK_pages {z:Int}{s s':Kp}{i:Nat}{tx t:ByteArray}(h:putK z s i tx=some s')(ht:PgIn s'.qs t):PgIn s.qs t∨t=tx:=by
 obtain⟨o,ho,hl,hb,hz,t1,t2,hc,rfl⟩:=putK_parts h
 obtain⟨a,k,ha,hk,e⟩:=ht
 dsimp only at ha hk e
 rw[List.length_set] at ha
 unfold txAt at e
 rw[sqAt_set s.qs _ hl a] at hk e
 by_cases ea:a=o
 ·subst ea
  rw[if_pos rfl] at hk e
  dsimp only at hk e
  rw[List.length_append,List.length_singleton] at hk
  rw[List.getD_eq_getElem?_getD] at e
  by_cases hk2:k<(sqAt s.qs a).1.length
  ·left
   refine⟨a,k,ha,hk2,?_⟩
   rw[List.getElem?_append_left hk2] at e
   unfold txAt;rw[List.getD_eq_getElem?_getD];exact e
  ·right
   have ek:k=(sqAt s.qs a).1.length:=by omega
   subst ek
   rw[List.getElem?_append_right (Nat.le_refl _)] at e
   simpa using e.symm
 ·rw[if_neg ea] at hk e
  exact .inl ⟨a,k,ha,hk,e⟩
theorem moveI_pages {z:Int}{v p:Nat}{s:Kp}:∀{k:Nat} {s':Kp},moveI z v p s k=some s'->∀t,PgIn s'.qs t->PgIn s.qs t
 | 0,s',h,t,ht=>by
  simp only[moveI,Option.some.injEq] at h
  subst h;exact ht
 | k+1,s',h,t,ht=>by
  unfold moveI at h
  obtain⟨s1,h1,h2⟩:=Option.bind_eq_some_iff.1 h
  split at h2
  ·obtain⟨o,_,_,_,_,t1,_⟩:=putK_parts h2
   rcases putK_pages h2 ht with h3|rfl
   ·exact moveI_pages h1 t h3
   ·exact moveI_pages h1 _ (txAt_in t1)
  ·simp only[Option.some.injEq] at h2
   subst h2;exact moveI_pages h1 t ht
theorem moveP_pages {z:Int}{v:Nat}{s:Kp}:∀{k:Nat} {s':Kp},moveP z v s k=some s'->∀t,PgIn s'.qs t->PgIn s.qs t
 | 0,s',h,t,ht=>by
  simp only[moveP,Option.some.injEq] at h
  subst h;exact ht
 | k+1,s',h,t,ht=>by
  unfold moveP at h
  obtain⟨s1,h1,h2⟩:=Option.bind_eq_some_iff.1 h
  exact moveP_pages h1 t (moveI_pages h2 t ht)
theorem wipe_pages {z:Int}{s s':Kp}{v:Nat}(h:doK z s (2,(v:Int),ByteArray.empty)=some s'){t:ByteArray}(ht:PgIn s'.qs t):PgIn s.qs t:=by
 obtain⟨hl,hb,hw,hc,rfl⟩:=wipe_parts h
 obtain⟨a,k,ha,hk,e⟩:=ht
 dsimp only at ha hk e
 rw[List.length_set] at ha
 unfold txAt at e
 rw[sqAt_set s.qs _ hl a] at hk e
 by_cases ea:a=v
 ·rw[if_pos ea] at hk
  simp at hk
 ·rw[if_neg ea] at hk e
  exact⟨a,k,ha,hk,e⟩
theorem stepK_pages {z:Int}{s s':Kp}(hK:KOk z s)(h:stepK z s=some s'){t:ByteArray}(ht:PgIn s'.qs t):PgIn s.qs t:=by
 unfold stepK at h
 split at h
 ·simp only[Option.some.injEq] at h
  subst h
  exact ht
 ·split at h
  ·cases h
  ·rename_i hv
   obtain⟨v,ev,hvl,hvo,hvp,hvb,_,_⟩:=victim_parts hK.map hv
   rw[ev] at h
   split at h
   ·split at h
    ·cases h
    ·rw[Int.toNat_natCast] at h
     obtain⟨s1,h1,h2⟩:=Option.bind_eq_some_iff.1 h
     unfold moveK at h1
     exact moveP_pages h1 t (wipe_pages h2 ht)
   ·exact wipe_pages h ht
theorem roomK_pages {z:Int}:∀{k:Nat} {s s':Kp},KOk z s->roomK z k s=some s'->∀t,PgIn s'.qs t->PgIn s.qs t
 | 0,s,s',hK,h,t,ht=>by
  unfold roomK at h
  split at h
  ·simp only[Option.some.injEq] at h
   subst h;exact ht
  ·cases h
 | k+1,s,s',hK,h,t,ht=>by
  unfold roomK at h
  split at h
  ·simp only[Option.some.injEq] at h
   subst h;exact ht
  ·obtain⟨s1,h1,h2⟩:=Option.bind_eq_some_iff.1 h
   exact stepK_pages hK h1 (roomK_pages (stepK_ok hK h1).ok h2 t ht)
structure MInv (qs:List Sq)(ps:List Pl)(st:Int):Prop where
 each:∀t,PgIn qs t->lyWell (lyP t).2.2.2.2=true->∀j:Nat,j<ps.length->(lyP t).2.1=(j:Int)->plAt ps j≠(-1,0)∧(lyP t).2.2.1<=(lyP (txt qs (plAt ps j))).2.2.1∧((lyP t).2.2.1=(lyP (txt qs (plAt ps j))).2.2.1->t=txt qs (plAt ps j))
 top:∀t,PgIn qs t->lyWell (lyP t).2.2.2.2=true->(lyP t).2.2.1<=st
theorem minv_room {z:Int}{s s':Kp}{st:Int}(h:MInv s.qs s.ps st)(hS:Stepped z s s')(hp:∀t,PgIn s'.qs t->PgIn s.qs t):MInv s'.qs s'.ps st:=by
 refine⟨fun t ht hw j hj ha=>?_,fun t ht hw=>h.top t (hp t ht) hw⟩
 have hj':j<s.ps.length:=by rw[<- hS.places];exact hj
 obtain⟨h1,h2,h3⟩:=h.each t (hp t ht) hw j hj' ha
 obtain⟨e1,e2⟩:=hS.same j hj'
 rw[e2 h1]
 exact⟨fun e=>h1 (e1.1 e),h2,h3⟩
theorem minv_enter {z:Int}{qs:List Sq}{ps:List Pl}{op st kd a:Int}{tx:ByteArray}{s:Kp}(h:planR z qs ps op st kd a tx=some s)(hI:MInv qs ps st):MInv s.qs s.ps (st+1):=by
 obtain⟨hf,hm,s1,h1,h2⟩:=planR_some h
 have hK0:=kok_of hf []
 have hS:=(roomK_ok hK0 h1).1
 have hI1:MInv s1.qs s1.ps st:=minv_room (s:=⟨qs,ps,op,[]⟩) hI hS (roomK_pages hK0 h1)
 unfold mayEnt at hm
 rw[Bool.and_eq_true] at hm
 obtain⟨hpo,hin⟩:=hm
 unfold inB at hin
 simp only[Bool.and_eq_true,decide_eq_true_eq] at hin
 have hsp:s1.ps.length=ps.length:=hS.places
 have ha:a.toNat<s1.ps.length:=by omega
 obtain⟨k1,k2,k3,k4,k5,k6,k7,k8,k9⟩:=putK_ok hS.ok ha h2
 obtain⟨hly,hlz⟩:=ly_laid hpo
 have hna:plAt s.ps a.toNat≠(-1,0):=by
  rw[k8]
  obtain⟨o,ho,_⟩:=putK_parts h2
  unfold nextP
  rw[ho]
  exact ne_none
 refine⟨fun t ht hw j hj hat=>?_,fun t ht hw=>?_⟩
 ·by_cases e:j=a.toNat
  ·subst e
   rw[k9,hly]
   dsimp only
   rcases putK_pages h2 ht with h3|rfl
   ·have:=hI1.top t h3 hw
    exact⟨hna,by omega,fun e=>by omega⟩
   ·rw[hly]
    exact⟨hna,Int.le_refl _,fun _=>rfl⟩
  ·rcases putK_pages h2 ht with h3|rfl
   ·obtain⟨g1,g2,g3⟩:=hI1.each t h3 hw j (by omega) hat
    obtain⟨e1,e2⟩:=k7 j (by omega) e
    rw[e2 g1]
    exact⟨fun e=>g1 (e1.1 e),g2,g3⟩
   ·rw[hly] at hat
    dsimp only at hat
    omega
 ·rcases putK_pages h2 ht with h3|rfl
  ·have:=hI1.top t h3 hw
   omega
  ·rw[hly]
   exact Int.le_refl _
theorem mtOne_grow {n i k:Nat}{qs:List Sq}{s:Mt}(h:MtOk n qs s)(t:ByteArray){j:Nat}(hj:j<n):stAt s.st j<=stAt (mtOne n i k (lyP t) s).st j∧(mtHit n (lyP t)=true->(lyP t).2.1=(j:Int)->(lyP t).2.2.1<=stAt (mtOne n i k (lyP t) s).st j):=by
 unfold mtOne
 cases hh:mtHit n (lyP t) with
 | false=>exact⟨Int.le_refl _,fun e=>(by cases e)⟩
 | true =>
  rw[if_pos rfl]
  unfold mtHit at hh
  simp only[Bool.and_eq_true,Bool.not_eq_true',decide_eq_false_iff_not] at hh
  obtain⟨hw,ha⟩:=hh
  obtain⟨w1,w2,w3,w4⟩:=lyP_well hw
  split
  ·rename_i hgt
   dsimp only
   rw[stAt_set s.st _ (by rw[h.st];omega)]
   by_cases e:j=(lyP t).2.1.toNat
   ·rw[if_pos e]
    subst e
    exact⟨by omega,fun _ _=>Int.le_refl _⟩
   ·rw[if_neg e]
    exact⟨Int.le_refl _,fun _ e'=>absurd (by omega) e⟩
  ·rename_i hgt
   dsimp only
   refine⟨Int.le_refl _,fun _ e'=>?_⟩
   have e2:(lyP t).2.1.toNat=j:=by omega
   rw[e2] at hgt
   omega
theorem mtPages_top {n i:Nat}{qs:List Sq}{s:Mt}(h:MtOk n qs s)(hi:i<qs.length){j:Nat}(hj:j<n):∀k,k<=(sqAt qs i).1.length->stAt s.st j<=stAt (mtPages n qs i s k).st j∧∀p,p<k->mtHit n (lyP (txAt qs i p))=true->(lyP (txAt qs i p)).2.1=(j:Int)->(lyP (txAt qs i p)).2.2.1<=stAt (mtPages n qs i s k).st j
 | 0,_=>⟨Int.le_refl _,fun p hp=>absurd hp (by omega)⟩
 | k+1,hk=>by
  obtain⟨i1,i2⟩:=mtPages_top h hi hj k (by omega)
  obtain⟨g1,g2⟩:=mtOne_grow (i:=i) (k:=k) (mtPages_ok h hi k (by omega)) (txAt qs i k) hj
  show _<=stAt (mtOne n i k (lyP (txAt qs i k)) (mtPages n qs i s k)).st j∧∀p,_->_->_->_<=stAt (mtOne n i k (lyP (txAt qs i k)) (mtPages n qs i s k)).st j
  refine⟨by omega,fun p hp hh ha=>?_⟩
  by_cases e:p=k
  ·subst e;exact g2 hh ha
  ·have:=i2 p (by omega) hh ha
   omega
theorem mtSqs_top {n:Nat}{qs:List Sq}{j:Nat}(hj:j<n):∀i,i<=qs.length->∀q,q<i->∀p,p<(sqAt qs q).1.length->mtHit n (lyP (txAt qs q p))=true->(lyP (txAt qs q p)).2.1=(j:Int)->(lyP (txAt qs q p)).2.2.1<=stAt (mtSqs n qs i).st j
 | 0,_,q,hq=>absurd hq (by omega)
 | i+1,hi,q,hq=>by
  intro p hp hh ha
  obtain⟨g1,g2⟩:=mtPages_top (mtSqs_ok i (by omega)) (show i<qs.length by omega) hj _ (Nat.le_refl _)
  show _<=stAt (mtPages n qs i (mtSqs n qs i) (sqAt qs i).1.length).st j
  by_cases e:q=i
  ·subst e;exact g2 p hp hh ha
  ·have:=mtSqs_top hj i (by omega) q (by omega) p hp hh ha
   omega
theorem mounted_same {f:Fv}(hf:ftlOkF f=true)(hI:MInv f.qs f.ps f.st){j:Nat}(hj:j<f.ps.length):sameAt f.qs f.ps f.qs (mtAll f.ps.length f.qs).ps j:=by
 have hm:=mtAll_ok f.ps.length f.qs
 have hf':=hf
 unfold ftlOkF at hf'
 have hM:=mapR_of (ftlOk_map hf')
 obtain⟨_,_,_,hst0,hst1,_,hfp⟩:=ftlOk_parts hf'
 rcases hm.each j hj with⟨e,es⟩|⟨i,k,e,hi,hk,hw,ha,es⟩
 ·-- nothing found: nothing was there
  have hn:plAt f.ps j=(-1,0):=by
   rcases hM.there j hj with h1|h1
   ·exact h1
   ·by_cases hno:plAt f.ps j=(-1,0)
    ·exact hno
    ·exfalso
     obtain⟨a,b,h2,h3,h4⟩:=plThere_iff.1 h1
     have h5:=(fpOk_iff.1 (hfp j hj)).resolve_left hno
     rw[pgOf_thereE hM.chip h1,h2] at h5
     obtain⟨w1,w2,w3⟩:=h5
     have ht:txt f.qs ((a:Int),(b:Int))=txAt f.qs a b:=by unfold txt;simp only[Int.toNat_natCast]
     rw[ht] at w1 w2 w3
     have hhit:mtHit f.ps.length (lyP (txAt f.qs a b))=true:=by
      unfold mtHit
      rw[w1,w2]
      simp
      omega
     have:=mtSqs_top hj f.qs.length (Nat.le_refl _) a h3 b h4 hhit w2
     have hst:stAt (mtAll f.ps.length f.qs).st j=stAt (mtSqs f.ps.length f.qs f.qs.length).st j:=rfl
     have:=(lyP_well w1).2.2.1
     omega
  exact⟨⟨fun _=>hn,fun _=>e⟩,fun h=>absurd hn h⟩
 ·obtain⟨g1,g2,g3⟩:=hI.each (txAt f.qs i k) ⟨i,k,hi,hk,rfl⟩ hw j hj ha
  have ht2:txt f.qs ((i:Int),(k:Int))=txAt f.qs i k:=by unfold txt;simp only[Int.toNat_natCast]
  refine⟨⟨fun e'=>?_,fun e'=>absurd e' g1⟩,fun _=>?_⟩
  ·rw[e] at e';exact absurd e' ne_none
  ·rw[e,ht2]
   apply g3
   have h1:=(hM.there j hj).resolve_left g1
   obtain⟨a,b,h2,h3,h4⟩:=plThere_iff.1 h1
   have h5:=(fpOk_iff.1 (hfp j hj)).resolve_left g1
   rw[pgOf_thereE hM.chip h1,h2] at h5
   obtain⟨w1,w2,w3⟩:=h5
   have ht:txt f.qs ((a:Int),(b:Int))=txAt f.qs a b:=by unfold txt;simp only[Int.toNat_natCast]
   rw[ht] at w1 w2 w3
   rw[h2,ht] at g2 ⊢
   have hhit:mtHit f.ps.length (lyP (txAt f.qs a b))=true:=by
    unfold mtHit
    rw[w1,w2]
    simp
    omega
   have hmx:=mtSqs_top hj f.qs.length (Nat.le_refl _) a h3 b h4 hhit w2
   have hst:stAt (mtAll f.ps.length f.qs).st j=stAt (mtSqs f.ps.length f.qs f.qs.length).st j:=rfl
   omega
def mtF (f:Fv):Fv:=⟨f.z,f.qs,(mtAll f.ps.length f.qs).ps,-1,(mtAll f.ps.length f.qs).S⟩
theorem mtF_ok {f:Fv}(hf:ftlOkF f=true):ftlOkF (mtF f)=true∧(mtF f).ps.length=f.ps.length:=by
 unfold ftlOkF at hf
 have hM:=mapR_of (ftlOk_map hf)
 exact⟨mounted_ok hM.chip hM.one hM.few,(mtAll_ok f.ps.length f.qs).ps⟩
theorem mtF_get {f:Fv}(hf:ftlOkF f=true)(hI:MInv f.qs f.ps f.st){j:Nat}(hj:j<f.ps.length):getF (mtF f) (j:Int)=getF f (j:Int):=by
 obtain⟨h1,h2⟩:=mtF_ok hf
 exact get_same hf h1 h2 hj (mounted_same hf hI hj)
theorem minv_none {qs:List Sq}{ps:List Pl}{st:Int}(h:∀s,s<qs.length->(sqAt qs s).1=[]):MInv qs ps st:=by
 have hn:∀t,¬PgIn qs t:=fun t ⟨s,k,hs,hk,_⟩=>by rw[h s hs] at hk;simp at hk
 exact⟨fun t ht=>absurd ht (hn t),fun t ht=>absurd ht (hn t)⟩
end Go.Proofs.YtgjoepdfhadmcaaGreatDoor
end

section
namespace Go.Proofs.YtgjoepdfhadmcaaGreatDoor
open Go.RowKit
set_option linter.unusedVariables false
theorem mount_zero {z:Int}{qs:List Sq}{N:Int}(h:(mountF z qs N).ps.length=0):mountF z qs N=⟨0,[],[],0,0⟩:=by
 unfold mountF at h ⊢
 split
 ·rename_i h1
  rw[if_pos h1] at h
  dsimp only at h
  rw[(mtAll_ok N.toNat qs).ps] at h
  rw[Bool.and_eq_true] at h1
  unfold inB at h1
  simp only[Bool.and_eq_true,decide_eq_true_eq] at h1
  omega
 ·rfl
theorem mount_ok {z:Int}{qs:List Sq}{N:Int}(h:0<(mountF z qs N).ps.length):okF (mountF z qs N)=true∧mountF (mountF z qs N).z (mountF z qs N).qs N=mountF z qs N:=by
 cases h1:chipOk z qs&&inB N 1 64 with
 | false =>
  exfalso
  unfold mountF at h
  rw[h1] at h
  simp at h
 | true =>
  have e:mountF z qs N=⟨z,qs,(mtAll N.toNat qs).ps,-1,(mtAll N.toNat qs).S⟩:=by unfold mountF;rw[h1];rfl
  rw[e]
  refine⟨?_,e⟩
  rw[Bool.and_eq_true] at h1
  obtain⟨hc,hN⟩:=h1
  unfold inB at hN
  simp only[Bool.and_eq_true,decide_eq_true_eq] at hN
  exact mounted_ok hc (by omega) (by omega)
theorem same_self {f:Fv}(h:okF f=true):sameF f f=true:=by
 unfold sameF
 rw[h]
 simp only[Bool.true_and,decide_true,List.all_eq_true,List.mem_range]
 intro i hi
 unfold sameG
 simp
structure Md (f:Fv):Prop where
 ok:okF f=true
 inv:MInv f.qs f.ps f.st
 ps:f.ps.length=5
theorem md_new:Md (newF 4 3 5):=by
 have e:newF 4 3 5=⟨3,List.replicate 4 ([],0,false),List.replicate 5 (-1,0),-1,0⟩:=by rfl
 rw[e]
 obtain⟨h1,_,_⟩:=new_room (z:=3) (Q:=4) (N:=5) (by omega) (by omega) (by omega) (by omega) (by omega) (by omega) (by omega)
 refine⟨h1,minv_none fun s hs=>?_,by simp⟩
 rw[List.length_replicate] at hs
 rw[sqAt_rep _ hs]
theorem md_enter {f:Fv}(h:Md f)(kd a:Int)(tx:ByteArray):Md (entF f.z f.qs f.ps f.op f.st kd a tx):=by
 have hok:ftlOk f.z f.qs f.ps f.op f.st=true:=h.ok
 cases hp:planR f.z f.qs f.ps f.op f.st kd a tx with
 | none =>
  have e:entF f.z f.qs f.ps f.op f.st kd a tx=f:=by
   unfold planR at hp
   rw[hok,if_pos rfl] at hp
   unfold entF
   rw[hok,if_pos rfl,hp]
  rw[e];exact h
 | some s =>
  have hp':=hp
  unfold planR at hp
  rw[hok,if_pos rfl] at hp
  have e:entF f.z f.qs f.ps f.op f.st kd a tx=⟨f.z,s.qs,s.ps,s.op,f.st+1⟩:=by
   unfold entF
   rw[hok,if_pos rfl,hp]
  rw[e]
  have hE:=entd_of hp'
  exact⟨hE.ok,minv_enter hp' h.inv,hE.places.trans h.ps⟩
theorem md_nice {f:Fv}(h:Md f):(∀y∈f.qs,sqFits y)∧f.qs.length<=1048576∧f.ps.length<=1048576:=by
 have hch:=mapOk_chip (ftlOk_map h.ok)
 have:=(chipOk_parts hch).2.2.2.1
 have:=h.ps
 exact⟨chipOk_fits hch,by omega,by omega⟩
theorem md_same {f:Fv}(h:Md f):sameF f (mountF f.z f.qs 5)=true:=by
 have hok:ftlOkF f=true:=h.ok
 have hch:=mapOk_chip (ftlOk_map h.ok)
 have e:mountF f.z f.qs 5=mtF f:=by
  unfold mountF mtF
  rw[hch,h.ps]
  rfl
 rw[e]
 obtain⟨h1,h2⟩:=mtF_ok hok
 unfold sameF
 rw[h.ok,show okF (mtF f)=true from h1,h2]
 simp only[Bool.true_and,decide_true,List.all_eq_true,List.mem_range]
 intro i hi
 have:=mtF_get hok h.inv hi
 unfold getF at this
 unfold sameG
 rw[this]
 simp
end Go.Proofs.YtgjoepdfhadmcaaGreatDoor
end

section
namespace Go.Proofs.YtgjoepdfhadmcaaGreatDoor
open Go.RowKit
set_option linter.unusedVariables false
abbrev Fnd:=Int->Int->Option Pl
def fndPut (F:Fnd)(a s:Int)(p:Pl):Fnd:=fun a' s'=>if a'=a∧s'=s then some p else F a' s'
def fndAdd (F:Fnd)(a s:Int)(p:Pl):Fnd:=if(F a s).isSome then F else fndPut F a s p
structure FdOk (n:Nat)(s:Mt)(F:Fnd):Prop where
 low:∀a t,t<=0->F a t=none
 high:∀a:Nat,a<n->∀t,stAt s.st a<t->F (a:Int) t=none
 each:∀a:Nat,a<n->(stAt s.st a=0∧plAt s.ps a=(-1,0))∨(0<stAt s.st a∧F (a:Int) (stAt s.st a)=some (plAt s.ps a))
 top:∀a:Nat,a<n->stAt s.st a<=s.S
 is:∃a:Nat,a<n∧stAt s.st a=s.S
theorem fdOk_start {n:Nat}(h:1<=n):FdOk n ⟨List.replicate n 0,List.replicate n (-1,0),0⟩ (fun _ _=>none):=by
 have hs:∀a,stAt (List.replicate n (0:Int)) a=0:=fun a=>by
  unfold stAt;rw[List.getD_eq_getElem?_getD,List.getElem?_replicate];split<;>rfl
 have hp:∀a,a<n->plAt (List.replicate n ((-1:Int),(0:Int))) a=(-1,0):=fun a ha=>by
  unfold plAt;rw[List.getD_eq_getElem?_getD,List.getElem?_replicate,if_pos ha];rfl
 exact⟨fun _ _ _=>rfl,fun _ _ _ _=>rfl,fun a ha=>.inl ⟨hs a,hp a ha⟩,fun a _=>by show stAt (List.replicate n 0) a<=0;rw[hs a];exact Int.le_refl _,⟨0,by omega,hs 0⟩⟩
theorem fdOk_hit {n:Nat}{s:Mt}{F:Fnd}{a:Nat}{t:Int}(h:FdOk n s F)(hl:s.st.length=n)(hp:s.ps.length=n)(ha:a<n)(ht:1<=t)(i k:Nat) :
  FdOk n (if t > stAt s.st a then⟨s.st.set a t,s.ps.set a ((i:Int),(k:Int)),maxI s.S t⟩ else⟨s.st,s.ps,maxI s.S t⟩) (fndAdd F (a:Int) t ((i:Int),(k:Int))):=by
 have hm1:s.S<=maxI s.S t:=by unfold maxI;split<;>omega
 have hm2:t<=maxI s.S t:=by unfold maxI;split<;>omega
 have hlow:∀a' t',t'<=0->fndAdd F (a:Int) t ((i:Int),(k:Int)) a' t'=none:=fun a' t' h0=>by
  unfold fndAdd fndPut
  split
  ·exact h.low a' t' h0
  ·dsimp only
   rw[if_neg (by omega)]
   exact h.low a' t' h0
 by_cases hg:t > stAt s.st a
 ·rw[if_pos hg]
  have hno:F (a:Int) t=none:=h.high a ha t (by omega)
  have hF:fndAdd F (a:Int) t ((i:Int),(k:Int))=fndPut F (a:Int) t ((i:Int),(k:Int)):=by unfold fndAdd;rw[hno];rfl
  rw[hF] at hlow ⊢
  have hst:∀j,stAt (s.st.set a t) j=if j=a then t else stAt s.st j:=fun j=>stAt_set s.st t (by rw[hl];exact ha) j
  have hps:∀j,plAt (s.ps.set a ((i:Int),(k:Int))) j=if j=a then((i:Int),(k:Int)) else plAt s.ps j:=fun j=>plAt_set s.ps _ (by rw[hp];exact ha) j
  refine⟨hlow,fun j hj t' ht'=>?_,fun j hj=>?_,fun j hj=>?_,?_⟩
  ·dsimp only at ht'
   rw[hst] at ht'
   unfold fndPut
   by_cases e:j=a
   ·subst e
    rw[if_pos rfl] at ht'
    rw[if_neg (by omega)]
    exact h.high j hj t' (by omega)
   ·rw[if_neg e] at ht'
    rw[if_neg (by omega)]
    exact h.high j hj t' ht'
  ·dsimp only
   rw[hst,hps]
   unfold fndPut
   by_cases e:j=a
   ·subst e
    rw[if_pos rfl,if_pos rfl,if_pos ⟨rfl,rfl⟩]
    exact .inr ⟨by omega,rfl⟩
   ·rw[if_neg e,if_neg e,if_neg (by omega)]
    exact h.each j hj
  ·dsimp only
   rw[hst]
   split
   ·exact hm2
   ·have:=h.top j hj;omega
  ·dsimp only
   by_cases hc:s.S > t
   ·obtain⟨j,hj,ej⟩:=h.is
    refine⟨j,hj,?_⟩
    have hne:j≠a:=fun e=>by subst e;omega
    rw[hst,if_neg hne]
    unfold maxI
    rw[if_pos hc]
    exact ej
   ·refine⟨a,ha,?_⟩
    rw[hst,if_pos rfl]
    unfold maxI
    rw[if_neg hc]
 ·rw[if_neg hg]
  have hpos:0<stAt s.st a:=by omega
  have hat:F (a:Int) (stAt s.st a)=some (plAt s.ps a):=by
   rcases h.each a ha with e|e
   ·omega
   ·exact e.2
  have hmx:maxI s.S t=s.S:=by have:=h.top a ha;unfold maxI;split<;>omega
  have hsame:∀(j:Nat) (t':Int),((j:Int)≠(a:Int)∨t'≠t)->fndAdd F (a:Int) t ((i:Int),(k:Int)) (j:Int) t'=F (j:Int) t':=fun j t' hh=>by
   unfold fndAdd fndPut
   split
   ·rfl
   ·dsimp only
    rw[if_neg (by omega)]
  refine⟨hlow,fun j hj t' ht'=>?_,fun j hj=>?_,fun j hj=>?_,?_⟩
  ·have ht2:stAt s.st j<t':=ht'
   by_cases e:j=a
   ·subst e
    rw[hsame j t' (.inr (by omega))]
    exact h.high j hj t' ht2
   ·rw[hsame j t' (.inl (by omega))]
    exact h.high j hj t' ht2
  ·show(stAt s.st j=0∧plAt s.ps j=(-1,0))∨(0<stAt s.st j∧fndAdd F (a:Int) t ((i:Int),(k:Int)) (j:Int) (stAt s.st j)=some (plAt s.ps j))
   rcases h.each j hj with e|⟨e1,e2⟩
   ·exact .inl e
   ·refine .inr ⟨e1,?_⟩
    unfold fndAdd
    by_cases hsm:(F (a:Int) t).isSome=true
    ·rw[if_pos hsm];exact e2
    ·rw[if_neg hsm]
     unfold fndPut
     rw[if_neg]
     ·exact e2
     ·rintro⟨x1,x2⟩
      have x3:j=a:=by omega
      subst x3
      rw[x2] at e2
      rw[e2] at hsm
      exact hsm rfl
  ·show stAt s.st j<=maxI s.S t
   rw[hmx];exact h.top j hj
  ·show ∃j,j<n∧stAt s.st j=maxI s.S t
   rw[hmx];exact h.is
def fdOne (n:Nat)(i k:Nat)(r:Int×Int×Int×ByteArray×Int)(F:Fnd):Fnd:=if mtHit n r then fndAdd F r.2.1 r.2.2.1 ((i:Int),(k:Int)) else F
theorem fdOk_one {n i k:Nat}{s:Mt}{F:Fnd}{tx:ByteArray}(h:FdOk n s F)(hl:s.st.length=n)(hp:s.ps.length=n):FdOk n (mtOne n i k (lyP tx) s) (fdOne n i k (lyP tx) F):=by
 unfold mtOne fdOne
 cases hh:mtHit n (lyP tx) with
 | false=>exact h
 | true =>
  rw[if_pos rfl,if_pos rfl]
  unfold mtHit at hh
  simp only[Bool.and_eq_true,Bool.not_eq_true',decide_eq_false_iff_not] at hh
  obtain⟨w1,w2,w3,w4⟩:=lyP_well hh.1
  have ha:(lyP tx).2.1=(((lyP tx).2.1.toNat:Nat):Int):=by omega
  rw[ha,Int.toNat_natCast]
  exact fdOk_hit h hl hp (by omega) w3 i k
theorem fd_max {n:Nat}{s:Mt}{F:Fnd}(h:FdOk n s F){m:Int}(h1:∀a,a<n->stAt s.st a<=m)(h2:∃a,a<n∧stAt s.st a=m):m=s.S:=by
 obtain⟨a,ha,ea⟩:=h2
 obtain⟨b,hb,eb⟩:=h.is
 have:=h.top a ha
 have:=h1 b hb
 omega
end Go.Proofs.YtgjoepdfhadmcaaGreatDoor
end

section
namespace Go.Proofs.YtgjoepdfhadmcaaGreatDoor
open Go.RowKit Go.Maps
set_option linter.unusedVariables false
set_option maxRecDepth 20000
theorem Tryz.laidOut:laidOutB Tryz.prog=true:=by kernel_rfl
theorem Tryz.rowLabel:(117:TypeId) < Tryz.prog.types.size:=of_decide_eq_true (by kernel_rfl)
theorem Tryz.wideLabel:(match Tryz.prog.underlying 117 with|some (.array _ _)|some (.struct _)=>true|_=>false)=true:=by kernel_rfl
theorem Tryz.keyedLabel:Keyed Tryz.prog 117:=Keyed.of_law (deep_law_laid Tryz.laidOut (m:=2) (by omega) Tryz.rowLabel (by kernel_rfl) Tryz.wideLabel)
theorem Tryz.mapType:Tryz.prog.underlying 111=some (.map 117 39):=by kernel_rfl
theorem Tryz.zeroPl (w:World):(zeroValue 39).run Tryz.prog w=.ok (.agg #[.int .i64 0,.int .i64 0]) w:=by kernel_rfl
def lbK (a s:Int):Lit:=.string (keyBytes [.int .i64 a,.int .i64 s])
theorem keyOf_label {a s:Int}(ha:(Lit.int .i64 a).wf=true)(hs:(Lit.int .i64 s).wf=true):keyOf Tryz.prog 117 (.agg #[.int .i64 a,.int .i64 s])=some (lbK a s):=by
 have h1:Tryz.prog.keyType 117=true:=by kernel_rfl
 have h3:Tryz.prog.cellsOf 117=2:=by kernel_rfl
 have h4:Tryz.prog.cellsOf 2=1:=by kernel_rfl
 have hf:(Value.agg #[.int .i64 a,.int .i64 s]).formed Tryz.prog 117=true:=by simp[Value.formed,Tryz.underlying117,h3]
 obtain⟨d,hd⟩:∃d,Tryz.prog.types.size=d+1:=⟨Tryz.prog.types.size-1,(Nat.sub_add_cancel (Nat.lt_of_le_of_lt (Nat.zero_le _) Tryz.rowLabel)).symm⟩
 have hi:∀x:Int,(Lit.int .i64 x).wf=true->Tryz.prog.keyLits (d+1) 2 [.int .i64 x]=some [.int .i64 x]:=fun x hx=>by
  unfold Program.keyLits
  rw[Tryz.underlying2]
  simp[hx]
 have hk:Tryz.prog.keyLits (d+1+1) 117 [.int .i64 a,.int .i64 s]=some [.int .i64 a,.int .i64 s]:=by
  unfold Program.keyLits
  rw[Tryz.underlying117]
  simp only[h3,List.length_cons,List.length_nil]
  simp[hi a ha,hi s hs,h4]
 unfold keyOf
 rw[Tryz.underlying117]
 dsimp only
 rw[h1,hf,hd]
 show(if(true&&true)=true then(Tryz.prog.keyLits (d+1+1) 117 [.int .i64 a,.int .i64 s]).map (fun ls=>Lit.string (keyBytes ls)) else none)=_
 rw[hk]
 rfl
theorem lbK_inj {a s a' s':Int}(ha:(Lit.int .i64 a).wf=true)(hs:(Lit.int .i64 s).wf=true)(ha':(Lit.int .i64 a').wf=true)(hs':(Lit.int .i64 s').wf=true)(h:lbK a s=lbK a' s'):a=a'∧s=s':=by
 have h1:=keyOf_label ha hs
 have h2:=keyOf_label ha' hs'
 rw[h] at h1
 have h3:=Tryz.keyedLabel.inj h1 h2
 simp only[Value.agg.injEq,Array.mk.injEq,List.cons.injEq,Value.int.injEq,true_and,and_true] at h3
 exact h3
def plD (p:Pl):DataW Unit:=.agg [.lit (.int .i64 p.1),.lit (.int .i64 p.2)]
def plV (p:Pl):Value:=.agg #[.int .i64 p.1,.int .i64 p.2]
theorem plV_inj {p q:Pl}(h:plV p=plV q):p=q:=by
 unfold plV at h
 simp only[Value.agg.injEq,Array.mk.injEq,List.cons.injEq,Value.int.injEq,true_and,and_true] at h
 exact Prod.ext h.1 h.2
open Classical in
noncomputable def plR (v:Value):Option (DataW Unit×List MemPlace):=if h:∃p,v=plV p then some (plD h.choose,[]) else none
theorem plR_of (p:Pl):plR (plV p)=some (plD p,[]):=by
 have h:∃q,plV p=plV q:=⟨p,rfl⟩
 unfold plR
 rw[dif_pos h,<- plV_inj h.choose_spec]
theorem plD_inj {p q:Pl}(h:plD p=plD q):p=q:=by
 unfold plD at h
 simp only[DataW.agg.injEq,List.cons.injEq,DataW.lit.injEq,Lit.int.injEq,true_and,and_true] at h
 exact Prod.ext h.1 h.2
theorem plR_inv {v:Value}{z:DataW Unit×List MemPlace}(h:plR v=some z):∃p,v=plV p∧z=(plD p,[]):=by
 by_cases hh:∃p,v=plV p
 ·obtain⟨p,rfl⟩:=hh
  rw[plR_of,Option.some.injEq] at h
  exact⟨p,rfl,h.symm⟩
 ·unfold plR at h
  rw[dif_neg hh] at h
  cases h
def MapAtM (w:World)(b n:Nat)(F:Fnd):Prop:=∃D:DataW Unit,w.ownsMap Tryz.prog 117 plR b n D∧∀a s,(Lit.int .i64 a).wf=true->(Lit.int .i64 s).wf=true->match F a s with|none=>Maps.has D (lbK a s)=false|some p=>Maps.has D (lbK a s)=true∧∀z,D.atKey (lbK a s) z=plD p
theorem mapAt_made (w:World):MapAtM (w.alloc (.map #[] 0)) w.heap.size 0 (fun _ _=>none) :=
 ⟨.map [],World.ownsMap_made w _ _ _,fun a s _ _=>rfl⟩
theorem MapAtM.kept {w w':World}{b n:Nat}{F:Fnd}(h:MapAtM w b n F)(hb:w'.heap[b]?=w.heap[b]?):MapAtM w' b n F:=by
 obtain⟨D,⟨es,c,h1,h2⟩,h3⟩:=h
 exact⟨D,⟨es,c,hb.trans h1,h2⟩,h3⟩
theorem MapAtM.lt {w:World}{b n:Nat}{F:Fnd}(h:MapAtM w b n F):b<w.heap.size:=by
 obtain⟨D,h1,_⟩:=h
 exact h1.lt
theorem MapAtM.look {w:World}{b n:Nat}{F:Fnd}(h:MapAtM w b n F){a s:Int}(ha:(Lit.int .i64 a).wf=true)(hs:(Lit.int .i64 s).wf=true) :
  (Instr.lookup 111 (.map (some b)) (.agg #[.int .i64 a,.int .i64 s]) true).run Tryz.prog w=.ok (.tuple #[plV ((F a s).getD (0,0)),.bool (F a s).isSome]) w:=by
 obtain⟨D,h1,h2⟩:=h
 obtain⟨v,ps,hrun,hv⟩:=h1.look_ok Tryz.keyedLabel Tryz.mapType (Tryz.zeroPl w) (plR_of (0,0)) (keyOf_label ha hs)
 have h3:=h2 a s ha hs
 rw[hrun]
 cases hF:F a s with
 | none =>
  rw[hF] at h3
  dsimp only at h3
  rw[atKey_of_not_has h3] at hv
  obtain⟨p,rfl,e⟩:=plR_inv hv
  simp only[Prod.mk.injEq] at e
  rw[<- plD_inj e.1,h3]
  rfl
 | some p =>
  rw[hF] at h3
  dsimp only at h3
  rw[h3.2] at hv
  obtain⟨q,rfl,e⟩:=plR_inv hv
  simp only[Prod.mk.injEq] at e
  rw[<- plD_inj e.1,h3.1]
  rfl
theorem MapAtM.put {w:World}{b n:Nat}{F:Fnd}(h:MapAtM w b n F)(hn:n<maxLen){a s:Int}(ha:(Lit.int .i64 a).wf=true)(hs:(Lit.int .i64 s).wf=true)(p:Pl) :
  ∃w',(Instr.mapUpdate 111 (.map (some b)) (.agg #[.int .i64 a,.int .i64 s]) (plV p)).run Tryz.prog w=.ok () w'∧MapAtM w' b (n+1) (fndPut F a s p)∧Aside b (b+1) w w':=by
 obtain⟨D,h1,h2⟩:=h
 have hk:=keyOf_label ha hs
 obtain⟨w',hrun,h3,h4⟩:=h1.store Tryz.keyedLabel Tryz.mapType hn hk (plR_of p)
 refine⟨w',hrun,⟨_,h3,fun a' s' ha' hs'=>?_⟩,?_⟩
 ·unfold fndPut
  by_cases e:a'=a∧s'=s
  ·rw[if_pos e,e.1,e.2]
   exact⟨has_put_same h1.isMap (Tryz.keyedLabel.key hk) _,fun z=>atKey_put_same h1.isMap (Tryz.keyedLabel.key hk) _ z⟩
  ·rw[if_neg e]
   have hne:lbK a' s'≠lbK a s:=fun e'=>e (lbK_inj ha' hs' ha hs e')
   have h5:=h2 a' s' ha' hs'
   cases hF:F a' s' with
   | none=>rw[hF] at h5;dsimp only at h5 ⊢;rw[has_put_other hne];exact h5
   | some q=>rw[hF] at h5;dsimp only at h5 ⊢;rw[has_put_other hne];exact⟨h5.1,fun z=>by rw[atKey_put_other hne];exact h5.2 z⟩
 ·have hg:=h4.grown
  exact⟨hg.os,hg.tape,hg.output,hg.size,fun k hk' hh=>hg.block k hk' (by simp only[ne_eq,Option.some.injEq];omega)⟩
end Go.Proofs.YtgjoepdfhadmcaaGreatDoor
end

section
namespace Go.Proofs.YtgjoepdfhadmcaaGreatDoor
open Go.RowKit
set_option linter.unusedVariables false
set_option maxRecDepth 20000
structure Two (b G:Nat)(w w':World):Prop where
 os:w'.os=w.os
 tape:w'.tape=w.tape
 output:w'.output=w.output
 size:w.heap.size<=w'.heap.size
 block:∀k,k<w.heap.size->k≠b->k≠G->w'.heap[k]?=w.heap[k]?
theorem Two.refl (b G:Nat)(w:World):Two b G w w:=⟨rfl,rfl,rfl,Nat.le_refl _,fun _ _ _ _=>rfl⟩
theorem Two.trans {b G:Nat}{w w1 w2:World}(h:Two b G w w1)(k:Two b G w1 w2):Two b G w w2 :=
 ⟨k.os.trans h.os,k.tape.trans h.tape,k.output.trans h.output,Nat.le_trans h.size k.size,fun x h1 h2 h3=>(k.block x (Nat.lt_of_lt_of_le h1 h.size) h2 h3).trans (h.block x h1 h2 h3)⟩
theorem Two.of_below {b G:Nat}{w w':World}(h:Below w.heap.size w w'):Two b G w w':=⟨h.os,h.tape,h.output,h.size,fun k h1 _ _=>h.block k h1⟩
theorem Two.of_one {b G:Nat}{w w':World}(h:Aside b (b+1) w w'):Two b G w w':=⟨h.os,h.tape,h.output,h.size,fun k h1 h2 _=>h.block k h1 (by omega)⟩
theorem Two.of_two {b G:Nat}{w w':World}(h:Aside G (G+1) w w'):Two b G w w':=⟨h.os,h.tape,h.output,h.size,fun k h1 _ h2=>h.block k h1 (by omega)⟩
theorem Two.below {b G B:Nat}{w w':World}(h:Two b G w w')(hb:B<=b)(hG:B<=G)(hB:B<=w.heap.size):Below B w w':=⟨h.os,h.tape,h.output,h.size,fun k hk=>h.block k (by omega) (by omega) (by omega)⟩
theorem Two.drew {b G:Nat}{w w':World}(h:Two b G w w'):Two b G w w'.drew:=⟨h.os,h.tape,h.output,h.size,h.block⟩
structure FdAt (w:World)(b G N cnt:Nat)(st:List Int)(F:Fnd):Prop where
 map:MapAtM w b cnt F
 row:Owned G (G+1) w (some ⟨G,0,none⟩) N (fun j=>.int .i64 (stAt st j))
 len:st.length=N
 ne:b≠G
theorem FdAt.later {w w':World}{b G N cnt:Nat}{st:List Int}{F:Fnd}(h:FdAt w b G N cnt st F)(hb:Below w.heap.size w w'):FdAt w' b G N cnt st F :=
 ⟨h.map.kept (hb.block b h.map.lt),h.row.later hb h.row.1,h.len,h.ne⟩
theorem set_max (st:List Int){a:Nat}(t:Int)(h:a<st.length):st.set a (max (stAt st a) t)=if t > stAt st a then st.set a t else st:=by
 split
 ·rename_i hg;rw[show max (stAt st a) t=t by omega]
 ·rename_i hg
  rw[show max (stAt st a) t=stAt st a by omega]
  unfold stAt
  rw[List.getD_eq_getElem?_getD,List.getElem?_eq_getElem h]
  simp
theorem mapAt_mono {w:World}{b n:Nat}{F:Fnd}(h:MapAtM w b n F):MapAtM w b (n+1) F:=by
 obtain⟨D,h1,h2⟩:=h
 exact⟨D,h1.mono (Nat.le_succ _),h2⟩
set_option maxHeartbeats 3200000 in
theorem add_any (b G N cnt a:Nat)(st:List Int)(F:Fnd)(kd t:Int)(tx:ByteArray)(p q:Int)(w:World)(h:FdAt w b G N cnt st F)(ha:a<N)(hN:N<=64)(ht1:1<=t)(ht2:t<=1000000)(hcnt:cnt<=1000) :
  Calls Tryz.prog 137 #[.agg #[.map (some b),.slice (some ⟨G,0,none⟩) N N],.agg #[.int .i64 kd,.int .i64 (a:Int),.int .i64 t,.string tx],.agg #[.int .i64 p,.int .i64 q]] w fun e w'=>e=.returned (.tuple #[])∧FdAt w' b G N (cnt+1) (st.set a (max (stAt st a) t)) (fndAdd F (a:Int) t (p,q))∧Two b G w w':=by
 have hwa:(Lit.int .i64 (a:Int)).wf=true:=WalkArith.wf_i64 (by omega)
 have hwt:(Lit.int .i64 t).wf=true:=WalkArith.wf_i64 (by omega)
 obtain⟨wA,hwA⟩:∃wA,wA=(((w.alloc (.cells #[.map (some b),.slice (some ⟨G,0,none⟩) N N] 113)).alloc (.cells #[.int .i64 kd,.int .i64 (a:Int),.int .i64 t,.string tx] 31)).alloc (.cells #[.int .i64 p,.int .i64 q] 39)).alloc (.cells #[.int .i64 (a:Int),.int .i64 t] 117):=⟨_,rfl⟩
 have hzA:wA.heap.size=w.heap.size+1+1+1+1:=by rw[hwA];simp
 have HBA:Hid (Below w.heap.size w wA):=by rw[hwA];exact((((Below.refl _ _).alloc (Nat.le_refl _) _).alloc (by simp) _).alloc (by simp;omega) _).alloc (by simp;omega) _
 have H0:Hid (wA.heap[w.heap.size]?=some (.cells #[.map (some b),.slice (some ⟨G,0,none⟩) N N] 113)):=by rw[hwA];exact heap_old (heap_old (heap_old (heap_new _ _)))
 have H1:Hid (wA.heap[w.heap.size+1]?=some (.cells #[.int .i64 kd,.int .i64 (a:Int),.int .i64 t,.string tx] 31)):=by rw[hwA];exact heap_old (heap_old (heap_at (by simp)))
 have H2:Hid (wA.heap[w.heap.size+1+1]?=some (.cells #[.int .i64 p,.int .i64 q] 39)):=by rw[hwA];exact heap_old (heap_at (by simp))
 have H3:Hid (wA.heap[w.heap.size+1+1+1]?=some (.cells #[.int .i64 (a:Int),.int .i64 t] 117)):=by rw[hwA];exact heap_at (by simp)
 have HFA:=hide (h.later HBA.out)
 have hbl:=h.map.lt
 have hGl:G<w.heap.size:=by have:=h.row.1;omega
 clear h
 go_enter Tryz.func137,Tryz.ntmps137
 go_upto_region 2 with fail
 rw[<- hwA]
 clear hwA
 obtain⟨c0,c1⟩:=two_cells H0.out
 obtain⟨l0,l1⟩:=two_cells H3.out
 have hlook:=HFA.out.map.look hwa hwt
 obtain⟨v,hv⟩:∃v,v=F (a:Int) t:=⟨_,rfl⟩
 have HV:=hide hv
 rw[<- hv] at hlook
 clear hv
 have haN:(a:Int)<(N:Int):=by omega
 cases v with
 | none =>
  have HFP:Hid (fndAdd F (a:Int) t (p,q)=fndPut F (a:Int) t (p,q)):=by show _=_;unfold fndAdd;rw[<- HV.out];rfl
  unfold plV at hlook
  simp only[Option.getD_none,Option.isSome_none] at hlook
  obtain⟨wB,hwB⟩:∃wB,wB=wA.alloc (.cells #[.int .i64 0,.int .i64 0] 39):=⟨_,rfl⟩
  have hzB:wB.heap.size=wA.heap.size+1:=by rw[hwB];simp
  have HBB:Hid (Below wA.heap.size wA wB):=by rw[hwB];exact(Below.refl _ _).alloc (Nat.le_refl _) _
  have HZB:=hide hzB
  clear hzB
  go_upto_region 4 with fail
  rw[<- hwB]
  clear hwB c0 c1 l0 l1 hlook
  have HFB:=hide (HFA.out.later HBB.out)
  obtain⟨w2,hput,hm2,hA2⟩:=HFB.out.map.put (by unfold maxLen;omega) hwa hwt (p,q)
  unfold plV at hput
  have HM2:=hide hm2
  have K0:Hid (w2.heap[w.heap.size]?=some (.cells #[.map (some b),.slice (some ⟨G,0,none⟩) N N] 113)):=(hA2.block _ (by have:=HZB.out;omega) (by omega)).trans (block_on H0.out HBB.out)
  have K1:Hid (w2.heap[w.heap.size+1]?=some (.cells #[.int .i64 kd,.int .i64 (a:Int),.int .i64 t,.string tx] 31)):=(hA2.block _ (by have:=HZB.out;omega) (by omega)).trans (block_on H1.out HBB.out)
  have HR2:=hide (HFB.out.row.aside hA2 (by have:=HFB.out.ne;omega))
  have HT2:=hide ((Two.of_below (b:=b) (G:=G) (below_here HBA.out HBB.out)).trans (Two.of_one hA2))
  have HLN:=hide HFB.out.len
  have HNE:=hide HFB.out.ne
  obtain⟨c0,c1⟩:=two_cells (block_on H0.out HBB.out)
  obtain⟨l0,l1⟩:=two_cells (block_on H3.out HBB.out)
  obtain⟨q0,q1⟩:=two_cells (block_on H2.out HBB.out)
  clear hm2 hA2
  go_upto_region 5 with fail
  clear c0 c1 l0 l1 q0 q1 hput
  obtain⟨d0,d1⟩:=two_cells K0.out
  obtain⟨e0,e1,e2,e3⟩:=four_cells K1.out
  obtain⟨g0,g1⟩:=HR2.out.at0 ha
  have HSET:=hide ((HR2.out.set0 ha (.int .i64 (max (stAt st a) t))).congr (g:=fun j=>.int .i64 (stAt (st.set a (max (stAt st a) t)) j)) (fun j _=>by
   show(if j=a then Value.int .i64 (max (stAt st a) t) else .int .i64 (stAt st j))=_
   rw[stAt_set st _ (by rw[HLN.out];exact ha)]
   split<;>rfl))
  have HTS:=hide (HT2.out.trans (Two.of_two (b:=b) ((Aside.refl G (G+1) w2).setCell (p:=⟨G,a,none⟩) (Nat.le_refl _) (Nat.lt_succ_self _) (.int .i64 (max (stAt st a) t)))))
  have HMS:=hide (HM2.out.kept (show(w2.setCell ⟨G,a,none⟩ (.int .i64 (max (stAt st a) t))).heap[b]?=w2.heap[b]? from((Aside.refl G (G+1) w2).setCell (p:=⟨G,a,none⟩) (Nat.le_refl _) (Nat.lt_succ_self _) (.int .i64 (max (stAt st a) t))).block b HM2.out.lt (by have:=HNE.out;omega)))
  obtain⟨X,hX⟩:∃X,X=stAt st a:=⟨_,rfl⟩
  rw[<- hX] at g0 HSET HTS HMS
  have HX:=hide hX
  clear hX
  go_region
  go_wp2_with fail
  go_end0
  rw[<- HX.out]
  refine⟨rfl,⟨?_,HSET.out,by rw[List.length_set];exact HLN.out,HNE.out⟩,HTS.out.drew⟩
  rw[HFP.out]
  exact HMS.out
 | some v =>
  have HFP:Hid (fndAdd F (a:Int) t (p,q)=F):=by show _=_;unfold fndAdd;rw[<- HV.out];rfl
  unfold plV at hlook
  simp only[Option.getD_some,Option.isSome_some] at hlook
  obtain⟨w2,hwB⟩:∃wB,wB=wA.alloc (.cells #[.int .i64 v.1,.int .i64 v.2] 39):=⟨_,rfl⟩
  have hzB:w2.heap.size=wA.heap.size+1:=by rw[hwB];simp
  have HBB:Hid (Below wA.heap.size wA w2):=by rw[hwB];exact(Below.refl _ _).alloc (Nat.le_refl _) _
  have HZB:=hide hzB
  clear hzB
  go_upto_region 5 with fail
  rw[<- hwB]
  clear hwB c0 c1 l0 l1 hlook
  have HFB:=hide (HFA.out.later HBB.out)
  have HM2:=hide HFB.out.map
  have K0:=hide (block_on H0.out HBB.out)
  have K1:=hide (block_on H1.out HBB.out)
  have HR2:=hide HFB.out.row
  have HT2:=hide (Two.of_below (b:=b) (G:=G) (below_here HBA.out HBB.out))
  have HLN:=hide HFB.out.len
  have HNE:=hide HFB.out.ne
  obtain⟨d0,d1⟩:=two_cells K0.out
  obtain⟨e0,e1,e2,e3⟩:=four_cells K1.out
  obtain⟨g0,g1⟩:=HR2.out.at0 ha
  have HSET:=hide ((HR2.out.set0 ha (.int .i64 (max (stAt st a) t))).congr (g:=fun j=>.int .i64 (stAt (st.set a (max (stAt st a) t)) j)) (fun j _=>by
   show(if j=a then Value.int .i64 (max (stAt st a) t) else .int .i64 (stAt st j))=_
   rw[stAt_set st _ (by rw[HLN.out];exact ha)]
   split<;>rfl))
  have HTS:=hide (HT2.out.trans (Two.of_two (b:=b) ((Aside.refl G (G+1) w2).setCell (p:=⟨G,a,none⟩) (Nat.le_refl _) (Nat.lt_succ_self _) (.int .i64 (max (stAt st a) t)))))
  have HMS:=hide (HM2.out.kept (show(w2.setCell ⟨G,a,none⟩ (.int .i64 (max (stAt st a) t))).heap[b]?=w2.heap[b]? from((Aside.refl G (G+1) w2).setCell (p:=⟨G,a,none⟩) (Nat.le_refl _) (Nat.lt_succ_self _) (.int .i64 (max (stAt st a) t))).block b HM2.out.lt (by have:=HNE.out;omega)))
  obtain⟨X,hX⟩:∃X,X=stAt st a:=⟨_,rfl⟩
  rw[<- hX] at g0 HSET HTS HMS
  have HX:=hide hX
  clear hX
  go_region
  go_wp2_with fail
  go_end0
  rw[<- HX.out]
  refine⟨rfl,⟨?_,HSET.out,by rw[List.length_set];exact HLN.out,HNE.out⟩,HTS.out.drew⟩
  rw[HFP.out]
  exact mapAt_mono HMS.out
end Go.Proofs.YtgjoepdfhadmcaaGreatDoor
end

