/- Several texts in one: FtlImplA, FtlImplH, FtlImplB, FtlImplC, SameI, FindImpl2, MountImpl. -/
import Derived.Test.YtgjoepdfhadmcaaGreatDoorMFtlMath
import Derived.Test.YtgjoepdfhadmcaaGreatDoorMChipOwn2
import Derived.Test.YtgjoepdfhadmcaaGreatDoorMLyImplD
import Derived.Test.YtgjoepdfhadmcaaGreatDoorMChipImplF
import Derived.Deep.RegionHeld3
import Derived.Deep.DeepCutAuto
import Derived.BigQuiet
import Derived.Test.YtgjoepdfhadmcaaGreatDoorMFtlImplG
import Derived.Test.YtgjoepdfhadmcaaGreatDoorMChipCutS
import Derived.Test.YtgjoepdfhadmcaaGreatDoorMWearImplE
import Derived.Test.YtgjoepdfhadmcaaGreatDoorMFtlOwnP
import Derived.Test.YtgjoepdfhadmcaaGreatDoorMPageBase
import Derived.Test.YtgjoepdfhadmcaaGreatDoorMFtlImplF
import Derived.Test.YtgjoepdfhadmcaaGreatDoorMCopyBase
import Derived.Test.YtgjoepdfhadmcaaGreatDoorMInfo
section
namespace Go.Proofs.YtgjoepdfhadmcaaGreatDoor
open Go.RowKit
set_option linter.unusedVariables false
set_option maxRecDepth 20000
def mayOp (qs:List Sq)(op:Int):Bool:=(op== -1)||(inB op 0 ((qs.length:Int)-1)&&!(sqAt qs op.toNat).2.2)
theorem mayOp_is (qs:List Sq)(op:Int):mayOp qs op=(inB op (-1) ((qs.length:Int)-1)&&opOk qs op):=by
 unfold mayOp opOk inB
 by_cases e:op = -1
 ·subst e
  simp
  omega
 ·by_cases h0:0<=op
  ·have h1:decide (-1<=op)=true:=by simp;omega
   have h2:decide (op>=0)=true:=by simpa using h0
   have h3:decide (0<=op)=true:=by simpa using h0
   rw[h1,h2,show(op== -1)=false by simpa using e]
   simp
  ·have h1:decide (-1<=op)=false:=by simp;omega
   have h3:decide (0<=op)=false:=by simpa using h0
   rw[h1,h3,show(op== -1)=false by simpa using e]
   simp
set_option maxHeartbeats 1600000 in
theorem mayBeOpen_any (z:Int)(a:Option Addr)(n cap:Nat)(qs:List Sq)(op:Int)(w:World){lo hi:Nat}(h:Squares lo hi w a n qs)(hhi:hi<=w.heap.size)(hn:n<=1048576) :
  Calls Tryz.prog 87 #[.agg #[.int .i64 z,.slice a n cap],.int .i64 op] w fun e w'=>e=.returned (.bool (mayOp qs op))∧Below w.heap.size w w':=by
 obtain⟨wA,hwA⟩:∃wA,wA=w.alloc (.cells #[.int .i64 z,.slice a n cap] 26):=⟨_,rfl⟩
 have hzA:wA.heap.size=w.heap.size+1:=by rw[hwA];simp
 have HBA:Hid (Below w.heap.size w wA):=by rw[hwA];exact(Below.refl _ _).alloc (Nat.le_refl _) _
 have H0:Hid (wA.heap[w.heap.size]?=some (.cells #[.int .i64 z,.slice a n cap] 26)):=by rw[hwA];exact heap_new _ _
 have HS:=hide (h.later HBA.out hhi)
 have HL:=hide h.1
 clear h
 obtain⟨c0,c1⟩:=two_cells H0.out
 by_cases e1:op = -1
 ·subst e1
  go_enter Tryz.func87,Tryz.ntmps87
  go_wp2_with fail
  rw[<- hwA]
  go_ret
  exact⟨rfl,HBA.out⟩
 ·have g1:(op== -1)=false:=by simpa using e1
  have HM:Hid (mayOp qs op=(inB op 0 ((n:Int)-1)&&!(sqAt qs op.toNat).2.2)):=by show _=_;unfold mayOp;rw[g1,HL.out];rfl
  go_enter Tryz.func87,Tryz.ntmps87
  go_wp2_with fail
  rw[<- hwA]
  clear hwA
  refine(hasSquare_any z a n cap op wA).mono ?_
  rintro e w1 ⟨rfl,b1⟩
  have K0:=hide (block_on H0.out b1)
  have HS1:=hide (HS.out.later b1 (by omega))
  have HB1:=hide (below_here HBA.out b1)
  have hs1:=b1.size
  clear b1 c0 c1
  obtain⟨c0,c1⟩:=two_cells K0.out
  cases hin:inB op 0 ((n:Int)-1) with
  | false =>
   go_wp2_with fail
   go_ret
   exact⟨ret_bool (by rw[HM.out,hin];rfl),HB1.out⟩
  | true =>
   have hin2:=hin
   unfold inB at hin2
   simp only[Bool.and_eq_true,decide_eq_true_eq] at hin2
   obtain⟨i,rfl⟩:∃i:Nat,op=(i:Int):=⟨op.toNat,by omega⟩
   have hlt:i<n:=by omega
   have hlt2:(i:Int)<(n:Int):=by omega
   obtain⟨_,A,C,hx,ht⟩:=HS1.out
   obtain⟨b,off,rfl,_,hb,hc⟩:=hx.2 (by omega)
   obtain⟨y0,y1,y2⟩:=sq_cells hc (Below.refl w1.heap.size w1) (show b<w1.heap.size by have:=hx.1;omega) hlt
   rw[hin,Bool.true_and,Int.toNat_natCast] at HM
   generalize (sqAt qs i).2.2=bd at *
   clear hc hx ht hin
   go_wp2_with fail
   go_ret
   exact⟨ret_bool (by rw[HM.out]),HB1.out⟩
set_option maxHeartbeats 800000 in
theorem hasNumber_any (v0 v1:Value)(am:Option Addr)(m cm:Nat)(v3 v4:Value)(at_:Int)(w:World)(hm:m<=maxLen) :
  Calls Tryz.prog 84 #[.agg #[v0,v1,.slice am m cm,v3,v4],.int .i64 at_] w fun e w'=>e=.returned (.bool (inB at_ 0 ((m:Int)-1)))∧Below w.heap.size w w':=by
 obtain⟨wA,hwA⟩:∃wA,wA=w.alloc (.cells #[v0,v1,.slice am m cm,v3,v4] 29):=⟨_,rfl⟩
 have HBA:Hid (Below w.heap.size w wA):=by rw[hwA];exact(Below.refl _ _).alloc (Nat.le_refl _) _
 have H0:Hid (wA.heap[w.heap.size]?=some (.cells #[v0,v1,.slice am m cm,v3,v4] 29)):=by rw[hwA];exact heap_new _ _
 obtain⟨c0,c1,c2,c3,c4⟩:=five_cells H0.out
 by_cases h0:0<=at_
 ·have g0:decide (at_>=0)=true:=by simpa using h0
  have HE:Hid (inB at_ 0 ((m:Int)-1)=decide (at_<(m:Int))):=by
   show _=_
   unfold inB
   rw[decide_eq_true h0,Bool.true_and]
   by_cases h1:at_<(m:Int)
   ·rw[decide_eq_true h1,decide_eq_true (by omega)]
   ·rw[decide_eq_false h1,decide_eq_false (by omega)]
  go_enter Tryz.func84,Tryz.ntmps84
  go_wp2_with fail
  rw[<- hwA]
  go_ret
  exact⟨ret_bool HE.out.symm,HBA.out⟩
 ·have g0:decide (at_>=0)=false:=by simpa using h0
  have HE:Hid (inB at_ 0 ((m:Int)-1)=false):=by show _=_;unfold inB;rw[decide_eq_false h0];rfl
  go_enter Tryz.func84,Tryz.ntmps84
  go_wp2_with fail
  rw[<- hwA]
  go_ret
  exact⟨ret_bool HE.out.symm,HBA.out⟩
def pgV4 (r:Int×Int×Int×ByteArray×Int):Value:=.agg #[.int .i64 r.1,.int .i64 r.2.1,.int .i64 r.2.2.1,.string r.2.2.2.1]
set_option maxHeartbeats 3200000 in
theorem pageLying_any (z:Int)(a:Option Addr)(n cap:Nat)(qs:List Sq)(s k:Nat)(w:World){lo hi:Nat}(h:Squares lo hi w a n qs)(hhi:hi<=w.heap.size)(hs:s<n)(hk:k<(sqAt qs s).1.length)(hl8:(sqAt qs s).1.length<=8)(hn:n<=1048576)(hz:(txAt qs s k).size<=1048576)(hT:Tab w){aB aL aS aC aF:Addr}(E:Errs w aB aL aS aC aF) :
  Calls Tryz.prog 89 #[.agg #[.int .i64 z,.slice a n cap],.agg #[.int .i64 (s:Int),.int .i64 (k:Int)]] w fun e w'=>e=.returned (.tuple #[pgV4 (lyP (txAt qs s k)),.bool (lyWell (lyP (txAt qs s k)).2.2.2.2)])∧Below w.heap.size w w':=by
 obtain⟨wA,hwA⟩:∃wA,wA=((w.alloc (.cells #[.int .i64 z,.slice a n cap] 26)).alloc (.cells #[.int .i64 (s:Int),.int .i64 (k:Int)] 39)).alloc (.cells #[.int .i64 0,.int .i64 0,.int .i64 0,.string ⟨#[]⟩] 31):=⟨_,rfl⟩
 have hzA:wA.heap.size=w.heap.size+1+1+1:=by rw[hwA];simp
 have HBA:Hid (Below w.heap.size w wA):=by rw[hwA];exact((((Below.refl _ _).alloc (Nat.le_refl _) _).alloc (by simp) _).alloc (by simp;omega) _)
 have H0:Hid (wA.heap[w.heap.size]?=some (.cells #[.int .i64 z,.slice a n cap] 26)):=by rw[hwA];exact heap_old (heap_old (heap_new _ _))
 have H1:Hid (wA.heap[w.heap.size+1]?=some (.cells #[.int .i64 (s:Int),.int .i64 (k:Int)] 39)):=by rw[hwA];exact heap_old (heap_at (by simp))
 have H2:Hid (wA.heap[w.heap.size+1+1]?=some (.cells #[.int .i64 0,.int .i64 0,.int .i64 0,.string ⟨#[]⟩] 31)):=by rw[hwA];exact heap_at (by simp)
 have HTA:=hide (hT.here HBA.out)
 have HEA:=hide (E.here HBA.out)
 obtain⟨_,A,C,hx,ht⟩:=h.later HBA.out hhi
 obtain⟨b,off,rfl,_,hb,hc⟩:=hx.2 (by omega)
 have hbA:b<wA.heap.size:=by have:=hx.1;omega
 obtain⟨y0,_,_⟩:=sq_cells hc (Below.refl wA.heap.size wA) hbA hs
 obtain⟨_,_,hpx⟩:=ht s hs
 obtain⟨pb,po,hAs,_,hpb,hpc⟩:=hpx (by omega)
 have ytx:=hpc k hk
 have hpA:pb<wA.heap.size:=by have:=hx.1;omega
 rw[hAs] at y0
 have etx:cellT (sqAt qs s).1 k=.string (txAt qs s k):=rfl
 rw[etx] at ytx
 obtain⟨tx,htx⟩:∃tx,tx=txAt qs s k:=⟨_,rfl⟩
 rw[<- htx] at ytx hz
 rw[<- htx]
 have hs2:(s:Int)<(n:Int):=by omega
 obtain⟨L,hL⟩:∃L,L=(sqAt qs s).1.length:=⟨_,rfl⟩
 rw[<- hL] at y0 hk hl8
 have hk2:(k:Int)<(L:Int):=by omega
 obtain⟨r,hr⟩:∃r,r=lyP tx:=⟨_,rfl⟩
 have HCL:∀w',Hid (Below wA.heap.size wA w'->Calls Tryz.prog 102 #[.string tx] w' fun e w''=>e=.returned (lyV r)∧Below w'.heap.size w' w''):=fun w' hb'=>by
  rw[hr]
  exact implLying_any tx w' (HTA.out.here hb') (HEA.out.here hb') hz
 rw[<- hr]
 clear h hc hx ht hpx hpc hT E htx hL hr etx hAs
 obtain⟨r0,r1,r2,r3,r4⟩:=r
 unfold lyV at HCL
 unfold pgV4
 dsimp only at HCL ⊢
 obtain⟨c0,c1⟩:=two_cells H0.out
 obtain⟨d0,d1⟩:=two_cells H1.out
 have HK:∀w',Hid (Below wA.heap.size wA w'->w'.cell? ⟨w.heap.size,1,none⟩=some (.slice (some ⟨b,off,none⟩) n cap)∧w'.cell? ⟨w.heap.size+1,0,none⟩=some (.int .i64 (s:Int))∧w'.cell? ⟨w.heap.size+1,1,none⟩=some (.int .i64 (k:Int))∧w'.cell? ⟨b,off+s*3,none⟩=some (.slice (some ⟨pb,po,none⟩) L (C s))∧w'.cell? ⟨pb,po+k,none⟩=some (.string tx)):=fun w' hb'=>⟨(hb'.cell (p:=⟨_,_,none⟩) (by show w.heap.size<_;omega)).trans c1,(hb'.cell (p:=⟨_,_,none⟩) (by show w.heap.size+1<_;omega)).trans d0,(hb'.cell (p:=⟨_,_,none⟩) (by show w.heap.size+1<_;omega)).trans d1,(hb'.cell (p:=⟨_,_,none⟩) hbA).trans y0,(hb'.cell (p:=⟨_,_,none⟩) hpA).trans ytx⟩
 go_enter Tryz.func89,Tryz.ntmps89
 go_upto_region 1 with fail
 rw[<- hwA]
 clear hwA
 have HZA:=hide hzA
 clear hzA
 go_cut [6,7] (fun v q wx=>∃g,v=.pointer (some ⟨g,0,none⟩)∧q=.int .i64 r4∧wA.heap.size<=g∧wx.heap[g]?=some (.cells #[.int .i64 r0,.int .i64 r1,.int .i64 r2,.string r3] 31)∧Below wA.heap.size wA wx)
 case first =>
  have HB0:Hid (Below wA.heap.size wA wA.drew):=(Below.refl wA.heap.size wA).drew
  have HBa:Hid (Below wA.heap.size wA (wA.alloc (.cells #[.int .i64 0,.int .i64 0,.int .i64 0,.string ⟨#[]⟩] 31)).drew):=((Below.refl wA.heap.size wA).alloc (Nat.le_refl _) _).drew
  have HEa:Hid ((wA.alloc (.cells #[.int .i64 0,.int .i64 0,.int .i64 0,.string ⟨#[]⟩] 31)).drew.heap[wA.heap.size]?=some (.cells #[.int .i64 0,.int .i64 0,.int .i64 0,.string ⟨#[]⟩] 31)):=heap_new wA _
  go_region_held3 (fun w'=>w'.cell? ⟨w.heap.size,1,none⟩=some (.slice (some ⟨b,off,none⟩) n cap)∧w'.cell? ⟨w.heap.size+1,0,none⟩=some (.int .i64 (s:Int))∧w'.cell? ⟨w.heap.size+1,1,none⟩=some (.int .i64 (k:Int))∧w'.cell? ⟨b,off+s*3,none⟩=some (.slice (some ⟨pb,po,none⟩) L (C s))∧w'.cell? ⟨pb,po+k,none⟩=some (.string tx))
   (first|exact(HK _).out HB0.out|exact(HK _).out HBa.out|exact(HK _).out HB5.out|exact(HK _).out HBS.out|exact(HK _).out HB6.out|exact⟨c1,d0,d1,y0,ytx⟩|fail)
   (first
    | (go_at_call 102;refine((HCL _).out HB0.out).mono ?_;rintro e w5 ⟨rfl,b5⟩;have HB5:=hide (below_here HB0.out b5);have hs5:=b5.size;have HB6:=hide (HB5.out.alloc HB5.out.size (.cells #[.int .i64 0,.int .i64 0,.int .i64 0,.string ⟨#[]⟩] 31));have HBS:=hide (HB5.out.alloc HB5.out.size (.cells #[.int .i64 r0,.int .i64 r1,.int .i64 r2,.string r3] 31));have HRS:=hide (heap_new w5 (.cells #[.int .i64 r0,.int .i64 r1,.int .i64 r2,.string r3] 31)))
    | (go_at_call 102;refine((HCL _).out HBa.out).mono ?_;rintro e w5 ⟨rfl,b5⟩;have HB5:=hide (below_here HBa.out b5);have hs5:=b5.size;have E5:=hide (block_on HEa.out b5);obtain⟨e0,e1,e2,e3⟩:=four_cells E5.out;have f0:=four_frozen E5.out 0;have f1:=four_frozen E5.out 1;have f2:=four_frozen E5.out 2;have f3:=four_frozen E5.out 3;have HRS:=hide (four_set E5.out (.int .i64 r0) (.int .i64 r1) (.int .i64 r2) (.string r3));have HBS:=hide (four_below (b:=wA.heap.size) HB5.out (Nat.le_refl _) (.int .i64 r0) (.int .i64 r1) (.int .i64 r2) (.string r3))))
  all_goals
   have HG5:=hide HB5.out.size
   clear HB0 HBa HEa HK HCL c0 c1 d0 d1 y0 ytx b5 HB5 hs5
   go_wp2_with fail
   go_meet
   exact⟨_,rfl,rfl,by first|exact HG5.out|exact Nat.le_refl _,HRS.out,HBS.out⟩
 case rest =>
  obtain⟨g,rfl,rfl,hgl,hrs,hb5⟩:=hcut
  obtain⟨w5,hw5⟩:∃w5,w5=wc:=⟨_,rfl⟩
  subst hw5
  have HB5:=hide (below_here HBA.out hb5)
  have K2:=hide (block_on H2.out hb5)
  have hzA:=HZA.out
  have hs5:=hb5.size
  clear hb5 HK HCL c0 c1 d0 d1 y0 ytx
  obtain⟨e0,e1,e2,e3⟩:=four_cells hrs
  obtain⟨p0,p1,p2,p3⟩:=four_cells K2.out
  have f0:=four_frozen K2.out 0
  have f1:=four_frozen K2.out 1
  have f2:=four_frozen K2.out 2
  have f3:=four_frozen K2.out 3
  have HRS:=hide (four_set K2.out (.int .i64 r0) (.int .i64 r1) (.int .i64 r2) (.string r3))
  have HBS:=hide (four_below (b:=w.heap.size+1+1) HB5.out (by omega) (.int .i64 r0) (.int .i64 r1) (.int .i64 r2) (.string r3))
  have HLW:Hid (lyWell r4=((r4==1)||(r4==2))):=rfl
  by_cases h1:r4=1
  ·subst h1
   go_wp2_with fail
   refine bodyPost_ret (results_ct rfl rfl (run_loadVar_row _ _ _ _ _ _ _ HRS.out Tryz.underlying31 rfl (by kernel_rfl))) rfl ⟨rfl,HBS.out⟩
  ·have g1:(r4==1)=false:=by simpa using h1
   rw[g1] at HLW
   go_wp2_with fail
   refine bodyPost_ret (results_ct rfl rfl (run_loadVar_row _ _ _ _ _ _ _ HRS.out Tryz.underlying31 rfl (by kernel_rfl))) rfl ⟨by rw[HLW.out];rfl,HBS.out⟩
theorem pgOf_there {z:Int}{qs:List Sq}{s k:Nat}(hok:chipOk z qs=true)(hs:s<qs.length)(hk:k<(sqAt qs s).1.length):pgOf z qs ((s:Int),(k:Int))=lyP (txAt qs s k):=by
 unfold pgOf
 congr 1
 unfold pageAt txAt inB
 rw[hok]
 simp only[Int.toNat_natCast]
 rw[if_pos]
 simp only[Bool.true_and,Bool.and_eq_true,decide_eq_true_eq]
 omega
end Go.Proofs.YtgjoepdfhadmcaaGreatDoor
end

section
namespace Go.Proofs.YtgjoepdfhadmcaaGreatDoor
open Go.RowKit
set_option linter.unusedVariables false
set_option maxRecDepth 20000
set_option maxHeartbeats 1600000 in
theorem clonePl_any (b off m cm:Nat)(ps:List Pl)(w:World){lo hi:Nat}(hp:Places lo hi w (some ⟨b,off,none⟩) m ps)(hhi:hi<=w.heap.size)(hm1:1<=m)(hm:m<=64) :
  Calls Tryz.prog 150 #[.slice (some ⟨b,off,none⟩) m cm] w fun e w'=>∃gm cm',e=.returned (.slice (some ⟨gm,0,none⟩) m cm')∧PlOwn w.heap.size w' (.slice (some ⟨gm,0,none⟩) ps.length cm') ps∧Below w.heap.size w w':=by
 obtain⟨wC,hwC⟩:∃wC,wC=w.alloc (.cells #[] 39):=⟨_,rfl⟩
 have hzC:wC.heap.size=w.heap.size+1:=by rw[hwC];simp
 have HBC:Hid (Below w.heap.size w wC):=by rw[hwC];exact(Below.refl _ _).alloc (Nat.le_refl _) _
 have HMD:Hid (PlOwn w.heap.size wC (.slice (some ⟨w.heap.size,0,none⟩) 0 0) []):=by rw[hwC];exact pl_made0 w
 obtain⟨gm,cm',w2,hap,hpo,hgr,hat⟩:=append_places (P:=Tryz.prog) Tryz.infoPl9 Tryz.underlying27 HMD.out (by omega) (c:=cm) (hp.later HBC.out hhi) hm1 (by omega)
 have HAP:=hide hap
 have HPO:=hide hpo
 have HB2:Hid (Below w.heap.size w w2):=HBC.out.grown hgr (by omega) (fun k e=>by simp only[Option.some.injEq] at e;omega)
 clear hap hpo hgr hat HMD hp hzC
 have hq:∀w,(binOp BinOp.eql 27 (.slice (some ⟨b,off,none⟩) m cm) (.slice none 0 0)).run Tryz.prog w=.ok (.bool false) w:=fun w=>by kernel_rfl
 go_enter Tryz.func150,Tryz.ntmps150
 go_wp2_with (at_builtin;rw[<- hwC];refine wpList_append_eq rfl (.tmp 5) (.tmp 6) 27 rfl _ _ _ w2 rfl rfl HAP.out ?_)
 go_ret
 exact⟨gm,cm',rfl,HPO.out,HB2.out⟩
set_option maxHeartbeats 3200000 in
theorem keeperOf_any (z:Int)(a:Option Addr)(n cap:Nat)(qs:List Sq)(am:Option Addr)(m cm:Nat)(ps:List Pl)(op st:Int)(w:World){lo hi lo' hi':Nat}(h:Squares lo hi w a n qs)(hhi:hi<=w.heap.size)(hok:chipOk z qs=true)(hp:Places lo' hi' w am m ps)(hhi':hi'<=w.heap.size)(hm1:1<=m)(hm:m<=64){aN:Addr}(hN:w.cell? ⟨1,0,none⟩=some (noRoomV aN)) :
  Calls Tryz.prog 98 #[.agg #[.int .i64 z,.slice a n cap,.slice am m cm,.int .i64 op,.int .i64 st]] w fun e w'=>∃pk g c gm cm' A C,e=.returned (.pointer (some ⟨pk,0,none⟩))∧KeeperAt w.heap.size w' pk z st n g c gm cm' A C (.slice none 0 0) ⟨qs,ps,op,[]⟩ aN∧Below w.heap.size w w':=by
 obtain⟨wA,hwA⟩:∃wA,wA=w.alloc (.cells #[.int .i64 z,.slice a n cap,.slice am m cm,.int .i64 op,.int .i64 st] 29):=⟨_,rfl⟩
 have hzA:wA.heap.size=w.heap.size+1:=by rw[hwA];simp
 have HBA:Hid (Below w.heap.size w wA):=by rw[hwA];exact(Below.refl _ _).alloc (Nat.le_refl _) _
 have H0:Hid (wA.heap[w.heap.size]?=some (.cells #[.int .i64 z,.slice a n cap,.slice am m cm,.int .i64 op,.int .i64 st] 29)):=by rw[hwA];exact heap_new _ _
 have HSQ:=hide (h.later HBA.out hhi)
 have HPL:=hide (hp.later HBA.out hhi')
 have HLP:=hide hp.1
 have hGl:1<w.heap.size:=World.block_lt_of_cell? _ _ hN
 have HN:=hide hN
 obtain⟨b,off,rfl,_,hb,_⟩:=hp.2.2 (by omega)
 clear h hp hN
 obtain⟨c0,c1,c2,c3,c4⟩:=five_cells H0.out
 have HSK:∀W,Hid (Below wA.heap.size wA W->W.cell? ⟨w.heap.size,0,none⟩=some (.int .i64 z)∧W.cell? ⟨w.heap.size,1,none⟩=some (.slice a n cap)∧W.cell? ⟨w.heap.size,2,none⟩=some (.slice (some ⟨b,off,none⟩) m cm)∧W.cell? ⟨w.heap.size,3,none⟩=some (.int .i64 op)∧W.cell? ⟨w.heap.size,4,none⟩=some (.int .i64 st)):=fun W hb=>⟨(hb.cell (p:=⟨_,_,none⟩) (by show w.heap.size<_;omega)).trans c0,(hb.cell (p:=⟨_,_,none⟩) (by show w.heap.size<_;omega)).trans c1,(hb.cell (p:=⟨_,_,none⟩) (by show w.heap.size<_;omega)).trans c2,(hb.cell (p:=⟨_,_,none⟩) (by show w.heap.size<_;omega)).trans c3,(hb.cell (p:=⟨_,_,none⟩) (by show w.heap.size<_;omega)).trans c4⟩
 have HCC:∀W,Hid (Below wA.heap.size wA W->Calls Tryz.prog 76 #[.agg #[.int .i64 z,.slice a n cap]] W fun e w'=>∃g c A C,e=.returned (.agg #[.int .i64 z,.slice (some ⟨g,0,none⟩) n c])∧GrowSqs W.heap.size w' n qs g A C∧Below W.heap.size W w'):=fun W hb=>copyOfChip_any z a n cap qs W (HSQ.out.later hb (by omega)) (by have:=hb.size;omega) hok
 have HCP:∀W,Hid (Below wA.heap.size wA W->Calls Tryz.prog 150 #[.slice (some ⟨b,off,none⟩) m cm] W fun e w'=>∃gm cm',e=.returned (.slice (some ⟨gm,0,none⟩) m cm')∧PlOwn W.heap.size w' (.slice (some ⟨gm,0,none⟩) ps.length cm') ps∧Below W.heap.size W w'):=fun W hb=>clonePl_any b off m cm ps W (HPL.out.later hb (by omega)) (by have:=hb.size;omega) hm1 hm
 have HB0:Hid (Below wA.heap.size wA wA.drew):=(Below.refl wA.heap.size wA).drew
 go_enter Tryz.func98,Tryz.ntmps98
 go_upto_region 1 with fail
 rw[<- hwA]
 clear hwA
 have HZA:=hide hzA
 clear hzA
 go_region_held3 (fun W=>W.cell? ⟨w.heap.size,0,none⟩=some (.int .i64 z)∧W.cell? ⟨w.heap.size,1,none⟩=some (.slice a n cap)∧W.cell? ⟨w.heap.size,2,none⟩=some (.slice (some ⟨b,off,none⟩) m cm)∧W.cell? ⟨w.heap.size,3,none⟩=some (.int .i64 op)∧W.cell? ⟨w.heap.size,4,none⟩=some (.int .i64 st))
  (first|exact(HSK _).out HB0.out|exact(HSK _).out HB5.out|exact(HSK _).out HB6.out|exact(HSK _).out HB7.out|fail)
  (first
   | (go_at_call 76;refine((HCC _).out HB0.out).mono ?_;rintro e w5 ⟨g,c,A,C,rfl,hG5,b5⟩;have HB5:=hide (below_here HB0.out b5);have HG5:=hide hG5;have hs5:wA.heap.size<=w5.heap.size:=HB5.out.size;clear hG5 b5)
   | (go_at_call 150;refine((HCP _).out HB5.out).mono ?_;rintro e w6 ⟨gm,cm',rfl,hP6,b6⟩;have HB6:=hide (below_here HB5.out b6);have HG6:=hide (HG5.out.later b6);have HP6:=hide hP6;have hs6:w5.heap.size<=w6.heap.size:=b6.size;have HB7:=hide (HB6.out.alloc HB6.out.size (.cells #[.int .i64 z,.slice (some ⟨g,0,none⟩) n c,.slice (some ⟨gm,0,none⟩) m cm',.int .i64 op,.int .i64 st,.slice none 0 0] 161));clear hP6 b6)
   | fail)
 all_goals
  have hzA:=HZA.out
  have hg1:=HG6.out.atG
  have hg2:g<w5.heap.size:=by have:=HG5.out.row.1;omega
  have hgm1:w5.heap.size<=gm:=(World.ownsRow.lt HP6.out gm rfl).1
  have HBX:=hide ((Below.refl w6.heap.size w6).alloc (Nat.le_refl _) (.cells #[.int .i64 z,.slice (some ⟨g,0,none⟩) n c,.slice (some ⟨gm,0,none⟩) m cm',.int .i64 op,.int .i64 st,.slice none 0 0] 161))
  have HBW:=hide (below_here HBA.out HB7.out)
  have hle:ps.length=m:=HLP.out
  have HKA:Hid (KeeperAt w.heap.size (w6.alloc (.cells #[.int .i64 z,.slice (some ⟨g,0,none⟩) n c,.slice (some ⟨gm,0,none⟩) m cm',.int .i64 op,.int .i64 st,.slice none 0 0] 161)) w6.heap.size z st n g c gm cm' A C (.slice none 0 0) ⟨qs,ps,op,[]⟩ aN) :=
   ⟨⟨(HG6.out.mono (show w.heap.size<=wA.heap.size by omega)).later HBX.out,own_keepBy (HP6.out.mono (by omega)) (grown_below HBX.out none) (fun k e=>by cases e),World.ownsRow_nil _ _ _ _,by omega,fun e=>by cases e⟩,by dsimp only;rw[hle];exact heap_new _ _,by omega,by omega,(HBW.out.cell (p:=⟨_,_,none⟩) hGl).trans HN.out,hGl⟩
  go_wp2_with fail
  go_ret
  exact⟨_,g,c,gm,cm',A,C,rfl,HKA.out,HBW.out⟩
set_option maxHeartbeats 1600000 in
theorem ftl_any (B pk:Nat)(z st:Int)(n g c gm cm:Nat)(A:Nat->Option Addr)(C:Nat->Nat)(V:Value)(s:Kp)(aN:Addr)(w:World)(h:KeeperAt B w pk z st n g c gm cm A C V s aN)(hB:B<=w.heap.size) :
  Calls Tryz.prog 100 #[.pointer (some ⟨pk,0,none⟩)] w fun e w'=>e=.returned (.agg #[.int .i64 z,.slice (some ⟨g,0,none⟩) n c,.slice (some ⟨gm,0,none⟩) s.ps.length cm,.int .i64 s.op,.int .i64 st])∧Below w.heap.size w w':=by
 obtain⟨wA,hwA⟩:∃wA,wA=w.alloc (.cells #[.int .i64 0,.slice none 0 0,.slice none 0 0,.int .i64 0,.int .i64 0] 29):=⟨_,rfl⟩
 have hzA:wA.heap.size=w.heap.size+1:=by rw[hwA];simp
 have HBA:Hid (Below w.heap.size w wA):=by rw[hwA];exact(Below.refl _ _).alloc (Nat.le_refl _) _
 have H0:Hid (wA.heap[w.heap.size]?=some (.cells #[.int .i64 0,.slice none 0 0,.slice none 0 0,.int .i64 0,.int .i64 0] 29)):=by rw[hwA];exact heap_new _ _
 obtain⟨x0,x1,x2,x3,x4,x5⟩:=six_cells (h.later HBA.out hB).box
 clear h
 obtain⟨p0,p1,p2,p3,p4⟩:=five_cells H0.out
 have f0:=four_frozen H0.out 0
 have f1:=four_frozen H0.out 1
 have f2:=four_frozen H0.out 2
 have f3:=four_frozen H0.out 3
 have f4:=four_frozen H0.out 4
 have HAS:=hide (five_aside (b:=w.heap.size) (Aside.refl w.heap.size (w.heap.size+1) wA) (Nat.le_refl _) (Nat.lt_succ_self _) (.int .i64 z) (.slice (some ⟨g,0,none⟩) n c) (.slice (some ⟨gm,0,none⟩) s.ps.length cm) (.int .i64 s.op) (.int .i64 st))
 have HBF:=hide (HBA.out.trans (HAS.out.below (B:=w.heap.size) (Nat.le_refl _) (by omega)))
 have HRS:=hide (five_set H0.out (.int .i64 z) (.slice (some ⟨g,0,none⟩) n c) (.slice (some ⟨gm,0,none⟩) s.ps.length cm) (.int .i64 s.op) (.int .i64 st))
 go_enter Tryz.func100,Tryz.ntmps100
 go_upto_region 1 with fail
 rw[<- hwA]
 clear hwA
 refine wp_region_quiet_tail 17 (by kernel_rfl) (by kernel_rfl) ?_
 simp only[List.take_succ_cons,List.take_zero,List.drop_succ_cons,List.drop_zero]
 repeat (go_big_quiet_step (fail))
 refine wpQuiet_nil ?_
 rintro _ ⟨nq,rfl⟩
 go_wp2_with fail
 refine bodyPost_ret (results_cell rfl rfl (run_loadVar_row _ _ _ _ _ _ _ (by exact HRS.out) Tryz.underlying29 rfl (by kernel_rfl))) rfl ⟨rfl,HBF.out.trans ⟨rfl,rfl,rfl,Nat.le_refl _,fun _ _=>rfl⟩⟩
set_option maxHeartbeats 1600000 in
theorem copyOfFtl_any (z:Int)(a:Option Addr)(n cap:Nat)(qs:List Sq)(am:Option Addr)(m cm:Nat)(ps:List Pl)(op st:Int)(w:World){lo hi lo' hi':Nat}(h:Squares lo hi w a n qs)(hhi:hi<=w.heap.size)(hok:chipOk z qs=true)(hp:Places lo' hi' w am m ps)(hhi':hi'<=w.heap.size)(hm1:1<=m)(hm:m<=64){aN:Addr}(hN:w.cell? ⟨1,0,none⟩=some (noRoomV aN)) :
  Calls Tryz.prog 96 #[.agg #[.int .i64 z,.slice a n cap,.slice am m cm,.int .i64 op,.int .i64 st]] w fun e w'=>∃v,e=.returned v∧FtlAns w ⟨z,qs,ps,op,st⟩ v w':=by
 obtain⟨wA,hwA⟩:∃wA,wA=(w.alloc (.cells #[.int .i64 z,.slice a n cap,.slice am m cm,.int .i64 op,.int .i64 st] 29)).alloc (.cells #[.int .i64 0,.slice none 0 0,.slice none 0 0,.int .i64 0,.int .i64 0] 29):=⟨_,rfl⟩
 have hzA:wA.heap.size=w.heap.size+1+1:=by rw[hwA];simp
 have HBA:Hid (Below w.heap.size w wA):=by rw[hwA];exact((Below.refl _ _).alloc (Nat.le_refl _) _).alloc (by simp) _
 have H0:Hid (wA.heap[w.heap.size]?=some (.cells #[.int .i64 z,.slice a n cap,.slice am m cm,.int .i64 op,.int .i64 st] 29)):=by rw[hwA];exact heap_old (heap_new _ _)
 have H1:Hid (wA.heap[w.heap.size+1]?=some (.cells #[.int .i64 0,.slice none 0 0,.slice none 0 0,.int .i64 0,.int .i64 0] 29)):=by rw[hwA];exact heap_at (by simp)
 have HSQ:=hide (h.later HBA.out hhi)
 have HPL:=hide (hp.later HBA.out hhi')
 have HLP:=hide hp.1
 have HLQ:=hide h.1
 have hGl:1<w.heap.size:=World.block_lt_of_cell? _ _ hN
 have HN:=hide ((HBA.out.cell (p:=⟨1,0,none⟩) hGl).trans hN)
 clear h hp hN
 obtain⟨c0,c1,c2,c3,c4⟩:=five_cells H0.out
 go_enter Tryz.func96,Tryz.ntmps96
 go_wp2_with fail
 rw[<- hwA]
 clear hwA
 refine(keeperOf_any z a n cap qs am m cm ps op st wA HSQ.out (by omega) hok HPL.out (by omega) hm1 hm HN.out).mono ?_
 rintro e w1 ⟨pk,g,c,gm,cm',A,C,rfl,hK1,b1⟩
 have HK1:=hide hK1
 have K1:=hide (block_on H1.out b1)
 have HB1:=hide (below_here HBA.out b1)
 have hs1:=b1.size
 clear hK1 b1 c0 c1 c2 c3 c4
 go_wp2_with fail
 refine(ftl_any wA.heap.size pk z st n g c gm cm' A C _ ⟨qs,ps,op,[]⟩ aN w1 HK1.out (by omega)).mono ?_
 rintro e w2 ⟨rfl,b2⟩
 have hle:ps.length=m:=HLP.out
 dsimp only
 rw[hle]
 have K2:=hide (block_on K1.out b2)
 have HB2:=hide (below_here HB1.out b2)
 have hs2:=b2.size
 have HO2:=hide (own_of_kp (HK1.out.mem.later b2))
 clear b2
 obtain⟨p0,p1,p2,p3,p4⟩:=five_cells K2.out
 have f0:=four_frozen K2.out 0
 have f1:=four_frozen K2.out 1
 have f2:=four_frozen K2.out 2
 have f3:=four_frozen K2.out 3
 have f4:=four_frozen K2.out 4
 have HRS:=hide (five_set K2.out (.int .i64 z) (.slice (some ⟨g,0,none⟩) n c) (.slice (some ⟨gm,0,none⟩) m cm') (.int .i64 op) (.int .i64 st))
 have HAS:=hide (five_aside (b:=w.heap.size+1) (Aside.refl (w.heap.size+1) (w.heap.size+1+1) w2) (Nat.le_refl _) (Nat.lt_succ_self _) (.int .i64 z) (.slice (some ⟨g,0,none⟩) n c) (.slice (some ⟨gm,0,none⟩) m cm') (.int .i64 op) (.int .i64 st))
 have HBF:=hide (HB2.out.trans (HAS.out.below (B:=w.heap.size) (by omega) (by omega)))
 go_wp2_with fail
 refine bodyPost_ret (results_cell rfl rfl (run_loadVar_row _ _ _ _ _ _ _ HRS.out Tryz.underlying29 rfl (by kernel_rfl))) rfl ⟨_,rfl,some ⟨g,0,none⟩,c,some ⟨gm,0,none⟩,cm',by unfold fvV;dsimp only;rw[HLQ.out,HLP.out],?_,HBF.out,pl_cap HK1.out.mem.pl⟩
 exact(HO2.out.aside HAS.out (.inl (by omega))).wide (by omega) HAS.out.size (Nat.le_refl _)
set_option maxHeartbeats 1600000 in
theorem mayEnter_any (v0 v1:Value)(am:Option Addr)(m cm:Nat)(v3:Value)(st kd a sp:Int)(tx:ByteArray)(ps:List Pl)(w:World)(hl:ps.length=m)(hm:m<=1048576)(hst:0<=st∧st<=1000000) :
  Calls Tryz.prog 95 #[.agg #[v0,v1,.slice am m cm,v3,.int .i64 st],.agg #[.int .i64 kd,.int .i64 a,.int .i64 sp,.string tx]] w fun e w'=>e=.returned (.bool (mayEnt ps st kd a tx))∧Below w.heap.size w w':=by
 obtain⟨wA,hwA⟩:∃wA,wA=(w.alloc (.cells #[v0,v1,.slice am m cm,v3,.int .i64 st] 29)).alloc (.cells #[.int .i64 kd,.int .i64 a,.int .i64 (st+1),.string tx] 31):=⟨_,rfl⟩
 have hzA:wA.heap.size=w.heap.size+1+1:=by rw[hwA];simp
 have HBA:Hid (Below w.heap.size w wA):=by rw[hwA];exact((Below.refl _ _).alloc (Nat.le_refl _) _).alloc (by simp) _
 have H0:Hid (wA.heap[w.heap.size]?=some (.cells #[v0,v1,.slice am m cm,v3,.int .i64 st] 29)):=by rw[hwA];exact heap_old (heap_new _ _)
 have H1:Hid (wA.heap[w.heap.size+1]?=some (.cells #[.int .i64 kd,.int .i64 a,.int .i64 (st+1),.string tx] 31)):=by rw[hwA];exact heap_at (by simp)
 have HME:Hid (mayEnt ps st kd a tx=(pageOk kd a (st+1) tx&&inB a 0 ((m:Int)-1))):=by show _=_;unfold mayEnt;rw[hl]
 have hwr:IntKind.i64.wrap (st+1)=st+1:=by rw[IntKind.wrap_i64];omega
 have hst0:=hst.1
 have hst1:=hst.2
 clear hst
 obtain⟨p0,p1,p2,p3⟩:=four_cells H1.out
 obtain⟨c0,c1,c2,c3,c4⟩:=five_cells H0.out
 go_enter Tryz.func95,Tryz.ntmps95
 go_wp2_with fail
 rw[<- hwA]
 clear hwA
 refine(implPageOk_any kd a (st+1) tx wA).mono ?_
 rintro e w1 ⟨rfl,b1⟩
 have K0:=hide (block_on H0.out b1)
 have K1:=hide (block_on H1.out b1)
 have HB1:=hide (below_here HBA.out b1)
 clear b1 p0 p1 p2 p3 c0 c1 c2 c3 c4
 cases hpk:pageOk kd a (st+1) tx with
 | false =>
  have HE:Hid (mayEnt ps st kd a tx=false):=by show _=_;rw[HME.out,hpk];rfl
  go_wp2_with fail
  go_ret
  exact⟨ret_bool HE.out.symm,HB1.out⟩
 | true =>
  have HE:Hid (mayEnt ps st kd a tx=inB a 0 ((m:Int)-1)):=by show _=_;rw[HME.out,hpk];rfl
  obtain⟨p0,p1,p2,p3⟩:=four_cells K1.out
  obtain⟨c0,c1,c2,c3,c4⟩:=five_cells K0.out
  go_wp2_with fail
  refine(hasNumber_any v0 v1 am m cm v3 (.int .i64 st) a w1 (by unfold maxLen;omega)).mono ?_
  rintro e w2 ⟨rfl,b2⟩
  have HB2:=hide (below_here HB1.out b2)
  clear b2
  go_wp2_with fail
  go_ret
  exact⟨ret_bool HE.out.symm,HB2.out⟩
end Go.Proofs.YtgjoepdfhadmcaaGreatDoor
end

section
namespace Go.Proofs.YtgjoepdfhadmcaaGreatDoor
open Go.RowKit
set_option linter.unusedVariables false
set_option maxRecDepth 20000
theorem ftlOk_is (z:Int)(qs:List Sq)(ps:List Pl)(op st:Int):ftlOk z qs ps op st=(mapOk z qs ps&&(mayOp qs op&&(!decide (st<0)&&(!decide (st > 1000000)&&(List.range ps.length).all (fpOk z qs ps st))))):=by
 unfold ftlOk
 rw[mayOp_is]
 have e:inB st 0 1000000=(!decide (st<0)&&!decide (st > 1000000)):=by
  unfold inB
  rw[Bool.eq_iff_iff]
  simp
 rw[e]
 cases mapOk z qs ps<;>cases inB op (-1) ((qs.length:Int)-1)<;>cases opOk qs op<;>cases decide (st<0)<;>cases decide (st > 1000000)<;>simp
set_option maxHeartbeats 6400000 in
theorem implFtlOk_any (z:Int)(a:Option Addr)(n cap:Nat)(qs:List Sq)(am:Option Addr)(m cm:Nat)(ps:List Pl)(op st:Int)(w:World){lo hi lo' hi':Nat}(h:Squares lo hi w a n qs)(hhi:hi<=w.heap.size)(hn:n<=1048576)(hf:∀x∈qs,sqFits x)(hp:Places lo' hi' w am m ps)(hhi':hi'<=w.heap.size)(hm:m<=1048576)(hcl:m<=cm)(hT:Tab w){aB aL aS aC aF:Addr}(E:Errs w aB aL aS aC aF) :
  Calls Tryz.prog 19 #[.agg #[.int .i64 z,.slice a n cap,.slice am m cm,.int .i64 op,.int .i64 st]] w fun e w'=>e=.returned (.bool (ftlOk z qs ps op st))∧Below w.heap.size w w':=by
 obtain⟨wA,hwA⟩:∃wA,wA=w.alloc (.cells #[.int .i64 z,.slice a n cap,.slice am m cm,.int .i64 op,.int .i64 st] 29):=⟨_,rfl⟩
 have hzA:wA.heap.size=w.heap.size+1:=by rw[hwA];simp
 have HBA:Hid (Below w.heap.size w wA):=by rw[hwA];exact(Below.refl _ _).alloc (Nat.le_refl _) _
 have H1:Hid (wA.heap[w.heap.size]?=some (.cells #[.int .i64 z,.slice a n cap,.slice am m cm,.int .i64 op,.int .i64 st] 29)):=by rw[hwA];exact heap_new _ _
 have HSQ:=hide (h.later HBA.out hhi)
 have HPL:=hide (hp.later HBA.out hhi')
 have HL:=hide h.1
 have HLP:=hide hp.1
 have HF:=hide hf
 have HTA:=hide (hT.here HBA.out)
 have HEA:=hide (E.here HBA.out)
 have HFT:=hide (ftlOk_is z qs ps op st)
 clear h hf hp hT E
 obtain⟨c0,c1,c2,c3,c4⟩:=five_cells H1.out
 go_enter Tryz.func19,Tryz.ntmps19
 go_wp2_with fail
 rw[<- hwA]
 clear hwA
 refine(implMapOk_any z a n cap qs am m cm ps wA HSQ.out (by omega) hn HF.out HPL.out (by omega) hm hcl).mono ?_
 rintro e w1 ⟨rfl,b1⟩
 have K1:=hide (block_on H1.out b1)
 have HS1:=hide (HSQ.out.later b1 (by omega))
 have HP1:=hide (HPL.out.later b1 (by omega))
 have HB1:=hide (below_here HBA.out b1)
 have HT1:=hide (HTA.out.here b1)
 have HE1:=hide (HEA.out.here b1)
 have hs1:=b1.size
 clear b1 H1 HSQ HPL HBA HTA HEA c0 c1 c2 c3 c4
 obtain⟨c0,c1,c2,c3,c4⟩:=five_cells K1.out
 cases hok:mapOk z qs ps with
 | false =>
  have HE:Hid (ftlOk z qs ps op st=false):=by show _=_;rw[HFT.out,hok];rfl
  go_wp2_with fail
  go_ret
  exact⟨ret_bool HE.out.symm,HB1.out⟩
 | true =>
  have HCK:=hide (mapOk_chip hok)
  have HMR:=hide (mapR_of hok)
  have hn12:n<=12:=by have:=(chipOk_parts (mapOk_chip hok)).2.2.2.1;rw[HL.out] at this;exact this
  have hm64:m<=64:=by have:=(mapOk_len hok).2;rw[HLP.out] at this;exact this
  rw[hok,Bool.true_and] at HFT
  clear hok
  go_wp2_with fail
  refine(mayBeOpen_any z a n cap qs op w1 HS1.out (by omega) hn).mono ?_
  rintro e w2 ⟨rfl,b2⟩
  have K2:=hide (block_on K1.out b2)
  have HS2:=hide (HS1.out.later b2 (by omega))
  have HP2:=hide (HP1.out.later b2 (by omega))
  have HB2:=hide (below_here HB1.out b2)
  have HT2:=hide (HT1.out.here b2)
  have HE2:=hide (HE1.out.here b2)
  have hs2:=b2.size
  clear b2 K1 HS1 HP1 HB1 HT1 HE1 c0 c1 c2 c3 c4
  obtain⟨c0,c1,c2,c3,c4⟩:=five_cells K2.out
  cases hmo:mayOp qs op with
  | false =>
   have HE:Hid (ftlOk z qs ps op st=false):=by show _=_;rw[HFT.out,hmo];rfl
   go_wp2_with fail
   go_ret
   exact⟨ret_bool HE.out.symm,HB2.out⟩
  | true =>
   rw[hmo,Bool.true_and] at HFT
   clear hmo
   by_cases hs0:st<0
   ·have g0:decide (st<0)=true:=by simpa using hs0
    have HE:Hid (ftlOk z qs ps op st=false):=by show _=_;rw[HFT.out,g0];rfl
    go_wp2_with fail
    go_ret
    exact⟨ret_bool HE.out.symm,HB2.out⟩
   ·have g0:decide (st<0)=false:=by simpa using hs0
    rw[g0,Bool.not_false,Bool.true_and] at HFT
    by_cases hs1':st > 1000000
    ·have g1:decide (st > 1000000)=true:=by simpa using hs1'
     have HE:Hid (ftlOk z qs ps op st=false):=by show _=_;rw[HFT.out,g1];rfl
     go_wp2_with fail
     go_ret
     exact⟨ret_bool HE.out.symm,HB2.out⟩
    ·have g1:decide (st > 1000000)=false:=by simpa using hs1'
     rw[g1,Bool.not_false,Bool.true_and] at HFT
     go_wp2_with fail
     go_loopw [34] (fun i wr=>∃k:Nat,k<=m∧i=.int .i64 (k:Int)∧(List.range k).all (fpOk z qs ps st)=true∧Below w2.heap.size w2 wr) (fun i _=>m-(intOf i).toNat)
     case atStart=>exact⟨0,Nat.zero_le _,rfl,rfl,Below.refl _ _⟩
     case round =>
      obtain⟨k,hk,rfl,hall,hbel⟩:=hrel
      have HAL:=hide hall
      have HBB:=hide hbel
      have hszr:=hbel.size
      clear hall c0 c1 c2 c3 c4
      have KR:=hide (block_on K2.out hbel)
      obtain⟨a0,a1,a2,a3,a4⟩:=five_cells KR.out
      by_cases hlt:k<m
      ·have hpl:k<ps.length:=by rw[HLP.out];exact hlt
       have hlt2:(k:Int)<(m:Int):=by omega
       have HTH:=hide (HMR.out.there k hpl)
       obtain⟨b,off,rfl,_,hb,hc⟩:=HP2.out.2.2 (by omega)
       have hbs:b<w2.heap.size:=by have:=HP2.out.2.1;omega
       obtain⟨c0,c1⟩:=pl_cells hc hbel hbs hlt
       have HFA:Hid (fpOk z qs ps st k=false->ftlOk z qs ps op st=false):=fun hh=>ftlOk_fall hpl hh
       have HST:Hid (fpOk z qs ps st k=true->(List.range (k+1)).all (fpOk z qs ps st)=true):=fun hh=>all_range_step HAL.out hh
       have HPO:Hid (fpOk z qs ps st k=((((plAt ps k).1== -1)&&((plAt ps k).2==0))||(lyWell (pgOf z qs (plAt ps k)).2.2.2.2&&(((pgOf z qs (plAt ps k)).2.1==(k:Int))&&!(decide ((pgOf z qs (plAt ps k)).2.2.1 > st)))))):=by
        show _=_
        unfold fpOk
        rw[pl_eq]
       clear hc hbel
       obtain⟨y,hy⟩:∃y,y=plAt ps k:=⟨_,rfl⟩
       rw[<- hy] at c0 c1 HPO HTH
       clear hy
       obtain⟨p,q⟩:=y
       dsimp only at c0 c1 HPO
       obtain⟨wV,hwV⟩:∃wV,wV=wr.alloc (.cells #[.int .i64 p,.int .i64 q] 39):=⟨_,rfl⟩
       have HBV:Hid (Below wr.heap.size wr wV):=by rw[hwV];exact(Below.refl _ _).alloc (Nat.le_refl _) _
       have HV:Hid (wV.heap[wr.heap.size]?=some (.cells #[.int .i64 p,.int .i64 q] 39)):=by rw[hwV];exact heap_new _ _
       go_wp2_with fail
       rw[<- hwV]
       clear hwV
       refine(isNone_any p q wV).mono ?_
       rintro e w3 ⟨rfl,b3⟩
       have HB3:=hide (below_here HBV.out b3)
       have KV:=hide (block_on HV.out b3)
       clear b3 a0 a1 a2 a3 a4 c0 c1
       cases hnone:((p== -1)&&(q==0)) with
       | true =>
        have HOK:=hide (HST.out (by rw[HPO.out,hnone];rfl))
        have HBR:=hide (below_here HBB.out HB3.out)
        go_wp2_with fail
        go_roundw
        case rel=>exact⟨k+1,by omega,by go_num,HOK.out,HBR.out⟩
        case measure=>simp[intOf];omega
       | false =>
        obtain⟨s,j,he,hsl,hjl⟩:∃s j:Nat,(p,q)=((s:Int),(j:Int))∧s<qs.length∧j<(sqAt qs s).1.length:=by
         rcases HTH.out with e1|e1
         ·simp only[Prod.mk.injEq] at e1
          rw[e1.1,e1.2] at hnone
          simp at hnone
         ·exact plThere_iff.1 e1
        simp only[Prod.mk.injEq] at he
        obtain⟨rfl,rfl⟩:=he
        have HPG:=hide (pgOf_there HCK.out hsl hjl)
        have hsq:=sqOk_parts (chipOk_at HCK.out hsl)
        have hl8:(sqAt qs s).1.length<=8:=by have:=hsq.1;have:=(chipOk_parts HCK.out).2.1;omega
        have htz:(txAt qs s j).size<=1048576:=by
         have:=(hsq.2.2.2 (txAt qs s j) (by unfold txAt;rw[List.getD_eq_getElem?_getD,List.getElem?_eq_getElem hjl];exact List.getElem_mem _)).2
         omega
        have HBR:=hide (below_here HBB.out HB3.out)
        have KR3:=hide (block_on KR.out HB3.out)
        have hs3:=HBR.out.size
        obtain⟨a0,a1,a2,a3,a4⟩:=five_cells KR3.out
        obtain⟨v0,v1⟩:=two_cells KV.out
        go_wp2_with fail
        refine(pageLying_any z a n cap qs s j w3 (HS2.out.later HBR.out (by omega)) (by omega) (by rw[<- HL.out];exact hsl) hjl hl8 hn htz (HT2.out.here HBR.out) (HE2.out.here HBR.out)).mono ?_
        rintro e w4 ⟨rfl,b4⟩
        have HPO2:Hid (fpOk z qs ps st k=(lyWell (lyP (txAt qs s j)).2.2.2.2&&(((lyP (txAt qs s j)).2.1==(k:Int))&&!(decide ((lyP (txAt qs s j)).2.2.1 > st))))):=by show _=_;rw[HPO.out,hnone,HPG.out];rfl
        obtain⟨r,hr⟩:∃r,r=lyP (txAt qs s j):=⟨_,rfl⟩
        rw[<- hr] at HPO2
        rw[<- hr]
        clear hr hnone HPO HPG
        obtain⟨r0,r1,r2,r3,r4⟩:=r
        unfold pgV4
        dsimp only at HPO2 ⊢
        have HB4:=hide (below_here HBR.out b4)
        have KR4:=hide (block_on KR3.out b4)
        clear b4 a0 a1 a2 a3 a4 v0 v1
        obtain⟨wP,hwP⟩:∃wP,wP=w4.alloc (.cells #[.int .i64 r0,.int .i64 r1,.int .i64 r2,.string r3] 31):=⟨_,rfl⟩
        have HBP:Hid (Below w4.heap.size w4 wP):=by rw[hwP];exact(Below.refl _ _).alloc (Nat.le_refl _) _
        have HP:Hid (wP.heap[w4.heap.size]?=some (.cells #[.int .i64 r0,.int .i64 r1,.int .i64 r2,.string r3] 31)):=by rw[hwP];exact heap_new _ _
        have KRP:=hide (block_on KR4.out HBP.out)
        have HB5:=hide (below_here HB4.out HBP.out)
        have HB6:=hide (below_here HB2.out HB5.out)
        obtain⟨a0,a1,a2,a3,a4⟩:=five_cells KRP.out
        obtain⟨e0,e1,e2,e3⟩:=four_cells HP.out
        cases hw:lyWell r4 with
        | false =>
         have HE:=hide (HFA.out (by rw[HPO2.out,hw];rfl))
         go_wp2_with fail
         rw[<- hwP]
         go_ret
         exact⟨ret_bool HE.out.symm,HB6.out⟩
        | true =>
         rw[hw,Bool.true_and] at HPO2
         clear hw
         go_upto_region 8 with fail
         rw[<- hwP]
         clear hwP
         have HPO3:Hid ((!(fpOk z qs ps st k))=!((r1==(k:Int))&&!(decide (r2 > st)))):=by show _=_;rw[HPO2.out]
         go_cut [62] from 35 to 63 (fun d wx=>d=.bool (!(fpOk z qs ps st k))∧Below wP.heap.size wP wx)
         case first =>
          by_cases h1:r1=(k:Int)
          ·subst h1
           rw[show((k:Int)==(k:Int))=true by simp,Bool.true_and,Bool.not_not] at HPO3
           go_wp2_with fail
           go_meet
           exact⟨by rw[HPO3.out],Below.refl _ _⟩
          ·rw[show(r1==(k:Int))=false by simpa using h1,Bool.false_and,Bool.not_false] at HPO3
           go_wp2_with fail
           go_meet
           exact⟨by rw[HPO3.out],Below.refl _ _⟩
         case rest =>
          obtain⟨rfl,hbc⟩:=hcut
          have HB7:=hide (below_here HB5.out hbc)
          have HB8:=hide (below_here HB6.out hbc)
          clear hbc
          cases hfp:fpOk z qs ps st k with
          | true =>
           have HOK:=hide (HST.out hfp)
           simp only[Bool.not_true]
           go_wp2_with fail
           go_roundw
           case rel=>exact⟨k+1,by omega,by go_num,HOK.out,HB7.out⟩
           case measure=>simp[intOf];omega
          | false =>
           have HE:=hide (HFA.out hfp)
           simp only[Bool.not_false]
           go_wp2_with fail
           go_ret
           exact⟨ret_bool HE.out.symm,HB8.out⟩
      ·obtain rfl:k=m:=by omega
       have HE:Hid (ftlOk z qs ps op st=true):=by show _=_;rw[HFT.out,HLP.out];exact HAL.out
       have HBR:=hide (below_here HB2.out HBB.out)
       clear hbel
       go_wp2_with fail
       go_ret
       exact⟨ret_bool HE.out.symm,HBR.out⟩
end Go.Proofs.YtgjoepdfhadmcaaGreatDoor
end

section
namespace Go.Proofs.YtgjoepdfhadmcaaGreatDoor
open Go.RowKit
set_option linter.unusedVariables false
set_option maxRecDepth 20000
set_option maxHeartbeats 6400000 in
theorem entryOf_any (z:Int)(a:Option Addr)(n cap:Nat)(qs:List Sq)(am:Option Addr)(m cm:Nat)(ps:List Pl)(op st:Int)(k:Nat)(w:World){lo hi lo' hi':Nat}(h:Squares lo hi w a n qs)(hhi:hi<=w.heap.size)(hn:n<=1048576)(hp:Places lo' hi' w am m ps)(hhi':hi'<=w.heap.size)(hT:Tab w){aB aL aS aC aF:Addr}(E:Errs w aB aL aS aC aF)(hok:ftlOk z qs ps op st=true)(hlt:k<m) :
  Calls Tryz.prog 85 #[.agg #[.int .i64 z,.slice a n cap,.slice am m cm,.int .i64 op,.int .i64 st],.int .i64 (k:Int)] w fun e w'=>e=.returned (.tuple #[.string (ftlGet z qs ps op st (k:Int)).1,.bool (ftlGet z qs ps op st (k:Int)).2])∧Below w.heap.size w w':=by
 obtain⟨gg,hgg⟩:∃g,g=ftlGet z qs ps op st (k:Int):=⟨_,rfl⟩
 have HG:=hide hgg
 rw[<- hgg]
 clear hgg
 obtain⟨w2,hwA⟩:∃wA,wA=w.alloc (.cells #[.int .i64 z,.slice a n cap,.slice am m cm,.int .i64 op,.int .i64 st] 29):=⟨_,rfl⟩
 have hs2:w2.heap.size=w.heap.size+1:=by rw[hwA];simp
 have HB2:Hid (Below w.heap.size w w2):=by rw[hwA];exact(Below.refl _ _).alloc (Nat.le_refl _) _
 have K2:Hid (w2.heap[w.heap.size]?=some (.cells #[.int .i64 z,.slice a n cap,.slice am m cm,.int .i64 op,.int .i64 st] 29)):=by rw[hwA];exact heap_new _ _
 have HS2:=hide (h.later HB2.out hhi)
 have HP2:=hide (hp.later HB2.out hhi')
 have HL:=hide h.1
 have HLP:=hide hp.1
 have HT2:=hide (hT.here HB2.out)
 have HE2:=hide (E.here HB2.out)
 clear h hp hT E
 have HCK:=hide (mapOk_chip (ftlOk_map hok))
 have HMR:=hide (mapR_of (ftlOk_map hok))
 have hm64:m<=64:=by have:=(mapOk_len (ftlOk_map hok)).2;rw[HLP.out] at this;exact this
 have hin:inB (k:Int) 0 ((m:Int)-1)=true:=by unfold inB;simp;omega
 have hlt2:(k:Int)<(m:Int):=by omega
 have hpl:k<ps.length:=by rw[HLP.out];exact hlt
 obtain⟨c0,c1,c2,c3,c4⟩:=five_cells K2.out
 have HTH:=hide (HMR.out.there k hpl)
 obtain⟨b,off,rfl,_,hb,hc⟩:=HP2.out.2.2 (by omega)
 have hbs:b<w2.heap.size:=by have:=HP2.out.2.1;omega
 obtain⟨d0,d1⟩:=pl_cells hc (Below.refl w2.heap.size w2) hbs hlt
 have HGE:Hid (gg=(if !(((plAt ps k).1== -1)&&((plAt ps k).2==0)) then((pgOf z qs (plAt ps k)).2.2.2.1,(pgOf z qs (plAt ps k)).1==1) else(ByteArray.empty,false))):=by
  show _=_
  rw[HG.out]
  unfold ftlGet
  rw[hok,HLP.out,hin,Int.toNat_natCast,pl_eq]
  rfl
 clear hc hok hin HG
 obtain⟨y,hy⟩:∃y,y=plAt ps k:=⟨_,rfl⟩
 rw[<- hy] at d0 d1 HTH HGE
 clear hy
 obtain⟨p,q⟩:=y
 dsimp only at d0 d1 HGE
 go_enter Tryz.func85,Tryz.ntmps85
 go_upto_region 1 with fail
 rw[<- hwA]
 clear hwA
 go_wp2_with fail
 refine(isNone_any p q w2).mono ?_
 rintro e w3 ⟨rfl,b3⟩
 have K3:=hide (block_on K2.out b3)
 have HS3:=hide (HS2.out.later b3 (by omega))
 have HB3:=hide (below_here HB2.out b3)
 have HT3:=hide (HT2.out.here b3)
 have HE3:=hide (HE2.out.here b3)
 have hs3:=b3.size
 have e0:=(b3.cell (p:=⟨b,off+k*2,none⟩) hbs).trans d0
 have e1:=(b3.cell (p:=⟨b,off+k*2+1,none⟩) hbs).trans d1
 clear b3 c0 c1 c2 c3 c4 d0 d1
 cases hnone:((p== -1)&&(q==0)) with
 | true =>
  have HE:Hid (gg=(ByteArray.empty,false)):=by show _=_;rw[HGE.out,hnone];rfl
  go_wp2_with fail
  go_ret2
  exact⟨by rw[HE.out];rfl,HB3.out⟩
 | false =>
  obtain⟨s,j,he,hsl,hjl⟩:∃s j:Nat,(p,q)=((s:Int),(j:Int))∧s<qs.length∧j<(sqAt qs s).1.length:=by
   rcases HTH.out with e1|e1
   ·simp only[Prod.mk.injEq] at e1
    rw[e1.1,e1.2] at hnone
    simp at hnone
   ·exact plThere_iff.1 e1
  simp only[Prod.mk.injEq] at he
  obtain⟨rfl,rfl⟩:=he
  have HPG:=hide (pgOf_there HCK.out hsl hjl)
  have hsq:=sqOk_parts (chipOk_at HCK.out hsl)
  have hl8:(sqAt qs s).1.length<=8:=by have:=hsq.1;have:=(chipOk_parts HCK.out).2.1;omega
  have htz:(txAt qs s j).size<=1048576:=by
   have:=(hsq.2.2.2 (txAt qs s j) (by unfold txAt;rw[List.getD_eq_getElem?_getD,List.getElem?_eq_getElem hjl];exact List.getElem_mem _)).2
   omega
  obtain⟨r,hr⟩:∃r,r=lyP (txAt qs s j):=⟨_,rfl⟩
  have HCL:∀w',Hid (Below w3.heap.size w3 w'->Calls Tryz.prog 89 #[.agg #[.int .i64 z,.slice a n cap],.agg #[.int .i64 (s:Int),.int .i64 (j:Int)]] w' fun e w''=>e=.returned (.tuple #[pgV4 r,.bool (lyWell r.2.2.2.2)])∧Below w'.heap.size w' w''):=fun w' hb'=>by
   rw[hr]
   have hs':=hb'.size
   exact pageLying_any z a n cap qs s j w' (HS3.out.later hb' (by omega)) (by omega) (by rw[<- HL.out];exact hsl) hjl hl8 hn htz (HT3.out.here hb') (HE3.out.here hb')
  have HGE2:Hid (gg=(r.2.2.2.1,r.1==1)):=by show _=_;rw[HGE.out,hnone,HPG.out,<- hr];rfl
  clear hr hnone HPG HGE hsq
  obtain⟨r0,r1,r2,r3,r4⟩:=r
  unfold pgV4 at HCL
  dsimp only at HCL HGE2
  obtain⟨lw,hlw⟩:∃lw,lw=lyWell r4:=⟨_,rfl⟩
  rw[<- hlw] at HCL
  clear hlw
  obtain⟨a0,a1,a2,a3,a4⟩:=five_cells K3.out
  have hwz:w.heap.size<w3.heap.size:=by omega
  have hb3:b<w3.heap.size:=by omega
  have HK:∀w',Hid (Below w3.heap.size w3 w'->w'.cell? ⟨w.heap.size,0,none⟩=some (.int .i64 z)∧w'.cell? ⟨w.heap.size,1,none⟩=some (.slice a n cap)∧w'.cell? ⟨w.heap.size,2,none⟩=some (.slice (some ⟨b,off,none⟩) m cm)∧w'.cell? ⟨b,off+k*2,none⟩=some (.int .i64 (s:Int))∧w'.cell? ⟨b,off+k*2+1,none⟩=some (.int .i64 (j:Int))):=fun w' hb'=>⟨(hb'.cell (p:=⟨_,_,none⟩) hwz).trans a0,(hb'.cell (p:=⟨_,_,none⟩) hwz).trans a1,(hb'.cell (p:=⟨_,_,none⟩) hwz).trans a2,(hb'.cell (p:=⟨_,_,none⟩) hb3).trans e0,(hb'.cell (p:=⟨_,_,none⟩) hb3).trans e1⟩
  go_upto_region 3 with fail
  go_cut [6] (fun v wx=>∃g,v=.pointer (some ⟨g,0,none⟩)∧wx.heap[g]?=some (.cells #[.int .i64 r0,.int .i64 r1,.int .i64 r2,.string r3] 31)∧Below w3.heap.size w3 wx)
  case first =>
   have HB0:Hid (Below w3.heap.size w3 w3.drew):=(Below.refl w3.heap.size w3).drew
   have HBa:Hid (Below w3.heap.size w3 (w3.alloc (.cells #[.int .i64 0,.int .i64 0,.int .i64 0,.string ⟨#[]⟩] 31)).drew):=((Below.refl w3.heap.size w3).alloc (Nat.le_refl _) _).drew
   have HEa:Hid ((w3.alloc (.cells #[.int .i64 0,.int .i64 0,.int .i64 0,.string ⟨#[]⟩] 31)).drew.heap[w3.heap.size]?=some (.cells #[.int .i64 0,.int .i64 0,.int .i64 0,.string ⟨#[]⟩] 31)):=heap_new w3 _
   go_region_held3 (fun w'=>w'.cell? ⟨w.heap.size,0,none⟩=some (.int .i64 z)∧w'.cell? ⟨w.heap.size,1,none⟩=some (.slice a n cap)∧w'.cell? ⟨w.heap.size,2,none⟩=some (.slice (some ⟨b,off,none⟩) m cm)∧w'.cell? ⟨b,off+k*2,none⟩=some (.int .i64 (s:Int))∧w'.cell? ⟨b,off+k*2+1,none⟩=some (.int .i64 (j:Int)))
    (first|exact(HK _).out HB0.out|exact(HK _).out HBa.out|exact(HK _).out HB5.out|exact(HK _).out HBS.out|exact(HK _).out HB6.out|exact⟨a0,a1,a2,e0,e1⟩|fail)
    (first
     | (go_at_call 89;refine((HCL _).out HB0.out).mono ?_;rintro e w5 ⟨rfl,b5⟩;have HB5:=hide (below_here HB0.out b5);have hs5:=b5.size;have HB6:=hide (HB5.out.alloc HB5.out.size (.cells #[.int .i64 0,.int .i64 0,.int .i64 0,.string ⟨#[]⟩] 31));have HBS:=hide (HB5.out.alloc HB5.out.size (.cells #[.int .i64 r0,.int .i64 r1,.int .i64 r2,.string r3] 31));have HRS:=hide (heap_new w5 (.cells #[.int .i64 r0,.int .i64 r1,.int .i64 r2,.string r3] 31)))
     | (go_at_call 89;refine((HCL _).out HBa.out).mono ?_;rintro e w5 ⟨rfl,b5⟩;have HB5:=hide (below_here HBa.out b5);have hs5:=b5.size;have E5:=hide (block_on HEa.out b5);obtain⟨e0,e1,e2,e3⟩:=four_cells E5.out;have f0:=four_frozen E5.out 0;have f1:=four_frozen E5.out 1;have f2:=four_frozen E5.out 2;have f3:=four_frozen E5.out 3;have HRS:=hide (four_set E5.out (.int .i64 r0) (.int .i64 r1) (.int .i64 r2) (.string r3));have HBS:=hide (four_below (b:=w3.heap.size) HB5.out (Nat.le_refl _) (.int .i64 r0) (.int .i64 r1) (.int .i64 r2) (.string r3))))
   all_goals
    clear HB0 HBa HEa HK HCL a0 a1 a2 a3 a4 b5 HB5 hs5
    go_wp2_with fail
    go_meet
    exact⟨_,rfl,HRS.out,HBS.out⟩
  case rest =>
   obtain⟨g,rfl,hrs,hb5⟩:=hcut
   obtain⟨w5,hw5⟩:∃w5,w5=wc:=⟨_,rfl⟩
   subst hw5
   have HB7:=hide (below_here HB3.out hb5)
   clear hb5 HK HCL a0 a1 a2 a3 a4 e0 e1
   obtain⟨d0,d1,d2,d3⟩:=four_cells hrs
   go_wp2_with fail
   go_quiet (fail)
   have HB9:Hid (Below w.heap.size w (w5.drewN nq)):=HB7.out.trans ⟨rfl,rfl,rfl,Nat.le_refl _,fun _ _=>rfl⟩
   go_wp2_with fail
   go_ret2
   exact⟨by rw[HGE2.out];rfl,HB9.out⟩
end Go.Proofs.YtgjoepdfhadmcaaGreatDoor
end

section
namespace Go.Proofs.YtgjoepdfhadmcaaGreatDoor
open Go.RowKit
set_option linter.unusedVariables false
set_option maxRecDepth 20000
set_option maxHeartbeats 6400000 in
theorem implSame_any (f g:Fv)(a:Option Addr)(n cap:Nat)(am:Option Addr)(m cm:Nat)(a':Option Addr)(n' cap':Nat)(am':Option Addr)(m' cm':Nat)(w:World){lo hi lp hp lo' hi' lp' hp':Nat}(h:Squares lo hi w a n f.qs)(hhi:hi<=w.heap.size)(hn:n<=1048576)(hf:∀x∈f.qs,sqFits x)(hpl:Places lp hp w am m f.ps)(hhp:hp<=w.heap.size)(hm:m<=1048576)(h':Squares lo' hi' w a' n' g.qs)(hhi':hi'<=w.heap.size)(hn':n'<=1048576)(hf':∀x∈g.qs,sqFits x)(hpl':Places lp' hp' w am' m' g.ps)(hhp':hp'<=w.heap.size)(hm':m'<=1048576)(hcl:m<=cm)(hcl':m'<=cm')(hT:Tab w){aB aL aS aC aF:Addr}(E:Errs w aB aL aS aC aF) :
  Calls Tryz.prog 23 #[.agg #[.int .i64 f.z,.slice a n cap,.slice am m cm,.int .i64 f.op,.int .i64 f.st],.agg #[.int .i64 g.z,.slice a' n' cap',.slice am' m' cm',.int .i64 g.op,.int .i64 g.st]] w fun e w'=>e=.returned (.bool (sameF f g))∧Below w.heap.size w w':=by
 obtain⟨sf,hsf⟩:∃s,s=sameF f g:=⟨_,rfl⟩
 have HSF:=hide hsf
 rw[<- hsf]
 clear hsf
 have HFA:Hid (∀i,i<f.ps.length->sameG f g i=false->sameF f g=false):=fun i h1 h2=>sameF_fall h1 h2
 have HUF:Hid (sameF f g=(ftlOk f.z f.qs f.ps f.op f.st&&(ftlOk g.z g.qs g.ps g.op g.st&&(decide (f.ps.length=g.ps.length)&&(List.range f.ps.length).all (sameG f g))))):=rfl
 have HSG:∀i s b t c,Hid ((s,b)=ftlGet f.z f.qs f.ps f.op f.st ((i:Nat):Int)->(t,c)=ftlGet g.z g.qs g.ps g.op g.st (i:Int)->sameG f g i=(decide (s=t)&&(b==c))):=fun i s b t c h1 h2=>sameG_of h1 h2
 obtain⟨G,hG⟩:∃G,G=sameG f g:=⟨_,rfl⟩
 obtain⟨S,hS⟩:∃S,S=sameF f g:=⟨_,rfl⟩
 rw[<- hG,<- hS] at HFA HUF
 rw[<- hG] at HSG
 rw[<- hS] at HSF
 clear hG hS
 obtain⟨z,qs,ps,op,st⟩:=f
 obtain⟨z',qs',ps',op',st'⟩:=g
 dsimp only at h hf hpl h' hf' hpl' HFA HUF HSG ⊢
 obtain⟨wA,hwA⟩:∃wA,wA=(w.alloc (.cells #[.int .i64 z,.slice a n cap,.slice am m cm,.int .i64 op,.int .i64 st] 29)).alloc (.cells #[.int .i64 z',.slice a' n' cap',.slice am' m' cm',.int .i64 op',.int .i64 st'] 29):=⟨_,rfl⟩
 have hzA:wA.heap.size=w.heap.size+1+1:=by rw[hwA];simp
 have HBA:Hid (Below w.heap.size w wA):=by rw[hwA];exact((Below.refl _ _).alloc (Nat.le_refl _) _).alloc (by simp) _
 have H1:Hid (wA.heap[w.heap.size]?=some (.cells #[.int .i64 z,.slice a n cap,.slice am m cm,.int .i64 op,.int .i64 st] 29)):=by rw[hwA];exact heap_old (heap_new _ _)
 have H2:Hid (wA.heap[w.heap.size+1]?=some (.cells #[.int .i64 z',.slice a' n' cap',.slice am' m' cm',.int .i64 op',.int .i64 st'] 29)):=by rw[hwA];exact heap_at (by simp)
 have HSQ:=hide (h.later HBA.out hhi)
 have HPL:=hide (hpl.later HBA.out hhp)
 have HSQ':=hide (h'.later HBA.out hhi')
 have HPL':=hide (hpl'.later HBA.out hhp')
 have HLP:=hide hpl.1
 have HLP':=hide hpl'.1
 have HF:=hide hf
 have HF':=hide hf'
 have HTA:=hide (hT.here HBA.out)
 have HEA:=hide (E.here HBA.out)
 clear h hf hpl h' hf' hpl' hT E
 obtain⟨c0,c1,c2,c3,c4⟩:=five_cells H1.out
 obtain⟨d0,d1,d2,d3,d4⟩:=five_cells H2.out
 go_enter Tryz.func23,Tryz.ntmps23
 go_wp2_with fail
 rw[<- hwA]
 clear hwA
 refine(implFtlOk_any z a n cap qs am m cm ps op st wA HSQ.out (by omega) hn HF.out HPL.out (by omega) hm hcl HTA.out HEA.out).mono ?_
 rintro e w1 ⟨rfl,b1⟩
 have K1:=hide (block_on H1.out b1)
 have K2:=hide (block_on H2.out b1)
 have HB1:=hide (below_here HBA.out b1)
 have HS1:=hide (HSQ.out.later b1 (by omega))
 have HP1:=hide (HPL.out.later b1 (by omega))
 have HS1':=hide (HSQ'.out.later b1 (by omega))
 have HP1':=hide (HPL'.out.later b1 (by omega))
 have HT1:=hide (HTA.out.here b1)
 have HE1:=hide (HEA.out.here b1)
 have hs1:=b1.size
 clear HTA HEA b1 H1 H2 HSQ HPL HSQ' HPL' HBA c0 c1 c2 c3 c4 d0 d1 d2 d3 d4
 obtain⟨c0,c1,c2,c3,c4⟩:=five_cells K1.out
 obtain⟨d0,d1,d2,d3,d4⟩:=five_cells K2.out
 cases hok:ftlOk z qs ps op st with
 | false =>
  have HE:Hid (sf=false):=by show _=_;rw[HSF.out,HUF.out,hok];rfl
  go_wp2_with fail
  go_ret
  exact⟨ret_bool HE.out.symm,HB1.out⟩
 | true =>
  have HOK:=hide hok
  rw[hok,Bool.true_and] at HUF
  clear hok
  go_wp2_with fail
  refine(implFtlOk_any z' a' n' cap' qs' am' m' cm' ps' op' st' w1 HS1'.out (by omega) hn' HF'.out HP1'.out (by omega) hm' hcl' HT1.out HE1.out).mono ?_
  rintro e w2 ⟨rfl,b2⟩
  have K3:=hide (block_on K1.out b2)
  have K4:=hide (block_on K2.out b2)
  have HB2:=hide (below_here HB1.out b2)
  have HS2:=hide (HS1.out.later b2 (by omega))
  have HP2:=hide (HP1.out.later b2 (by omega))
  have HS2':=hide (HS1'.out.later b2 (by omega))
  have HP2':=hide (HP1'.out.later b2 (by omega))
  have HT2:=hide (HT1.out.here b2)
  have HE2:=hide (HE1.out.here b2)
  have hs2:=b2.size
  clear HT1 HE1 b2 K1 K2 HB1 HS1 HP1 HS1' HP1' c0 c1 c2 c3 c4 d0 d1 d2 d3 d4
  obtain⟨c0,c1,c2,c3,c4⟩:=five_cells K3.out
  obtain⟨d0,d1,d2,d3,d4⟩:=five_cells K4.out
  cases hok':ftlOk z' qs' ps' op' st' with
  | false =>
   have HE:Hid (sf=false):=by show _=_;rw[HSF.out,HUF.out,hok'];rfl
   go_wp2_with fail
   go_ret
   exact⟨ret_bool HE.out.symm,HB2.out⟩
  | true =>
   have HOK':=hide hok'
   rw[hok',Bool.true_and] at HUF
   clear hok'
   by_cases hlen:m=m'
   ·subst hlen
    have HU2:Hid (S=(List.range ps.length).all G):=by show _=_;rw[HUF.out,HLP.out,HLP'.out];simp
    have g1:((m:Int) != (m:Int))=false:=by simp
    have hm64:m<=64:=by have:=(mapOk_len (ftlOk_map HOK.out)).2;rw[HLP.out] at this;exact this
    clear HUF
    go_wp2_with fail
    go_loopw [30] (fun i wr=>∃k:Nat,k<=m∧i=.int .i64 (k:Int)∧(List.range k).all G=true∧Below w2.heap.size w2 wr) (fun i _=>m-(intOf i).toNat)
    case atStart=>exact⟨0,Nat.zero_le _,rfl,rfl,Below.refl _ _⟩
    case round =>
     obtain⟨k,hk,rfl,hall,hbel⟩:=hrel
     have HAL:=hide hall
     have HBB:=hide hbel
     have hszr:=hbel.size
     have KR:=hide (block_on K3.out hbel)
     have KR':=hide (block_on K4.out hbel)
     clear hall hbel c0 c1 c2 c3 c4 d0 d1 d2 d3 d4
     obtain⟨c0,c1,c2,c3,c4⟩:=five_cells KR.out
     obtain⟨d0,d1,d2,d3,d4⟩:=five_cells KR'.out
     by_cases hlt:k<m
     ·have hpl:k<ps.length:=by rw[HLP.out];exact hlt
      have hpl':k<ps'.length:=by rw[HLP'.out];exact hlt
      have hlt2:(k:Int)<(m:Int):=by omega
      have HFK:=hide (HFA.out k hpl)
      have HST:Hid (G k=true->(List.range (k+1)).all G=true):=fun hh=>all_range_step HAL.out hh
      go_wp2_with fail
      refine(entryOf_any z a n cap qs am m cm ps op st k wr (HS2.out.later HBB.out (by omega)) (by omega) hn (HP2.out.later HBB.out (by omega)) (by omega) (HT2.out.here HBB.out) (HE2.out.here HBB.out) HOK.out hlt).mono ?_
      rintro e w3 ⟨rfl,b3⟩
      have HB3:=hide (below_here HBB.out b3)
      have KR3:=hide (block_on KR.out b3)
      have KR3':=hide (block_on KR'.out b3)
      have hs3:=b3.size
      clear b3 c0 c1 c2 c3 c4 d0 d1 d2 d3 d4
      obtain⟨c0,c1,c2,c3,c4⟩:=five_cells KR3.out
      obtain⟨d0,d1,d2,d3,d4⟩:=five_cells KR3'.out
      obtain⟨g1,hg1⟩:∃g,g=ftlGet z qs ps op st (k:Int):=⟨_,rfl⟩
      have HG1:=hide hg1
      rw[<- hg1]
      clear hg1
      obtain⟨s,b⟩:=g1
      dsimp only
      go_wp2_with fail
      refine(entryOf_any z' a' n' cap' qs' am' m cm' ps' op' st' k w3 (HS2'.out.later HB3.out (by omega)) (by omega) hn' (HP2'.out.later HB3.out (by omega)) (by omega) (HT2.out.here HB3.out) (HE2.out.here HB3.out) HOK'.out hlt).mono ?_
      rintro e w4 ⟨rfl,b4⟩
      have HB4:=hide (below_here HB3.out b4)
      have KR4:=hide (block_on KR3.out b4)
      have hs4:=b4.size
      clear b4 c0 c1 c2 c3 c4 d0 d1 d2 d3 d4
      obtain⟨c0,c1,c2,c3,c4⟩:=five_cells KR4.out
      obtain⟨g2,hg2⟩:∃g,g=ftlGet z' qs' ps' op' st' (k:Int):=⟨_,rfl⟩
      have HG2:=hide hg2
      rw[<- hg2]
      clear hg2
      obtain⟨t,c⟩:=g2
      dsimp only
      have HGK:Hid (G k=(decide (s=t)&&(b==c))):=(HSG k s b t c).out HG1.out HG2.out
      have HBR:=hide (below_here HB2.out HB4.out)
      clear HSG HG1 HG2
      by_cases est:s=t
      ·subst est
       rw[show decide (s=s)=true by simp,Bool.true_and] at HGK
       have q1:=text_same s
       by_cases ebc:b=c
       ·subst ebc
        have HN:=hide (HST.out (by rw[HGK.out];simp))
        have q2:(b==b)=true:=by simp
        go_wp2_with fail
        exact⟨⟨k+1,by omega,by go_num,HN.out,HB4.out⟩,by simp[intOf];omega⟩
       ·have q2:(b==c)=false:=by simpa using ebc
        have HE:Hid (sf=false):=by show _=_;rw[HSF.out];exact HFK.out (by rw[HGK.out,q2])
        go_wp2_with fail
        go_ret
        exact⟨ret_bool HE.out.symm,HBR.out⟩
      ·have q1:=text_other est
       have HE:Hid (sf=false):=by show _=_;rw[HSF.out];exact HFK.out (by rw[HGK.out,decide_eq_false est];rfl)
       go_wp2_with fail
       go_ret
       exact⟨ret_bool HE.out.symm,HBR.out⟩
     ·obtain rfl:k=m:=by omega
      have HE:Hid (sf=true):=by show _=_;rw[HSF.out,HU2.out,HLP.out];exact HAL.out
      have HBR:=hide (below_here HB2.out HBB.out)
      go_wp2_with fail
      go_ret
      exact⟨ret_bool HE.out.symm,HBR.out⟩
   ·have g1:((m:Int) != (m':Int))=true:=by simp;omega
    have HE:Hid (sf=false):=by show _=_;rw[HSF.out,HUF.out,HLP.out,HLP'.out,decide_eq_false hlen];rfl
    go_wp2_with fail
    go_ret
    exact⟨ret_bool HE.out.symm,HB2.out⟩
end Go.Proofs.YtgjoepdfhadmcaaGreatDoor
end

section
namespace Go.Proofs.YtgjoepdfhadmcaaGreatDoor
open Go.RowKit
set_option linter.unusedVariables false
set_option maxRecDepth 20000
set_option maxHeartbeats 1600000 in
theorem maxI64_any (G N:Nat)(st:List Int)(w:World)(h:Owned G (G+1) w (some ⟨G,0,none⟩) N (fun j=>.int .i64 (stAt st j)))(h1:1<=N)(h64:N<=64) :
  Calls Tryz.prog 78 #[.slice (some ⟨G,0,none⟩) N N] w fun e w'=>(∃m,e=.returned (.int .i64 m)∧(∀j,j<N->stAt st j<=m)∧∃j,j<N∧stAt st j=m)∧w=w':=by
 have HO:=hide h
 obtain⟨c0,_⟩:=h.at0 (i:=0) (by omega)
 clear h
 have g0:decide ((N:Int)<1)=false:=by simp;omega
 obtain⟨X,hX⟩:∃X,X=stAt st 0:=⟨_,rfl⟩
 have HX:=hide hX
 rw[<- hX] at c0
 clear hX
 have HS1:Hid (∀j,j<1->stAt st j<=X):=fun j hj=>by
  have e:j=0:=by omega
  rw[e,HX.out]
  exact Int.le_refl _
 have hN0:(0:Int)<(N:Int):=by omega
 go_enter Tryz.func78,Tryz.ntmps78
 go_wp2_with fail
 go_loop [4,3] (fun i v=>∃(k:Nat) (m:Int),1<=k∧k<=N∧i=.int .i64 (k:Int)∧v=.int .i64 m∧(∀j,j<k->stAt st j<=m)∧∃j,j<k∧stAt st j=m) (fun i _=>N-(intOf i).toNat)
 case atStart=>exact⟨1,X,Nat.le_refl _,h1,rfl,rfl,HS1.out,0,by omega,HX.out.symm⟩
 case round =>
  obtain⟨k,m,hk1,hk,rfl,rfl,hall,hex⟩:=hrel
  have HAL:=hide hall
  have HEX:=hide hex
  clear hall hex c0
  by_cases hlt:k<N
  ·obtain⟨d0,_⟩:=HO.out.at0 hlt
   have hlt2:(k:Int)<(N:Int):=by omega
   obtain⟨Y,hY⟩:∃Y,Y=stAt st k:=⟨_,rfl⟩
   have HY:=hide hY
   rw[<- hY] at d0
   clear hY
   have HA2:Hid (∀j,j<k+1->stAt st j<=max m Y):=fun j hj=>by
    by_cases e:j=k
    ·subst e;rw[<- HY.out];omega
    ·have:=HAL.out j (by omega);omega
   have HE2:Hid (∃j,j<k+1∧stAt st j=max m Y):=by
    by_cases e:Y<=m
    ·obtain⟨j,hj,ej⟩:=HEX.out
     exact⟨j,by omega,by omega⟩
    ·exact⟨k,by omega,by rw[<- HY.out];omega⟩
   go_wp2_with fail
   exact⟨⟨k+1,max m Y,by omega,by omega,by go_num,rfl,HA2.out,HE2.out⟩,by simp[intOf];omega⟩
  ·obtain rfl:k=N:=by omega
   go_wp2_with fail
   go_ret
   exact⟨⟨_,rfl,HAL.out,HEX.out⟩,rfl⟩
theorem mtOne_st {n i k:Nat}{r:Int×Int×Int×ByteArray×Int}{s:Mt}(hh:mtHit n r=true)(hl:r.2.1.toNat<s.st.length):(mtOne n i k r s).st=s.st.set r.2.1.toNat (max (stAt s.st r.2.1.toNat) r.2.2.1):=by
 unfold mtOne
 rw[if_pos hh,set_max s.st _ hl]
 split<;>rfl
theorem mtOne_no {n i k:Nat}{r:Int×Int×Int×ByteArray×Int}{s:Mt}(hh:mtHit n r=false):mtOne n i k r s=s:=by
 unfold mtOne
 rw[if_neg (by rw[hh];simp)]
structure FdR (wF wr:World)(b G N:Nat)(cnt:Nat)(s:Mt)(F:Fnd):Prop where
 mem:FdAt wr b G N cnt s.st F
 ok:FdOk N s F
 lens:s.st.length=N∧s.ps.length=N
 two:Two b G wF wr
theorem FdR.on {wF wr w':World}{b G N cnt:Nat}{s:Mt}{F:Fnd}(h:FdR wF wr b G N cnt s F)(hb:Below wr.heap.size wr w'):FdR wF w' b G N cnt s F:=⟨h.mem.later hb,h.ok,h.lens,h.two.trans (Two.of_below hb)⟩
set_option maxHeartbeats 6400000 in
theorem findPages_any (z:Int)(a:Option Addr)(n cap:Nat)(qs:List Sq)(N:Nat)(w:World){lo hi:Nat}(h:Squares lo hi w a n qs)(hhi:hi<=w.heap.size)(hok:chipOk z qs=true)(h1:1<=N)(h64:N<=64)(hT:Tab w){aB aL aS aC aF:Addr}(E:Errs w aB aL aS aC aF) :
  Calls Tryz.prog 77 #[.agg #[.int .i64 z,.slice a n cap],.int .i64 (N:Int)] w fun e w'=>∃v,e=.returned v∧∃b G cnt F,v=.agg #[.map (some b),.slice (some ⟨G,0,none⟩) N N]∧w.heap.size<=b∧w.heap.size<=G∧FdAt w' b G N cnt (mtAll N qs).st F∧FdOk N (mtAll N qs) F∧Below w.heap.size w w':=by
 obtain⟨sA,hsA⟩:∃s,s=mtAll N qs:=⟨_,rfl⟩
 have HSA:=hide hsA
 rw[<- hsA]
 clear hsA
 have hn12:n<=12:=by have:=(chipOk_parts hok).2.2.2.1;rw[h.1] at this;exact this
 obtain⟨wA,hwA⟩:∃wA,wA=(w.alloc (.cells #[.int .i64 z,.slice a n cap] 26)).alloc (.cells #[.map none,.slice none 0 0] 113):=⟨_,rfl⟩
 obtain⟨wM,hwM⟩:∃wM,wM=wA.alloc (.map #[] 0):=⟨_,rfl⟩
 obtain⟨wS,hwS⟩:∃wS,wS=wM.alloc (.cells (madeCells #[.int .i64 0] N) 2):=⟨_,rfl⟩
 obtain⟨wF,hwF⟩:∃wF,wF=wS.alloc (.cells #[.map (some (w.heap.size+1+1)),.slice (some ⟨w.heap.size+1+1+1,0,none⟩) N N] 113):=⟨_,rfl⟩
 have hzA:wA.heap.size=w.heap.size+1+1:=by rw[hwA];simp
 have hzM:wM.heap.size=wA.heap.size+1:=by rw[hwM];simp
 have hzS:wS.heap.size=wM.heap.size+1:=by rw[hwS];simp
 have hzF:wF.heap.size=wS.heap.size+1:=by rw[hwF];simp
 have BM:Below wA.heap.size wA wM:=by rw[hwM];exact(Below.refl _ _).alloc (Nat.le_refl _) _
 have BS:Below wM.heap.size wM wS:=by rw[hwS];exact(Below.refl _ _).alloc (Nat.le_refl _) _
 have BF:Below wS.heap.size wS wF:=by rw[hwF];exact(Below.refl _ _).alloc (Nat.le_refl _) _
 have BA:Below w.heap.size w wA:=by rw[hwA];exact((Below.refl _ _).alloc (Nat.le_refl _) _).alloc (by simp) _
 have HBF:Hid (Below w.heap.size w wF):=below_here (below_here (below_here BA BM) BS) BF
 have H0:Hid (wF.heap[w.heap.size]?=some (.cells #[.int .i64 z,.slice a n cap] 26)):=block_on (block_on (block_on (by rw[hwA];exact heap_old (heap_new _ _)) BM) BS) BF
 have H2:Hid (wF.heap[w.heap.size+1]?=some (.cells #[.map none,.slice none 0 0] 113)):=block_on (block_on (block_on (by rw[hwA];exact heap_at (by simp)) BM) BS) BF
 have HV:Hid (wF.heap[w.heap.size+1+1+1+1]?=some (.cells #[.map (some (w.heap.size+1+1)),.slice (some ⟨w.heap.size+1+1+1,0,none⟩) N N] 113)):=by rw[hwF];exact heap_at (by omega)
 obtain⟨b,hb⟩:∃b,b=w.heap.size+1+1:=⟨_,rfl⟩
 obtain⟨G,hG⟩:∃G,G=w.heap.size+1+1+1:=⟨_,rfl⟩
 obtain⟨V,hV⟩:∃V,V=w.heap.size+1+1+1+1:=⟨_,rfl⟩
 have HFD:Hid (FdR wF wF b G N 0 (mtSqs N qs 0) (fun _ _=>none)):=by
  have m1:MapAtM wM b 0 (fun _ _=>none):=by rw[hb,<- hzA,hwM];exact mapAt_made wA
  have m2:MapAtM wF b 0 (fun _ _=>none):=(m1.kept (BS.block b m1.lt)).kept (BF.block b (Nat.lt_of_lt_of_le m1.lt BS.size))
  have r1:Owned G (G+1) wS (some ⟨G,0,none⟩) N (fun j=>.int .i64 (stAt (List.replicate N 0) j)):=by
   rw[hG,<- hzA,<- hzM,hwS]
   have hr:=World.rowIs_made wM (.int .i64 0) N 2
   refine⟨by simp,fun _=>⟨wM.heap.size,0,rfl,Nat.le_refl _,Nat.lt_succ_self _,fun i hi=>?_⟩⟩
   rw[Nat.zero_add]
   refine⟨(hr.cell hi).trans ?_,hr.frozen i⟩
   show some (Value.int .i64 0)=some (.int .i64 ((List.replicate N (0:Int)).getD i 0))
   rw[List.getD_eq_getElem?_getD,List.getElem?_replicate,if_pos hi]
   rfl
  exact⟨⟨m2,r1.later BF (by omega),List.length_replicate,by omega⟩,fdOk_start h1,⟨List.length_replicate,List.length_replicate⟩,Two.refl _ _ _⟩
 rw[<- hV,<- hG,<- hb] at HV
 have hmm:=@run_makeMap Tryz.prog
 have hmake:=run_make_row' (P:=Tryz.prog) 58 2 (.int .i64 0) 8 Tryz.underlying58 Tryz.infoI64 rfl .i64 .i64 N (by omega) (by omega)
 have HSQ:=hide h
 have HLQ:=hide h.1
 have HOK:=hide hok
 have HT:=hide hT
 have HE:=hide E
 clear h hok hT E BA BM BS BF
 go_enter Tryz.func77,Tryz.ntmps77
 go_upto_region 2 with fail
 rw[<- hwA,<- hwM,<- hwS,<- hwF,<- hV,<- hG,<- hb]
 have hbw:w.heap.size+1<b:=by omega
 have hbG:b<G:=by omega
 have hGV:G<V:=by omega
 have hVF:V<wF.heap.size:=by omega
 clear hwA hwM hwS hwF hzA hzM hzS hzF hb hG hV hmm hmake
 obtain⟨c0,c1⟩:=two_cells H0.out
 go_wp2_with fail
 go_loopw [19] (fun x wr=>∃(i cnt:Nat) (F:Fnd),i<=n∧x=.int .i64 (i:Int)∧cnt<=8*i∧FdR wF wr b G N cnt (mtSqs N qs i) F) (fun x _=>n-(intOf x).toNat)
 case atStart=>exact⟨0,0,_,Nat.zero_le _,rfl,Nat.le_refl _,HFD.out⟩
 case round =>
  obtain⟨i,cnt,F,hi,rfl,hcnt,hR⟩:=hrel
  have HR:=hide hR
  have hszr:=hR.two.size
  have HBR:=hide (HBF.out.trans (hR.two.below (B:=w.heap.size) (by omega) (by omega) (by omega)))
  have K0:Hid (wr.heap[w.heap.size]?=some (.cells #[.int .i64 z,.slice a n cap] 26)):=(hR.two.block _ (by omega) (by omega) (by omega)).trans H0.out
  have K2:Hid (wr.heap[w.heap.size+1]?=some (.cells #[.map none,.slice none 0 0] 113)):=(hR.two.block _ (by omega) (by omega) (by omega)).trans H2.out
  have KV:Hid (wr.heap[V]?=some (.cells #[.map (some b),.slice (some ⟨G,0,none⟩) N N] 113)):=(hR.two.block _ (by omega) (by omega) (by omega)).trans HV.out
  clear hR c0 c1
  by_cases hlt:i<n
  ·have hql:i<qs.length:=by rw[HLQ.out];exact hlt
   have hlt2:(i:Int)<(n:Int):=by omega
   have HSR:=hide (HSQ.out.later HBR.out hhi)
   obtain⟨_,A,C,hx,ht⟩:=HSR.out
   obtain⟨bq,off,rfl,_,hbq,hc⟩:=hx.2 (by omega)
   have hbqs:bq<wr.heap.size:=by have:=hx.1;omega
   obtain⟨q0,q1,q2⟩:=sq_cells hc (Below.refl wr.heap.size wr) hbqs hlt
   have hsq:=sqOk_parts (chipOk_at HOK.out hql)
   have hl8:(sqAt qs i).1.length<=8:=by have:=hsq.1;have:=(chipOk_parts HOK.out).2.1;omega
   have HTX:Hid (∀j,j<(sqAt qs i).1.length->(txAt qs i j).size<=1048576):=fun j hj=>by
    have:=(hsq.2.2.2 (txAt qs i j) (by unfold txAt;rw[List.getD_eq_getElem?_getD,List.getElem?_eq_getElem hj];exact List.getElem_mem _)).2
    omega
   obtain⟨ln,hln⟩:∃ln,ln=(sqAt qs i).1.length:=⟨_,rfl⟩
   obtain⟨zw,hzw⟩:∃zw,zw=(sqAt qs i).2.1:=⟨_,rfl⟩
   obtain⟨bd,hbd⟩:∃bd,bd=(sqAt qs i).2.2:=⟨_,rfl⟩
   have HLN:=hide hln
   rw[<- hln] at q0 hl8 HTX
   rw[<- hzw] at q1
   rw[<- hbd] at q2
   clear hln hzw hbd hsq hc hx ht
   obtain⟨wQ,hwQ⟩:∃wQ,wQ=wr.alloc (.cells #[.slice (A i) ln (C i),.int .i64 zw,.bool bd] 42):=⟨_,rfl⟩
   have hzQ:wr.heap.size<wQ.heap.size:=by rw[hwQ];simp
   have HBQ:Hid (Below wr.heap.size wr wQ):=by rw[hwQ];exact(Below.refl _ _).alloc (Nat.le_refl _) _
   have HQQ:Hid (wQ.heap[wr.heap.size]?=some (.cells #[.slice (A i) ln (C i),.int .i64 zw,.bool bd] 42)):=by rw[hwQ];exact heap_new _ _
   have HRQ:=hide (HR.out.on HBQ.out)
   obtain⟨wo,hwo⟩:∃wo,wo=wr:=⟨_,rfl⟩
   subst hwo
   obtain⟨k0,k1⟩:=two_cells K0.out
   go_upto_region 5 with fail
   rw[<- hwQ]
   clear hwQ q0 q1 q2 k0 k1
   obtain⟨x0,x1,x2⟩:=three_cells HQQ.out
   go_wp2_with fail
   go_loopw [27] (fun x wr=>∃(k cn:Nat) (F:Fnd),k<=ln∧x=.int .i64 (k:Int)∧cn<=8*i+k∧FdR wF wr b G N cn (mtPages N qs i (mtSqs N qs i) k) F) (fun x _=>ln-(intOf x).toNat)
   case atStart=>exact⟨0,cnt,F,Nat.zero_le _,rfl,by omega,HRQ.out⟩
   case round =>
    obtain⟨k,cn,F2,hk,rfl,hcn,hR2⟩:=hrel
    have HR2:=hide hR2
    have hsz2:=hR2.two.size
    have L0:Hid (wr.heap[w.heap.size]?=some (.cells #[.int .i64 z,.slice (some ⟨bq,off,none⟩) n cap] 26)):=(hR2.two.block _ (by omega) (by omega) (by omega)).trans H0.out
    have LV:Hid (wr.heap[V]?=some (.cells #[.map (some b),.slice (some ⟨G,0,none⟩) N N] 113)):=(hR2.two.block _ (by omega) (by omega) (by omega)).trans HV.out
    have HB2:=hide (HBF.out.trans (hR2.two.below (B:=w.heap.size) (by omega) (by omega) (by omega)))
    clear hR2 x0 x1 x2
    by_cases hltk:k<ln
    ·have hkl:k<(sqAt qs i).1.length:=by rw[<- HLN.out];exact hltk
     have hltk2:(k:Int)<(ln:Int):=by omega
     obtain⟨wP,hwP⟩:∃wP,wP=wr.alloc (.cells #[.int .i64 (i:Int),.int .i64 (k:Int)] 39):=⟨_,rfl⟩
     have hzP:wr.heap.size<wP.heap.size:=by rw[hwP];simp
     have HBP:Hid (Below wr.heap.size wr wP):=by rw[hwP];exact(Below.refl _ _).alloc (Nat.le_refl _) _
     have HPP:Hid (wP.heap[wr.heap.size]?=some (.cells #[.int .i64 (i:Int),.int .i64 (k:Int)] 39)):=by rw[hwP];exact heap_new _ _
     have HRP:=hide (HR2.out.on HBP.out)
     have HB3:=hide (HB2.out.trans (HBP.out.mono (by omega)))
     have M0:=hide (block_on L0.out HBP.out)
     have MV:=hide (block_on LV.out HBP.out)
     go_upto_region 9 with fail
     rw[<- hwP]
     clear hwP
     obtain⟨k0,k1⟩:=two_cells M0.out
     obtain⟨p0,p1⟩:=two_cells HPP.out
     go_wp2_with fail
     refine(pageLying_any z (some ⟨bq,off,none⟩) n cap qs i k wP (HSQ.out.later HB3.out hhi) (by omega) hlt hkl (by rw[<- HLN.out];exact hl8) (by omega) (HTX.out k hltk) (HT.out.here HB3.out) (HE.out.here HB3.out)).mono ?_
     rintro e w4 ⟨rfl,b4⟩
     clear k0 k1 p0 p1
     have HSTEP:=hide (show mtPages N qs i (mtSqs N qs i) (k+1)=mtOne N i k (lyP (txAt qs i k)) (mtPages N qs i (mtSqs N qs i) k) from rfl)
     have HWEL:=hide (fun hh=>lyP_well (s:=txAt qs i k) hh)
     have HOKN:=hide (fun s9 F9 (h9:FdOk N s9 F9) h10 h11=>fdOk_one (n:=N) (i:=i) (k:=k) (tx:=txAt qs i k) h9 h10 h11)
     obtain⟨r,hr⟩:∃r,r=lyP (txAt qs i k):=⟨_,rfl⟩
     rw[<- hr] at HSTEP HWEL HOKN
     rw[<- hr]
     clear hr
     obtain⟨r0,r1,r2,r3,r4⟩:=r
     unfold pgV4
     dsimp only at HWEL ⊢
     obtain⟨wG,hwG⟩:∃wG,wG=w4.alloc (.cells #[.int .i64 r0,.int .i64 r1,.int .i64 r2,.string r3] 31):=⟨_,rfl⟩
     have hzG:w4.heap.size<wG.heap.size:=by rw[hwG];simp
     have HBG:Hid (Below w4.heap.size w4 wG):=by rw[hwG];exact(Below.refl _ _).alloc (Nat.le_refl _) _
     have HGG:Hid (wG.heap[w4.heap.size]?=some (.cells #[.int .i64 r0,.int .i64 r1,.int .i64 r2,.string r3] 31)):=by rw[hwG];exact heap_new _ _
     have HB4:=hide (below_here b4 HBG.out)
     have HRG:=hide (HRP.out.on HB4.out)
     have NV:=hide (block_on MV.out HB4.out)
     have NP:=hide (block_on HPP.out HB4.out)
     clear b4
     obtain⟨s,hs⟩:∃s,s=mtPages N qs i (mtSqs N qs i) k:=⟨_,rfl⟩
     rw[<- hs] at HRG HSTEP
     have HS:=hide hs
     clear hs
     have HNXT:Hid (mtHit N (r0,r1,r2,r3,r4)=false->FdR wF wG b G N cn (mtPages N qs i (mtSqs N qs i) (k+1)) F2):=fun hh=>by
      rw[HSTEP.out,mtOne_no hh];exact HRG.out
     cases hw:lyWell r4 with
     | false =>
      have HN:=hide (HNXT.out (by unfold mtHit;rw[hw];rfl))
      go_wp2_with fail
      rw[<- hwG]
      exact⟨⟨k+1,cn,F2,by omega,by go_num,by omega,HN.out⟩,by simp[intOf];omega⟩
     | true =>
      obtain⟨v1,v2,v3,v4⟩:=HWEL.out hw
      obtain⟨aa,rfl⟩:∃aa:Nat,r1=(aa:Int):=⟨r1.toNat,by omega⟩
      go_upto_region 10 with fail
      rw[<- hwG]
      clear hwG
      obtain⟨g0,g1,g2,g3⟩:=four_cells HGG.out
      by_cases haN:aa<N
      ·have haN2:(aa:Int)<(N:Int):=by omega
       have hhit:mtHit N (r0,(aa:Int),r2,r3,r4)=true:=by unfold mtHit;dsimp only;rw[hw];simp;omega
       obtain⟨y0,y1⟩:=two_cells NV.out
       obtain⟨p0,p1⟩:=two_cells NP.out
       go_wp2_with fail
       refine(add_any b G N cn aa s.st F2 r0 r2 r3 (i:Int) (k:Int) wG HRG.out.mem haN h64 v3 v4 (by omega)).mono ?_
       rintro e w5 ⟨rfl,hm5,ht5⟩
       have HN:Hid (FdR wF w5 b G N (cn+1) (mtPages N qs i (mtSqs N qs i) (k+1)) (fndAdd F2 (aa:Int) r2 ((i:Int),(k:Int)))):=by
        have hl:=HRG.out.lens
        have hst:(mtOne N i k (r0,(aa:Int),r2,r3,r4) s).st=s.st.set aa (max (stAt s.st aa) r2):=by
         have:=mtOne_st (i:=i) (k:=k) (s:=s) hhit (by show(aa:Int).toNat<_;rw[Int.toNat_natCast,hl.1];exact haN)
         dsimp only at this
         rw[Int.toNat_natCast] at this
         exact this
        have hfd:=HOKN.out s F2 HRG.out.ok hl.1 hl.2
        unfold fdOne at hfd
        rw[if_pos hhit] at hfd
        dsimp only at hfd
        rw[HSTEP.out]
        refine⟨by rw[hst];exact hm5,hfd,⟨by rw[hst,List.length_set];exact hl.1,?_⟩,HRG.out.two.trans ht5⟩
        unfold mtOne
        rw[if_pos hhit]
        split
        ·dsimp only;rw[List.length_set];exact hl.2
        ·exact hl.2
       clear hm5 ht5 y0 y1 p0 p1 g0 g1 g2 g3
       go_wp2_with fail
       exact⟨⟨k+1,cn+1,_,by omega,by go_num,by omega,HN.out⟩,by simp[intOf];omega⟩
      ·have haN2:decide ((aa:Int)<(N:Int))=false:=by simp;omega
       have HN:=hide (HNXT.out (by unfold mtHit;dsimp only;rw[hw];simp;omega))
       go_wp2_with fail
       exact⟨⟨k+1,cn,F2,by omega,by go_num,by omega,HN.out⟩,by simp[intOf];omega⟩
    ·obtain rfl:k=ln:=by omega
     have HN:Hid (FdR wF wr b G N cn (mtSqs N qs (i+1)) F2):=by
      show FdR wF wr b G N cn (mtPages N qs i (mtSqs N qs i) (sqAt qs i).1.length) F2
      rw[<- HLN.out];exact HR2.out
     go_wp2_with fail
     exact⟨⟨i+1,cn,F2,by omega,by go_num,by omega,HN.out⟩,by simp[intOf];omega⟩
  ·obtain rfl:i=n:=by omega
   have HEQ:Hid (mtSqs N qs i=sA):=by show _=_;rw[HSA.out];unfold mtAll;rw[HLQ.out]
   rw[HEQ.out] at HR
   obtain⟨v0,v1⟩:=two_cells KV.out
   obtain⟨p0,p1⟩:=two_cells K2.out
   have f0:=four_frozen K2.out 0
   have f1:=four_frozen K2.out 1
   have HRS:=hide (two_set K2.out (.map (some b)) (.slice (some ⟨G,0,none⟩) N N))
   have HAS:=hide (two_aside (b:=w.heap.size+1) (Aside.refl (w.heap.size+1) (w.heap.size+1+1) wr) (Nat.le_refl _) (Nat.lt_succ_self _) (.map (some b)) (.slice (some ⟨G,0,none⟩) N N))
   have HBE:=hide (HBR.out.trans (HAS.out.below (B:=w.heap.size) (by omega) (by omega)))
   have HFE:Hid (FdAt ((wr.setCell ⟨w.heap.size+1,0,none⟩ (.map (some b))).setCell ⟨w.heap.size+1,1,none⟩ (.slice (some ⟨G,0,none⟩) N N)) b G N cnt sA.st F) :=
    ⟨HR.out.mem.map.kept (HAS.out.block b HR.out.mem.map.lt (.inr (by omega))),HR.out.mem.row.aside HAS.out (.inr (by omega)),HR.out.mem.len,HR.out.mem.ne⟩
   go_wp2_with fail
   refine bodyPost_ret (results_cell rfl rfl (run_loadVar_row _ _ _ _ _ _ _ HRS.out Tryz.underlying113 rfl (by kernel_rfl))) rfl ⟨_,rfl,b,G,cnt,F,rfl,by omega,by omega,HFE.out,HR.out.ok,HBE.out⟩
end Go.Proofs.YtgjoepdfhadmcaaGreatDoor
end

section
namespace Go.Proofs.YtgjoepdfhadmcaaGreatDoor
open Go.RowKit
set_option linter.unusedVariables false
set_option maxRecDepth 20000
theorem own_of_mixed {lo B n g gm:Nat}{w:World}{am:Option Addr}{A:Nat->Option Addr}{C:Nat->Nat}{qs:List Sq}{ps:List Pl}(sq:GrowSqs B w n qs g A C)(pl:OwnPlaces gm (gm+1) w am ps.length ps)(h1:lo<=gm)(h2:gm<B)(h3:gm<w.heap.size)(h4:lo<=B):FtlOwn lo w.heap.size w (some ⟨g,0,none⟩) am qs ps:=by
 have hl:=sq.len
 have hg:=sq.atG
 refine⟨Nat.le_refl _,.inr ⟨g,0,A,C,fun i=>(oB (A i)).getD g,gm,?_,pl,h1,h3,by omega,fun i hi h0 e=>?_⟩⟩
 ·have:=sq.own.wide h4 (Nat.le_refl _) (Nat.le_refl _)
  rw[hl]
  exact this
 ·rw[hl] at hi
  have:=(sq.own.atP i hi).1
  dsimp only at e this
  omega
def psK (s:Mt)(N k:Nat):List Pl:=(List.range N).map fun j=>if j<k then plAt s.ps j else(-1,0)
theorem psK_len (s:Mt)(N k:Nat):(psK s N k).length=N:=by unfold psK;simp
theorem psK_at (s:Mt){N k j:Nat}(h:j<N):plAt (psK s N k) j=if j<k then plAt s.ps j else(-1,0):=by
 unfold plAt psK
 rw[List.getD_eq_getElem?_getD,List.getElem?_map,List.getElem?_range h]
 rfl
theorem pl_ext {l m:List Pl}(hl:l.length=m.length)(h:∀j,j<l.length->plAt l j=plAt m j):l=m:=by
 refine List.ext_getElem hl fun j h1 h2=>?_
 have:=h j h1
 unfold plAt at this
 rw[List.getD_eq_getElem?_getD,List.getD_eq_getElem?_getD,List.getElem?_eq_getElem h1,List.getElem?_eq_getElem h2] at this
 exact this
theorem psK_zero (s:Mt)(N:Nat):psK s N 0=List.replicate N (-1,0):=by
 unfold psK
 simp[List.map_const']
theorem psK_set (s:Mt){N k:Nat}(h:k<N):(psK s N k).set k (plAt s.ps k)=psK s N (k+1):=by
 refine pl_ext (by rw[List.length_set,psK_len,psK_len]) fun j hj=>?_
 rw[List.length_set,psK_len] at hj
 rw[plAt_set _ _ (by rw[psK_len];exact h),psK_at s hj,psK_at s hj]
 by_cases e:j=k
 ·subst e;rw[if_pos rfl,if_pos (by omega)]
 ·rw[if_neg e]
  by_cases e2:j<k
  ·rw[if_pos e2,if_pos (by omega)]
  ·rw[if_neg e2,if_neg (by omega)]
theorem psK_skip (s:Mt){N k:Nat}(h:k<N)(h0:plAt s.ps k=(-1,0)):psK s N k=psK s N (k+1):=by
 refine pl_ext (by rw[psK_len,psK_len]) fun j hj=>?_
 rw[psK_len] at hj
 rw[psK_at s hj,psK_at s hj]
 by_cases e:j=k
 ·subst e;rw[if_neg (by omega),if_pos (by omega),h0]
 ·by_cases e2:j<k
  ·rw[if_pos e2,if_pos (by omega)]
  ·rw[if_neg e2,if_neg (by omega)]
theorem psK_all (s:Mt){N:Nat}(h:s.ps.length=N):psK s N N=s.ps:=by
 refine pl_ext (by rw[psK_len,h]) fun j hj=>?_
 rw[psK_len] at hj
 rw[psK_at s hj,if_pos hj]
theorem cellP_pair (ps:List Pl){T:Nat}(x y:Int)(h:T<ps.length)(j:Nat):(if j=T*2+1 then Value.int .i64 y else if j=T*2 then .int .i64 x else cellP ps j)=cellP (ps.set T (x,y)) j:=by
 unfold cellP
 rw[plAt_set ps _ h]
 by_cases e1:j=T*2+1
 ·subst e1
  rw[if_pos rfl,if_neg (show ¬(T*2+1) % 2=0 by omega),if_pos (show(T*2+1) / 2=T by omega)]
 ·rw[if_neg e1]
  by_cases e0:j=T*2
  ·subst e0
   rw[if_pos rfl,if_pos (show T*2 % 2=0 by omega),if_pos (show T*2 / 2=T by omega)]
  ·rw[if_neg e0,if_neg (show ¬j / 2=T by omega)]
theorem mountF_no {z:Int}{qs:List Sq}{n:Int}(h:(nfOk (qs.length:Int) z n&&chipOk z qs)=false):mountF z qs n=⟨0,[],[],0,0⟩:=by
 unfold mountF
 rw[if_neg]
 intro h2
 rw[Bool.and_eq_true] at h2
 have h3:newOk (qs.length:Int) z=true:=by
  obtain⟨k1,k2,k3,k4,_⟩:=chipOk_parts h2.1
  unfold newOk inB
  simp
  omega
 unfold nfOk at h
 rw[h3,h2.1,h2.2] at h
 cases h
theorem mountF_yes {z:Int}{qs:List Sq}{n:Int}(h1:nfOk (qs.length:Int) z n=true)(h2:chipOk z qs=true):1<=n∧n<=64∧mountF z qs n=⟨z,qs,(mtAll n.toNat qs).ps,-1,(mtAll n.toNat qs).S⟩:=by
 unfold nfOk at h1
 rw[Bool.and_eq_true] at h1
 have hn:1<=n∧n<=64:=by have:=h1.2;unfold inB at this;simpa using this
 refine⟨hn.1,hn.2,?_⟩
 unfold mountF
 rw[h2,h1.2]
 rfl
set_option maxHeartbeats 8000000 in
theorem implMount_any (z:Int)(a:Option Addr)(n cap:Nat)(qs:List Sq)(NI:Int)(w:World){lo hi:Nat}(h:Squares lo hi w a n qs)(hhi:hi<=w.heap.size)(hn:n<=1048576)(hf:∀x∈qs,sqFits x)(hT:Tab w){aB aL aS aC aF:Addr}(E:Errs w aB aL aS aC aF) :
  Calls Tryz.prog 15 #[.agg #[.int .i64 z,.slice a n cap],.int .i64 NI] w fun e w'=>∃v,e=.returned v∧FtlAns w (mountF z qs NI) v w':=by
 obtain⟨fv,hfv⟩:∃fv:Fv,fv=mountF z qs NI:=⟨_,rfl⟩
 have HFV:=hide hfv
 rw[<- hfv]
 clear hfv
 obtain⟨wA,hwA⟩:∃wA,wA=(w.alloc (.cells #[.int .i64 z,.slice a n cap] 26)).alloc (.cells #[.int .i64 0,.slice none 0 0,.slice none 0 0,.int .i64 0,.int .i64 0] 29):=⟨_,rfl⟩
 have hzA:wA.heap.size=w.heap.size+1+1:=by rw[hwA];simp
 have HBA:Hid (Below w.heap.size w wA):=by rw[hwA];exact((Below.refl _ _).alloc (Nat.le_refl _) _).alloc (by simp) _
 have H0:Hid (wA.heap[w.heap.size]?=some (.cells #[.int .i64 z,.slice a n cap] 26)):=by rw[hwA];exact heap_old (heap_new _ _)
 have H1:Hid (wA.heap[w.heap.size+1]?=some (.cells #[.int .i64 0,.slice none 0 0,.slice none 0 0,.int .i64 0,.int .i64 0] 29)):=by rw[hwA];exact heap_at (by simp)
 have HSQ:=hide (h.later HBA.out hhi)
 have HLQ:=hide h.1
 have HFI:=hide hf
 have HT:=hide hT
 have HE:=hide E
 clear h hf hT E
 obtain⟨d0,d1⟩:=two_cells H0.out
 have hnw:((n:Int))<=9223372036854775807:=by omega
 go_enter Tryz.func15,Tryz.ntmps15
 go_wp2_with fail
 rw[<- hwA]
 clear hwA
 refine(implNewFtl_any (n:Int) z NI wA).mono ?_
 rintro e w1 ⟨v,rfl,a1,c1',am1,cm1,rfl,ho1,b1,hc1⟩
 have HNO:Hid ((nfOk (n:Int) z NI&&chipOk z qs)=false->fv=⟨0,[],[],0,0⟩):=fun hh=>by rw[HFV.out];exact mountF_no (by rw[HLQ.out];exact hh)
 have HYE:Hid (nfOk (n:Int) z NI=true->chipOk z qs=true->1<=NI∧NI<=64∧fv=⟨z,qs,(mtAll NI.toNat qs).ps,-1,(mtAll NI.toNat qs).S⟩):=fun h1 h2=>by rw[HFV.out];exact mountF_yes (by rw[HLQ.out];exact h1) h2
 have HNF:Hid (nfOk (n:Int) z NI=true->newF (n:Int) z NI=⟨z,newQ (n:Int) z,List.replicate NI.toNat (-1,0),-1,0⟩):=fun hh=>by unfold newF;rw[if_pos hh]
 obtain⟨f1,hf1⟩:∃f,f=newF (n:Int) z NI:=⟨_,rfl⟩
 rw[<- hf1] at ho1 hc1 HNF
 rw[<- hf1]
 clear hf1
 obtain⟨nb,hnb⟩:∃nb,nb=nfOk (n:Int) z NI:=⟨_,rfl⟩
 rw[<- hnb] at HNO HYE HNF
 rw[<- hnb]
 clear hnb
 unfold fvV
 obtain⟨wX,hwX⟩:∃wX,wX=w1.alloc (.cells #[.int .i64 f1.z,.slice a1 f1.qs.length c1',.slice am1 f1.ps.length cm1,.int .i64 f1.op,.int .i64 f1.st] 29):=⟨_,rfl⟩
 have hzX:w1.heap.size<wX.heap.size:=by rw[hwX];simp
 have HBX:Hid (Below w1.heap.size w1 wX):=by rw[hwX];exact(Below.refl _ _).alloc (Nat.le_refl _) _
 have HX:Hid (wX.heap[w1.heap.size]?=some (.cells #[.int .i64 f1.z,.slice a1 f1.qs.length c1',.slice am1 f1.ps.length cm1,.int .i64 f1.op,.int .i64 f1.st] 29)):=by rw[hwX];exact heap_new _ _
 have HB1:=hide (below_here b1 HBX.out)
 have HO1:=hide (ho1.later HBX.out (Nat.le_refl _))
 have HC1:=hide hc1
 have K0:=hide (block_on H0.out HB1.out)
 have K1:=hide (block_on H1.out HB1.out)
 have HS1:=hide (HSQ.out.later HB1.out (by omega))
 have HBW:=hide (below_here HBA.out HB1.out)
 have hs1:=b1.size
 clear ho1 b1 hc1 H0 H1 HSQ HBA d0 d1
 go_upto_region 2 with fail
 rw[<- hwX]
 clear hwX
 have HZ:∀w9:World,Hid (Below wX.heap.size wX w9->fv=⟨0,[],[],0,0⟩->∃v,(Value.agg #[.int .i64 0,.slice none 0 0,.slice none 0 0,.int .i64 0,.int .i64 0])=v∧FtlAns w fv v (((((w9.setCell ⟨w.heap.size+1,0,none⟩ (.int .i64 0)).setCell ⟨w.heap.size+1,1,none⟩ (.slice none 0 0)).setCell ⟨w.heap.size+1,2,none⟩ (.slice none 0 0)).setCell ⟨w.heap.size+1,3,none⟩ (.int .i64 0)).setCell ⟨w.heap.size+1,4,none⟩ (.int .i64 0))):=fun w9 hb he=>by
  have hs9:=hb.size
  have HAS:=five_aside (b:=w.heap.size+1) (Aside.refl (w.heap.size+1) (w.heap.size+1+1) w9) (Nat.le_refl _) (Nat.lt_succ_self _) (.int .i64 0) (.slice none 0 0) (.slice none 0 0) (.int .i64 0) (.int .i64 0)
  refine⟨_,rfl,none,0,none,0,by rw[he];rfl,⟨Nat.le_refl _,.inl (by rw[he];exact⟨rfl,rfl⟩)⟩,(below_here HBW.out hb).trans (HAS.below (B:=w.heap.size) (by omega) (by omega)),by rw[he];exact Nat.le_refl _⟩
 cases nb with
 | false =>
  have HFE:=hide (HNO.out rfl)
  obtain⟨p0,p1,p2,p3,p4⟩:=five_cells K1.out
  have f0:=four_frozen K1.out 0
  have f1':=four_frozen K1.out 1
  have f2:=four_frozen K1.out 2
  have f3:=four_frozen K1.out 3
  have f4:=four_frozen K1.out 4
  have HRS:=hide (five_set K1.out (.int .i64 0) (.slice none 0 0) (.slice none 0 0) (.int .i64 0) (.int .i64 0))
  obtain⟨vz,hvz,hz9⟩:=(HZ wX).out (Below.refl _ _) HFE.out
  have HZ9:=hide hz9
  subst hvz
  clear hz9
  go_wp2_with fail
  exact bodyPost_ret (results_cell rfl rfl (run_loadVar_row _ _ _ _ _ _ _ HRS.out Tryz.underlying29 rfl (by kernel_rfl))) rfl ⟨_,rfl,HZ9.out⟩
 | true =>
  obtain⟨d0,d1⟩:=two_cells K0.out
  go_wp2_with fail
  refine(implChipOk_any z a n cap qs wX HS1.out (by omega) hn HFI.out).mono ?_
  rintro e w2 ⟨rfl,b2⟩
  have HX2:=hide (block_on HX.out b2)
  have L0:=hide (block_on K0.out b2)
  have L1:=hide (block_on K1.out b2)
  have HS2:=hide (HS1.out.later b2 (by omega))
  have HO2:=hide (HO1.out.later b2 HO1.out.1)
  have HB2:=hide (below_here HBW.out b2)
  have HBX2:=hide b2
  have hs2:=b2.size
  clear b2 d0 d1 K0 K1 HX HS1 HO1
  cases hok:chipOk z qs with
  | false =>
   have HFE:=hide (HNO.out (by rw[hok];rfl))
   obtain⟨p0,p1,p2,p3,p4⟩:=five_cells L1.out
   have f0:=four_frozen L1.out 0
   have f1':=four_frozen L1.out 1
   have f2:=four_frozen L1.out 2
   have f3:=four_frozen L1.out 3
   have f4:=four_frozen L1.out 4
   have HRS:=hide (five_set L1.out (.int .i64 0) (.slice none 0 0) (.slice none 0 0) (.int .i64 0) (.int .i64 0))
   obtain⟨vz,hvz,hz9⟩:=(HZ w2).out HBX2.out HFE.out
   have HZ9:=hide hz9
   subst hvz
   clear hz9
   go_wp2_with fail
   exact bodyPost_ret (results_cell rfl rfl (run_loadVar_row _ _ _ _ _ _ _ HRS.out Tryz.underlying29 rfl (by kernel_rfl))) rfl ⟨_,rfl,HZ9.out⟩
  | true =>
   have HOK:=hide hok
   obtain⟨hN1,hN64,hfe⟩:=HYE.out (by trivial) hok
   obtain⟨N,rfl⟩:∃N:Nat,NI=(N:Int):=⟨NI.toNat,by omega⟩
   rw[Int.toNat_natCast] at hfe
   have hnf:=HNF.out (by trivial)
   rw[Int.toNat_natCast] at hnf
   have HFE:=hide hfe
   have hp1:f1.ps=List.replicate N (-1,0):=by rw[hnf]
   have hpl:f1.ps.length=N:=by rw[hp1];exact List.length_replicate
   have ho1':f1.op = -1:=by rw[hnf]
   have hst1:f1.st=0:=by rw[hnf]
   have h1N:1<=N:=by omega
   have h64N:N<=64:=by omega
   rw[hpl] at HX2 HC1
   rw[ho1',hst1] at HX2
   obtain⟨hh2,hor⟩:=HO2.out
   have hmp:∃gm,OwnPlaces gm (gm+1) w2 am1 N (List.replicate N (-1,0))∧wA.heap.size<=gm∧gm<w1.heap.size:=by
    rcases hor with⟨_,e2⟩|⟨g,off,A,C,P,gm,_,h3,h4,h5,_⟩
    ·rw[hp1] at e2
     have:(List.replicate N ((-1:Int),(0:Int))).length=0:=by rw[e2];rfl
     rw[List.length_replicate] at this
     omega
    ·rw[hpl,hp1] at h3
     exact⟨gm,h3,h4,h5⟩
   obtain⟨gm,hmap,hgm1,hgm2⟩:=hmp
   obtain⟨bm,off,rfl,hb1',hb2',_⟩:=hmap.2.2 (by omega)
   obtain rfl:bm=gm:=by omega
   have HMP:=hide hmap
   obtain⟨q1,hq1⟩:∃q,q=f1.qs.length:=⟨_,rfl⟩
   rw[<- hq1] at HX2
   obtain⟨z1,hz1⟩:∃q,q=f1.z:=⟨_,rfl⟩
   rw[<- hz1] at HX2
   clear hok HNF HNO HYE hfe hnf hp1 hpl ho1' hst1 hor hmap HO2 HZ hb1' hb2' hq1 hz1
   obtain⟨d0,d1⟩:=two_cells L0.out
   go_wp2_with fail
   refine(copyOfChip_any z a n cap qs w2 HS2.out (by omega) HOK.out).mono ?_
   rintro e w3 ⟨g,c,A,C,rfl,hG,b3⟩
   have hs3:=b3.size
   have hX3:=block_on HX2.out b3
   obtain⟨wC,hwC⟩:∃wC,wC=(w3.setCell ⟨w1.heap.size,0,none⟩ (.int .i64 z)).setCell ⟨w1.heap.size,1,none⟩ (.slice (some ⟨g,0,none⟩) n c):=⟨_,rfl⟩
   have HAC:Hid (Aside w1.heap.size (w1.heap.size+1) w3 wC):=by rw[hwC];exact two_aside (b:=w1.heap.size) (Aside.refl _ _ w3) (Nat.le_refl _) (Nat.lt_succ_self _) _ _
   have HXC:Hid (wC.heap[w1.heap.size]?=some (.cells #[.int .i64 z,.slice (some ⟨g,0,none⟩) n c,.slice (some ⟨bm,off,none⟩) N cm1,.int .i64 (-1),.int .i64 0] 29)):=by
    rw[hwC]
    exact set_block (set_block hX3 0 _ (by simp)) 1 _ (by simp)
   have hgB:=hG.atG
   have hgl:g<w3.heap.size:=by have:=hG.row.1;omega
   have HGC:=hide (hG.aside HAC.out (.inl (by omega)))
   have HMC:=hide ((HMP.out.later b3 (by omega)).aside HAC.out (by omega))
   have M0:Hid (wC.heap[w.heap.size]?=some (.cells #[.int .i64 z,.slice a n cap] 26)):=(HAC.out.block _ (by omega) (by omega)).trans (block_on L0.out b3)
   have M1:Hid (wC.heap[w.heap.size+1]?=some (.cells #[.int .i64 0,.slice none 0 0,.slice none 0 0,.int .i64 0,.int .i64 0] 29)):=(HAC.out.block _ (by omega) (by omega)).trans (block_on L1.out b3)
   have HBC:=hide ((below_here HB2.out b3).trans (HAC.out.below (B:=w.heap.size) (by omega) (by omega)))
   have hsC:=HAC.out.size
   obtain⟨p0,p1,p2,p3,p4⟩:=five_cells hX3
   have f0:=four_frozen hX3 0
   have f1':=four_frozen hX3 1
   clear hG b3 hX3 d0 d1 HX2 L0 L1 HMP HS2
   go_upto_region 5 with fail
   rw[<- hwC]
   clear hwC p0 p1 p2 p3 p4 f0 f1'
   obtain⟨p0,p1,p2,p3,p4⟩:=five_cells HXC.out
   have HGS:=hide HGC.out.own.squares
   go_wp2_with fail
   refine(findPages_any z (some ⟨g,0,none⟩) n c qs N wC HGS.out (Nat.le_refl _) HOK.out h1N h64N (HT.out.here HBC.out) (HE.out.here HBC.out)).mono ?_
   rintro e w4 ⟨v,rfl,b,G,cnt,F,rfl,hb,hGG,hFD,hFK,b4⟩
   obtain⟨wD,hwD⟩:∃wD,wD=w4.alloc (.cells #[.map (some b),.slice (some ⟨G,0,none⟩) N N] 113):=⟨_,rfl⟩
   have hzD:w4.heap.size<wD.heap.size:=by rw[hwD];simp
   have HBD:Hid (Below w4.heap.size w4 wD):=by rw[hwD];exact(Below.refl _ _).alloc (Nat.le_refl _) _
   have HDD:Hid (wD.heap[w4.heap.size]?=some (.cells #[.map (some b),.slice (some ⟨G,0,none⟩) N N] 113)):=by rw[hwD];exact heap_new _ _
   have B4:=hide (below_here b4 HBD.out)
   have hs4:=b4.size
   have HFD:=hide (hFD.later HBD.out)
   have HFK:=hide hFK
   have HXD:=hide (block_on HXC.out B4.out)
   have HGD:=hide (HGC.out.later B4.out)
   have HMD:=hide (HMC.out.later B4.out HMC.out.2.1)
   have N1:=hide (block_on M1.out B4.out)
   have HBE:=hide (below_here HBC.out B4.out)
   have hbl:=hFD.map.lt
   have hGl:G<w4.heap.size:=by have:=hFD.row.1;omega
   clear b4 hFD hFK p0 p1 p2 p3 p4 HXC HGC HMC M0 M1 HGS
   obtain⟨s,hs⟩:∃s,s=mtAll N qs:=⟨_,rfl⟩
   have HSS:=hide hs
   have hsp:s.ps.length=N:=by rw[hs];exact(mtAll_ok N qs).ps
   rw[<- hs] at HFD HFK HFE
   clear hs
   go_upto_region 6 with fail
   rw[<- hwD]
   clear hwD
   obtain⟨q0,q1'⟩:=two_cells HDD.out
   go_wp2_with fail
   go_loopw [40] (fun x wr=>∃k:Nat,k<=N∧x=.int .i64 (k:Int)∧OwnPlaces bm (bm+1) wr (some ⟨bm,off,none⟩) N (psK s N k)∧Aside bm (bm+1) wD wr) (fun x _=>N-(intOf x).toNat)
   case atStart=>exact⟨0,Nat.zero_le _,rfl,by rw[psK_zero];exact HMD.out,Aside.refl _ _ _⟩
   case round =>
    obtain⟨k,hk,rfl,hM,hA⟩:=hrel
    have HM:=hide hM
    have HA:=hide hA
    have hszr:=hA.size
    have RX:Hid (wr.heap[w1.heap.size]?=some (.cells #[.int .i64 z,.slice (some ⟨g,0,none⟩) n c,.slice (some ⟨bm,off,none⟩) N cm1,.int .i64 (-1),.int .i64 0] 29)):=(hA.block _ (by omega) (by omega)).trans HXD.out
    have RD:Hid (wr.heap[w4.heap.size]?=some (.cells #[.map (some b),.slice (some ⟨G,0,none⟩) N N] 113)):=(hA.block _ (by omega) (by omega)).trans HDD.out
    have HFR:Hid (FdAt wr b G N cnt s.st F):=⟨HFD.out.map.kept (hA.block b (by omega) (by omega)),HFD.out.row.aside hA (by omega),HFD.out.len,HFD.out.ne⟩
    clear hM hA q0 q1'
    by_cases hlt:k<N
    ·have hlt2:(k:Int)<(N:Int):=by omega
     obtain⟨c0,_⟩:=HFR.out.row.at0 hlt
     obtain⟨t,ht⟩:∃t,t=stAt s.st k:=⟨_,rfl⟩
     have HEA:=hide (HFK.out.each k hlt)
     have hlow:=HFK.out.low (k:Int) 0 (Int.le_refl _)
     have htop:=HFK.out.top k hlt
     have hok9:=(mtAll_ok N qs).hi
     rw[<- HSS.out] at hok9
     rw[<- ht] at c0 HEA htop
     clear ht
     have ht0:0<=t:=by rcases HEA.out with e|e<;>omega
     have hlook:=HFR.out.map.look (a:=(k:Int)) (s:=t) (WalkArith.wf_i64 (by omega)) (WalkArith.wf_i64 (by omega))
     obtain⟨q0,q1'⟩:=two_cells RD.out
     rcases HEA.out with⟨e1,e2⟩|⟨e1,e2⟩
     ·subst e1
      rw[hlow] at hlook
      unfold plV at hlook
      simp only[Option.getD_none,Option.isSome_none] at hlook
      have HPN:=hide (psK_skip s hlt e2)
      have HAN:=hide (HA.out.trans (aside_new (lo:=bm) (hi:=bm+1) ((Below.refl wr.heap.size wr).alloc (Nat.le_refl _) (.cells #[.int .i64 0,.int .i64 0] 39))))
      have HMN:Hid (OwnPlaces bm (bm+1) (wr.alloc (.cells #[.int .i64 0,.int .i64 0] 39)) (some ⟨bm,off,none⟩) N (psK s N (k+1))):=by
       rw[<- HPN.out]
       exact HM.out.later ((Below.refl wr.heap.size wr).alloc (Nat.le_refl _) _) HM.out.2.1
      clear e2 hlow
      go_wp2_with fail
      exact⟨⟨k+1,by omega,by go_num,HMN.out,HAN.out⟩,by simp[intOf];omega⟩
     ·rw[e2] at hlook
      unfold plV at hlook
      simp only[Option.getD_some,Option.isSome_some] at hlook
      have HPN:=hide (psK_set s hlt)
      obtain⟨y,hy⟩:∃y,y=plAt s.ps k:=⟨_,rfl⟩
      rw[<- hy] at hlook HPN
      clear hy e2 hlow
      obtain⟨p,q⟩:=y
      dsimp only at hlook
      obtain⟨wP,hwP⟩:∃wP,wP=wr.alloc (.cells #[.int .i64 p,.int .i64 q] 39):=⟨_,rfl⟩
      have hzP:wr.heap.size<wP.heap.size:=by rw[hwP];simp
      have HBP:Hid (Below wr.heap.size wr wP):=by rw[hwP];exact(Below.refl _ _).alloc (Nat.le_refl _) _
      have HPP:Hid (wP.heap[wr.heap.size]?=some (.cells #[.int .i64 p,.int .i64 q] 39)):=by rw[hwP];exact heap_new _ _
      have HMW:=hide (HM.out.later HBP.out HM.out.2.1)
      have RX2:=hide (block_on RX.out HBP.out)
      go_upto_region 11 with fail
      rw[<- hwP]
      clear hwP q0 q1' c0 hlook
      obtain⟨x0,x1,x2,x3,x4⟩:=five_cells RX2.out
      obtain⟨v0,v1⟩:=two_cells HPP.out
      obtain⟨_,_,e9,_,_,hcl⟩:=HMW.out.2.2 (by omega)
      simp only[Option.some.injEq,Addr.mk.injEq,and_true] at e9
      obtain⟨rfl,rfl⟩:=e9
      have fr0:=(hcl (k*2) (by omega)).2
      have fr1:=(hcl (k*2+1) (by omega)).2
      have cl0:=(hcl (k*2) (by omega)).1
      have cl1:=(hcl (k*2+1) (by omega)).1
      have HAN:=hide ((HA.out.trans (aside_new (lo:=bm) (hi:=bm+1) HBP.out)).trans (((Aside.refl bm (bm+1) wP).setCell (p:=⟨bm,off+k*2,none⟩) (Nat.le_refl _) (Nat.lt_succ_self _) (.int .i64 p)).setCell (p:=⟨bm,off+k*2+1,none⟩) (Nat.le_refl _) (Nat.lt_succ_self _) (.int .i64 q)))
      have HMN:Hid (OwnPlaces bm (bm+1) ((wP.setCell ⟨bm,off+k*2,none⟩ (.int .i64 p)).setCell ⟨bm,off+k*2+1,none⟩ (.int .i64 q)) (some ⟨bm,off,none⟩) N (psK s N (k+1))):=by
       rw[<- HPN.out]
       have g1:=(HMW.out.2.set (i:=k*2) (by omega) (.int .i64 p)).set (i:=k*2+1) (by omega) (.int .i64 q)
       rw[show off+(k*2+1)=off+k*2+1 by omega] at g1
       exact⟨by rw[List.length_set,psK_len],g1.congr fun j _=>cellP_pair (psK s N k) p q (by rw[psK_len];exact hlt) j⟩
      rw[show off+(k*2+1)=off+k*2+1 by omega] at fr1 cl1
      clear hcl
      go_wp2_with fail
      exact⟨⟨k+1,by omega,by go_num,HMN.out,HAN.out⟩,by simp[intOf];omega⟩
    ·obtain rfl:k=N:=by omega
     rw[psK_all s hsp] at HM
     obtain⟨q0,q1'⟩:=two_cells RD.out
     go_wp2_with fail
     refine(maxI64_any G k s.st wr HFR.out.row h1N h64N).mono ?_
     rintro e w5 ⟨⟨m,rfl,hm1,hm2⟩,rfl⟩
     have hmS:=fd_max HFK.out hm1 hm2
     subst hmS
     clear hm1 hm2
     obtain⟨x0,x1,x2,x3,x4⟩:=five_cells RX.out
     have fx:=four_frozen RX.out 4
     obtain⟨wZ,hwZ⟩:∃wZ,wZ=wr.setCell ⟨w1.heap.size,4,none⟩ (.int .i64 s.S):=⟨_,rfl⟩
     have HAZ:Hid (Aside w1.heap.size (w1.heap.size+1) wr wZ):=by rw[hwZ];exact(Aside.refl _ _ wr).setCell (p:=⟨w1.heap.size,4,none⟩) (Nat.le_refl _) (Nat.lt_succ_self _) _
     have RZ:Hid (wZ.heap[w1.heap.size]?=some (.cells #[.int .i64 z,.slice (some ⟨g,0,none⟩) n c,.slice (some ⟨bm,off,none⟩) k cm1,.int .i64 (-1),.int .i64 s.S] 29)):=by rw[hwZ];exact set_block RX.out 4 _ (by simp)
     have R1:Hid (wZ.heap[w.heap.size+1]?=some (.cells #[.int .i64 0,.slice none 0 0,.slice none 0 0,.int .i64 0,.int .i64 0] 29)):=(HAZ.out.block _ (by omega) (by omega)).trans ((HA.out.block _ (by omega) (by omega)).trans N1.out)
     have HGZ:=hide ((HGD.out.aside HA.out (.inl (by omega))).aside HAZ.out (.inl (by omega)))
     have HMZ:=hide (HM.out.aside HAZ.out (by omega))
     have HBZ:=hide ((HBE.out.trans (HA.out.below (B:=w.heap.size) (by omega) (by omega))).trans (HAZ.out.below (B:=w.heap.size) (by omega) (by omega)))
     have hsZ:=HAZ.out.size
     go_upto_region 14 with fail
     rw[<- hwZ]
     clear hwZ x0 x1 x2 x3 x4 fx q0 q1'
     obtain⟨x0,x1,x2,x3,x4⟩:=five_cells RZ.out
     obtain⟨p0,p1,p2,p3,p4⟩:=five_cells R1.out
     have f0:=four_frozen R1.out 0
     have f1':=four_frozen R1.out 1
     have f2:=four_frozen R1.out 2
     have f3:=four_frozen R1.out 3
     have f4:=four_frozen R1.out 4
     have HRS:=hide (five_set R1.out (.int .i64 z) (.slice (some ⟨g,0,none⟩) n c) (.slice (some ⟨bm,off,none⟩) k cm1) (.int .i64 (-1)) (.int .i64 s.S))
     have HAS:=hide (five_aside (b:=w.heap.size+1) (Aside.refl (w.heap.size+1) (w.heap.size+1+1) wZ) (Nat.le_refl _) (Nat.lt_succ_self _) (.int .i64 z) (.slice (some ⟨g,0,none⟩) n c) (.slice (some ⟨bm,off,none⟩) k cm1) (.int .i64 (-1)) (.int .i64 s.S))
     have HBF:=hide (HBZ.out.trans (HAS.out.below (B:=w.heap.size) (by omega) (by omega)))
     have HOF:=hide (own_of_mixed (lo:=w.heap.size+1+1) HGZ.out (by rw[hsp];exact HMZ.out) (by omega) (by omega) (by omega) (by omega))
     go_wp2_with fail
     refine bodyPost_ret (results_cell rfl rfl (run_loadVar_row _ _ _ _ _ _ _ HRS.out Tryz.underlying29 rfl (by kernel_rfl))) rfl ⟨_,rfl,some ⟨g,0,none⟩,c,some ⟨bm,off,none⟩,cm1,?_,?_,HBF.out,?_⟩
     ·rw[HFE.out];unfold fvV;dsimp only;rw[HLQ.out,hsp]
     ·rw[HFE.out]
      exact(HOF.out.aside HAS.out (.inl (Nat.le_refl _))).wide (by omega) HAS.out.size (Nat.le_refl _)
     ·rw[HFE.out];dsimp only;rw[hsp];exact HC1.out
end Go.Proofs.YtgjoepdfhadmcaaGreatDoor
end

