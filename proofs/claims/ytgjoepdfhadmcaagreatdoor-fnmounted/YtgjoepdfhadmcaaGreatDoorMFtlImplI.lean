/- Several texts in one: FtlImplI, Draw10d, FtlImplJ, EnteredW, ScrubW, DrawMount, DrawSame, MountedW. -/
import Derived.Test.YtgjoepdfhadmcaaGreatDoorMFtlImplA
import Derived.Defers
import Derived.Recover
import Derived.Laws.Pointers
import Derived.Test.YtgjoepdfhadmcaaGreatDoorMDraw10c
import Derived.Test.YtgjoepdfhadmcaaGreatDoorMDraw9
import Derived.Test.YtgjoepdfhadmcaaGreatDoorMFtlSpecH
import Derived.Test.YtgjoepdfhadmcaaGreatDoorMChipCutS
import Derived.Test.YtgjoepdfhadmcaaGreatDoorMChipAns
import Derived.Test.YtgjoepdfhadmcaaGreatDoorMWearImplE
import Derived.Test.YtgjoepdfhadmcaaGreatDoorMDrawBase
import Derived.Deep.RegionHeld3
import Derived.Test.YtgjoepdfhadmcaaGreatDoorMFtlImplF
import Derived.Test.YtgjoepdfhadmcaaGreatDoorMFtlOwnP
import Derived.Test.YtgjoepdfhadmcaaGreatDoorMFtlMath
import Derived.Test.YtgjoepdfhadmcaaGreatDoorMChipImplB
import Derived.Test.YtgjoepdfhadmcaaGreatDoorMFtlSpecA
import Derived.Test.YtgjoepdfhadmcaaGreatDoorMInfo
import Derived.Deep.QuietTactic
import Derived.BigQuiet
import Derived.Test.YtgjoepdfhadmcaaGreatDoorMChipOwn2
import Derived.Test.YtgjoepdfhadmcaaGreatDoorMLySpec
section
namespace Go.Proofs.YtgjoepdfhadmcaaGreatDoor
open Go.RowKit
set_option linter.unusedVariables false
set_option maxRecDepth 20000
theorem Tryz.loadOk {w:World}{b:Nat}{v:Value}{t:TypeId}{fr:Nat×Nat}(h:w.heap[b]?=some (.cells #[v] t fr)):(loadVar 4 ⟨b,0,none⟩).run Tryz.prog w=.ok v w:=by
 have hc:w.cell? ⟨b,0,none⟩=some v:=by simp[World.cell?,h]
 simp[loadVar,go_sem,hc]
theorem results_cc {fn:Func}{P:Program}{w:World}{t u:Tmp}{ty tz:TypeId}{tmps:Array Value}{a b:Addr}{v x:Value}(h:fn.results=#[.cell t ty,.cell u tz])(ht:tmps.getD t undef=.pointer (some a))(hu:tmps.getD u undef=.pointer (some b))(hl:(loadVar ty a).run P w=.ok v w)(hx:(loadVar tz b).run P w=.ok x w) :
  (results fn tmps).run P w=.ok (.tuple #[v,x]) w:=by
 have ht':tmps[t]?.getD undef=.pointer (some a):=by simpa using ht
 have hu':tmps[u]?.getD undef=.pointer (some b):=by simpa using hu
 simp[results,h,ht',hu',asAddr,hl,hx]
end Go.Proofs.YtgjoepdfhadmcaaGreatDoor
end

section
namespace Go.Proofs.YtgjoepdfhadmcaaGreatDoor
open Go.RowKit
set_option linter.unusedVariables false
set_option linter.unusedSimpArgs false
set_option maxRecDepth 20000
structure FtlIn (B:Nat)(w:World)(f:Fv)(a:Option Addr)(n c:Nat)(am:Option Addr)(m cm:Nat):Prop where
 n13:n<=13
 fits:∀x∈f.qs,sqFits x
 sq:Squares B w.heap.size w a n f.qs
 pl:Places B w.heap.size w am m f.ps
 m200:m<=200
 mc:m<=cm
section
variable {B:Nat}{w w':World}{f:Fv}{a:Option Addr}{n c:Nat}{am:Option Addr}{m cm:Nat}
theorem FtlIn.set (h:FtlIn B w f a n c am m cm){l r B':Nat}(hb:Aside l r w w')(hr:r<=B)(h1:B'<=B):FtlIn B' w' f a n c am m cm :=
 ⟨h.n13,h.fits,(h.sq.aside hb (.inr hr)).wideLo h1 hb.size,(h.pl.asideP hb (.inr hr)).wide2 h1 hb.size,h.m200,h.mc⟩
theorem FtlIn.later (h:FtlIn B w f a n c am m cm)(hb:Below w.heap.size w w'):FtlIn B w' f a n c am m cm :=
 ⟨h.n13,h.fits,(h.sq.later hb (Nat.le_refl _)).wideLo (Nat.le_refl _) hb.size,(h.pl.later hb (Nat.le_refl _)).wide2 (Nat.le_refl _) hb.size,h.m200,h.mc⟩
end
end Go.Proofs.YtgjoepdfhadmcaaGreatDoor
end

section
namespace Go.Proofs.YtgjoepdfhadmcaaGreatDoor
open Go.RowKit
set_option linter.unusedVariables false
set_option maxRecDepth 20000
def endW (w:World)(pe po:Nat)(z:Int)(a:Option Addr)(n c:Nat)(am:Option Addr)(m cm:Nat)(op st:Int)(b:Bool):World :=
 (((((w.setCell ⟨pe,0,none⟩ (.int .i64 z)).setCell ⟨pe,1,none⟩ (.slice a n c)).setCell ⟨pe,2,none⟩ (.slice am m cm)).setCell ⟨pe,3,none⟩ (.int .i64 op)).setCell ⟨pe,4,none⟩ (.int .i64 st)).setCell ⟨po,0,none⟩ (.bool b)
theorem endW_at {w w1:World}(hs:w.heap.size+1+1+1<w1.heap.size)(hb:Below w.heap.size w w1){c0 c1 c2 c3 c4 y:Value}(hj:w1.heap[w.heap.size+1+1]?=some (.cells #[c0,c1,c2,c3,c4] 29))(ho:w1.heap[w.heap.size+1+1+1]?=some (.cells #[y] 4))(z:Int)(a:Option Addr)(n c:Nat)(am:Option Addr)(m cm:Nat)(op st:Int)(b:Bool) :
  (endW w1 (w.heap.size+1+1) (w.heap.size+1+1+1) z a n c am m cm op st b).heap[w.heap.size+1+1]?=some (.cells #[.int .i64 z,.slice a n c,.slice am m cm,.int .i64 op,.int .i64 st] 29) ∧
  (endW w1 (w.heap.size+1+1) (w.heap.size+1+1+1) z a n c am m cm op st b).heap[w.heap.size+1+1+1]?=some (.cells #[.bool b] 4) ∧
  Below w.heap.size w (endW w1 (w.heap.size+1+1) (w.heap.size+1+1+1) z a n c am m cm op st b)∧Aside (w.heap.size+1+1) (w.heap.size+1+1+1+1) w1 (endW w1 (w.heap.size+1+1) (w.heap.size+1+1+1) z a n c am m cm op st b):=by
 have hA:Aside (w.heap.size+1+1) (w.heap.size+1+1+1+1) w1 (endW w1 (w.heap.size+1+1) (w.heap.size+1+1+1) z a n c am m cm op st b):=(five_aside (b:=w.heap.size+1+1) (Aside.refl _ _ w1) (Nat.le_refl _) (by omega) _ _ _ _ _).setCell (p:=⟨w.heap.size+1+1+1,0,none⟩) (by show w.heap.size+1+1<=w.heap.size+1+1+1;omega) (by show w.heap.size+1+1+1<_;omega) _
 have ho':∀(o1 o2 o3 o4 o5:Nat) (v1 v2 v3 v4 v5:Value),(((((w1.setCell ⟨w.heap.size+1+1,o1,none⟩ v1).setCell ⟨w.heap.size+1+1,o2,none⟩ v2).setCell ⟨w.heap.size+1+1,o3,none⟩ v3).setCell ⟨w.heap.size+1+1,o4,none⟩ v4).setCell ⟨w.heap.size+1+1,o5,none⟩ v5).heap[w.heap.size+1+1+1]?=some (.cells #[y] 4):=fun o1 o2 o3 o4 o5 v1 v2 v3 v4 v5=>set_other (set_other (set_other (set_other (set_other ho (by omega) _) (by omega) _) (by omega) _) (by omega) _) (by omega) _
 exact⟨set_other (five_set hj _ _ _ _ _) (by omega) _,set_block (ho' 0 1 2 3 4 _ _ _ _ _) 0 _ (by simp),hb.trans (hA.below (by omega) (by omega)),hA⟩
theorem enterIdle (p q r:Value)(w:World) :
  CallsD Tryz.prog 97 #[p,q,r] .returning w fun e u' w'=>e=.returned (.tuple #[])∧u'=.returning∧w'=w:=by
 refine callsD_of_wpS Tryz.func97 rfl fun c₀ cs hu=>?_
 apply wpS_seq
 apply wpS_region
 simp[wpOpsS,go_sem,recoverD,hu,Tryz.ntmps97,Exit.thenS]
 refine wpS_cond (t:=false) (by simp[Act.eval,Array.replicate]) ?_
 simp only[Bool.false_eq_true,if_false]
 refine wpS_of_wp (wp_skip ?_)
 cases c₀
 simp_all[bodyPostS,results,Tryz.results97]
def EnterAns (pe po:Nat)(z:Int)(n:Nat)(qs:List Sq)(m:Nat)(ps:List Pl)(op st:Int)(w w':World):Prop:=∃w5 a' c' am' cm',FtlOwn w.heap.size w5.heap.size w5 a' am' qs ps∧Below w.heap.size w w5∧ps.length<=cm'∧w'=endW w5 pe po z a' n c' am' m cm' op st false
set_option maxRecDepth 100000 in
set_option maxHeartbeats 3200000 in
theorem enterCatch (pf pe po:Nat)(u:TypeId)(pv:Value)(older:List PanicEntry)(z:Int)(a:Option Addr)(n cap:Nat)(qs:List Sq)(am:Option Addr)(m cm:Nat)(ps:List Pl)(op st:Int)(w:World){lo hi lo' hi':Nat}(h:Squares lo hi w a n qs)(hhi:hi<=w.heap.size)(hok:chipOk z qs=true)(hp:Places lo' hi' w am m ps)(hhi':hi'<=w.heap.size)(hm1:1<=m)(hm:m<=64){aN:Addr}(hN:w.cell? ⟨1,0,none⟩=some (noRoomV aN)){c0 c1 c2 c3 c4 y:Value}{t:TypeId}
  (hf:w.heap[pf]?=some (.cells #[.int .i64 z,.slice a n cap,.slice am m cm,.int .i64 op,.int .i64 st] 29)) (he:w.heap[pe]?=some (.cells #[c0,c1,c2,c3,c4] 29)) (ho:w.heap[po]?=some (.cells #[y] t)) (hne:pe≠po) :
  CallsD Tryz.prog 97 #[.pointer (some ⟨pf,0,none⟩),.pointer (some ⟨pe,0,none⟩),.pointer (some ⟨po,0,none⟩)] (.panicking ({ v:=.iface u pv,recovered:=false }::older)) w fun e u' w' =>
   e=.returned (.tuple #[])∧u'=.panicking ({ v:=.iface u pv,recovered:=true }::older)∧EnterAns pe po z n qs m ps op st w w':=by
 obtain⟨f0,f1,f2,f3,f4⟩:=five_cells hf
 have hln:qs.length=n:=h.1
 have hlm:ps.length=m:=hp.1
 have HCP:=hide (copyOfFtl_any z a n cap qs am m cm ps op st w h hhi hok hp hhi' hm1 hm hN)
 clear h hp hN
 refine callsD_of_wpS Tryz.func97 rfl fun c₀ cs hu=>?_
 apply wpS_seq
 apply wpS_region
 simp[wpOpsS,go_sem,recoverD,hu,Tryz.ntmps97,Exit.thenS]
 refine wpS_cond (t:=true) (by simp[Act.eval,Array.replicate]) ?_
 simp only[if_true]
 refine wpS_of_wp ?_
 go_wp2_with fail
 refine HCP.out.mono ?_
 rintro e w5 ⟨v,rfl,a',c',am',cm',rfl,ho5,b5,hcap5⟩
 have he5:=block_on he b5
 have hb5:=block_on ho b5
 obtain⟨g0,g1,g2,g3,g4⟩:=five_cells he5
 have k0:=four_frozen he5 0
 have k1:=four_frozen he5 1
 have k2:=four_frozen he5 2
 have k3:=four_frozen he5 3
 have k4:=four_frozen he5 4
 have j0:w5.cell? ⟨po,0,none⟩=some y:=by simp[World.cell?,hb5]
 have j1:=four_frozen hb5 0
 have HO5:=hide ho5
 have HB5:=hide b5
 have HCP5:=hide hcap5
 clear ho5 b5 hcap5 f0 f1 f2 f3 f4
 unfold fvV
 dsimp only
 rw[hln,hlm]
 go_wp2_with fail
 simp[bodyPostS,results,Tryz.results97]
 exact⟨w5,a',c',am',cm',HO5.out,HB5.out,HCP5.out,by unfold endW;rfl⟩
set_option maxRecDepth 100000 in
set_option maxHeartbeats 6400000 in
theorem implEnter_any (z:Int)(a:Option Addr)(n cap:Nat)(qs:List Sq)(am:Option Addr)(m cm:Nat)(ps:List Pl)(op st kd at_ sp:Int)(tx:ByteArray)(w:World){lo hi lo' hi':Nat}(h:Squares lo hi w a n qs)(hhi:hi<=w.heap.size)(hn:n<=1048576)(hf:∀x∈qs,sqFits x)(hp:Places lo' hi' w am m ps)(hhi':hi'<=w.heap.size)(hm:m<=1048576)(hcl:m<=cm)(hT:Tab w){aB aL aS aC aF aN:Addr}(E:Errs w aB aL aS aC aF)(hN:w.cell? ⟨1,0,none⟩=some (noRoomV aN)) :
  Calls Tryz.prog 28 #[.agg #[.int .i64 z,.slice a n cap,.slice am m cm,.int .i64 op,.int .i64 st],.agg #[.int .i64 kd,.int .i64 at_,.int .i64 sp,.string tx]] w fun e w'=>∃v,e=.returned (.tuple #[v,.bool (planR z qs ps op st kd at_ tx).isSome])∧FtlAns w (entF z qs ps op st kd at_ tx) v w':=by
 obtain⟨r,hr⟩:∃r,r=planR z qs ps op st kd at_ tx:=⟨_,rfl⟩
 have HR:=hide hr
 rw[<- hr]
 clear hr
 obtain⟨fv,hfv⟩:∃fv,fv=entF z qs ps op st kd at_ tx:=⟨_,rfl⟩
 have HFV:=hide hfv
 rw[<- hfv]
 clear hfv
 obtain⟨wA,hwA⟩:∃wA,wA=(((w.alloc (.cells #[.int .i64 z,.slice a n cap,.slice am m cm,.int .i64 op,.int .i64 st] 29)).alloc (.cells #[.int .i64 kd,.int .i64 at_,.int .i64 sp,.string tx] 31)).alloc (.cells #[.int .i64 0,.slice none 0 0,.slice none 0 0,.int .i64 0,.int .i64 0] 29)).alloc (.cells #[.bool false] 4):=⟨_,rfl⟩
 have hzA:wA.heap.size=w.heap.size+1+1+1+1:=by rw[hwA];simp
 have HBA:Hid (Below w.heap.size w wA):=by rw[hwA];exact((((Below.refl _ _).alloc (Nat.le_refl _) _).alloc (by simp) _).alloc (by simp;omega) _).alloc (by simp;omega) _
 have H0:Hid (wA.heap[w.heap.size]?=some (.cells #[.int .i64 z,.slice a n cap,.slice am m cm,.int .i64 op,.int .i64 st] 29)):=by rw[hwA];exact heap_old (heap_old (heap_old (heap_new _ _)))
 have H1:Hid (wA.heap[w.heap.size+1]?=some (.cells #[.int .i64 kd,.int .i64 at_,.int .i64 sp,.string tx] 31)):=by rw[hwA];exact heap_old (heap_old (heap_at (by simp)))
 have H2:Hid (wA.heap[w.heap.size+1+1]?=some (.cells #[.int .i64 0,.slice none 0 0,.slice none 0 0,.int .i64 0,.int .i64 0] 29)):=by rw[hwA];exact heap_old (heap_at (by simp))
 have H3:Hid (wA.heap[w.heap.size+1+1+1]?=some (.cells #[.bool false] 4)):=by rw[hwA];exact heap_at (by simp)
 have HSQ:=hide (h.later HBA.out hhi)
 have HPL:=hide (hp.later HBA.out hhi')
 have HLP:=hide hp.1
 have HLQ:=hide h.1
 have HF:=hide hf
 have HTA:=hide (hT.here HBA.out)
 have HEA:=hide (E.here HBA.out)
 have hGl:1<w.heap.size:=World.block_lt_of_cell? _ _ hN
 have hGt:7<w.heap.size:=World.block_lt_of_cell? _ _ (hT 0 (by omega))
 have HNA:=hide ((HBA.out.cell (p:=⟨1,0,none⟩) hGl).trans hN)
 have hmf:∀(fn:Fn) (first cap:Array Value) (w:World),(Instr.makeFunc fn first cap).run Tryz.prog w=.ok (.func fn first cap) w:=fun _ _ _ _=>rfl
 clear h hf hp hT E hN
 obtain⟨c0,c1,c2,c3,c4⟩:=five_cells H0.out
 go_enter_defers Tryz.func28,Tryz.ntmps28
 go_wp2_with fail
 rw[<- hwA]
 clear hwA
 refine(implFtlOk_any z a n cap qs am m cm ps op st wA HSQ.out (by omega) hn HF.out HPL.out (by omega) hm hcl HTA.out HEA.out).mono ?_
 rintro e w1 ⟨rfl,b1⟩
 have K0:=hide (block_on H0.out b1)
 have K1:=hide (block_on H1.out b1)
 have K2:=hide (block_on H2.out b1)
 have K3:=hide (block_on H3.out b1)
 have HS1:=hide (HSQ.out.later b1 (by omega))
 have HP1:=hide (HPL.out.later b1 (by omega))
 have HB1:=hide (below_here HBA.out b1)
 have HT1:=hide (HTA.out.here b1)
 have HN1:=hide ((b1.cell (p:=⟨1,0,none⟩) (by show 1<_;omega)).trans HNA.out)
 have hs1:=b1.size
 clear b1 H0 H1 H2 H3 HSQ HPL HBA HTA HEA HNA c0 c1 c2 c3 c4
 obtain⟨c0,c1,c2,c3,c4⟩:=five_cells K0.out
 obtain⟨p0,p1,p2,p3⟩:=four_cells K1.out
 cases hok:ftlOk z qs ps op st with
 | false =>
  have HE:Hid (r=none):=by show _=_;rw[HR.out];unfold planR;rw[hok];rfl
  have HFE:Hid (fv=⟨0,[],[],0,0⟩):=by show _=_;rw[HFV.out];unfold entF;rw[hok];rfl
  obtain⟨d0,d1,d2,d3,d4⟩:=five_cells K2.out
  have g0:=four_frozen K2.out 0
  have g1:=four_frozen K2.out 1
  have g2:=four_frozen K2.out 2
  have g3:=four_frozen K2.out 3
  have g4:=four_frozen K2.out 4
  have e2:w1.cell? ⟨w.heap.size+1+1+1,0,none⟩=some (.bool false):=by simp[World.cell?,K3.out]
  have e3:=four_frozen K3.out 0
  have HEND:=hide (endW_at (w:=w) (w1:=w1) (by omega) HB1.out K2.out K3.out 0 none 0 0 none 0 0 0 0 false)
  unfold endW at HEND
  go_wp2_with fail
  refine⟨_,results_cc rfl rfl rfl (run_loadVar_row _ _ _ _ _ _ _ HEND.out.1 Tryz.underlying29 rfl (by kernel_rfl)) (Tryz.loadOk HEND.out.2.1),_,by rw[HE.out];rfl,none,0,none,0,by rw[HFE.out];rfl,⟨Nat.le_refl _,.inl ?_⟩,HEND.out.2.2.1,by rw[HFE.out];exact Nat.le_refl _⟩
  rw[HFE.out];exact⟨rfl,rfl⟩
 | true =>
  obtain⟨hmo,_,_,hst0,hst1,_,_⟩:=ftlOk_parts hok
  have hm64:m<=64:=by have:=(mapOk_len hmo).2;rw[HLP.out] at this;exact this
  have hm1:1<=m:=by have:=(mapOk_len hmo).1;rw[HLP.out] at this;exact this
  have HCK:=hide (mapOk_chip hmo)
  have HKO:=hide (kok_of hok [])
  have HRE:Hid (r=enterK z ⟨qs,ps,op,[]⟩ st kd at_ tx):=by show _=_;rw[HR.out];unfold planR;rw[hok];rfl
  have HFE:Hid (fv=(match enterK z ⟨qs,ps,op,[]⟩ st kd at_ tx with|none=>⟨z,qs,ps,op,st⟩|some s=>⟨z,s.qs,s.ps,s.op,st+1⟩)):=by show _=_;rw[HFV.out];unfold entF;rw[hok];rfl
  rw[<- HRE.out] at HFE
  clear hok hmo HR HFV
  go_wp2_with fail
  refine(mayEnter_any (.int .i64 z) (.slice a n cap) am m cm (.int .i64 op) st kd at_ sp tx ps w1 HLP.out hm ⟨hst0,hst1⟩).mono ?_
  rintro e w2 ⟨rfl,b2⟩
  have L0:=hide (block_on K0.out b2)
  have L1:=hide (block_on K1.out b2)
  have L2:=hide (block_on K2.out b2)
  have L3:=hide (block_on K3.out b2)
  have HS2:=hide (HS1.out.later b2 (by omega))
  have HP2:=hide (HP1.out.later b2 (by omega))
  have HB2:=hide (below_here HB1.out b2)
  have HT2:=hide (HT1.out.here b2)
  have HN2:=hide ((b2.cell (p:=⟨1,0,none⟩) (by show 1<_;omega)).trans HN1.out)
  have hs2:=b2.size
  clear b2 K0 K1 K2 K3 HS1 HP1 HB1 HT1 HN1 c0 c1 c2 c3 c4 p0 p1 p2 p3
  obtain⟨c0,c1,c2,c3,c4⟩:=five_cells L0.out
  cases hme:mayEnt ps st kd at_ tx with
  | false =>
   have HE:Hid (r=none):=by show _=_;rw[HRE.out];exact enterK_no hme
   have HFN:Hid (fv=⟨z,qs,ps,op,st⟩):=by show _=_;rw[HFE.out,HE.out]
   go_wp2_with fail
   refine(copyOfFtl_any z a n cap qs am m cm ps op st w2 HS2.out (by omega) HCK.out HP2.out (by omega) hm1 hm64 HN2.out).mono ?_
   rintro e w5 ⟨v,rfl,a',c',am',cm',rfl,ho5,b5,hcap5⟩
   have M2:=hide (block_on L2.out b5)
   have M3:=hide (block_on L3.out b5)
   have HB5:=hide (below_here HB2.out b5)
   have HO5:=hide ho5
   have hs5:=b5.size
   have HCP5:=hide hcap5
   clear ho5 b5 hcap5 c0 c1 c2 c3 c4
   obtain⟨d0,d1,d2,d3,d4⟩:=five_cells M2.out
   have g0:=four_frozen M2.out 0
   have g1:=four_frozen M2.out 1
   have g2:=four_frozen M2.out 2
   have g3:=four_frozen M2.out 3
   have g4:=four_frozen M2.out 4
   have e2:w5.cell? ⟨w.heap.size+1+1+1,0,none⟩=some (.bool false):=by simp[World.cell?,M3.out]
   have e3:=four_frozen M3.out 0
   unfold fvV
   dsimp only
   rw[HLQ.out,HLP.out]
   have HEND:=hide (endW_at (w:=w) (w1:=w5) (by omega) HB5.out M2.out M3.out z a' n c' am' m cm' op st false)
   unfold endW at HEND
   go_wp2_with fail
   refine⟨_,results_cc rfl rfl rfl (run_loadVar_row _ _ _ _ _ _ _ HEND.out.1 Tryz.underlying29 rfl (by kernel_rfl)) (Tryz.loadOk HEND.out.2.1),_,by rw[HE.out];rfl,a',c',am',cm',by rw[HFN.out];unfold fvV;dsimp only;rw[HLQ.out,HLP.out],?_,HEND.out.2.2.1,by rw[HFN.out];exact HCP5.out⟩
   rw[HFN.out]
   exact(HO5.out.aside HEND.out.2.2.2 (.inl (by omega))).wide (by omega) HEND.out.2.2.2.size (Nat.le_refl _)
  | true =>
   go_wp2_with fail
   refine(keeperOf_any z a n cap qs am m cm ps op st w2 HS2.out (by omega) HCK.out HP2.out (by omega) hm1 hm64 HN2.out).mono ?_
   rintro e w3 ⟨pk,g,c,gm,cm',A,C,rfl,hK3,b3⟩
   have M0:=hide (block_on L0.out b3)
   have M1:=hide (block_on L1.out b3)
   have M2:=hide (block_on L2.out b3)
   have M3:=hide (block_on L3.out b3)
   have HB3:=hide (below_here HB2.out b3)
   have HT3:=hide (HT2.out.here b3)
   have HS3:=hide (HS2.out.later b3 (by omega))
   have HP3:=hide (HP2.out.later b3 (by omega))
   have HN3:=hide ((b3.cell (p:=⟨1,0,none⟩) (by show 1<_;omega)).trans HN2.out)
   have HK3:=hide hK3
   have hs3:=b3.size
   clear hK3 b3 c0 c1 c2 c3 c4
   obtain⟨p0,p1,p2,p3⟩:=four_cells M1.out
   go_wp2_with fail
   refine(enter_any w2.heap.size pk z st n g c gm cm' A C _ ⟨qs,ps,op,[]⟩ aN kd at_ sp tx w3 HK3.out hs3 HKO.out (by show 0<=_;omega) ⟨hst0,hst1⟩ hme HT3.out (by omega)).mono ?_
   rintro e w4 ⟨hf4,hk4⟩
   have N0:Hid (w4.heap[w.heap.size]?=some (.cells #[.int .i64 z,.slice a n cap,.slice am m cm,.int .i64 op,.int .i64 st] 29)):=(hf4.below.block _ (by omega)).trans M0.out
   have N2:Hid (w4.heap[w.heap.size+1+1]?=some (.cells #[.int .i64 0,.slice none 0 0,.slice none 0 0,.int .i64 0,.int .i64 0] 29)):=(hf4.below.block _ (by omega)).trans M2.out
   have N3:Hid (w4.heap[w.heap.size+1+1+1]?=some (.cells #[.bool false] 4)):=(hf4.below.block _ (by omega)).trans M3.out
   have HB4:=hide (HB3.out.trans (hf4.below.mono (show w.heap.size<=w2.heap.size by omega)))
   have HS4:=hide (HS3.out.later hf4.below (by omega))
   have HP4:=hide (HP3.out.later hf4.below (by omega))
   have HN4:=hide ((hf4.below.cell (p:=⟨1,0,none⟩) (by show 1<_;omega)).trans HN3.out)
   have hs4:=hf4.below.size
   clear hf4 p0 p1 p2 p3
   rw[<- HRE.out] at hk4
   cases hrr:r with
   | none =>
    have HRR:=hide hrr
    have HFN:Hid (fv=⟨z,qs,ps,op,st⟩):=by show _=_;rw[HFE.out,hrr]
    rw[hrr] at hk4
    dsimp only at hk4
    subst hk4
    unfold noRoomV
    go_wp2_with fail
    show Leaves _ _ _ _ _ _ _
    refine leaves_cons (f:=97) (args:=#[.pointer (some ⟨w.heap.size,0,none⟩),.pointer (some ⟨w.heap.size+1+1,0,none⟩),.pointer (some ⟨w.heap.size+1+1+1,0,none⟩)]) (by simp) (by simp[go_sem]) ?_
    refine(enterCatch w.heap.size (w.heap.size+1+1) (w.heap.size+1+1+1) _ _ [] z a n cap qs am m cm ps op st w4 HS4.out (by omega) HCK.out HP4.out (by omega) hm1 hm64 HN4.out N0.out N2.out N3.out (by omega)).mono ?_
    rintro e u' w'' ⟨rfl,rfl,w5,a',c',am',cm2,hO5,b5,hcap5,rfl⟩
    have P2:=hide (block_on N2.out b5)
    have P3:=hide (block_on N3.out b5)
    have hs5:=b5.size
    have HEND:=hide (endW_at (w:=w) (w1:=w5) (by omega) (below_here HB4.out b5) P2.out P3.out z a' n c' am' m cm2 op st false)
    refine⟨_,results_cc rfl rfl rfl (run_loadVar_row _ _ _ _ _ _ _ HEND.out.1 Tryz.underlying29 rfl (by kernel_rfl)) (Tryz.loadOk HEND.out.2.1),_,by rw[HRR.out];rfl,a',c',am',cm2,by rw[HFN.out];unfold fvV;dsimp only;rw[HLQ.out,HLP.out],?_,HEND.out.2.2.1,by rw[HFN.out];exact hcap5⟩
    rw[HFN.out]
    exact(hO5.aside HEND.out.2.2.2 (.inl (by omega))).wide (by omega) HEND.out.2.2.2.size (Nat.le_refl _)
   | some s' =>
    have HRR:=hide hrr
    have HFN:Hid (fv=⟨z,s'.qs,s'.ps,s'.op,st+1⟩):=by show _=_;rw[HFE.out,hrr]
    rw[hrr] at hk4
    dsimp only at hk4
    obtain⟨rfl,A4,C4,V4,hA4,_⟩:=hk4
    have HA4:=hide hA4
    clear hA4 hrr
    go_wp2_with fail
    refine(ftl_any w2.heap.size pk z (st+1) n g c gm cm' A4 C4 V4 s' aN w4 HA4.out (by omega)).mono ?_
    rintro e w5 ⟨rfl,b5⟩
    have P2:=hide (block_on N2.out b5)
    have P3:=hide (block_on N3.out b5)
    have HB5:=hide (below_here HB4.out b5)
    have HO5:=hide (own_of_kp (HA4.out.mem.later b5))
    have HLN:=hide HA4.out.mem.sq.len
    have hs5:=b5.size
    clear b5
    obtain⟨d0,d1,d2,d3,d4⟩:=five_cells P2.out
    have g0:=four_frozen P2.out 0
    have g1:=four_frozen P2.out 1
    have g2:=four_frozen P2.out 2
    have g3:=four_frozen P2.out 3
    have g4:=four_frozen P2.out 4
    have e2:w5.cell? ⟨w.heap.size+1+1+1,0,none⟩=some (.bool false):=by simp[World.cell?,P3.out]
    have e3:=four_frozen P3.out 0
    have HEND:=hide (endW_at (w:=w) (w1:=w5) (by omega) HB5.out P2.out P3.out z (some ⟨g,0,none⟩) n c (some ⟨gm,0,none⟩) s'.ps.length cm' s'.op (st+1) true)
    unfold endW at HEND
    go_wp2_with fail
    show Leaves _ _ _ _ _ _ _
    refine leaves_cons (f:=97) (args:=#[.pointer (some ⟨w.heap.size,0,none⟩),.pointer (some ⟨w.heap.size+1+1,0,none⟩),.pointer (some ⟨w.heap.size+1+1+1,0,none⟩)]) (by simp) (by simp[go_sem]) ?_
    refine(enterIdle _ _ _ _).mono ?_
    rintro e u' w'' ⟨rfl,rfl,rfl⟩
    refine⟨_,results_cc rfl rfl rfl (run_loadVar_row _ _ _ _ _ _ _ HEND.out.1 Tryz.underlying29 rfl (by kernel_rfl)) (Tryz.loadOk HEND.out.2.1),_,by rw[HRR.out];rfl,some ⟨g,0,none⟩,c,some ⟨gm,0,none⟩,cm',by rw[HFN.out];unfold fvV;dsimp only;rw[HLN.out],?_,HEND.out.2.2.1,by rw[HFN.out];exact pl_cap HA4.out.mem.pl⟩
    rw[HFN.out]
    exact(HO5.out.aside HEND.out.2.2.2 (.inl (by omega))).wide (by omega) HEND.out.2.2.2.size (Nat.le_refl _)
end Go.Proofs.YtgjoepdfhadmcaaGreatDoor
end

section
namespace Go.Proofs.YtgjoepdfhadmcaaGreatDoor
open Go.RowKit
set_option linter.unusedVariables false
set_option linter.unusedSimpArgs false
set_option maxRecDepth 20000
theorem cell_ltE {w:World}{b o:Nat}{v:Value}(h:w.cell? ⟨b,o,none⟩=some v):b<w.heap.size:=by
 rcases Nat.lt_or_ge b w.heap.size with hc|hc
 ·exact hc
 ·unfold World.cell? at h
  have:w.heap[b]?=none:=Array.getElem?_eq_none_iff.2 (by omega)
  simp[this] at h
structure FSt (b:Nat)(f:Fv)(a:Option Addr)(n c:Nat)(am:Option Addr)(m cm:Nat)(w:World):Prop where
 k:w.heap[b]?=some (.cells #[.int .i64 f.z,.slice a n c,.slice am m cm,.int .i64 f.op,.int .i64 f.st] 29)
 n1:n<=1048576
 fits:∀y∈f.qs,sqFits y
 sq:Squares 0 w.heap.size w a n f.qs
 pl:Places 0 w.heap.size w am m f.ps
 m1:m<=1048576
 mc:m<=cm
section
variable {b:Nat}{f:Fv}{a:Option Addr}{n c:Nat}{am:Option Addr}{m cm:Nat}{w w':World}
theorem FSt.on (h:FSt b f a n c am m cm w)(hb:Below w.heap.size w w'):FSt b f a n c am m cm w' :=
 ⟨block_on h.k hb,h.n1,h.fits,(h.sq.later hb (Nat.le_refl _)).wideLo (Nat.le_refl _) hb.size,(h.pl.later hb (Nat.le_refl _)).wide2 (Nat.le_refl _) hb.size,h.m1,h.mc⟩
theorem fst_in {B:Nat}(h:FtlIn B w f a n c am m cm)(hb:Below w.heap.size w w')(hk:w'.heap[b]?=some (.cells #[.int .i64 f.z,.slice a n c,.slice am m cm,.int .i64 f.op,.int .i64 f.st] 29)):FSt b f a n c am m cm w' :=
 ⟨hk,by have:=h.n13;omega,h.fits,(h.sq.later hb (Nat.le_refl _)).wideLo (Nat.zero_le _) hb.size,(h.pl.later hb (Nat.le_refl _)).wide2 (Nat.zero_le _) hb.size,by have:=h.m200;omega,h.mc⟩
theorem fst_own {lo hi:Nat}(h:FtlOwn lo hi w a am f.qs f.ps)(hf:∀y∈f.qs,sqFits y)(hq:f.qs.length<=1048576)(hp:f.ps.length<=1048576)(hc:f.ps.length<=cm)(hb:Below w.heap.size w w')(hk:w'.heap[b]?=some (.cells #[.int .i64 f.z,.slice a f.qs.length c,.slice am f.ps.length cm,.int .i64 f.op,.int .i64 f.st] 29)):FSt b f a f.qs.length c am f.ps.length cm w' :=
 ⟨hk,hq,hf,(h.squares.later hb h.1).wideLo (Nat.zero_le _) (Nat.le_trans h.1 hb.size),(h.places.later hb h.1).wide2 (Nat.zero_le _) (Nat.le_trans h.1 hb.size),hp,hc⟩
end
theorem zero_squares (w:World):Squares 0 w.heap.size w none 0 []:=⟨rfl,fun _=>none,fun _=>0,⟨Nat.le_refl _,fun h=>absurd h (by omega)⟩,fun i hi=>absurd hi (by omega)⟩
theorem zero_places (w:World):Places 0 w.heap.size w none 0 []:=⟨rfl,⟨Nat.le_refl _,fun h=>absurd h (by omega)⟩⟩
end Go.Proofs.YtgjoepdfhadmcaaGreatDoor
end

section
namespace Go.Proofs.YtgjoepdfhadmcaaGreatDoor
open Go.RowKit
set_option linter.unusedVariables false
set_option linter.unusedSimpArgs false
set_option maxRecDepth 20000
section
variable {b:Nat}{f g:Fv}{a a':Option Addr}{n c n' c':Nat}{am am':Option Addr}{m cm m' cm' b':Nat}{w w':World}
theorem sLike0 (h:FSt b f a n c am m cm w):Calls Tryz.prog 22 #[.agg #[.int .i64 f.z,.slice a n c,.slice am m cm,.int .i64 f.op,.int .i64 f.st],.agg #[.int .i64 0,.slice none 0 0,.slice none 0 0,.int .i64 0,.int .i64 0]] w fun e w'=>e=.returned (.bool (likeF f ⟨0,[],[],0,0⟩))∧Below w.heap.size w w' :=
 likeFtl_any f ⟨0,[],[],0,0⟩ a none n c 0 0 am none m cm 0 0 w h.sq (zero_squares w) (Nat.le_refl _) (Nat.le_refl _) h.n1 (by omega) h.fits (fun x hx=>by simp at hx) h.pl (zero_places w) (Nat.le_refl _) (Nat.le_refl _) h.m1 (by omega)
theorem iOk (h:FSt b f a n c am m cm w)(hT:Tab w){aB aL aS aC aF:Addr}(E:Errs w aB aL aS aC aF):Calls Tryz.prog 19 #[.agg #[.int .i64 f.z,.slice a n c,.slice am m cm,.int .i64 f.op,.int .i64 f.st]] w fun e w'=>e=.returned (.bool (okF f))∧Below w.heap.size w w' :=
 implFtlOk_any f.z a n c f.qs am m cm f.ps f.op f.st w h.sq (Nat.le_refl _) h.n1 h.fits h.pl (Nat.le_refl _) h.m1 h.mc hT E
theorem iSame (h:FSt b f a n c am m cm w)(h':FSt b' g a' n' c' am' m' cm' w)(hT:Tab w){aB aL aS aC aF:Addr}(E:Errs w aB aL aS aC aF):Calls Tryz.prog 23 #[.agg #[.int .i64 f.z,.slice a n c,.slice am m cm,.int .i64 f.op,.int .i64 f.st],.agg #[.int .i64 g.z,.slice a' n' c',.slice am' m' cm',.int .i64 g.op,.int .i64 g.st]] w fun e w'=>e=.returned (.bool (sameF f g))∧Below w.heap.size w w' :=
 implSame_any f g a n c am m cm a' n' c' am' m' cm' w h.sq (Nat.le_refl _) h.n1 h.fits h.pl (Nat.le_refl _) h.m1 h'.sq (Nat.le_refl _) h'.n1 h'.fits h'.pl (Nat.le_refl _) h'.m1 h.mc h'.mc hT E
end
structure NiceF (f:Fv):Prop where
 fits:∀y∈f.qs,sqFits y
 squares:f.qs.length<=1048576
 places:f.ps.length<=1048576
end Go.Proofs.YtgjoepdfhadmcaaGreatDoor
end

section
namespace Go.Proofs.YtgjoepdfhadmcaaGreatDoor
open Go.RowKit
set_option linter.unusedVariables false
set_option linter.unusedSimpArgs false
set_option maxRecDepth 20000
abbrev zCh:Obj:=.cells #[.int .i64 0,.slice none 0 0] 26
abbrev O6:Obj:=.cells #[.int .i64 0,.int .i64 1,.int .i64 4,.int .i64 8,.int .i64 64,.int .i64 65] 2
theorem six_ints (a b c d e f:Int)(J:Nat)(h:J<6):∃v:Int,(#[Value.int .i64 a,.int .i64 b,.int .i64 c,.int .i64 d,.int .i64 e,.int .i64 f]:Array Value)[J]?=some (.int .i64 v):=by
 rcases(show J=0∨J=1∨J=2∨J=3∨J=4∨J=5 by omega) with rfl|rfl|rfl|rfl|rfl|rfl<;>exact⟨_,rfl⟩
structure ChipIn (B:Nat)(w:World)(qs:List Sq)(a:Option Addr)(n:Nat):Prop where
 n13:n<=13
 fits:∀x∈qs,sqFits x
 sq:Squares B w.heap.size w a n qs
section
variable {B:Nat}{w w':World}{qs:List Sq}{a:Option Addr}{n:Nat}
theorem ChipIn.set (h:ChipIn B w qs a n){l r B':Nat}(hb:Aside l r w w')(hr:r<=B)(h1:B'<=B):ChipIn B' w' qs a n:=⟨h.n13,h.fits,(h.sq.aside hb (.inr hr)).wideLo h1 hb.size⟩
theorem ChipIn.later (h:ChipIn B w qs a n)(hb:Below w.heap.size w w'):ChipIn B w' qs a n:=⟨h.n13,h.fits,(h.sq.later hb (Nat.le_refl _)).wideLo (Nat.le_refl _) hb.size⟩
end
def MountOf (w:World)(e:Ending)(w':World):Prop:=∃(z:Int) (a:Option Addr) (n c:Nat) (qs:List Sq) (N:Int),e=.returned (.tuple #[.agg #[.int .i64 z,.slice a n c],.int .i64 N])∧ChipIn w.heap.size w' qs a n∧Below w.heap.size w w'
set_option maxHeartbeats 3200000 in
theorem drawMount_any (hd:JobDraws)(a:Option Addr)(n cap:Nat)(l:List UInt8)(w:World){lo hi:Nat}(hB:Bytes lo hi w a n l)(hhi:hi<=w.heap.size)(hn:n<=4096) :
  Calls Tryz.prog 20 #[.slice a n cap] w (MountOf w):=by
 obtain⟨wA,hwA⟩:∃wA,wA=w.alloc zCh:=⟨_,rfl⟩
 have hzA:wA.heap.size=w.heap.size+1:=by rw[hwA];simp
 have HBA:Hid (Below w.heap.size w wA):=by rw[hwA];exact(Below.refl _ _).alloc (Nat.le_refl _) _
 have H1:Hid (wA.heap[w.heap.size]?=some zCh):=by rw[hwA];exact heap_new _ _
 have HB:=hide (hB.later HBA.out hhi)
 have HJD:=hide hd
 clear hB hd
 go_enter Tryz.func20,Tryz.ntmps20
 go_wp2_with fail
 rw[<- hwA]
 clear hwA
 refine(l1New_any a n cap l wA HB.out hn).mono ?_
 rintro e w1 ⟨p,rfl,hp,c1,b1⟩
 have h1:=hide (block_on H1.out b1)
 have HB1:=hide (below_here HBA.out b1)
 have hs1:=b1.size
 have hpl:=c1.lt
 clear b1 H1 HBA HB
 go_wp2_with fail
 refine(l8DrawAny_any HJD.out p w1 c1).mono ?_
 rintro e w2 ⟨z,a2,n2,c2,qs,rfl,hn2,_,hf,_,hsq,hcu,has⟩
 have hs2:=has.size
 have h2:=hide (aside_block has h1.out (by omega))
 have HB2:=hide (HB1.out.trans (has.below (B:=w.heap.size) (by omega) (by omega)))
 have HD2:Hid (ChipIn w1.heap.size w2 qs a2 n2):=hide ⟨hn2,hf,hsq⟩
 have HC2:=hide hcu
 obtain⟨wB,hwB⟩:∃wB,wB=w2.alloc (.cells #[.int .i64 z,.slice a2 n2 c2] 26):=⟨_,rfl⟩
 have bB:Below w2.heap.size w2 wB:=by rw[hwB];exact(Below.refl _ _).alloc (Nat.le_refl _) _
 have hsB:wB.heap.size=w2.heap.size+1:=by rw[hwB];simp
 have HKB:Hid (wB.heap[w2.heap.size]?=some (.cells #[.int .i64 z,.slice a2 n2 c2] 26)):=by rw[hwB];exact heap_new _ _
 have HRB:=hide (block_on h2.out bB)
 have HDB:=hide (HD2.out.later bB)
 have HCB:=hide (HC2.out.below bB HC2.out.lt)
 have HBB:=hide (below_here HB2.out bB)
 clear has hcu hsq h1 h2 HB1 HB2 c1 hf HD2 HC2 bB
 obtain⟨bC,hbC⟩:∃bC,bC=w2.heap.size:=⟨_,rfl⟩
 rw[<- hbC] at HKB
 have hbp:p<bC:=by omega
 have hbw:w.heap.size<bC:=by omega
 have hpw:w.heap.size<p:=by omega
 have hbz:bC<wB.heap.size:=by omega
 have HP1:Hid (p+1<=w1.heap.size):=hide (by omega)
 have HW1:Hid (w.heap.size+1<=w1.heap.size):=hide (by omega)
 have HS1:Hid (w1.heap.size<=bC):=hide (by omega)
 go_upto_region 3 with fail
 rw[<- hwB]
 rw[<- hbC]
 clear hwB hsB hbC hs2 hs1 hzA hp hpl
 go_wp2_with fail
 refine(l1Once_any p 2 wB HCB.out (by omega)).mono ?_
 rintro e w3 ⟨b3,rfl,c3,s3⟩
 have HK3:=hide (aside_block s3 HKB.out (by omega))
 have HR3:=hide (aside_block s3 HRB.out (by omega))
 have HD3:=hide (HDB.out.set s3 HP1.out (Nat.le_refl _))
 have HC3:=hide c3
 have HB3:=hide (HBB.out.trans (s3.below (B:=w.heap.size) (by omega) (by omega)))
 have hb3:bC<w3.heap.size:=(Array.getElem?_eq_some_iff.1 HK3.out).1
 clear c3 s3 HKB HRB HDB HCB HBB hbz
 cases b3 with
 | false =>
  have HCd:Hid (Cur w3.drew p):=hide HC3.out
  have HCe:Hid (Cur (w3.alloc O6).drew p):=hide (HC3.out.alloc _)
  have bL:=(Below.refl w3.heap.size w3).alloc (Nat.le_refl _) O6
  have HKL:=hide (block_on HK3.out bL)
  have HRL:=hide (block_on HR3.out bL)
  have HDL:=hide (HD3.out.later bL)
  have HBL:=hide (below_here HB3.out bL)
  have HNL:=hide (heap_new w3 O6)
  have hzL:w3.heap.size+1<=(w3.alloc O6).heap.size:=by simp
  clear bL
  unfold O6 at *
  obtain⟨k0,k1⟩:=two_cells HK3.out
  obtain⟨l0,l1⟩:=two_cells HKL.out
  go_upto_region 5 with fail
  go_region_with
   (first
    | (go_at_call 56;refine(l1Below_any p 6 _ (by with_reducible exact HCd.out) (by omega)).mono ?_;rintro e w8 ⟨x,rfl,x0,x1,hc8,s8⟩;have s9:Aside p (p+1) w3 w8:=⟨s8.os,s8.tape,s8.output,s8.size,s8.block⟩;have HK8:=hide (aside_block s9 HK3.out (by omega));have HK9:=hide (two_cells HK8.out);have HR8:=hide (aside_block s9 HR3.out (by omega));have hs8:=s9.size;have HD8:=hide (HD3.out.set s9 HP1.out HW1.out);have HB8:=hide (HB3.out.trans (s9.below (B:=w.heap.size) (by omega) (by omega)));clear s8 s9 hc8;obtain⟨z0,z1⟩:=two_cells HR8.out;have f0:=four_frozen HR8.out 0;have f1:=four_frozen HR8.out 1;have HS9:=hide (two_set HR8.out (.int .i64 z) (.slice a2 n2 c2));have HA9:=hide (two_aside (b:=w.heap.size) (Aside.refl w.heap.size (w.heap.size+1) w8) (Nat.le_refl _) (Nat.lt_succ_self _) (.int .i64 z) (.slice a2 n2 c2));have HKS:=hide (two_cells (aside_block HA9.out HK8.out (by omega)));have hxJ:∃J:Nat,x=(J:Int):=⟨x.toNat,by omega⟩;obtain⟨J,rfl⟩:=hxJ;have hJ:J<6:=(by omega);have hJ2:(J:Int)<6:=(by omega);obtain⟨rv,hrv⟩:=six_ints 0 1 4 8 64 65 J hJ;have bO:=(Below.refl w8.heap.size w8).alloc (Nat.le_refl _) (.cells #[.int .i64 0,.int .i64 1,.int .i64 4,.int .i64 8,.int .i64 64,.int .i64 65] 2);have HVO:=hide (block_on HK8.out bO);have HKO:=hide (two_cells HVO.out);have HRO:=hide (block_on HR8.out bO);obtain⟨zo0,zo1⟩:=two_cells HRO.out;have fo0:=four_frozen HRO.out 0;have fo1:=four_frozen HRO.out 1;have HDO:=hide (HD8.out.later bO);have HBO:=hide (below_here HB8.out bO);have HAO:=hide (two_aside (b:=w.heap.size) (Aside.refl w.heap.size (w.heap.size+1) (w8.alloc (.cells #[.int .i64 0,.int .i64 1,.int .i64 4,.int .i64 8,.int .i64 64,.int .i64 65] 2))) (Nat.le_refl _) (Nat.lt_succ_self _) (.int .i64 z) (.slice a2 n2 c2));have HKP:=hide (two_cells (aside_block HAO.out HVO.out (by omega)));have HSO:=hide (two_set HRO.out (.int .i64 z) (.slice a2 n2 c2));have HNP:=hide (aside_block HAO.out (heap_new w8 (.cells #[.int .i64 0,.int .i64 1,.int .i64 4,.int .i64 8,.int .i64 64,.int .i64 65] 2)) (by omega));have hJp:(((w8.alloc (.cells #[.int .i64 0,.int .i64 1,.int .i64 4,.int .i64 8,.int .i64 64,.int .i64 65] 2)).setCell ⟨w.heap.size,0,none⟩ (.int .i64 z)).setCell ⟨w.heap.size,1,none⟩ (.slice a2 n2 c2)).cell? ⟨w8.heap.size,J,none⟩=some (.int .i64 rv):=(by simp only[World.cell?,HNP.out];exact hrv);have hJn:(w8.alloc (.cells #[.int .i64 0,.int .i64 1,.int .i64 4,.int .i64 8,.int .i64 64,.int .i64 65] 2)).cell? ⟨w8.heap.size,J,none⟩=some (.int .i64 rv):=(by simp only[World.cell?,heap_new];exact hrv);have hzS:((w8.setCell ⟨w.heap.size,0,none⟩ (.int .i64 z)).setCell ⟨w.heap.size,1,none⟩ (.slice a2 n2 c2)).heap.size=w8.heap.size:=(by simp);have bS:=(Below.refl ((w8.setCell ⟨w.heap.size,0,none⟩ (.int .i64 z)).setCell ⟨w.heap.size,1,none⟩ (.slice a2 n2 c2)).heap.size ((w8.setCell ⟨w.heap.size,0,none⟩ (.int .i64 z)).setCell ⟨w.heap.size,1,none⟩ (.slice a2 n2 c2))).alloc (Nat.le_refl _) (.cells #[.int .i64 0,.int .i64 1,.int .i64 4,.int .i64 8,.int .i64 64,.int .i64 65] 2);have HKQ:=hide (two_cells (block_on (aside_block HA9.out HK8.out (by omega)) bS));have HNQ:(((w8.setCell ⟨w.heap.size,0,none⟩ (.int .i64 z)).setCell ⟨w.heap.size,1,none⟩ (.slice a2 n2 c2)).alloc (.cells #[.int .i64 0,.int .i64 1,.int .i64 4,.int .i64 8,.int .i64 64,.int .i64 65] 2)).heap[w8.heap.size]?=some (.cells #[.int .i64 0,.int .i64 1,.int .i64 4,.int .i64 8,.int .i64 64,.int .i64 65] 2):=(by rw[<- hzS];exact heap_new _ _);have hJq:(((w8.setCell ⟨w.heap.size,0,none⟩ (.int .i64 z)).setCell ⟨w.heap.size,1,none⟩ (.slice a2 n2 c2)).alloc (.cells #[.int .i64 0,.int .i64 1,.int .i64 4,.int .i64 8,.int .i64 64,.int .i64 65] 2)).cell? ⟨w8.heap.size,J,none⟩=some (.int .i64 rv):=(by simp only[World.cell?,HNQ];exact hrv);have HSQ:=hide (block_on HS9.out bS);have HBS:=hide bS;clear bO bS hzS HNQ;obtain⟨ka0,ka1⟩:=HK9.out;obtain⟨kb0,kb1⟩:=HKO.out)
    | (go_at_call 56;refine(l1Below_any p 6 _ (by with_reducible exact HCe.out) (by omega)).mono ?_;rintro e w8 ⟨x,rfl,x0,x1,hc8,s8⟩;have HN8:=hide (aside_block (w:=(w3.alloc (.cells #[.int .i64 0,.int .i64 1,.int .i64 4,.int .i64 8,.int .i64 64,.int .i64 65] 2)).drew) s8 HNL.out (by omega));have s9:Aside p (p+1) (w3.alloc (.cells #[.int .i64 0,.int .i64 1,.int .i64 4,.int .i64 8,.int .i64 64,.int .i64 65] 2)) w8:=⟨s8.os,s8.tape,s8.output,s8.size,s8.block⟩;have HK8:=hide (aside_block s9 HKL.out (by omega));have HK9:=hide (two_cells HK8.out);have HR8:=hide (aside_block s9 HRL.out (by omega));have hs8:=s9.size;have HD8:=hide (HDL.out.set s9 HP1.out HW1.out);have HB8:=hide (HBL.out.trans (s9.below (B:=w.heap.size) (by omega) (by omega)));clear s8 s9 hc8;obtain⟨z0,z1⟩:=two_cells HR8.out;have f0:=four_frozen HR8.out 0;have f1:=four_frozen HR8.out 1;have HS9:=hide (two_set HR8.out (.int .i64 z) (.slice a2 n2 c2));have HA9:=hide (two_aside (b:=w.heap.size) (Aside.refl w.heap.size (w.heap.size+1) w8) (Nat.le_refl _) (Nat.lt_succ_self _) (.int .i64 z) (.slice a2 n2 c2));have HKS:=hide (two_cells (aside_block HA9.out HK8.out (by omega)));have hxJ:∃J:Nat,x=(J:Int):=⟨x.toNat,by omega⟩;obtain⟨J,rfl⟩:=hxJ;have hJ:J<6:=(by omega);have hJ2:(J:Int)<6:=(by omega);obtain⟨rv,hrv⟩:=six_ints 0 1 4 8 64 65 J hJ;have bO:=(Below.refl w8.heap.size w8).alloc (Nat.le_refl _) (.cells #[.int .i64 0,.int .i64 1,.int .i64 4,.int .i64 8,.int .i64 64,.int .i64 65] 2);have HVO:=hide (block_on HK8.out bO);have HKO:=hide (two_cells HVO.out);have HRO:=hide (block_on HR8.out bO);obtain⟨zo0,zo1⟩:=two_cells HRO.out;have fo0:=four_frozen HRO.out 0;have fo1:=four_frozen HRO.out 1;have HDO:=hide (HD8.out.later bO);have HBO:=hide (below_here HB8.out bO);have HAO:=hide (two_aside (b:=w.heap.size) (Aside.refl w.heap.size (w.heap.size+1) (w8.alloc (.cells #[.int .i64 0,.int .i64 1,.int .i64 4,.int .i64 8,.int .i64 64,.int .i64 65] 2))) (Nat.le_refl _) (Nat.lt_succ_self _) (.int .i64 z) (.slice a2 n2 c2));have HKP:=hide (two_cells (aside_block HAO.out HVO.out (by omega)));have HSO:=hide (two_set HRO.out (.int .i64 z) (.slice a2 n2 c2));have HNP:=hide (aside_block HAO.out (heap_new w8 (.cells #[.int .i64 0,.int .i64 1,.int .i64 4,.int .i64 8,.int .i64 64,.int .i64 65] 2)) (by omega));have hJp:(((w8.alloc (.cells #[.int .i64 0,.int .i64 1,.int .i64 4,.int .i64 8,.int .i64 64,.int .i64 65] 2)).setCell ⟨w.heap.size,0,none⟩ (.int .i64 z)).setCell ⟨w.heap.size,1,none⟩ (.slice a2 n2 c2)).cell? ⟨w8.heap.size,J,none⟩=some (.int .i64 rv):=(by simp only[World.cell?,HNP.out];exact hrv);have hJn:(w8.alloc (.cells #[.int .i64 0,.int .i64 1,.int .i64 4,.int .i64 8,.int .i64 64,.int .i64 65] 2)).cell? ⟨w8.heap.size,J,none⟩=some (.int .i64 rv):=(by simp only[World.cell?,heap_new];exact hrv);have hzS:((w8.setCell ⟨w.heap.size,0,none⟩ (.int .i64 z)).setCell ⟨w.heap.size,1,none⟩ (.slice a2 n2 c2)).heap.size=w8.heap.size:=(by simp);have bS:=(Below.refl ((w8.setCell ⟨w.heap.size,0,none⟩ (.int .i64 z)).setCell ⟨w.heap.size,1,none⟩ (.slice a2 n2 c2)).heap.size ((w8.setCell ⟨w.heap.size,0,none⟩ (.int .i64 z)).setCell ⟨w.heap.size,1,none⟩ (.slice a2 n2 c2))).alloc (Nat.le_refl _) (.cells #[.int .i64 0,.int .i64 1,.int .i64 4,.int .i64 8,.int .i64 64,.int .i64 65] 2);have HKQ:=hide (two_cells (block_on (aside_block HA9.out HK8.out (by omega)) bS));have HNQ:(((w8.setCell ⟨w.heap.size,0,none⟩ (.int .i64 z)).setCell ⟨w.heap.size,1,none⟩ (.slice a2 n2 c2)).alloc (.cells #[.int .i64 0,.int .i64 1,.int .i64 4,.int .i64 8,.int .i64 64,.int .i64 65] 2)).heap[w8.heap.size]?=some (.cells #[.int .i64 0,.int .i64 1,.int .i64 4,.int .i64 8,.int .i64 64,.int .i64 65] 2):=(by rw[<- hzS];exact heap_new _ _);have hJq:(((w8.setCell ⟨w.heap.size,0,none⟩ (.int .i64 z)).setCell ⟨w.heap.size,1,none⟩ (.slice a2 n2 c2)).alloc (.cells #[.int .i64 0,.int .i64 1,.int .i64 4,.int .i64 8,.int .i64 64,.int .i64 65] 2)).cell? ⟨w8.heap.size,J,none⟩=some (.int .i64 rv):=(by simp only[World.cell?,HNQ];exact hrv);have HSQ:=hide (block_on HS9.out bS);have HBS:=hide bS;clear bO bS hzS HNQ;obtain⟨ka0,ka1⟩:=HK9.out;obtain⟨kb0,kb1⟩:=HKO.out;have hJc:w8.cell? ⟨w3.heap.size,J,none⟩=some (.int .i64 rv):=(by simp only[World.cell?,HN8.out];exact hrv);have HN9:=hide (aside_block HA9.out HN8.out (by omega));have hJd:((w8.setCell ⟨w.heap.size,0,none⟩ (.int .i64 z)).setCell ⟨w.heap.size,1,none⟩ (.slice a2 n2 c2)).cell? ⟨w3.heap.size,J,none⟩=some (.int .i64 rv):=(by simp only[World.cell?,HN9.out];exact hrv))
    | fail)
  all_goals
   go_wp2_with fail
   obtain⟨wS,hwS⟩:∃wS,wS=(((w8.alloc (.cells #[.int .i64 0,.int .i64 1,.int .i64 4,.int .i64 8,.int .i64 64,.int .i64 65] 2)).setCell ⟨w.heap.size,0,none⟩ (.int .i64 z)).setCell ⟨w.heap.size,1,none⟩ (.slice a2 n2 c2)):=⟨_,rfl⟩
   obtain⟨wT,hwT⟩:∃wT,wT=(((w8.setCell ⟨w.heap.size,0,none⟩ (.int .i64 z)).setCell ⟨w.heap.size,1,none⟩ (.slice a2 n2 c2)).alloc (.cells #[.int .i64 0,.int .i64 1,.int .i64 4,.int .i64 8,.int .i64 64,.int .i64 65] 2)):=⟨_,rfl⟩
   obtain⟨wU,hwU⟩:∃wU,wU=((w8.setCell ⟨w.heap.size,0,none⟩ (.int .i64 z)).setCell ⟨w.heap.size,1,none⟩ (.slice a2 n2 c2)):=⟨_,rfl⟩
   first
    | (rw[<- hwT];rw[<- hwT] at HSQ HBS;clear hwS hwT hwU;exact bodyPost_ret (results_ct rfl rfl (run_loadVar_row _ _ _ _ _ _ _ HSQ.out Tryz.underlying26 rfl (by kernel_rfl))) rfl ⟨z,a2,n2,c2,qs,rv,rfl,(HD8.out.set HA9.out (by omega) (by omega)).later HBS.out,below_here (HB8.out.trans (HA9.out.below (Nat.le_refl _) (by omega))) HBS.out⟩)
    | (rw[<- hwS];rw[<- hwS] at HSO HAO;clear hwS hwT hwU;exact bodyPost_ret (results_ct rfl rfl (run_loadVar_row _ _ _ _ _ _ _ HSO.out Tryz.underlying26 rfl (by kernel_rfl))) rfl ⟨z,a2,n2,c2,qs,rv,rfl,HDO.out.set HAO.out (by omega) (by omega),HBO.out.trans (HAO.out.below (Nat.le_refl _) (by have:=HBO.out.size;omega))⟩)
    | (rw[<- hwU];rw[<- hwU] at HS9 HA9;clear hwS hwT hwU;exact bodyPost_ret (results_ct rfl rfl (run_loadVar_row _ _ _ _ _ _ _ HS9.out Tryz.underlying26 rfl (by kernel_rfl))) rfl ⟨z,a2,n2,c2,qs,rv,rfl,HD8.out.set HA9.out (by omega) (by omega),HB8.out.trans (HA9.out.below (Nat.le_refl _) (by omega))⟩)
 | true =>
  go_wp2_with fail
  refine(l11DrawRot_any p w3 HC3.out).mono ?_
  rintro e w4 ⟨z',qs',ps,op,st,a',n',c',am,m,cm,rfl,hn',hf,hsq,_,_,_,hcu,has⟩
  have HK4:=hide (aside_block has HK3.out (by omega))
  have HR4:=hide (aside_block has HR3.out (by omega))
  have HD4:Hid (ChipIn (w3.heap.size+1) w4 qs' a' n'):=hide ⟨hn',hf,hsq⟩
  have HC4:=hide hcu
  have HB4:=hide (HB3.out.trans (has.below (B:=w.heap.size) (by omega) (by omega)))
  have hb4:bC<w4.heap.size:=(Array.getElem?_eq_some_iff.1 HK4.out).1
  clear has hcu hsq hf HK3 HR3 HD3 HC3 HB3
  have hfl:(Instr.field 29 (.agg #[.int .i64 z',.slice a' n' c',.slice am m cm,.int .i64 op,.int .i64 st]) 0).run Tryz.prog w4=.ok (.agg #[.int .i64 z',.slice a' n' c']) w4:=by kernel_rfl
  obtain⟨k0,k1⟩:=two_cells HK4.out
  have g0:=four_frozen HK4.out 0
  have g1:=four_frozen HK4.out 1
  obtain⟨w5,hw5⟩:∃w5,w5=(w4.setCell ⟨bC,0,none⟩ (.int .i64 z')).setCell ⟨bC,1,none⟩ (.slice a' n' c'):=⟨_,rfl⟩
  have hA5:Aside bC (bC+1) w4 w5:=by rw[hw5];exact two_aside (Aside.refl _ _ _) (Nat.le_refl _) (Nat.lt_succ_self _) _ _
  have HK5:Hid (w5.heap[bC]?=some (.cells #[.int .i64 z',.slice a' n' c'] 26)):=by rw[hw5];exact two_set HK4.out _ _
  have HR5:=hide (aside_block hA5 HR4.out (by omega))
  have HD5:Hid (ChipIn w1.heap.size w5 qs' a' n'):=hide (HD4.out.set hA5 (by omega) (by have:=HS1.out;omega))
  have HC5:=hide (HC4.out.aside hA5 (by omega))
  have HB5:=hide (HB4.out.trans (hA5.below (B:=w.heap.size) (by omega) (by omega)))
  have hb5:bC<w5.heap.size:=(Array.getElem?_eq_some_iff.1 HK5.out).1
  clear hA5 HK4 HR4 HD4 HC4 HB4
  go_upto_region 5 with fail
  rw[<- hw5]
  clear hw5 k0 k1 g0 g1 hfl
  have HCd:Hid (Cur w5.drew p):=hide HC5.out
  have HCe:Hid (Cur (w5.alloc O6).drew p):=hide (HC5.out.alloc _)
  have bL:=(Below.refl w5.heap.size w5).alloc (Nat.le_refl _) O6
  have HKL:=hide (block_on HK5.out bL)
  have HRL:=hide (block_on HR5.out bL)
  have HDL:=hide (HD5.out.later bL)
  have HBL:=hide (below_here HB5.out bL)
  have HNL:=hide (heap_new w5 O6)
  have hzL:w5.heap.size+1<=(w5.alloc O6).heap.size:=by simp
  clear bL
  unfold O6 at *
  obtain⟨k0,k1⟩:=two_cells HK5.out
  obtain⟨l0,l1⟩:=two_cells HKL.out
  go_region_with
   (first
    | (go_at_call 56;refine(l1Below_any p 6 _ (by with_reducible exact HCd.out) (by omega)).mono ?_;rintro e w8 ⟨x,rfl,x0,x1,hc8,s8⟩;have s9:Aside p (p+1) w5 w8:=⟨s8.os,s8.tape,s8.output,s8.size,s8.block⟩;have HK8:=hide (aside_block s9 HK5.out (by omega));have HK9:=hide (two_cells HK8.out);have HR8:=hide (aside_block s9 HR5.out (by omega));have hs8:=s9.size;have HD8:=hide (HD5.out.set s9 HP1.out HW1.out);have HB8:=hide (HB5.out.trans (s9.below (B:=w.heap.size) (by omega) (by omega)));clear s8 s9 hc8;obtain⟨z0,z1⟩:=two_cells HR8.out;have f0:=four_frozen HR8.out 0;have f1:=four_frozen HR8.out 1;have HS9:=hide (two_set HR8.out (.int .i64 z') (.slice a' n' c'));have HA9:=hide (two_aside (b:=w.heap.size) (Aside.refl w.heap.size (w.heap.size+1) w8) (Nat.le_refl _) (Nat.lt_succ_self _) (.int .i64 z') (.slice a' n' c'));have HKS:=hide (two_cells (aside_block HA9.out HK8.out (by omega)));have hxJ:∃J:Nat,x=(J:Int):=⟨x.toNat,by omega⟩;obtain⟨J,rfl⟩:=hxJ;have hJ:J<6:=(by omega);have hJ2:(J:Int)<6:=(by omega);obtain⟨rv,hrv⟩:=six_ints 0 1 4 8 64 65 J hJ;have bO:=(Below.refl w8.heap.size w8).alloc (Nat.le_refl _) (.cells #[.int .i64 0,.int .i64 1,.int .i64 4,.int .i64 8,.int .i64 64,.int .i64 65] 2);have HVO:=hide (block_on HK8.out bO);have HKO:=hide (two_cells HVO.out);have HRO:=hide (block_on HR8.out bO);obtain⟨zo0,zo1⟩:=two_cells HRO.out;have fo0:=four_frozen HRO.out 0;have fo1:=four_frozen HRO.out 1;have HDO:=hide (HD8.out.later bO);have HBO:=hide (below_here HB8.out bO);have HAO:=hide (two_aside (b:=w.heap.size) (Aside.refl w.heap.size (w.heap.size+1) (w8.alloc (.cells #[.int .i64 0,.int .i64 1,.int .i64 4,.int .i64 8,.int .i64 64,.int .i64 65] 2))) (Nat.le_refl _) (Nat.lt_succ_self _) (.int .i64 z') (.slice a' n' c'));have HKP:=hide (two_cells (aside_block HAO.out HVO.out (by omega)));have HSO:=hide (two_set HRO.out (.int .i64 z') (.slice a' n' c'));have HNP:=hide (aside_block HAO.out (heap_new w8 (.cells #[.int .i64 0,.int .i64 1,.int .i64 4,.int .i64 8,.int .i64 64,.int .i64 65] 2)) (by omega));have hJp:(((w8.alloc (.cells #[.int .i64 0,.int .i64 1,.int .i64 4,.int .i64 8,.int .i64 64,.int .i64 65] 2)).setCell ⟨w.heap.size,0,none⟩ (.int .i64 z')).setCell ⟨w.heap.size,1,none⟩ (.slice a' n' c')).cell? ⟨w8.heap.size,J,none⟩=some (.int .i64 rv):=(by simp only[World.cell?,HNP.out];exact hrv);have hJn:(w8.alloc (.cells #[.int .i64 0,.int .i64 1,.int .i64 4,.int .i64 8,.int .i64 64,.int .i64 65] 2)).cell? ⟨w8.heap.size,J,none⟩=some (.int .i64 rv):=(by simp only[World.cell?,heap_new];exact hrv);have hzS:((w8.setCell ⟨w.heap.size,0,none⟩ (.int .i64 z')).setCell ⟨w.heap.size,1,none⟩ (.slice a' n' c')).heap.size=w8.heap.size:=(by simp);have bS:=(Below.refl ((w8.setCell ⟨w.heap.size,0,none⟩ (.int .i64 z')).setCell ⟨w.heap.size,1,none⟩ (.slice a' n' c')).heap.size ((w8.setCell ⟨w.heap.size,0,none⟩ (.int .i64 z')).setCell ⟨w.heap.size,1,none⟩ (.slice a' n' c'))).alloc (Nat.le_refl _) (.cells #[.int .i64 0,.int .i64 1,.int .i64 4,.int .i64 8,.int .i64 64,.int .i64 65] 2);have HKQ:=hide (two_cells (block_on (aside_block HA9.out HK8.out (by omega)) bS));have HNQ:(((w8.setCell ⟨w.heap.size,0,none⟩ (.int .i64 z')).setCell ⟨w.heap.size,1,none⟩ (.slice a' n' c')).alloc (.cells #[.int .i64 0,.int .i64 1,.int .i64 4,.int .i64 8,.int .i64 64,.int .i64 65] 2)).heap[w8.heap.size]?=some (.cells #[.int .i64 0,.int .i64 1,.int .i64 4,.int .i64 8,.int .i64 64,.int .i64 65] 2):=(by rw[<- hzS];exact heap_new _ _);have hJq:(((w8.setCell ⟨w.heap.size,0,none⟩ (.int .i64 z')).setCell ⟨w.heap.size,1,none⟩ (.slice a' n' c')).alloc (.cells #[.int .i64 0,.int .i64 1,.int .i64 4,.int .i64 8,.int .i64 64,.int .i64 65] 2)).cell? ⟨w8.heap.size,J,none⟩=some (.int .i64 rv):=(by simp only[World.cell?,HNQ];exact hrv);have HSQ:=hide (block_on HS9.out bS);have HBS:=hide bS;clear bO bS hzS HNQ;obtain⟨ka0,ka1⟩:=HK9.out;obtain⟨kb0,kb1⟩:=HKO.out)
    | (go_at_call 56;refine(l1Below_any p 6 _ (by with_reducible exact HCe.out) (by omega)).mono ?_;rintro e w8 ⟨x,rfl,x0,x1,hc8,s8⟩;have HN8:=hide (aside_block (w:=(w5.alloc (.cells #[.int .i64 0,.int .i64 1,.int .i64 4,.int .i64 8,.int .i64 64,.int .i64 65] 2)).drew) s8 HNL.out (by omega));have s9:Aside p (p+1) (w5.alloc (.cells #[.int .i64 0,.int .i64 1,.int .i64 4,.int .i64 8,.int .i64 64,.int .i64 65] 2)) w8:=⟨s8.os,s8.tape,s8.output,s8.size,s8.block⟩;have HK8:=hide (aside_block s9 HKL.out (by omega));have HK9:=hide (two_cells HK8.out);have HR8:=hide (aside_block s9 HRL.out (by omega));have hs8:=s9.size;have HD8:=hide (HDL.out.set s9 HP1.out HW1.out);have HB8:=hide (HBL.out.trans (s9.below (B:=w.heap.size) (by omega) (by omega)));clear s8 s9 hc8;obtain⟨z0,z1⟩:=two_cells HR8.out;have f0:=four_frozen HR8.out 0;have f1:=four_frozen HR8.out 1;have HS9:=hide (two_set HR8.out (.int .i64 z') (.slice a' n' c'));have HA9:=hide (two_aside (b:=w.heap.size) (Aside.refl w.heap.size (w.heap.size+1) w8) (Nat.le_refl _) (Nat.lt_succ_self _) (.int .i64 z') (.slice a' n' c'));have HKS:=hide (two_cells (aside_block HA9.out HK8.out (by omega)));have hxJ:∃J:Nat,x=(J:Int):=⟨x.toNat,by omega⟩;obtain⟨J,rfl⟩:=hxJ;have hJ:J<6:=(by omega);have hJ2:(J:Int)<6:=(by omega);obtain⟨rv,hrv⟩:=six_ints 0 1 4 8 64 65 J hJ;have bO:=(Below.refl w8.heap.size w8).alloc (Nat.le_refl _) (.cells #[.int .i64 0,.int .i64 1,.int .i64 4,.int .i64 8,.int .i64 64,.int .i64 65] 2);have HVO:=hide (block_on HK8.out bO);have HKO:=hide (two_cells HVO.out);have HRO:=hide (block_on HR8.out bO);obtain⟨zo0,zo1⟩:=two_cells HRO.out;have fo0:=four_frozen HRO.out 0;have fo1:=four_frozen HRO.out 1;have HDO:=hide (HD8.out.later bO);have HBO:=hide (below_here HB8.out bO);have HAO:=hide (two_aside (b:=w.heap.size) (Aside.refl w.heap.size (w.heap.size+1) (w8.alloc (.cells #[.int .i64 0,.int .i64 1,.int .i64 4,.int .i64 8,.int .i64 64,.int .i64 65] 2))) (Nat.le_refl _) (Nat.lt_succ_self _) (.int .i64 z') (.slice a' n' c'));have HKP:=hide (two_cells (aside_block HAO.out HVO.out (by omega)));have HSO:=hide (two_set HRO.out (.int .i64 z') (.slice a' n' c'));have HNP:=hide (aside_block HAO.out (heap_new w8 (.cells #[.int .i64 0,.int .i64 1,.int .i64 4,.int .i64 8,.int .i64 64,.int .i64 65] 2)) (by omega));have hJp:(((w8.alloc (.cells #[.int .i64 0,.int .i64 1,.int .i64 4,.int .i64 8,.int .i64 64,.int .i64 65] 2)).setCell ⟨w.heap.size,0,none⟩ (.int .i64 z')).setCell ⟨w.heap.size,1,none⟩ (.slice a' n' c')).cell? ⟨w8.heap.size,J,none⟩=some (.int .i64 rv):=(by simp only[World.cell?,HNP.out];exact hrv);have hJn:(w8.alloc (.cells #[.int .i64 0,.int .i64 1,.int .i64 4,.int .i64 8,.int .i64 64,.int .i64 65] 2)).cell? ⟨w8.heap.size,J,none⟩=some (.int .i64 rv):=(by simp only[World.cell?,heap_new];exact hrv);have hzS:((w8.setCell ⟨w.heap.size,0,none⟩ (.int .i64 z')).setCell ⟨w.heap.size,1,none⟩ (.slice a' n' c')).heap.size=w8.heap.size:=(by simp);have bS:=(Below.refl ((w8.setCell ⟨w.heap.size,0,none⟩ (.int .i64 z')).setCell ⟨w.heap.size,1,none⟩ (.slice a' n' c')).heap.size ((w8.setCell ⟨w.heap.size,0,none⟩ (.int .i64 z')).setCell ⟨w.heap.size,1,none⟩ (.slice a' n' c'))).alloc (Nat.le_refl _) (.cells #[.int .i64 0,.int .i64 1,.int .i64 4,.int .i64 8,.int .i64 64,.int .i64 65] 2);have HKQ:=hide (two_cells (block_on (aside_block HA9.out HK8.out (by omega)) bS));have HNQ:(((w8.setCell ⟨w.heap.size,0,none⟩ (.int .i64 z')).setCell ⟨w.heap.size,1,none⟩ (.slice a' n' c')).alloc (.cells #[.int .i64 0,.int .i64 1,.int .i64 4,.int .i64 8,.int .i64 64,.int .i64 65] 2)).heap[w8.heap.size]?=some (.cells #[.int .i64 0,.int .i64 1,.int .i64 4,.int .i64 8,.int .i64 64,.int .i64 65] 2):=(by rw[<- hzS];exact heap_new _ _);have hJq:(((w8.setCell ⟨w.heap.size,0,none⟩ (.int .i64 z')).setCell ⟨w.heap.size,1,none⟩ (.slice a' n' c')).alloc (.cells #[.int .i64 0,.int .i64 1,.int .i64 4,.int .i64 8,.int .i64 64,.int .i64 65] 2)).cell? ⟨w8.heap.size,J,none⟩=some (.int .i64 rv):=(by simp only[World.cell?,HNQ];exact hrv);have HSQ:=hide (block_on HS9.out bS);have HBS:=hide bS;clear bO bS hzS HNQ;obtain⟨ka0,ka1⟩:=HK9.out;obtain⟨kb0,kb1⟩:=HKO.out;have hJc:w8.cell? ⟨w5.heap.size,J,none⟩=some (.int .i64 rv):=(by simp only[World.cell?,HN8.out];exact hrv);have HN9:=hide (aside_block HA9.out HN8.out (by omega));have hJd:((w8.setCell ⟨w.heap.size,0,none⟩ (.int .i64 z')).setCell ⟨w.heap.size,1,none⟩ (.slice a' n' c')).cell? ⟨w5.heap.size,J,none⟩=some (.int .i64 rv):=(by simp only[World.cell?,HN9.out];exact hrv))
    | fail)
  all_goals
   go_wp2_with fail
   obtain⟨wS,hwS⟩:∃wS,wS=(((w8.alloc (.cells #[.int .i64 0,.int .i64 1,.int .i64 4,.int .i64 8,.int .i64 64,.int .i64 65] 2)).setCell ⟨w.heap.size,0,none⟩ (.int .i64 z')).setCell ⟨w.heap.size,1,none⟩ (.slice a' n' c')):=⟨_,rfl⟩
   obtain⟨wT,hwT⟩:∃wT,wT=(((w8.setCell ⟨w.heap.size,0,none⟩ (.int .i64 z')).setCell ⟨w.heap.size,1,none⟩ (.slice a' n' c')).alloc (.cells #[.int .i64 0,.int .i64 1,.int .i64 4,.int .i64 8,.int .i64 64,.int .i64 65] 2)):=⟨_,rfl⟩
   obtain⟨wU,hwU⟩:∃wU,wU=((w8.setCell ⟨w.heap.size,0,none⟩ (.int .i64 z')).setCell ⟨w.heap.size,1,none⟩ (.slice a' n' c')):=⟨_,rfl⟩
   first
    | (rw[<- hwT];rw[<- hwT] at HSQ HBS;clear hwS hwT hwU;exact bodyPost_ret (results_ct rfl rfl (run_loadVar_row _ _ _ _ _ _ _ HSQ.out Tryz.underlying26 rfl (by kernel_rfl))) rfl ⟨z',a',n',c',qs',rv,rfl,(HD8.out.set HA9.out (by omega) (by omega)).later HBS.out,below_here (HB8.out.trans (HA9.out.below (Nat.le_refl _) (by omega))) HBS.out⟩)
    | (rw[<- hwS];rw[<- hwS] at HSO HAO;clear hwS hwT hwU;exact bodyPost_ret (results_ct rfl rfl (run_loadVar_row _ _ _ _ _ _ _ HSO.out Tryz.underlying26 rfl (by kernel_rfl))) rfl ⟨z',a',n',c',qs',rv,rfl,HDO.out.set HAO.out (by omega) (by omega),HBO.out.trans (HAO.out.below (Nat.le_refl _) (by have:=HBO.out.size;omega))⟩)
    | (rw[<- hwU];rw[<- hwU] at HS9 HA9;clear hwS hwT hwU;exact bodyPost_ret (results_ct rfl rfl (run_loadVar_row _ _ _ _ _ _ _ HS9.out Tryz.underlying26 rfl (by kernel_rfl))) rfl ⟨z',a',n',c',qs',rv,rfl,HD8.out.set HA9.out (by omega) (by omega),HB8.out.trans (HA9.out.below (Nat.le_refl _) (by omega))⟩)
end Go.Proofs.YtgjoepdfhadmcaaGreatDoor
end

section
namespace Go.Proofs.YtgjoepdfhadmcaaGreatDoor
open Go.RowKit
set_option linter.unusedVariables false
set_option linter.unusedSimpArgs false
set_option maxRecDepth 20000
def SameOf (w:World)(e:Ending)(w':World):Prop:=∃(f:Fv) (a:Option Addr) (n c:Nat) (am:Option Addr) (m cm:Nat) (g:Fv) (a':Option Addr) (n' c':Nat) (am':Option Addr) (m' cm':Nat),e=.returned (.tuple #[.agg #[.int .i64 f.z,.slice a n c,.slice am m cm,.int .i64 f.op,.int .i64 f.st],.agg #[.int .i64 g.z,.slice a' n' c',.slice am' m' cm',.int .i64 g.op,.int .i64 g.st]])∧FtlIn w.heap.size w' f a n c am m cm∧FtlIn w.heap.size w' g a' n' c' am' m' cm'∧Below w.heap.size w w'
theorem sameOf_end {w w8:World}{f g:Fv}{a am a' am':Option Addr}{n c m cm n' c' m' cm':Nat}(hR:w8.heap[w.heap.size]?=some zF)(hP:w8.heap[w.heap.size+1]?=some zF)(hD:FtlIn (w.heap.size+2) w8 f a n c am m cm)(hG:FtlIn (w.heap.size+2) w8 g a' n' c' am' m' cm')(hB:Below w.heap.size w w8){w5 w9:World}
  (h5:w5=(((((w8.setCell ⟨w.heap.size,0,none⟩ (.int .i64 f.z)).setCell ⟨w.heap.size,1,none⟩ (.slice a n c)).setCell ⟨w.heap.size,2,none⟩ (.slice am m cm)).setCell ⟨w.heap.size,3,none⟩ (.int .i64 f.op)).setCell ⟨w.heap.size,4,none⟩ (.int .i64 f.st)))
  (h9:w9=(((((w5.setCell ⟨w.heap.size+1,0,none⟩ (.int .i64 g.z)).setCell ⟨w.heap.size+1,1,none⟩ (.slice a' n' c')).setCell ⟨w.heap.size+1,2,none⟩ (.slice am' m' cm')).setCell ⟨w.heap.size+1,3,none⟩ (.int .i64 g.op)).setCell ⟨w.heap.size+1,4,none⟩ (.int .i64 g.st))) :
  w5.heap[w.heap.size+1]?=some zF∧w9.heap[w.heap.size]?=some (.cells #[.int .i64 f.z,.slice a n c,.slice am m cm,.int .i64 f.op,.int .i64 f.st] 29)∧w9.heap[w.heap.size+1]?=some (.cells #[.int .i64 g.z,.slice a' n' c',.slice am' m' cm',.int .i64 g.op,.int .i64 g.st] 29) ∧
   SameOf w (.returned (.tuple #[.agg #[.int .i64 f.z,.slice a n c,.slice am m cm,.int .i64 f.op,.int .i64 f.st],.agg #[.int .i64 g.z,.slice a' n' c',.slice am' m' cm',.int .i64 g.op,.int .i64 g.st]])) w9:=by
 have hlt:w.heap.size<w8.heap.size:=(Array.getElem?_eq_some_iff.1 hR).1
 have hlt2:w.heap.size+1<w8.heap.size:=(Array.getElem?_eq_some_iff.1 hP).1
 have s5:Aside w.heap.size (w.heap.size+1) w8 w5:=by rw[h5];exact five_aside (b:=w.heap.size) (Aside.refl _ _ w8) (Nat.le_refl _) (Nat.lt_succ_self _) _ _ _ _ _
 have r5:w5.heap[w.heap.size]?=some (.cells #[.int .i64 f.z,.slice a n c,.slice am m cm,.int .i64 f.op,.int .i64 f.st] 29):=by rw[h5];exact five_set hR _ _ _ _ _
 have p5:w5.heap[w.heap.size+1]?=some zF:=aside_block s5 hP (by omega)
 have s9:Aside (w.heap.size+1) (w.heap.size+2) w5 w9:=by rw[h9];exact five_aside (b:=w.heap.size+1) (Aside.refl _ _ w5) (Nat.le_refl _) (Nat.lt_succ_self _) _ _ _ _ _
 have p9:w9.heap[w.heap.size+1]?=some (.cells #[.int .i64 g.z,.slice a' n' c',.slice am' m' cm',.int .i64 g.op,.int .i64 g.st] 29):=by rw[h9];exact five_set p5 _ _ _ _ _
 have r9:w9.heap[w.heap.size]?=some (.cells #[.int .i64 f.z,.slice a n c,.slice am m cm,.int .i64 f.op,.int .i64 f.st] 29):=aside_block s9 r5 (by omega)
 have hs5:=s5.size
 exact⟨p5,r9,p9,f,a,n,c,am,m,cm,g,a',n',c',am',m',cm',rfl,(hD.set s5 (by omega) (Nat.le_refl _)).set s9 (Nat.le_refl _) (by omega),(hG.set s5 (by omega) (Nat.le_refl _)).set s9 (Nat.le_refl _) (by omega),(hB.trans (s5.below (B:=w.heap.size) (Nat.le_refl _) (by omega))).trans (s9.below (B:=w.heap.size) (by omega) (by omega))⟩
theorem ftlIn_low {B B':Nat}{w:World}{f:Fv}{a am:Option Addr}{n c m cm:Nat}(h:FtlIn B w f a n c am m cm)(hB:B'<=B):FtlIn B' w f a n c am m cm :=
 ⟨h.n13,h.fits,squares_wide h.sq hB (Nat.le_refl _) (Nat.le_refl _),places_wide h.pl hB (Nat.le_refl _) (Nat.le_refl _),h.m200,h.mc⟩
theorem mountF_small {z:Int}{qs:List Sq}{N:Int}(hf:∀x∈qs,sqFits x):(mountF z qs N).qs.length<=12∧(∀x∈(mountF z qs N).qs,sqFits x)∧(mountF z qs N).ps.length<=64:=by
 refine⟨?_,?_,(mountF_fit z qs N).2⟩
 ·unfold mountF
  split
  ·rename_i h
   rw[Bool.and_eq_true] at h
   exact(chipOk_parts h.1).2.2.2.1
  ·simp
 ·unfold mountF
  split
  ·exact hf
  ·intro x hx;simp at hx
theorem mountF_in {B:Nat}{w w':World}{z:Int}{qs:List Sq}{N:Int}{v:Value}(h:FtlAns w (mountF z qs N) v w')(hf:∀x∈qs,sqFits x)(hB:B<=w.heap.size) :
  ∃a c am cm,v=.agg #[.int .i64 (mountF z qs N).z,.slice a (mountF z qs N).qs.length c,.slice am (mountF z qs N).ps.length cm,.int .i64 (mountF z qs N).op,.int .i64 (mountF z qs N).st]∧FtlIn B w' (mountF z qs N) a (mountF z qs N).qs.length c am (mountF z qs N).ps.length cm∧Below w.heap.size w w':=by
 obtain⟨a,c,am,cm,rfl,ho,hb,hc⟩:=h
 obtain⟨h1,h2,h3⟩:=mountF_small (z:=z) (N:=N) hf
 refine⟨a,c,am,cm,rfl,⟨by omega,h2,squares_wide ho.squares hB (Nat.le_refl _) (Nat.le_refl _),places_wide ho.places hB (Nat.le_refl _) (Nat.le_refl _),by omega,hc⟩,hb⟩
set_option maxHeartbeats 6400000 in
theorem drawSame_any (hd:JobDraws)(a:Option Addr)(n cap:Nat)(l:List UInt8)(w:World){lo hi:Nat}(hB:Bytes lo hi w a n l)(hhi:hi<=w.heap.size)(hn:n<=4096) :
  Calls Tryz.prog 21 #[.slice a n cap] w (SameOf w):=by
 obtain⟨wA,hwA⟩:∃wA,wA=(w.alloc zF).alloc zF:=⟨_,rfl⟩
 have hzA:wA.heap.size=w.heap.size+1+1:=by rw[hwA];simp
 have HBA:Hid (Below w.heap.size w wA):=by rw[hwA];exact((Below.refl _ _).alloc (Nat.le_refl _) _).alloc (by simp) _
 have H1:Hid (wA.heap[w.heap.size]?=some zF):=by rw[hwA];exact heap_old (heap_new _ _)
 have H2:Hid (wA.heap[w.heap.size+1]?=some zF):=by rw[hwA];exact heap_at (by simp)
 have HB:=hide (hB.later HBA.out hhi)
 have HJD:=hide hd
 clear hB hd
 go_enter Tryz.func21,Tryz.ntmps21
 go_wp2_with fail
 rw[<- hwA]
 clear hwA
 refine(l1New_any a n cap l wA HB.out hn).mono ?_
 rintro e w1 ⟨p,rfl,hp,c1,b1⟩
 have h1:=hide (block_on H1.out b1)
 have h1':=hide (block_on H2.out b1)
 have HB1:=hide (below_here HBA.out b1)
 have hs1:=b1.size
 have hpl:=c1.lt
 clear b1 H1 H2 HBA HB
 go_wp2_with fail
 refine(l10DrawAny_any HJD.out p w1 c1).mono ?_
 rintro e w2 ⟨z,qs,ps,op,st,a2,n2,c2,am,m,cm,rfl,hn2,hf,hsq,hpp,hm2,hmc,hcu,has⟩
 have hs2:=has.size
 have h2:=hide (aside_block has h1.out (by omega))
 have h2':=hide (aside_block has h1'.out (by omega))
 have HB2:=hide (HB1.out.trans (has.below (B:=w.heap.size) (by omega) (by omega)))
 have HD2:Hid (FtlIn (w1.heap.size+1) w2 ⟨z,qs,ps,op,st⟩ a2 n2 c2 am m cm):=hide ⟨hn2,hf,hsq,hpp,hm2,hmc⟩
 obtain⟨wB,hwB⟩:∃wB,wB=w2.alloc (.cells #[.int .i64 z,.slice a2 n2 c2,.slice am m cm,.int .i64 op,.int .i64 st] 29):=⟨_,rfl⟩
 have hzB:wB.heap.size=w2.heap.size+1:=by rw[hwB];simp
 have HDB:Hid (FtlIn (w1.heap.size+1) wB ⟨z,qs,ps,op,st⟩ a2 n2 c2 am m cm):=by rw[hwB];exact hide (HD2.out.later ((Below.refl _ _).alloc (Nat.le_refl _) _))
 have HKB:Hid (wB.heap[w2.heap.size]?=some (.cells #[.int .i64 z,.slice a2 n2 c2,.slice am m cm,.int .i64 op,.int .i64 st] 29)):=by rw[hwB];exact heap_new _ _
 have HRB:Hid (wB.heap[w.heap.size]?=some zF):=by rw[hwB];exact heap_old h2.out
 have HPB:Hid (wB.heap[w.heap.size+1]?=some zF):=by rw[hwB];exact heap_old h2'.out
 have HCB:Hid (Cur wB p):=by rw[hwB];exact hcu.alloc _
 have HBB:Hid (Below w.heap.size w wB):=by rw[hwB];exact HB2.out.alloc (by omega) _
 have HFI:=hide hf
 have hm9:m=ps.length:=hpp.1.symm
 have HMP:=hide hm9
 clear has hcu hsq hpp h1 h2 h1' h2' HB1 HB2 c1 hf HD2 hm9
 go_upto_region 3 with fail
 rw[<- hwB]
 clear hwB
 go_wp2_with fail
 refine(l1Once_any p 2 wB HCB.out (by omega)).mono ?_
 rintro e wC ⟨b3,rfl,c3,s3⟩
 have hs3:=s3.size
 have HKC:=hide (aside_block s3 HKB.out (by omega))
 have HRC:=hide (aside_block s3 HRB.out (by omega))
 have HPC:=hide (aside_block s3 HPB.out (by omega))
 have HDC:=hide (HDB.out.set s3 (by omega) (Nat.le_refl _))
 have HBC:=hide (HBB.out.trans (s3.below (B:=w.heap.size) (by omega) (by omega)))
 have HCd:Hid (Cur wC.drew p):=c3
 clear s3 c3 HKB HRB HPB HDB HBB HCB
 have HSd:Hid (wC.drew.cell? ⟨w2.heap.size,0,none⟩=some (.int .i64 z)∧wC.drew.cell? ⟨w2.heap.size,1,none⟩=some (.slice a2 n2 c2)∧wC.drew.cell? ⟨w2.heap.size,2,none⟩=some (.slice am m cm)∧wC.drew.cell? ⟨w2.heap.size,3,none⟩=some (.int .i64 op)∧wC.drew.cell? ⟨w2.heap.size,4,none⟩=some (.int .i64 st)):=five_cells HKC.out
 cases b3 with
 | true =>
  have HDd:Hid (FtlIn (w1.heap.size+1) wC.drew ⟨z,qs,ps,op,st⟩ a2 n2 c2 am m cm):=hide (HDC.out.later (Below.refl wC.heap.size wC).drew)
  have cM:Hid (Calls Tryz.prog 14 #[.agg #[.int .i64 z,.slice a2 n2 c2],.int .i64 (m:Int)] wC.drew fun e w'=>∃a' c' am' cm',e=.returned (.agg #[.int .i64 (mountF z qs (m:Int)).z,.slice a' (mountF z qs (m:Int)).qs.length c',.slice am' (mountF z qs (m:Int)).ps.length cm',.int .i64 (mountF z qs (m:Int)).op,.int .i64 (mountF z qs (m:Int)).st])∧FtlIn (w.heap.size+2) w' (mountF z qs (m:Int)) a' (mountF z qs (m:Int)).qs.length c' am' (mountF z qs (m:Int)).ps.length cm'∧Below wC.drew.heap.size wC.drew w'):=hide (by
   refine(specMount_any z a2 n2 c2 qs (m:Int) wC.drew HDd.out.sq (Nat.le_refl _) (by omega) HFI.out).mono ?_
   rintro e w' ⟨v,rfl,hv⟩
   obtain⟨a',c',am',cm',rfl,h1,h2⟩:=mountF_in (B:=w.heap.size+2) hv HFI.out (by show _<=wC.heap.size;omega)
   exact⟨a',c',am',cm',rfl,h1,h2⟩)
  generalize mountF z qs (m:Int)=g at cM
  generalize g.qs.length=n' at cM
  generalize g.ps.length=m' at cM
  go_upto_region 4 with fail
  go_region_held3 (fun w'=>w'.cell? ⟨w2.heap.size,0,none⟩=some (.int .i64 z)∧w'.cell? ⟨w2.heap.size,1,none⟩=some (.slice a2 n2 c2)∧w'.cell? ⟨w2.heap.size,2,none⟩=some (.slice am m cm)∧w'.cell? ⟨w2.heap.size,3,none⟩=some (.int .i64 op)∧w'.cell? ⟨w2.heap.size,4,none⟩=some (.int .i64 st))
   (with_reducible (first|exact HSd.out|exact HK9.out|exact HK5.out|exact HKS.out|fail))
   (first|(go_at_call 14;refine cM.out.mono ?_;rintro e w8 ⟨a',c',am',cm',rfl,hg8,s8⟩;have s9:Below wC.heap.size wC w8:=(Below.refl wC.heap.size wC).drew.trans s8;have HK8:=hide (block_on HKC.out s9);have HK9:=hide (five_cells HK8.out);have HR8:=hide (block_on HRC.out s9);have HP8:=hide (block_on HPC.out s9);have hs8:=s9.size;have HD8:=hide (HDC.out.later s9);have HD9:=hide (ftlIn_low HD8.out (show w.heap.size+2<=w1.heap.size+1 by omega));have HB8:=hide (below_here HBC.out s9);clear s8 s9;obtain⟨z0,z1,z2,z3,z4⟩:=five_cells HR8.out;have f0:=four_frozen HR8.out 0;have f1:=four_frozen HR8.out 1;have f2:=four_frozen HR8.out 2;have f3:=four_frozen HR8.out 3;have f4:=four_frozen HR8.out 4;have HEN:=hide (sameOf_end HR8.out HP8.out HD9.out hg8 HB8.out rfl rfl);have HA5:=hide (five_aside (b:=w.heap.size) (Aside.refl w.heap.size (w.heap.size+1) w8) (Nat.le_refl _) (Nat.lt_succ_self _) (.int .i64 z) (.slice a2 n2 c2) (.slice am m cm) (.int .i64 op) (.int .i64 st));have HK6:=hide (aside_block HA5.out HK8.out (by omega));have HK5:=hide (five_cells HK6.out);have HA6:=hide (five_aside (b:=w.heap.size+1) (Aside.refl (w.heap.size+1) (w.heap.size+1+1) (((((w8.setCell ⟨w.heap.size,0,none⟩ (.int .i64 z)).setCell ⟨w.heap.size,1,none⟩ (.slice a2 n2 c2)).setCell ⟨w.heap.size,2,none⟩ (.slice am m cm)).setCell ⟨w.heap.size,3,none⟩ (.int .i64 op)).setCell ⟨w.heap.size,4,none⟩ (.int .i64 st))) (Nat.le_refl _) (Nat.lt_succ_self _) (.int .i64 g.z) (.slice a' n' c') (.slice am' m' cm') (.int .i64 g.op) (.int .i64 g.st));have HKS:=hide (five_cells (aside_block HA6.out HK6.out (by omega)));obtain⟨y0,y1,y2,y3,y4⟩:=five_cells HEN.out.1;have g0:=four_frozen HEN.out.1 0;have g1:=four_frozen HEN.out.1 1;have g2:=four_frozen HEN.out.1 2;have g3:=four_frozen HEN.out.1 3;have g4:=four_frozen HEN.out.1 4;clear hg8)|fail)
  all_goals
   go_wp2_with fail
   exact bodyPost_ret (results_cc rfl rfl rfl (run_loadVar_row _ _ _ _ _ _ _ HEN.out.2.1 Tryz.underlying29 rfl (by kernel_rfl)) (run_loadVar_row _ _ _ _ _ _ _ HEN.out.2.2.1 Tryz.underlying29 rfl (by kernel_rfl))) rfl HEN.out.2.2.2
 | false =>
  have cM:Hid (Calls Tryz.prog 93 #[.pointer (some ⟨p,0,none⟩)] wC.drew fun e w'=>∃(g:Fv) (a':Option Addr) (n' c':Nat) (am':Option Addr) (m' cm':Nat),e=.returned (.agg #[.int .i64 g.z,.slice a' n' c',.slice am' m' cm',.int .i64 g.op,.int .i64 g.st])∧FtlIn (w.heap.size+2) w' g a' n' c' am' m' cm'∧Aside p (p+1) wC.drew w'):=hide (by
   refine(l10DrawAny_any HJD.out p wC.drew HCd.out).mono ?_
   rintro e w' ⟨z',qs',ps',op',st',a',n',c',am',m',cm',rfl,k1,k2,k3,k4,k5,k6,_,k8⟩
   exact⟨⟨z',qs',ps',op',st'⟩,a',n',c',am',m',cm',rfl,ftlIn_low ⟨k1,k2,k3,k4,k5,k6⟩ (by show _<=wC.heap.size+1;omega),k8⟩)
  go_upto_region 5 with fail
  go_region_held3 (fun w'=>w'.cell? ⟨w2.heap.size,0,none⟩=some (.int .i64 z)∧w'.cell? ⟨w2.heap.size,1,none⟩=some (.slice a2 n2 c2)∧w'.cell? ⟨w2.heap.size,2,none⟩=some (.slice am m cm)∧w'.cell? ⟨w2.heap.size,3,none⟩=some (.int .i64 op)∧w'.cell? ⟨w2.heap.size,4,none⟩=some (.int .i64 st))
   (with_reducible (first|exact HSd.out|exact HK9.out|exact HK5.out|exact HKS.out|fail))
   (first|(go_at_call 93;refine cM.out.mono ?_;rintro e w8 ⟨g,a',n',c',am',m',cm',rfl,hg8,s8⟩;have s9:Aside p (p+1) wC w8:=⟨s8.os,s8.tape,s8.output,s8.size,s8.block⟩;have HK8:=hide (aside_block s9 HKC.out (by omega));have HK9:=hide (five_cells HK8.out);have HR8:=hide (aside_block s9 HRC.out (by omega));have HP8:=hide (aside_block s9 HPC.out (by omega));have hs8:=s9.size;have HD9:=hide (HDC.out.set s9 (by omega) (show w.heap.size+2<=w1.heap.size+1 by omega));have HB8:=hide (HBC.out.trans (s9.below (B:=w.heap.size) (by omega) (by omega)));clear s8 s9;obtain⟨z0,z1,z2,z3,z4⟩:=five_cells HR8.out;have f0:=four_frozen HR8.out 0;have f1:=four_frozen HR8.out 1;have f2:=four_frozen HR8.out 2;have f3:=four_frozen HR8.out 3;have f4:=four_frozen HR8.out 4;have HEN:=hide (sameOf_end HR8.out HP8.out HD9.out hg8 HB8.out rfl rfl);have HA5:=hide (five_aside (b:=w.heap.size) (Aside.refl w.heap.size (w.heap.size+1) w8) (Nat.le_refl _) (Nat.lt_succ_self _) (.int .i64 z) (.slice a2 n2 c2) (.slice am m cm) (.int .i64 op) (.int .i64 st));have HK6:=hide (aside_block HA5.out HK8.out (by omega));have HK5:=hide (five_cells HK6.out);have HA6:=hide (five_aside (b:=w.heap.size+1) (Aside.refl (w.heap.size+1) (w.heap.size+1+1) (((((w8.setCell ⟨w.heap.size,0,none⟩ (.int .i64 z)).setCell ⟨w.heap.size,1,none⟩ (.slice a2 n2 c2)).setCell ⟨w.heap.size,2,none⟩ (.slice am m cm)).setCell ⟨w.heap.size,3,none⟩ (.int .i64 op)).setCell ⟨w.heap.size,4,none⟩ (.int .i64 st))) (Nat.le_refl _) (Nat.lt_succ_self _) (.int .i64 g.z) (.slice a' n' c') (.slice am' m' cm') (.int .i64 g.op) (.int .i64 g.st));have HKS:=hide (five_cells (aside_block HA6.out HK6.out (by omega)));obtain⟨y0,y1,y2,y3,y4⟩:=five_cells HEN.out.1;have g0:=four_frozen HEN.out.1 0;have g1:=four_frozen HEN.out.1 1;have g2:=four_frozen HEN.out.1 2;have g3:=four_frozen HEN.out.1 3;have g4:=four_frozen HEN.out.1 4;clear hg8)|fail)
  all_goals
   go_wp2_with fail
   exact bodyPost_ret (results_cc rfl rfl rfl (run_loadVar_row _ _ _ _ _ _ _ HEN.out.2.1 Tryz.underlying29 rfl (by kernel_rfl)) (run_loadVar_row _ _ _ _ _ _ _ HEN.out.2.2.1 Tryz.underlying29 rfl (by kernel_rfl))) rfl HEN.out.2.2.2
end Go.Proofs.YtgjoepdfhadmcaaGreatDoor
end

section
namespace Go.Proofs.YtgjoepdfhadmcaaGreatDoor
open Go.RowKit
set_option linter.unusedVariables false
set_option linter.unusedSimpArgs false
set_option maxRecDepth 20000
structure CSt (b:Nat)(z:Int)(qs:List Sq)(a:Option Addr)(n c:Nat)(w:World):Prop where
 k:w.heap[b]?=some (.cells #[.int .i64 z,.slice a n c] 26)
 n1:n<=13
 fits:∀x∈qs,sqFits x
 sq:Squares 0 w.heap.size w a n qs
theorem CSt.on {b n c:Nat}{z:Int}{qs:List Sq}{a:Option Addr}{w w':World}(h:CSt b z qs a n c w)(hb:Below w.heap.size w w'):CSt b z qs a n c w' :=
 ⟨block_on h.k hb,h.n1,h.fits,(h.sq.later hb (Nat.le_refl _)).wideLo (Nat.le_refl _) hb.size⟩
theorem cst_in {b n c B:Nat}{z:Int}{qs:List Sq}{a:Option Addr}{w w':World}(h:ChipIn B w qs a n)(hb:Below w.heap.size w w')(hk:w'.heap[b]?=some (.cells #[.int .i64 z,.slice a n c] 26)):CSt b z qs a n c w' :=
 ⟨hk,h.n13,h.fits,(h.sq.later hb (Nat.le_refl _)).wideLo (Nat.zero_le _) hb.size⟩
section
variable {b:Nat}{f g:Fv}{a a':Option Addr}{n c n' c':Nat}{am am':Option Addr}{m cm m' cm' b':Nat}{w w':World}{z:Int}{qs:List Sq}
theorem sMount (h:CSt b z qs a n c w)(N:Int):Calls Tryz.prog 14 #[.agg #[.int .i64 z,.slice a n c],.int .i64 N] w fun e w'=>∃v,e=.returned v∧FtlAns w (mountF z qs N) v w' :=
 specMount_any z a n c qs N w h.sq (Nat.le_refl _) (by have:=h.n1;omega) h.fits
theorem iMount (h:CSt b z qs a n c w)(N:Int)(hT:Tab w){aB aL aS aC aF:Addr}(E:Errs w aB aL aS aC aF):Calls Tryz.prog 15 #[.agg #[.int .i64 z,.slice a n c],.int .i64 N] w fun e w'=>∃v,e=.returned v∧FtlAns w (mountF z qs N) v w' :=
 implMount_any z a n c qs N w h.sq (Nat.le_refl _) (by have:=h.n1;omega) h.fits hT E
theorem iMountF (h:FSt b f a n c am m cm w)(N:Int)(hT:Tab w){aB aL aS aC aF:Addr}(E:Errs w aB aL aS aC aF):Calls Tryz.prog 15 #[.agg #[.int .i64 f.z,.slice a n c],.int .i64 N] w fun e w'=>∃v,e=.returned v∧FtlAns w (mountF f.z f.qs N) v w' :=
 implMount_any f.z a n c f.qs N w h.sq (Nat.le_refl _) h.n1 h.fits hT E
theorem sSame (h:FSt b f a n c am m cm w)(h':FSt b' g a' n' c' am' m' cm' w):Calls Tryz.prog 24 #[.agg #[.int .i64 f.z,.slice a n c,.slice am m cm,.int .i64 f.op,.int .i64 f.st],.agg #[.int .i64 g.z,.slice a' n' c',.slice am' m' cm',.int .i64 g.op,.int .i64 g.st]] w fun e w'=>e=.returned (.bool (sameF f g))∧Below w.heap.size w w' :=
 specSame_any f g a n c am m cm a' n' c' am' m' cm' w h.sq (Nat.le_refl _) h.n1 h.fits h.pl (Nat.le_refl _) h.m1 h'.sq (Nat.le_refl _) h'.n1 h'.fits h'.pl (Nat.le_refl _) h'.m1
theorem iEnter (h:FSt b f a n c am m cm w)(kd at_ sp:Int)(tx:ByteArray)(hT:Tab w){aB aL aS aC aF aN:Addr}(E:Errs w aB aL aS aC aF)(hN:w.cell? ⟨1,0,none⟩=some (noRoomV aN)):Calls Tryz.prog 28 #[.agg #[.int .i64 f.z,.slice a n c,.slice am m cm,.int .i64 f.op,.int .i64 f.st],.agg #[.int .i64 kd,.int .i64 at_,.int .i64 sp,.string tx]] w fun e w'=>∃v,e=.returned (.tuple #[v,.bool (planR f.z f.qs f.ps f.op f.st kd at_ tx).isSome])∧FtlAns w (entF f.z f.qs f.ps f.op f.st kd at_ tx) v w' :=
 implEnter_any f.z a n c f.qs am m cm f.ps f.op f.st kd at_ sp tx w h.sq (Nat.le_refl _) h.n1 h.fits h.pl (Nat.le_refl _) h.m1 h.mc hT E hN
end
theorem nice_mount {z:Int}{qs:List Sq}{N:Int}(hf:∀x∈qs,sqFits x):NiceF (mountF z qs N):=by
 obtain⟨h1,h2,h3⟩:=mountF_small (z:=z) (N:=N) hf
 exact⟨h2,by omega,by omega⟩
theorem fst_ans {w w':World}{f:Fv}{v:Value}(h:FtlAns w f v w')(hn:NiceF f):∃a c am cm,v=.agg #[.int .i64 f.z,.slice a f.qs.length c,.slice am f.ps.length cm,.int .i64 f.op,.int .i64 f.st]∧FtlOwn w.heap.size w'.heap.size w' a am f.qs f.ps∧f.ps.length<=cm∧Below w.heap.size w w':=by
 obtain⟨a,c,am,cm,rfl,ho,hb,hc⟩:=h
 exact⟨a,c,am,cm,rfl,ho,hc,hb⟩
theorem fst_put {b n c m cm lo hi c' cm':Nat}{f f':Fv}{a am a' am':Option Addr}{w:World}(h:FSt b f a n c am m cm w)(ho:FtlOwn lo hi w a' am' f'.qs f'.ps)(hlo:b<lo)(hn:NiceF f')(hc:f'.ps.length<=cm') :
  FSt b f' a' f'.qs.length c' am' f'.ps.length cm' (((((w.setCell ⟨b,0,none⟩ (.int .i64 f'.z)).setCell ⟨b,1,none⟩ (.slice a' f'.qs.length c')).setCell ⟨b,2,none⟩ (.slice am' f'.ps.length cm')).setCell ⟨b,3,none⟩ (.int .i64 f'.op)).setCell ⟨b,4,none⟩ (.int .i64 f'.st)):=by
 have hA:=five_aside (b:=b) (Aside.refl b (b+1) w) (Nat.le_refl _) (Nat.lt_succ_self _) (.int .i64 f'.z) (.slice a' f'.qs.length c') (.slice am' f'.ps.length cm') (.int .i64 f'.op) (.int .i64 f'.st)
 have ho':=ho.aside hA (.inl (by omega))
 exact⟨five_set h.k _ _ _ _ _,hn.squares,hn.fits,squares_wide ho'.squares (Nat.zero_le _) ho'.1 (Nat.le_refl _),places_wide ho'.places (Nat.zero_le _) ho'.1 (Nat.le_refl _),hn.places,hc⟩
theorem nice_md {f:Fv}(h:Md f):NiceF f:=⟨(md_nice h).1,(md_nice h).2.1,(md_nice h).2.2⟩
set_option maxHeartbeats 8000000 in
set_option maxRecDepth 100000 in
theorem fnMounted_any (hd:JobDraws)(a0:Option Addr)(len0 cap0:Nat)(l:List UInt8)(w:World)(hA:Bytes 0 w.heap.size w a0 len0 l)(hlen:len0<=9223372036854775807)(hT:Tab w){aB aL aS aC aF aN:Addr}(E:Errs w aB aL aS aC aF)(hN:w.cell? ⟨1,0,none⟩=some (noRoomV aN)) :
  Calls Tryz.prog 4 #[.slice a0 len0 cap0] w fun e w'=>e=.returned (.bool true)∧Below w.heap.size w w':=by
 by_cases hbig:4096<len0
 case pos =>
  have hb':decide (4096<len0)=true:=by simpa using hbig
  go_enter Tryz.func4,Tryz.ntmps4
  go_wp2_with fail
  refine(big_any a0 len0 cap0 w hlen).mono ?_
  rintro e w1 ⟨rfl,rfl⟩
  go_wp2_with fail
  go_ret
  exact⟨rfl,Below.refl _ _⟩
 have hb':decide (4096<len0)=false:=by simpa using hbig
 have hn4:len0<=4096:=by omega
 clear hbig
 have HA:=hide hA
 have HT:=hide hT
 have HE:=hide E
 have hgN:1<w.heap.size:=cell_ltE hN
 have HN0:∀w9,Hid (Below w.heap.size w w9->w9.cell? ⟨1,0,none⟩=some (noRoomV aN)):=fun w9 h9=>(h9.cell (p:=⟨1,0,none⟩) hgN).trans hN
 have HJD:=hide hd
 clear hA hT E hN hgN hd
 go_enter Tryz.func4,Tryz.ntmps4
 go_wp2_with fail
 refine(big_any a0 len0 cap0 w hlen).mono ?_
 rintro e w1 ⟨rfl,rfl⟩
 go_wp2_with fail
 refine(drawMount_any HJD.out a0 len0 cap0 l w HA.out (Nat.le_refl _) hn4).mono ?_
 rintro e w1 ⟨z,aq,nq,cq,qs,N,rfl,hD,b1⟩
 obtain⟨wX,hwX⟩:∃wX,wX=w1.alloc (.cells #[.int .i64 z,.slice aq nq cq] 26):=⟨_,rfl⟩
 have hbX:Below w1.heap.size w1 wX:=by rw[hwX];exact(Below.refl _ _).alloc (Nat.le_refl _) _
 have HC1:Hid (CSt w1.heap.size z qs aq nq cq wX):=cst_in hD hbX (by rw[hwX];exact heap_new _ _)
 have HB1:=hide (below_here b1 hbX)
 have HNX:=hide (nice_mount (z:=z) (N:=N) hD.fits)
 clear hD b1 hbX
 go_wp2_with fail
 rw[<- hwX]
 clear hwX
 refine(iMount HC1.out N (HT.out.here HB1.out) (HE.out.here HB1.out)).mono ?_
 have HSM:∀w9,Hid (CSt w1.heap.size z qs aq nq cq w9->Calls Tryz.prog 14 #[.agg #[.int .i64 z,.slice aq nq cq],.int .i64 N] w9 fun e w'=>∃v,e=.returned v∧FtlAns w9 (mountF z qs N) v w'):=fun w9 h9=>sMount h9 N
 have HMZ:=hide (fun h=>mount_zero (z:=z) (qs:=qs) (N:=N) h)
 have HMO:=hide (fun h=>mount_ok (z:=z) (qs:=qs) (N:=N) h)
 generalize mountF z qs N=x at HNX HSM HMZ HMO ⊢
 rintro e w2 ⟨v,rfl,hv⟩
 obtain⟨ax,cx,amx,cmx,rfl,hO,hcm,b2⟩:=fst_ans hv HNX.out
 obtain⟨wY,hwY⟩:∃wY,wY=w2.alloc (.cells #[.int .i64 x.z,.slice ax x.qs.length cx,.slice amx x.ps.length cmx,.int .i64 x.op,.int .i64 x.st] 29):=⟨_,rfl⟩
 have hbY:Below w2.heap.size w2 wY:=by rw[hwY];exact(Below.refl _ _).alloc (Nat.le_refl _) _
 have HX2:Hid (FSt w2.heap.size x ax x.qs.length cx amx x.ps.length cmx wY):=fst_own hO HNX.out.fits HNX.out.squares HNX.out.places hcm hbY (by rw[hwY];exact heap_new _ _)
 have HC2:=hide ((HC1.out.on b2).on hbY)
 have HB2:=hide (below_here (below_here HB1.out b2) hbY)
 clear hv hO b2 hcm hbY HC1 HB1
 go_wp2_with fail
 rw[<- hwY]
 clear hwY
 refine(drawSame_any HJD.out a0 len0 cap0 l wY (HA.out.later HB2.out (Nat.le_refl _)) HB2.out.size hn4).mono ?_
 rintro e w3 ⟨f,af,nf,cf,amf,mf,cmf,g,ag,ng,cg,amg,mg,cmg,rfl,hF,hG,b3⟩
 obtain⟨wZ,hwZ⟩:∃wZ,wZ=(w3.alloc (.cells #[.int .i64 f.z,.slice af nf cf,.slice amf mf cmf,.int .i64 f.op,.int .i64 f.st] 29)).alloc (.cells #[.int .i64 g.z,.slice ag ng cg,.slice amg mg cmg,.int .i64 g.op,.int .i64 g.st] 29):=⟨_,rfl⟩
 have hbZ:Below w3.heap.size w3 wZ:=by rw[hwZ];exact((Below.refl _ _).alloc (Nat.le_refl _) _).alloc (by simp) _
 have HF3:Hid (FSt w3.heap.size f af nf cf amf mf cmf wZ):=fst_in hF hbZ (by rw[hwZ];exact heap_old (heap_new _ _))
 have HG3:Hid (FSt (w3.heap.size+1) g ag ng cg amg mg cmg wZ):=fst_in hG hbZ (by rw[hwZ];exact heap_at (by simp))
 have HX3:=hide ((HX2.out.on b3).on hbZ)
 have HC3:=hide ((HC2.out.on b3).on hbZ)
 have HB3:=hide (below_here (below_here HB2.out b3) hbZ)
 clear hF hG b3 hbZ HX2 HC2 HB2 HJD
 go_wp2_with fail
 rw[<- hwZ]
 clear hwZ
 have ess:∀b:Bool,(b != b)=false:=fun b=>by cases b<;>rfl
 obtain⟨sf,hsf⟩:∃s,s=sameF f g:=⟨_,rfl⟩
 have HSF:=hide hsf
 clear hsf
 have es1:=ess sf
 clear ess
 have HIS:∀w9,Hid (Below w.heap.size w w9->FSt w3.heap.size f af nf cf amf mf cmf w9->FSt (w3.heap.size+1) g ag ng cg amg mg cmg w9->Calls Tryz.prog 23 #[.agg #[.int .i64 f.z,.slice af nf cf,.slice amf mf cmf,.int .i64 f.op,.int .i64 f.st],.agg #[.int .i64 g.z,.slice ag ng cg,.slice amg mg cmg,.int .i64 g.op,.int .i64 g.st]] w9 fun e w'=>e=.returned (.bool sf)∧Below w9.heap.size w9 w'):=fun w9 h9 k1 k2=>by rw[HSF.out];exact iSame k1 k2 (HT.out.here h9) (HE.out.here h9)
 have HSS:∀w9,Hid (FSt w3.heap.size f af nf cf amf mf cmf w9->FSt (w3.heap.size+1) g ag ng cg amg mg cmg w9->Calls Tryz.prog 24 #[.agg #[.int .i64 f.z,.slice af nf cf,.slice amf mf cmf,.int .i64 f.op,.int .i64 f.st],.agg #[.int .i64 g.z,.slice ag ng cg,.slice amg mg cmg,.int .i64 g.op,.int .i64 g.st]] w9 fun e w'=>e=.returned (.bool sf)∧Below w9.heap.size w9 w'):=fun w9 k1 k2=>by rw[HSF.out];exact sSame k1 k2
 clear HSF
 go_upto_region 6 with fail
 have HI0:Hid (CSt w1.heap.size z qs aq nq cq wZ.drew∧FSt w2.heap.size x ax x.qs.length cx amx x.ps.length cmx wZ.drew∧FSt w3.heap.size f af nf cf amf mf cmf wZ.drew∧FSt (w3.heap.size+1) g ag ng cg amg mg cmg wZ.drew∧Below w.heap.size w wZ.drew∧Below wZ.heap.size wZ wZ.drew):=hide ⟨HC3.out.on (Below.refl _ wZ).drew,HX3.out.on (Below.refl _ wZ).drew,HF3.out.on (Below.refl _ wZ).drew,HG3.out.on (Below.refl _ wZ).drew,below_here HB3.out (Below.refl _ wZ).drew,(Below.refl _ wZ).drew⟩
 have HC0:Hid ((wZ.drew.cell? ⟨w1.heap.size,0,none⟩=some (.int .i64 z)∧wZ.drew.cell? ⟨w1.heap.size,1,none⟩=some (.slice aq nq cq))∧(wZ.drew.cell? ⟨w2.heap.size,0,none⟩=some (.int .i64 x.z)∧wZ.drew.cell? ⟨w2.heap.size,1,none⟩=some (.slice ax x.qs.length cx)∧wZ.drew.cell? ⟨w2.heap.size,2,none⟩=some (.slice amx x.ps.length cmx)∧wZ.drew.cell? ⟨w2.heap.size,3,none⟩=some (.int .i64 x.op)∧wZ.drew.cell? ⟨w2.heap.size,4,none⟩=some (.int .i64 x.st))∧(wZ.drew.cell? ⟨w3.heap.size,0,none⟩=some (.int .i64 f.z)∧wZ.drew.cell? ⟨w3.heap.size,1,none⟩=some (.slice af nf cf)∧wZ.drew.cell? ⟨w3.heap.size,2,none⟩=some (.slice amf mf cmf)∧wZ.drew.cell? ⟨w3.heap.size,3,none⟩=some (.int .i64 f.op)∧wZ.drew.cell? ⟨w3.heap.size,4,none⟩=some (.int .i64 f.st))∧(wZ.drew.cell? ⟨w3.heap.size+1,0,none⟩=some (.int .i64 g.z)∧wZ.drew.cell? ⟨w3.heap.size+1,1,none⟩=some (.slice ag ng cg)∧wZ.drew.cell? ⟨w3.heap.size+1,2,none⟩=some (.slice amg mg cmg)∧wZ.drew.cell? ⟨w3.heap.size+1,3,none⟩=some (.int .i64 g.op)∧wZ.drew.cell? ⟨w3.heap.size+1,4,none⟩=some (.int .i64 g.st))):=hide ⟨two_cells HI0.out.1.k,five_cells HI0.out.2.1.k,five_cells HI0.out.2.2.1.k,five_cells HI0.out.2.2.2.1.k⟩
 go_region_held3 (fun w'=>(w'.cell? ⟨w1.heap.size,0,none⟩=some (.int .i64 z)∧w'.cell? ⟨w1.heap.size,1,none⟩=some (.slice aq nq cq))∧(w'.cell? ⟨w2.heap.size,0,none⟩=some (.int .i64 x.z)∧w'.cell? ⟨w2.heap.size,1,none⟩=some (.slice ax x.qs.length cx)∧w'.cell? ⟨w2.heap.size,2,none⟩=some (.slice amx x.ps.length cmx)∧w'.cell? ⟨w2.heap.size,3,none⟩=some (.int .i64 x.op)∧w'.cell? ⟨w2.heap.size,4,none⟩=some (.int .i64 x.st))∧(w'.cell? ⟨w3.heap.size,0,none⟩=some (.int .i64 f.z)∧w'.cell? ⟨w3.heap.size,1,none⟩=some (.slice af nf cf)∧w'.cell? ⟨w3.heap.size,2,none⟩=some (.slice amf mf cmf)∧w'.cell? ⟨w3.heap.size,3,none⟩=some (.int .i64 f.op)∧w'.cell? ⟨w3.heap.size,4,none⟩=some (.int .i64 f.st))∧(w'.cell? ⟨w3.heap.size+1,0,none⟩=some (.int .i64 g.z)∧w'.cell? ⟨w3.heap.size+1,1,none⟩=some (.slice ag ng cg)∧w'.cell? ⟨w3.heap.size+1,2,none⟩=some (.slice amg mg cmg)∧w'.cell? ⟨w3.heap.size+1,3,none⟩=some (.int .i64 g.op)∧w'.cell? ⟨w3.heap.size+1,4,none⟩=some (.int .i64 g.st)))
  (with_reducible (first|exact HC0.out|exact HC1.out|exact HC2.out|exact HC3.out|exact HC4.out|fail))
  (first
   | (go_at_call 14;refine((HSM _).out HI0.out.1).mono ?_;rintro e g1 ⟨v,rfl,hv⟩;have hva:=fst_ans hv HNX.out;obtain⟨ay,cy,amy,cmy,rfl,hO,hcm,bd⟩:=hva;have HR:=hide hO;have HI1:=hide (And.intro (HI0.out.1.on bd) (And.intro (HI0.out.2.1.on bd) (And.intro (HI0.out.2.2.1.on bd) (And.intro (HI0.out.2.2.2.1.on bd) (And.intro (below_here HI0.out.2.2.2.2.1 bd) (below_here HI0.out.2.2.2.2.2 bd))))));have HC1:=hide (And.intro (two_cells HI1.out.1.k) (And.intro (five_cells HI1.out.2.1.k) (And.intro (five_cells HI1.out.2.2.1.k) (five_cells HI1.out.2.2.2.1.k))));clear bd hO hv hcm)
   | (go_at_call 22;have h9:=likeFtl_any x x ax ay x.qs.length cx x.qs.length cy amx amy x.ps.length cmx x.ps.length cmy g1 HI1.out.2.1.sq HR.out.squares (Nat.le_refl _) (Nat.le_refl _) HNX.out.squares HNX.out.squares HNX.out.fits HNX.out.fits HI1.out.2.1.pl HR.out.places (Nat.le_refl _) (Nat.le_refl _) HNX.out.places HNX.out.places;rw[likeF_same] at h9;refine h9.mono ?_;rintro e g2 ⟨rfl,bd⟩;have HI2:=hide (And.intro (HI1.out.1.on bd) (And.intro (HI1.out.2.1.on bd) (And.intro (HI1.out.2.2.1.on bd) (And.intro (HI1.out.2.2.2.1.on bd) (And.intro (below_here HI1.out.2.2.2.2.1 bd) (below_here HI1.out.2.2.2.2.2 bd))))));have HC2:=hide (And.intro (two_cells HI2.out.1.k) (And.intro (five_cells HI2.out.2.1.k) (And.intro (five_cells HI2.out.2.2.1.k) (five_cells HI2.out.2.2.2.1.k))));clear bd h9)
   | (go_at_call 23;refine((HIS _).out HI2.out.2.2.2.2.1 HI2.out.2.2.1 HI2.out.2.2.2.1).mono ?_;rintro e g3 ⟨rfl,bd⟩;have HI3:=hide (And.intro (HI2.out.1.on bd) (And.intro (HI2.out.2.1.on bd) (And.intro (HI2.out.2.2.1.on bd) (And.intro (HI2.out.2.2.2.1.on bd) (And.intro (below_here HI2.out.2.2.2.2.1 bd) (below_here HI2.out.2.2.2.2.2 bd))))));have HC3:=hide (And.intro (two_cells HI3.out.1.k) (And.intro (five_cells HI3.out.2.1.k) (And.intro (five_cells HI3.out.2.2.1.k) (five_cells HI3.out.2.2.2.1.k))));clear bd)
   | (go_at_call 24;refine((HSS _).out HI3.out.2.2.1 HI3.out.2.2.2.1).mono ?_;rintro e g4 ⟨rfl,bd⟩;have HI4:=hide (And.intro (HI3.out.1.on bd) (And.intro (HI3.out.2.1.on bd) (And.intro (HI3.out.2.2.1.on bd) (And.intro (HI3.out.2.2.2.1.on bd) (And.intro (below_here HI3.out.2.2.2.2.1 bd) (below_here HI3.out.2.2.2.2.2 bd))))));have HC4:=hide (And.intro (two_cells HI4.out.1.k) (And.intro (five_cells HI4.out.2.1.k) (And.intro (five_cells HI4.out.2.2.1.k) (five_cells HI4.out.2.2.2.1.k))));clear bd)
   | fail)
 have HX4:=hide HI4.out.2.1
 have HB4:=hide HI4.out.2.2.2.2.1
 clear HI0 HI1 HI2 HI3 HI4 HC0 HC1 HC2 HC4 HR HIS HSS HSM HX3 HF3 HG3 HB3 es1
 obtain⟨x0,x1,x2,x3,x4⟩:=five_cells HX4.out.k
 by_cases hps:x.ps.length=0
 ·have hz:=HMZ.out hps
  have HZ:=hide hz
  have HPS:=hide hps
  have hpi:((x.ps.length:Int)==0)=true:=by rw[hps];rfl
  clear hz hps
  go_wp2_with fail
  refine(sLike0 HX4.out).mono ?_
  rintro e w5 ⟨rfl,b5⟩
  rw[show likeF x ⟨0,[],[],0,0⟩=true by rw[HZ.out,likeF_same]]
  have HB5:=hide (below_here HB4.out b5)
  clear b5 x0 x1 x2 x3 x4
  go_wp2_with fail
  go_ret
  exact⟨rfl,HB5.out⟩
 have hpi:((x.ps.length:Int)==0)=false:=by simp[hps]
 obtain⟨hxo,hxm⟩:=HMO.out (by omega)
 have HXO:=hide hxo
 have HXM:=hide hxm
 have HXS:=hide (same_self hxo)
 clear hxo hxm hps HMO HMZ
 have HIO:∀w9,Hid (Below w.heap.size w w9->FSt w2.heap.size x ax x.qs.length cx amx x.ps.length cmx w9->Calls Tryz.prog 19 #[.agg #[.int .i64 x.z,.slice ax x.qs.length cx,.slice amx x.ps.length cmx,.int .i64 x.op,.int .i64 x.st]] w9 fun e w'=>e=.returned (.bool true)∧Below w9.heap.size w9 w'):=fun w9 h9 k1=>by rw[<- HXO.out];exact iOk k1 (HT.out.here h9) (HE.out.here h9)
 have HIM:∀w9,Hid (Below w.heap.size w w9->FSt w2.heap.size x ax x.qs.length cx amx x.ps.length cmx w9->Calls Tryz.prog 15 #[.agg #[.int .i64 x.z,.slice ax x.qs.length cx],.int .i64 N] w9 fun e w'=>∃v,e=.returned v∧FtlAns w9 x v w'):=fun w9 h9 k1=>by have h:=iMountF k1 N (HT.out.here h9) (HE.out.here h9);rw[HXM.out] at h;exact h
 have HIS:∀w9,Hid (Below w.heap.size w w9->FSt w2.heap.size x ax x.qs.length cx amx x.ps.length cmx w9->Calls Tryz.prog 23 #[.agg #[.int .i64 x.z,.slice ax x.qs.length cx,.slice amx x.ps.length cmx,.int .i64 x.op,.int .i64 x.st],.agg #[.int .i64 x.z,.slice ax x.qs.length cx,.slice amx x.ps.length cmx,.int .i64 x.op,.int .i64 x.st]] w9 fun e w'=>e=.returned (.bool true)∧Below w9.heap.size w9 w'):=fun w9 h9 k1=>by rw[<- HXS.out];exact iSame k1 k1 (HT.out.here h9) (HE.out.here h9)
 go_upto_region 10 with fail
 clear x0 x1 x2 x3 x4
 have HJ0:Hid (FSt w2.heap.size x ax x.qs.length cx amx x.ps.length cmx g4.drew∧Below w.heap.size w g4.drew∧Below g4.heap.size g4 g4.drew):=hide ⟨HX4.out.on (Below.refl _ g4).drew,below_here HB4.out (Below.refl _ g4).drew,(Below.refl _ g4).drew⟩
 have HD0:Hid (g4.drew.cell? ⟨w2.heap.size,0,none⟩=some (.int .i64 x.z)∧g4.drew.cell? ⟨w2.heap.size,1,none⟩=some (.slice ax x.qs.length cx)∧g4.drew.cell? ⟨w2.heap.size,2,none⟩=some (.slice amx x.ps.length cmx)∧g4.drew.cell? ⟨w2.heap.size,3,none⟩=some (.int .i64 x.op)∧g4.drew.cell? ⟨w2.heap.size,4,none⟩=some (.int .i64 x.st)):=hide (five_cells HJ0.out.1.k)
 go_region_held3 (fun w'=>w'.cell? ⟨w2.heap.size,0,none⟩=some (.int .i64 x.z)∧w'.cell? ⟨w2.heap.size,1,none⟩=some (.slice ax x.qs.length cx)∧w'.cell? ⟨w2.heap.size,2,none⟩=some (.slice amx x.ps.length cmx)∧w'.cell? ⟨w2.heap.size,3,none⟩=some (.int .i64 x.op)∧w'.cell? ⟨w2.heap.size,4,none⟩=some (.int .i64 x.st))
  (with_reducible (first|exact HD0.out|exact HD1.out|exact HD2.out|exact HD3.out|exact HD4.out|fail))
  (first
   | (go_at_call 19;refine((HIO _).out HJ0.out.2.1 HJ0.out.1).mono ?_;rintro e q1 ⟨rfl,bd⟩;have HJ1:=hide (And.intro (HJ0.out.1.on bd) (And.intro (below_here HJ0.out.2.1 bd) (below_here HJ0.out.2.2 bd)));have HD1:=hide (five_cells HJ1.out.1.k);clear bd)
   | (go_at_call 15;refine((HIM _).out HJ1.out.2.1 HJ1.out.1).mono ?_;rintro e q2 ⟨v,rfl,hv⟩;have hva:=fst_ans hv HNX.out;obtain⟨ay,cy,amy,cmy,rfl,hO,hcm,bd⟩:=hva;have HR:=hide hO;have HJ2:=hide (And.intro (HJ1.out.1.on bd) (And.intro (below_here HJ1.out.2.1 bd) (below_here HJ1.out.2.2 bd)));have HD2:=hide (five_cells HJ2.out.1.k);clear bd hO hv hcm)
   | (go_at_call 22;have h9:=likeFtl_any x x ay ax x.qs.length cy x.qs.length cx amy amx x.ps.length cmy x.ps.length cmx q2 HR.out.squares HJ2.out.1.sq (Nat.le_refl _) (Nat.le_refl _) HNX.out.squares HNX.out.squares HNX.out.fits HNX.out.fits HR.out.places HJ2.out.1.pl (Nat.le_refl _) (Nat.le_refl _) HNX.out.places HNX.out.places;rw[likeF_same] at h9;refine h9.mono ?_;rintro e q3 ⟨rfl,bd⟩;have HJ3:=hide (And.intro (HJ2.out.1.on bd) (And.intro (below_here HJ2.out.2.1 bd) (below_here HJ2.out.2.2 bd)));have HD3:=hide (five_cells HJ3.out.1.k);clear bd h9)
   | (go_at_call 23;refine((HIS _).out HJ3.out.2.1 HJ3.out.1).mono ?_;rintro e q4 ⟨rfl,bd⟩;have HJ4:=hide (And.intro (HJ3.out.1.on bd) (And.intro (below_here HJ3.out.2.1 bd) (below_here HJ3.out.2.2 bd)));have HD4:=hide (five_cells HJ4.out.1.k);clear bd)
   | fail)
 have HB5:=hide HJ4.out.2.1
 clear HJ0 HJ1 HJ2 HJ3 HJ4 HD0 HD1 HD2 HD3 HD4 HR HIO HIM HIS HX4 HB4 HXO HXM HXS HNX
 have HNW:=hide (md_new)
 have HCN:Hid (Calls Tryz.prog 25 #[.int .i64 4,.int .i64 3,.int .i64 5] q4 fun e w'=>∃v b,e=.returned (.tuple #[v,.bool b])∧FtlAns q4 (newF 4 3 5) v w'):=hide (by
  refine(specNewFtl_any 4 3 5 q4).mono ?_
  rintro e w' ⟨v,rfl,hv⟩
  exact⟨v,_,rfl,hv⟩)
 generalize newF 4 3 5=f0 at HNW HCN
 go_wp2_with fail
 refine HCN.out.mono ?_
 rintro e w6 ⟨v,bn,rfl,hv⟩
 obtain⟨a6,c6,am6,cm6,rfl,hO,hcm,b6⟩:=fst_ans hv (nice_md HNW.out)
 obtain⟨wM,hwM⟩:∃wM,wM=w6.alloc (.cells #[.int .i64 f0.z,.slice a6 f0.qs.length c6,.slice am6 f0.ps.length cm6,.int .i64 f0.op,.int .i64 f0.st] 29):=⟨_,rfl⟩
 have hbM:Below w6.heap.size w6 wM:=by rw[hwM];exact(Below.refl _ _).alloc (Nat.le_refl _) _
 have HF6:Hid (FSt w6.heap.size f0 a6 f0.qs.length c6 am6 f0.ps.length cm6 wM):=hide (fst_own hO (nice_md HNW.out).fits (nice_md HNW.out).squares (nice_md HNW.out).places hcm hbM (by rw[hwM];exact heap_new _ _))
 have HB6:=hide (below_here (below_here HB5.out b6) hbM)
 have hw6:w.heap.size<=w6.heap.size:=by have:=(below_here HB5.out b6).size;omega
 obtain⟨bF,hbF⟩:∃bF,bF=w6.heap.size:=⟨_,rfl⟩
 rw[<- hbF] at HF6 hw6
 have HBF:=hide hbF
 clear hbF HCN hv hO hcm b6 hbM HB5
 go_upto_region 13 with fail
 rw[<- hwM,<- HBF.out]
 clear hwM HBF
 go_wp2_with fail
 go_loopw [10] (fun t wr=>∃(k:Nat) (f:Fv) (a:Option Addr) (c:Nat) (am:Option Addr) (cm:Nat),k<=14∧t=.int .i64 (k:Int)∧Md f∧FSt bF f a f.qs.length c am f.ps.length cm wr∧Below w.heap.size w wr) (fun t _=>14-(intOf t).toNat)
 case atStart=>exact⟨0,_,_,_,_,_,by omega,rfl,HNW.out,HF6.out,HB6.out⟩
 case round =>
  obtain⟨k,f,a,c,am,cm,hk,rfl,hmd,hF,hbel⟩:=hrel
  have HMD:=hide hmd
  have HFR:=hide hF
  have HBR:=hide hbel
  clear hmd hF hbel HF6 HB6 HNW
  have hbr:bF<wr.heap.size:=(Array.getElem?_eq_some_iff.1 HFR.out.k).1
  by_cases hlt:k<14
  ·have hlt2:(k:Int)<14:=by omega
   go_wp2_with fail
   refine(digits_any k (by omega) wr).mono ?_
   rintro e w7 ⟨s,rfl,_,_,b7⟩
   have HF7:=hide (HFR.out.on b7)
   have HB7:=hide (below_here HBR.out b7)
   have hb7:bF<w7.heap.size:=(Array.getElem?_eq_some_iff.1 HF7.out.k).1
   clear b7 HFR HBR hbr
   obtain⟨tx,htx⟩:∃tx:ByteArray,tx={ data:=#[119] }++s:=⟨_,rfl⟩
   have hw40:IntKind.i64.wrap (40+(k:Int))=40+(k:Int):=by rw[IntKind.wrap_i64];omega
   go_upto_region 18 with fail
   rw[<- htx]
   clear htx
   go_wp2_with fail
   refine(pick_any a0 len0 cap0 l (40+(k:Int)) 5 w7 (HA.out.later HB7.out (Nat.le_refl _)) hn4 (by omega) (by omega) (by omega) (by omega)).mono ?_
   rintro e w8 ⟨y,rfl,_,_,rfl⟩
   clear hw40
   have hw10:IntKind.i64.wrap (10+(k:Int))=10+(k:Int):=by rw[IntKind.wrap_i64];omega
   have cP:Hid (Calls Tryz.prog 27 #[.slice a0 len0 cap0,.int .i64 (10+(k:Int)),.int .i64 5] w7.drew fun e w'=>∃x:Int,e=.returned (.int .i64 x)∧w7.drew=w'):=hide (by
    refine(pick_any a0 len0 cap0 l (10+(k:Int)) 5 w7.drew (HA.out.later (below_here HB7.out (Below.refl w7.heap.size w7).drew) (Nat.le_refl _)) hn4 (by omega) (by omega) (by omega) (by omega)).mono ?_
    rintro e w' ⟨x,rfl,_,_,h⟩
    exact⟨x,rfl,h⟩)
   have cE:∀(kd x:Int) (t:ByteArray),Hid (Calls Tryz.prog 28 #[.agg #[.int .i64 f.z,.slice a f.qs.length c,.slice am f.ps.length cm,.int .i64 f.op,.int .i64 f.st],.agg #[.int .i64 kd,.int .i64 x,.int .i64 0,.string t]] w7.drew fun e w'=>∃(g:Fv) (a':Option Addr) (c':Nat) (am':Option Addr) (cm':Nat) (b:Bool),e=.returned (.tuple #[.agg #[.int .i64 g.z,.slice a' g.qs.length c',.slice am' g.ps.length cm',.int .i64 g.op,.int .i64 g.st],.bool b])∧Md g∧FtlOwn w7.heap.size w'.heap.size w' a' am' g.qs g.ps∧g.ps.length<=cm'∧Below w7.drew.heap.size w7.drew w'):=fun kd x t=>hide (by
    have hb:=below_here HB7.out (Below.refl w7.heap.size w7).drew
    have hm:=md_enter HMD.out kd x t
    refine(iEnter (HF7.out.on (Below.refl w7.heap.size w7).drew) kd x 0 t (HT.out.here hb) (HE.out.here hb) ((HN0 _).out hb)).mono ?_
    rintro e w' ⟨v,rfl,hv⟩
    obtain⟨a',c',am',cm',rfl,hO,hcm,hbd⟩:=fst_ans hv (nice_md hm)
    exact⟨_,a',c',am',cm',_,rfl,hm,hO,hcm,hbd⟩)
   by_cases hy:y=0
   ·have hyb:(y==0)=true:=by rw[hy];rfl
    obtain⟨c0,c1,c2,c3,c4⟩:=five_cells HF7.out.k
    go_upto_region 21 with fail
    go_region_with
     (first
      | (go_at_call 27;refine cP.out.mono ?_;rintro e w8 ⟨x,rfl,rfl⟩)
      | (go_at_call 28;refine(cE 2 _ ⟨#[]⟩).out.mono ?_;rintro e w9 ⟨g,a',c',am',cm',bb,rfl,hmd,hO,hcm,bd⟩;have HF9:=hide ((HF7.out.on (Below.refl w7.heap.size w7).drew).on bd);have HB9:=hide (below_here (below_here HB7.out (Below.refl w7.heap.size w7).drew) bd);have HM9:=hide hmd;have HP9:=hide (fst_put (c':=c') HF9.out hO hb7 (nice_md hmd) hcm);obtain⟨d0,d1,d2,d3,d4⟩:=five_cells HF9.out.k;have f0:=four_frozen HF9.out.k 0;have f1:=four_frozen HF9.out.k 1;have f2:=four_frozen HF9.out.k 2;have f3:=four_frozen HF9.out.k 3;have f4:=four_frozen HF9.out.k 4;have HA9:=hide (five_aside (b:=bF) (Aside.refl bF (bF+1) w9) (Nat.le_refl _) (Nat.lt_succ_self _) (.int .i64 g.z) (.slice a' g.qs.length c') (.slice am' g.ps.length cm') (.int .i64 g.op) (.int .i64 g.st));have HBP:=hide (HB9.out.trans (HA9.out.below (B:=w.heap.size) hw6 (by have:=HB9.out.size;omega)));clear hmd hO hcm bd)
      | fail)
    all_goals
     go_wp2_with fail
     exact⟨⟨k+1,g,a',c',am',cm',by omega,by go_num,HM9.out,HP9.out,HBP.out⟩,by simp[intOf];omega⟩
   ·have hyb:(y==0)=false:=by simp[hy]
    obtain⟨c0,c1,c2,c3,c4⟩:=five_cells HF7.out.k
    go_upto_region 21 with fail
    go_region_with
     (first
      | (go_at_call 27;refine cP.out.mono ?_;rintro e w8 ⟨x,rfl,rfl⟩)
      | (go_at_call 28;refine(cE 1 _ tx).out.mono ?_;rintro e w9 ⟨g,a',c',am',cm',bb,rfl,hmd,hO,hcm,bd⟩;have HF9:=hide ((HF7.out.on (Below.refl w7.heap.size w7).drew).on bd);have HB9:=hide (below_here (below_here HB7.out (Below.refl w7.heap.size w7).drew) bd);have HM9:=hide hmd;have HP9:=hide (fst_put (c':=c') HF9.out hO hb7 (nice_md hmd) hcm);obtain⟨d0,d1,d2,d3,d4⟩:=five_cells HF9.out.k;have f0:=four_frozen HF9.out.k 0;have f1:=four_frozen HF9.out.k 1;have f2:=four_frozen HF9.out.k 2;have f3:=four_frozen HF9.out.k 3;have f4:=four_frozen HF9.out.k 4;have HA9:=hide (five_aside (b:=bF) (Aside.refl bF (bF+1) w9) (Nat.le_refl _) (Nat.lt_succ_self _) (.int .i64 g.z) (.slice a' g.qs.length c') (.slice am' g.ps.length cm') (.int .i64 g.op) (.int .i64 g.st));have HBP:=hide (HB9.out.trans (HA9.out.below (B:=w.heap.size) hw6 (by have:=HB9.out.size;omega)));clear hmd hO hcm bd)
      | fail)
    all_goals
     go_wp2_with fail
     exact⟨⟨k+1,g,a',c',am',cm',by omega,by go_num,HM9.out,HP9.out,HBP.out⟩,by simp[intOf];omega⟩
  ·obtain⟨c0,c1,c2,c3,c4⟩:=five_cells HFR.out.k
   have HSA:=hide (md_same HMD.out)
   have HNM:=hide (nice_mount (z:=f.z) (N:=5) (nice_md HMD.out).fits)
   have HIM:∀w9,Hid (Below w.heap.size w w9->FSt bF f a f.qs.length c am f.ps.length cm w9->Calls Tryz.prog 15 #[.agg #[.int .i64 f.z,.slice a f.qs.length c],.int .i64 5] w9 fun e w'=>∃v,e=.returned v∧FtlAns w9 (mountF f.z f.qs 5) v w'):=fun w9 h9 k1=>iMountF k1 5 (HT.out.here h9) (HE.out.here h9)
   generalize mountF f.z f.qs 5=x at HSA HNM HIM
   go_upto_region 22 with fail
   clear c0 c1 c2 c3 c4
   have HJ0:Hid (FSt bF f a f.qs.length c am f.ps.length cm wr.drew∧Below w.heap.size w wr.drew∧Below wr.heap.size wr wr.drew):=hide ⟨HFR.out.on (Below.refl _ wr).drew,below_here HBR.out (Below.refl _ wr).drew,(Below.refl _ wr).drew⟩
   have HD0:Hid (wr.drew.cell? ⟨bF,0,none⟩=some (.int .i64 f.z)∧wr.drew.cell? ⟨bF,1,none⟩=some (.slice a f.qs.length c)∧wr.drew.cell? ⟨bF,2,none⟩=some (.slice am f.ps.length cm)∧wr.drew.cell? ⟨bF,3,none⟩=some (.int .i64 f.op)∧wr.drew.cell? ⟨bF,4,none⟩=some (.int .i64 f.st)):=hide (five_cells HJ0.out.1.k)
   go_region_held3 (fun w'=>w'.cell? ⟨bF,0,none⟩=some (.int .i64 f.z)∧w'.cell? ⟨bF,1,none⟩=some (.slice a f.qs.length c)∧w'.cell? ⟨bF,2,none⟩=some (.slice am f.ps.length cm)∧w'.cell? ⟨bF,3,none⟩=some (.int .i64 f.op)∧w'.cell? ⟨bF,4,none⟩=some (.int .i64 f.st))
    (with_reducible (first|exact HD0.out|exact HD1.out|exact HD2.out|fail))
    (first
     | (go_at_call 15;refine((HIM _).out HJ0.out.2.1 HJ0.out.1).mono ?_;rintro e q1 ⟨v,rfl,hv⟩;have hva:=fst_ans hv HNM.out;obtain⟨ay,cy,amy,cmy,rfl,hO,hcm,bd⟩:=hva;have HR:=hide hO;have HCM:=hide hcm;have HJ1:=hide (And.intro (HJ0.out.1.on bd) (And.intro (below_here HJ0.out.2.1 bd) (below_here HJ0.out.2.2 bd)));have HD1:=hide (five_cells HJ1.out.1.k);clear bd hO hv hcm)
     | (go_at_call 23;have h9:=implSame_any f x a f.qs.length c am f.ps.length cm ay x.qs.length cy amy x.ps.length cmy q1 HJ1.out.1.sq (Nat.le_refl _) HJ1.out.1.n1 HJ1.out.1.fits HJ1.out.1.pl (Nat.le_refl _) HJ1.out.1.m1 HR.out.squares (Nat.le_refl _) HNM.out.squares HNM.out.fits HR.out.places (Nat.le_refl _) HNM.out.places HJ1.out.1.mc HCM.out (HT.out.here HJ1.out.2.1) (HE.out.here HJ1.out.2.1);rw[HSA.out] at h9;refine h9.mono ?_;rintro e q2 ⟨rfl,bd⟩;have HJ2:=hide (And.intro (HJ1.out.1.on bd) (And.intro (below_here HJ1.out.2.1 bd) (below_here HJ1.out.2.2 bd)));have HD2:=hide (five_cells HJ2.out.1.k);clear bd h9)
     | fail)
   have HB9:=hide HJ2.out.2.1
   go_wp2_with fail
   go_ret
   exact⟨rfl,HB9.out⟩
end Go.Proofs.YtgjoepdfhadmcaaGreatDoor
end

