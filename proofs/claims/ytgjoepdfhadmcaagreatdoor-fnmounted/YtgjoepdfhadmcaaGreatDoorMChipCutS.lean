/- Several texts in one: ChipCutS, PlaceApp, WearSpecD, WearSpecE, ChipImplD, ChipImplE, WearImplA, WearImplF, HeapBase, HeapImplA, HeapImplB, HeapImplC, HeapImplD, WearSpecF. -/
import Derived.Test.YtgjoepdfhadmcaaGreatDoorMChipGrow
import Derived.Test.YtgjoepdfhadmcaaGreatDoorMQuietTail
import Derived.RegionTactic
import Derived.Deep.DeepCutAuto
import Derived.Test.YtgjoepdfhadmcaaGreatDoorMChipOwn2
import Derived.Lib.QuietBelow
import Derived.BigQuiet
import Derived.Deep.QuietTactic
import Derived.Test.YtgjoepdfhadmcaaGreatDoorMBase
import Derived.BigRegion
import Derived.Deep.RegionLaw
import Derived.Deep.AppendLies
section
namespace Go.Proofs.YtgjoepdfhadmcaaGreatDoor
open Go.RowKit
set_option linter.unusedVariables false
set_option maxRecDepth 20000
def partN (n:Nat)(b:Int):Nat:=if b<1 then 1 else if b<=(n:Int) then b.toNat else n
def part (s:ByteArray)(b:Int):ByteArray:=s.extract 0 (partN s.size b)
theorem set_sqAt (qs:List Sq){i:Nat}(h:i<qs.length):qs.set i (sqAt qs i)=qs:=by
 unfold sqAt
 rw[List.getD_eq_getElem?_getD,List.getElem?_eq_getElem h]
 exact List.set_getElem_self h
def mixL (f:ByteArray->ByteArray)(ts:List ByteArray)(k:Nat):List ByteArray:=(ts.take k).map f++ts.drop k
theorem mixL_zero (f:ByteArray->ByteArray)(ts:List ByteArray):mixL f ts 0=ts:=by simp[mixL]
theorem mixL_all (f:ByteArray->ByteArray)(ts:List ByteArray):mixL f ts ts.length=ts.map f:=by simp[mixL]
theorem mixL_length (f:ByteArray->ByteArray)(ts:List ByteArray)(k:Nat):(mixL f ts k).length=ts.length:=by simp[mixL];omega
theorem mixL_at (f:ByteArray->ByteArray){ts:List ByteArray}{k:Nat}(h:k<ts.length):(mixL f ts k)[k]?=some (ts.getD k ByteArray.empty):=by
 unfold mixL
 rw[List.getElem?_append_right (by simp;omega),List.length_map,List.length_take,Nat.min_eq_left (by omega),Nat.sub_self,List.getElem?_drop,Nat.add_zero,List.getD_eq_getElem?_getD,List.getElem?_eq_getElem h]
 rfl
theorem mixL_step (f:ByteArray->ByteArray){ts:List ByteArray}{k:Nat}(h:k<ts.length):(mixL f ts k).set k (f (ts.getD k ByteArray.empty))=mixL f ts (k+1):=by
 unfold mixL
 rw[List.set_append_right _ _ (by simp;omega),List.length_map,List.length_take,Nat.min_eq_left (by omega),Nat.sub_self,List.drop_eq_getElem_cons h,List.set_cons_zero,List.take_succ_eq_append_getElem h,List.map_append,List.getD_eq_getElem?_getD,List.getElem?_eq_getElem h]
 simp
theorem getD_memT {ts:List ByteArray}{k:Nat}(h:k<ts.length):ts.getD k ByteArray.empty∈ts:=by
 rw[List.getD_eq_getElem?_getD,List.getElem?_eq_getElem h];exact List.getElem_mem h
set_option maxHeartbeats 400000 in
theorem l1Max_any (x y:Int)(w:World):Calls Tryz.prog 63 #[.int .i64 x,.int .i64 y] w fun e w'=>e=.returned (.int .i64 (if y<x then x else y))∧w=w':=by
 by_cases h:y<x
 ·rw[if_pos h]
  have g:decide (x > y)=true:=by simpa using h
  go_enter Tryz.func63,Tryz.ntmps63
  go_wp2_with fail
  go_ret
  exact⟨rfl,rfl⟩
 ·rw[if_neg h]
  have g:decide (x > y)=false:=by simpa using h
  go_enter Tryz.func63,Tryz.ntmps63
  go_wp2_with fail
  go_ret
  exact⟨rfl,rfl⟩
end Go.Proofs.YtgjoepdfhadmcaaGreatDoor
end

section
namespace Go.Proofs.YtgjoepdfhadmcaaGreatDoor
open Go.RowKit
set_option linter.unusedVariables false
set_option maxRecDepth 20000
theorem append_places {P:Program}(hinfo:(P.info? 39).map (fun i=>(i.zero,i.size,i.bytes))=some (some (.agg #[.int .i64 0,.int .i64 0]),2,16)){t:TypeId}(ht:P.underlying t=some (.slice 39)){B g:Nat}{w:World}(ho:PlOwn B w (.slice (some ⟨g,0,none⟩) 0 0) [])(hB:B<=w.heap.size)
  {lo hi:Nat} {a:Option Addr} {n c:Nat} {ps:List Pl} (hx:Places lo hi w a n ps) (hn0:1<=n) (hn:n<=1048576) :
  ∃g' c' w',(Builtin.append_ #[t,t] t #[.slice (some ⟨g,0,none⟩) 0 0,.slice a n c]).run P w=.ok (.slice (some ⟨g',0,none⟩) n c') w'∧PlOwn B w' (.slice (some ⟨g',0,none⟩) ps.length c') ps∧w.grownBy w' (some g)∧(g'=g∨g'=w.heap.size):=by
 obtain⟨i0,hi0,hz0,hz1,hz2⟩:=info_parts hinfo
 obtain⟨hl,_,hx⟩:=hx
 subst hl
 obtain⟨b,off,rfl,_,_,hc⟩:=hx (by omega)
 have hnews:∀(j:Nat) u,(plL ps)[j]?=some u->w.cell? ((⟨b,off,none⟩:Addr).add j)=some u:=by
  intro j u hj
  have hjl:j<ps.length*2:=by
   rcases Nat.lt_or_ge j (ps.length*2) with h|h
   ·exact h
   ·rw[List.getElem?_eq_none (by rw[plL_length];exact h)] at hj;simp at hj
  have hadd:(⟨b,off,none⟩:Addr).add j=⟨b,off+j,none⟩:=by unfold Addr.add;split<;>simp_all
  rw[hadd,hc j (by omega),<- hj,plL_at ps hjl]
 obtain⟨v',w',h1,h2,h3,h4,h5⟩:=run_append_own_at (P:=P) w B t t 39 i0 (.agg #[.int .i64 0,.int .i64 0]) 2 16 ht hi0 hz0 hz1 hz2 rfl (by decide) _ 0 [] ho ⟨b,off,none⟩ ps.length c (plL ps) (by rw[plL_length]) hnews
  (fun u hu=>by
   unfold plL at hu
   rw[List.mem_map] at hu
   obtain⟨j,_,rfl⟩:=hu
   unfold cellP
   split<;>rfl) (by unfold maxLen;omega) (by omega) hB
 rw[Nat.zero_add,List.nil_append] at h2
 obtain⟨g',c',rfl,_⟩:=pl_some h2 hn0
 refine⟨g',c',w',h1,h2,h3,?_⟩
 rcases h5 with h5|h5
 ·exact .inl (by have e:some g'=some g:=h5;simpa using e)
 ·exact .inr (by have e:some g'=some w.heap.size:=h5;simpa using e)
end Go.Proofs.YtgjoepdfhadmcaaGreatDoor
end

section
namespace Go.Proofs.YtgjoepdfhadmcaaGreatDoor
open Go.RowKit
set_option linter.unusedVariables false
set_option maxRecDepth 20000
def bestV (o:Option Nat):Int:=match o with|none=> -1|some b=>(b:Int)
theorem mayV_parts (qs:List Sq)(op:Int)(k:Nat):mayV qs op k=(!((sqAt qs k).1.length==0)&&(!(sqAt qs k).2.2&&!((k:Int)==op))):=rfl
theorem bestK_no {qs:List Sq}{ps:List Pl}{op:Int}{k:Nat}(h:mayV qs op k=false):bestK qs ps op (k+1)=bestK qs ps op k:=by
 show(if mayV qs op k then _ else _)=_
 rw[h];rfl
theorem bestK_first {qs:List Sq}{ps:List Pl}{op:Int}{k:Nat}(h:mayV qs op k=true)(hb:bestK qs ps op k=none):bestK qs ps op (k+1)=some k:=by
 show(if mayV qs op k then(match bestK qs ps op k with|none=>some k|some b=>if betterV qs ps k b then some k else some b) else _)=_
 rw[h,hb];rfl
theorem bestK_next {qs:List Sq}{ps:List Pl}{op:Int}{k b:Nat}(h:mayV qs op k=true)(hb:bestK qs ps op k=some b):bestK qs ps op (k+1)=if betterV qs ps k b then some k else some b:=by
 show(if mayV qs op k then(match bestK qs ps op k with|none=>some k|some b=>if betterV qs ps k b then some k else some b) else _)=_
 rw[h,hb];rfl
set_option maxHeartbeats 3200000 in
theorem l9Victim_any (z:Int)(a:Option Addr)(n cap:Nat)(qs:List Sq)(al:Option Addr)(m capl:Nat)(ps:List Pl)(op:Int)(w:World){lo hi lo' hi':Nat}(h:Squares lo hi w a n qs)(hhi:hi<=w.heap.size)(hn:n<=12)(hf:∀x∈qs,sqFits x)(hp:Places lo' hi' w al m ps)(hhi':hi'<=w.heap.size)(hm:m<=64) :
  Calls Tryz.prog 199 #[.agg #[.int .i64 z,.slice a n cap],.slice al m capl,.int .i64 op] w fun e w'=>e=.returned (.int .i64 (victimV z qs ps op))∧Below w.heap.size w w':=by
 obtain⟨wA,hwA⟩:∃wA,wA=w.alloc (.cells #[.int .i64 z,.slice a n cap] 26):=⟨_,rfl⟩
 have hzA:wA.heap.size=w.heap.size+1:=by rw[hwA];simp
 have HBA:Hid (Below w.heap.size w wA):=by rw[hwA];exact(Below.refl _ _).alloc (Nat.le_refl _) _
 have H1:Hid (wA.heap[w.heap.size]?=some (.cells #[.int .i64 z,.slice a n cap] 26)):=by rw[hwA];exact heap_new _ _
 have HSQ:=hide (h.later HBA.out hhi)
 have HPL:=hide (hp.later HBA.out hhi')
 have HL:=hide h.1
 have HLP:=hide hp.1
 have HF:=hide hf
 have hlv:∀s,liveN ps s<=64:=fun s=>by have:=liveN_le ps s;rw[HLP.out] at this;omega
 have HLV:=hide hlv
 clear h hf hp hlv
 go_enter Tryz.func199,Tryz.ntmps199
 go_upto_region 1 with fail
 rw[<- hwA]
 clear hwA
 go_wp2_with fail
 go_loopw [7,8] (fun t i wr=>∃k:Nat,k<=n∧i=.int .i64 (k:Int)∧t=.int .i64 (bestV (bestK qs ps op k))∧Below wA.heap.size wA wr) (fun _ i _=>n-(intOf i).toNat)
 case atStart=>exact⟨0,Nat.zero_le _,rfl,rfl,Below.refl _ _⟩
 case round =>
  obtain⟨k,hk,rfl,rfl,hbel⟩:=hrel
  have K1:=hide (block_on H1.out hbel)
  obtain⟨a0,a1⟩:=two_cells K1.out
  have HBB:=hide hbel
  by_cases hlt:k<n
  ·have hql:k<qs.length:=by rw[HL.out];exact hlt
   obtain⟨_,A,C,hx,ht⟩:=HSQ.out
   obtain⟨b,off,rfl,_,hb,hc⟩:=hx.2 (by omega)
   have HC:=hide hc
   obtain⟨c0,c1,c2⟩:=sq_cells hc hbel (show b<wA.heap.size by omega) hlt
   have hl9:=(sq_fits HF.out hql).2.1
   unfold maxLen at hl9
   have HMV:=hide (mayV_parts qs op k)
   have HYY:Hid (sqAt qs k=sqAt qs k):=rfl
   obtain⟨y,hy⟩:∃y,y=sqAt qs k:=⟨_,rfl⟩
   rw[<- hy] at c0 c1 c2 hl9 HMV
   have HY:=hide hy
   clear hc hx ht hy HYY
   obtain⟨ts,zw,bd⟩:=y
   dsimp only at c0 c1 c2 hl9 HMV
   have HBV:=hide ((Below.refl wr.heap.size wr).alloc (Nat.le_refl _) (.cells #[.slice (A k) ts.length (C k),.int .i64 zw,.bool bd] 42))
   have HBF:=hide (below_here HBB.out HBV.out)
   have hbo:∀j,bestV (bestK qs ps op k)=(j:Int)->True:=fun _ _=>trivial
   clear hbo hbel
   cases hmay:mayV qs op k with
   | false =>
    have HE:Hid (bestV (bestK qs ps op (k+1))=bestV (bestK qs ps op k)):=by show _=_;rw[bestK_no hmay]
    rw[hmay] at HMV
    generalize bestV (bestK qs ps op k)=bv at *
    by_cases h0:ts.length=0
    ·have g0:((ts.length:Int)==0)=true:=by simp[h0]
     clear h0
     go_wp2_with fail
     exact⟨⟨k+1,by omega,by go_num,by rw[HE.out],HBF.out⟩,by simp[intOf];omega⟩
    ·have g0:((ts.length:Int)==0)=false:=by simp;exact fun e=>h0 (by rw[e];rfl)
     cases bd with
     | true =>
      go_wp2_with fail
      exact⟨⟨k+1,by omega,by go_num,by rw[HE.out],HBF.out⟩,by simp[intOf];omega⟩
     | false =>
      have hko:(k:Int)=op:=by
       have h9:=HMV.out
       have e0:(ts.length==0)=false:=by simpa using h0
       rw[e0] at h9
       simpa using h9
      have g1:((k:Int)==op)=true:=by simpa using hko
      clear hko
      go_wp2_with fail
      exact⟨⟨k+1,by omega,by go_num,by rw[HE.out],HBF.out⟩,by simp[intOf];omega⟩
   | true =>
    rw[hmay] at HMV
    have h9:=HMV.out
    simp only[Bool.true_eq,Bool.and_eq_true,Bool.not_eq_true',beq_eq_false_iff_ne,ne_eq] at h9
    obtain⟨h0,rfl,hko⟩:=h9
    have g0:((ts.length:Int)==0)=false:=by simp;exact fun e=>h0 (by rw[e];rfl)
    have g1:((k:Int)==op)=false:=by simpa using hko
    cases hbk:bestK qs ps op k with
    | none =>
     have HE:Hid (bestV (bestK qs ps op (k+1))=(k:Int)):=by show _=_;rw[bestK_first hmay hbk];rfl
     rw[show bestV none = -1 from rfl]
     go_wp2_with fail
     exact⟨⟨k+1,by omega,by go_num,by rw[HE.out],HBF.out⟩,by simp[intOf];omega⟩
    | some j =>
     have hjk:=bestK_lt hbk
     have HE:=hide (bestK_next hmay hbk)
     rw[show bestV (some j)=(j:Int) from rfl]
     have gj:decide ((j:Int)<0)=false:=by simp
     clear hbk hmay
     obtain⟨wV,hwV⟩:∃wV,wV=wr.alloc (.cells #[.slice (A k) ts.length (C k),.int .i64 zw,.bool false] 42):=⟨_,rfl⟩
     have HV0:Hid (wV.heap[wr.heap.size]?=some (.cells #[.slice (A k) ts.length (C k),.int .i64 zw,.bool false] 42)):=by rw[hwV];exact heap_new _ _
     rw[<- hwV] at HBV HBF
     go_upto_region 9 with fail
     rw[<- hwV]
     clear hwV
     have HPV:=hide (HPL.out.later HBF.out (by omega))
     obtain⟨d0,d1⟩:=two_cells (block_on K1.out HBV.out)
     obtain⟨e0,e1,e2⟩:=three_cells HV0.out
     obtain⟨f0,f1,f2⟩:=sq_cells HC.out HBF.out (show b<wA.heap.size by omega) (show j<n by omega)
     have hla:=HLV.out (k:Int)
     have hlb:=HLV.out (j:Int)
     have HBT:Hid (betterV qs ps k j=(decide (liveN ps (k:Int)<liveN ps (j:Int))||(decide (liveN ps (k:Int)=liveN ps (j:Int))&&decide (zw<(sqAt qs j).2.1)))):=by
      show _=_
      unfold betterV
      rw[<- HY.out]
     clear a0 a1 c0 c1 c2 f0 f2 d0 e0 e2
     go_wp2_with fail
     refine(l9Live_any al m capl ps (k:Int) wV HPV.out (by omega)).mono ?_
     rintro e w3 ⟨rfl,rfl⟩
     go_wp2_with fail
     refine(l9Live_any al m capl ps (j:Int) wV HPV.out (by omega)).mono ?_
     rintro e w3 ⟨rfl,rfl⟩
     generalize liveN ps (k:Int)=la at *
     generalize liveN ps (j:Int)=lb at *
     generalize (sqAt qs j).2.1=zj at *
     have hjn:(j:Int)<(n:Int):=by omega
     have HBW:∀nq,Hid (Below wA.heap.size wA (wV.drewN nq)):=fun nq=>⟨HBF.out.os,HBF.out.tape,HBF.out.output,HBF.out.size,HBF.out.block⟩
     by_cases h1:la<lb
     ·have g2:decide ((la:Int)<(lb:Int))=true:=by simp;omega
      have HE2:Hid (bestV (bestK qs ps op (k+1))=(k:Int)):=by
       show _=_
       rw[HE.out,HBT.out,decide_eq_true h1]
       rfl
      go_wp2_with fail
      go_quiet (fail)
      go_wp2_with fail
      go_roundw
      case rel=>exact⟨k+1,by omega,by go_num,by rw[HE2.out],(HBW _).out⟩
      case measure=>simp[intOf];omega
     ·have g2:decide ((la:Int)<(lb:Int))=false:=by simp;omega
      by_cases h2:la=lb
      ·have g3:((la:Int)==(lb:Int))=true:=by simp[h2]
       by_cases h3:zw<zj
       ·have g4:decide (zw<zj)=true:=by simpa using h3
        have HE2:Hid (bestV (bestK qs ps op (k+1))=(k:Int)):=by
         show _=_
         rw[HE.out,HBT.out,decide_eq_true h2,g4]
         simp[bestV]
        go_wp2_with fail
        go_quiet (fail)
        go_wp2_with fail
        go_roundw
        case rel=>exact⟨k+1,by omega,by go_num,by rw[HE2.out],(HBW _).out⟩
        case measure=>simp[intOf];omega
       ·have g4:decide (zw<zj)=false:=by simpa using h3
        have HE2:Hid (bestV (bestK qs ps op (k+1))=(j:Int)):=by
         show _=_
         rw[HE.out,HBT.out,decide_eq_false h1,g4]
         simp[bestV]
        go_wp2_with fail
        go_quiet (fail)
        go_wp2_with fail
        go_roundw
        case rel=>exact⟨k+1,by omega,by go_num,by rw[HE2.out],(HBW _).out⟩
        case measure=>simp[intOf];omega
      ·have g3:((la:Int)==(lb:Int))=false:=by simp;omega
       have HE2:Hid (bestV (bestK qs ps op (k+1))=(j:Int)):=by
        show _=_
        rw[HE.out,HBT.out,decide_eq_false h1,decide_eq_false h2]
        simp[bestV]
       go_wp2_with fail
       go_quiet (fail)
       go_wp2_with fail
       go_roundw
       case rel=>exact⟨k+1,by omega,by go_num,by rw[HE2.out],(HBW _).out⟩
       case measure=>simp[intOf];omega
  ·obtain rfl:k=n:=by omega
   have HE:Hid (victimV z qs ps op=(match bestK qs ps op k with|none=> -1|some b=>if(liveN ps (b:Int):Int)=z then -1 else(b:Int))):=by show _=_;unfold victimV;rw[HL.out];rfl
   have HPV:=hide (HPL.out.later HBB.out (by omega))
   have HBW:∀nq,Hid (Below w.heap.size w (wr.drewN nq)):=fun nq=>by have hh:=below_here HBA.out HBB.out;exact⟨hh.os,hh.tape,hh.output,hh.size,hh.block⟩
   cases hbk:bestK qs ps op k with
   | none =>
    rw[show bestV none = -1 from rfl]
    have HE2:Hid (victimV z qs ps op = -1):=by show _=_;rw[HE.out,hbk]
    clear hbk
    go_wp2_with fail
    go_quiet (fail)
    go_wp2_with fail
    go_ret
    exact⟨by rw[HE2.out];rfl,(HBW _).out⟩
   | some j =>
    rw[show bestV (some j)=(j:Int) from rfl]
    have gj:decide ((j:Int)>=0)=true:=by simp
    have HE2:Hid (victimV z qs ps op=if(liveN ps (j:Int):Int)=z then -1 else(j:Int)):=by show _=_;rw[HE.out,hbk]
    have HLC:∀w9,Hid (Places lo' hi' w9 al m ps->Calls Tryz.prog 200 #[.slice al m capl,.int .i64 (j:Int)] w9 fun e w'=>e=.returned (.int .i64 (liveN ps (j:Int):Int))∧w9=w'):=fun w9 h9=>l9Live_any al m capl ps (j:Int) w9 h9 (by omega)
    clear hbk
    generalize liveN ps (j:Int)=la at *
    by_cases hz:(la:Int)=z
    ·have g2:((la:Int)==z)=true:=by simpa using hz
     go_wp2_with fail
     go_quiet ((go_at_call 200;exact Calls.quiet_of_same (((HLC _).out (by exact HPV.out)).mono fun e w' hh=>⟨hh.1,hh.2.symm⟩)))
     go_wp2_with fail
     go_ret
     exact⟨by rw[HE2.out,if_pos hz];rfl,(HBW _).out⟩
    ·have g2:((la:Int)==z)=false:=by simpa using hz
     go_wp2_with fail
     go_quiet ((go_at_call 200;exact Calls.quiet_of_same (((HLC _).out (by exact HPV.out)).mono fun e w' hh=>⟨hh.1,hh.2.symm⟩)))
     go_wp2_with fail
     go_ret
     exact⟨by rw[HE2.out,if_neg hz];rfl,(HBW _).out⟩
end Go.Proofs.YtgjoepdfhadmcaaGreatDoor
end

section
namespace Go.Proofs.YtgjoepdfhadmcaaGreatDoor
open Go.RowKit
set_option linter.unusedVariables false
set_option maxRecDepth 20000
def valN (l:List Nat):List Value:=l.map (fun (i:Nat)=>Value.int .i64 (i:Int))
theorem valN_length (l:List Nat):(valN l).length=l.length:=by unfold valN;simp
theorem valN_append (l m:List Nat):valN (l++m)=valN l++valN m:=by unfold valN;simp
theorem valN_at {l:List Nat}{j:Nat}(h:j<l.length):(valN l)[j]?=some (.int .i64 ((l.getD j 0:Nat):Int)):=by
 unfold valN
 rw[List.getElem?_map,List.getElem?_eq_getElem h,List.getD_eq_getElem?_getD,List.getElem?_eq_getElem h]
 rfl
theorem valN_one (l:List Nat):∀u∈valN l,u.oneCell'=true:=by
 intro u hu
 unfold valN at hu
 rw[List.mem_map] at hu
 obtain⟨i,_,rfl⟩:=hu
 rfl
theorem insW_split (qs:List Sq)(i:Nat):∀(l:List Nat) (p:Nat),p<=l.length->(∀x∈l.take p,(sqAt qs x).2.1<=(sqAt qs i).2.1)->(p<l.length->¬(sqAt qs (l.getD p 0)).2.1<=(sqAt qs i).2.1)->insW qs i l=l.take p++[i]++l.drop p
 | [],p,hp,_,_=>by simp at hp;subst hp;rfl
 | j::js,0,_,_,h=>by
  have h1:=h (by simp)
  simp at h1
  unfold insW
  rw[if_neg (by omega)]
  rfl
 | j::js,p+1,hp,hl,h=>by
  have h1:=hl j (by simp)
  unfold insW
  rw[if_pos h1,insW_split qs i js p (by simpa using hp) (fun x hx=>hl x (by simp[hx])) (fun hlt=>by
   have:=h (by simpa using hlt)
   simpa[List.getD_cons_succ] using this)]
  rfl
theorem own_prefix {w:World}{B e g n cap k:Nat}{xs:List Value}(h:w.ownsRow B e 1 (.slice (some ⟨g,0,none⟩) n cap) n xs)(hk:k<=n):w.ownsRow B e 1 (.slice (some ⟨g,0,none⟩) k cap) k (xs.take k):=by
 obtain⟨hl,h2⟩:=h
 rcases h2 with⟨h',_⟩|⟨g',cap',cur,h',hb,hg,hnc,hcm,hcs,htake⟩
 ·simp at h'
 ·simp only[Value.slice.injEq,Option.some.injEq,Addr.mk.injEq,and_true,true_and] at h'
  obtain⟨rfl,rfl⟩:=h'
  refine⟨by rw[List.length_take];omega,.inr ⟨g,cap,cur,rfl,hb,hg,by omega,hcm,hcs,?_⟩⟩
  rw[<- htake,List.take_take,Nat.mul_one,Nat.mul_one,Nat.min_eq_left hk]
theorem own_rest {w:World}{B e g n cap k:Nat}{xs:List Value}(h:w.ownsRow B e 1 (.slice (some ⟨g,0,none⟩) n cap) n xs){ad:Addr}(had:ad=⟨g,0+k,none⟩∨n-k=0)(hk:k<=n):∀j u,(xs.drop k)[j]?=some u->w.cell? (ad.add j)=some u:=by
 intro j u hj
 have hx:xs.length=n:=by have:=h.1;omega
 have hjl:j<n-k:=by
  rcases Nat.lt_or_ge j (n-k) with h' | h'
  ·exact h'
  ·rw[List.getElem?_eq_none (by rw[List.length_drop];omega)] at hj;simp at hj
 rcases had with rfl|h0
 ·have hadd:(⟨g,0+k,none⟩:Addr).add j=⟨g,k+j,none⟩:=by unfold Addr.add;split<;>simp_all
  rw[hadd,h.cellAt (k+j) (by omega),<- hj,List.getElem?_drop]
 ·omega
theorem own_all {w:World}{B e g n cap:Nat}{xs:List Value}(h:w.ownsRow B e 1 (.slice (some ⟨g,0,none⟩) n cap) n xs):∀j u,xs[j]?=some u->w.cell? ((⟨g,0,none⟩:Addr).add j)=some u:=by
 have:=own_rest h (k:=0) (ad:=⟨g,0+0,none⟩) (.inl rfl) (Nat.zero_le _)
 simpa using this
theorem slice_restW {P:Program}(t e:TypeId)(ht:P.underlying t=some (.slice e))(hs:∀w,(sizeOf e).run P w=.ok 1 w)(b off n cap k:Nat)(hk:k<=n)(hn:n<=cap) :
  ∃ad:Addr,(ad=⟨b,off+k,none⟩∨n-k=0)∧∀w,(Instr.sliceAt t (.slice (some ⟨b,off,none⟩) n cap) (some (.int .i64 (k:Int))) none none).run P w=.ok (.slice (some ad) (n-k) (cap-k)) w:=by
 have he:P.elem t=e:=by simp[Program.elem,ht]
 have ht':P.underlying t=some (.slice (P.elem t)):=by rw[he];exact ht
 by_cases h:cap=k
 ·refine⟨⟨b,off,none⟩,.inr (by omega),fun w=>?_⟩
  rw[run_sliceAt_slice w t _ _ _ _ ht',run_slice_l (P:=P) w t _ n cap ht' .i64 (k:Int) (by omega) (by omega),he,hs]
  simp[sliced,h,Result.andThen]
 ·refine⟨⟨b,off+k,none⟩,.inl rfl,fun w=>?_⟩
  rw[run_sliceAt_slice w t _ _ _ _ ht',run_slice_l (P:=P) w t _ n cap ht' .i64 (k:Int) (by omega) (by omega),he,hs]
  simp[sliced,h,Result.andThen,Addr.add]
theorem slice_firstW {P:Program}(t e:TypeId)(ht:P.underlying t=some (.slice e))(hs:∀w,(sizeOf e).run P w=.ok 1 w)(b off n cap k:Nat)(hk:k<=n)(hn:n<=cap) :
  ∀w,(Instr.sliceAt t (.slice (some ⟨b,off,none⟩) n cap) none (some (.int .i64 (k:Int))) none).run P w=.ok (.slice (some ⟨b,off,none⟩) k cap) w:=by
 intro w
 have he:P.elem t=e:=by simp[Program.elem,ht]
 have ht':P.underlying t=some (.slice (P.elem t)):=by rw[he];exact ht
 rw[run_sliceAt_slice w t _ _ _ _ ht',run_slice_h (P:=P) w t _ n cap ht' .i64 (k:Int) (by omega) (by omega),he,hs]
 simp[sliced,Result.andThen,Addr.add]
theorem some_form {w:World}{B e n:Nat}{v:Value}{xs:List Value}(h:w.ownsRow B e 1 v n xs)(hv:v≠.slice none 0 0):∃g c,v=.slice (some ⟨g,0,none⟩) n c∧n<=c:=by
 rcases h.2 with⟨e,_⟩|⟨g,cap,cur,e,_,_,hn,_⟩
 ·exact absurd e hv
 ·exact⟨g,cap,e,hn⟩
theorem Tryz.infoI64e:(Tryz.prog.info? 2).map (fun i=>(i.zero,i.size,i.bytes))=some (some (.int .i64 0),1,8):=by kernel_rfl
theorem emptyK_no {qs:List Sq}{k:Nat}(h:isEmpty (sqAt qs k)=false):emptyK qs (k+1)=emptyK qs k:=by
 show(if isEmpty (sqAt qs k) then _ else _)=_
 rw[h];rfl
theorem emptyK_yes {qs:List Sq}{k:Nat}(h:isEmpty (sqAt qs k)=true):emptyK qs (k+1)=insW qs k (emptyK qs k):=by
 show(if isEmpty (sqAt qs k) then _ else _)=_
 rw[h];rfl
set_option maxHeartbeats 3200000 in
theorem l9Empty_any (z:Int)(a:Option Addr)(n cap:Nat)(qs:List Sq)(w:World){lo hi:Nat}(h:Squares lo hi w a n qs)(hhi:hi<=w.heap.size)(hn:n<=12)(hf:∀x∈qs,sqFits x) :
  Calls Tryz.prog 198 #[.agg #[.int .i64 z,.slice a n cap]] w fun e w'=>∃v,e=.returned v∧w'.ownsRow (w.heap.size+1) 2 1 v (emptyK qs n).length (valN (emptyK qs n))∧Below w.heap.size w w':=by
 obtain⟨wB,hwB⟩:∃wB,wB=w.alloc (.cells #[.int .i64 z,.slice a n cap] 26):=⟨_,rfl⟩
 have hzB:wB.heap.size=w.heap.size+1:=by rw[hwB];simp
 have HBB0:Hid (Below w.heap.size w wB):=by rw[hwB];exact(Below.refl _ _).alloc (Nat.le_refl _) _
 have H1:Hid (wB.heap[w.heap.size]?=some (.cells #[.int .i64 z,.slice a n cap] 26)):=by rw[hwB];exact heap_new _ _
 obtain⟨wA,hwA⟩:∃wA,wA=wB.alloc (.cells #[] 2):=⟨_,rfl⟩
 have hzA:wA.heap.size=w.heap.size+1+1:=by rw[hwA];simp[hzB]
 have HBA:Hid (Below w.heap.size w wA):=by rw[hwA];exact HBB0.out.alloc (by omega) _
 have H1A:Hid (wA.heap[w.heap.size]?=some (.cells #[.int .i64 z,.slice a n cap] 26)):=by rw[hwA];exact heap_old H1.out
 have HO0:Hid (wA.ownsRow (w.heap.size+1) 2 1 (.slice (some ⟨w.heap.size+1,0,none⟩) 0 0) 0 (valN [])):=by
  have:=own_made0 wB 2
  rw[hzB] at this
  rw[hwA]
  exact this
 have HSQ:=hide h
 have HL:=hide h.1
 have HF:=hide hf
 clear h hf H1 HBB0
 obtain⟨i0,hi0,hzz0,hzz1,hzz2⟩:=info_parts Tryz.infoI64e
 go_enter Tryz.func198,Tryz.ntmps198
 go_upto_region 2 with fail
 rw[<- hwB,<- hwA]
 clear hwA hwB
 go_wp2_with fail
 go_loopw [3,4] (fun v i wr=>∃k g c:Nat,k<=n∧i=.int .i64 (k:Int)∧v=.slice (some ⟨g,0,none⟩) (emptyK qs k).length c∧(emptyK qs k).length<=c∧wr.ownsRow (w.heap.size+1) 2 1 (.slice (some ⟨g,0,none⟩) (emptyK qs k).length c) (emptyK qs k).length (valN (emptyK qs k))∧wr.heap[w.heap.size]?=some (.cells #[.int .i64 z,.slice a n cap] 26)∧w.heap.size+2<=wr.heap.size∧Below w.heap.size w wr) (fun _ i _=>n-(intOf i).toNat)
 case atStart=>exact⟨0,w.heap.size+1,0,Nat.zero_le _,rfl,rfl,Nat.le_refl _,HO0.out,H1A.out,by omega,HBA.out⟩
 case round =>
  obtain⟨k,g,c,hk,rfl,rfl,hlc,hown,hbox,hsz,hbel⟩:=hrel
  have HOW:=hide hown
  have K1:=hide hbox
  have HBB:=hide hbel
  obtain⟨a0,a1⟩:=two_cells hbox
  clear HO0 H1A HBA hown hbox
  by_cases hlt:k<n
  ·have hql:k<qs.length:=by rw[HL.out];exact hlt
   obtain⟨_,A,C,hx,ht⟩:=HSQ.out
   obtain⟨b,off,rfl,_,hb,hc⟩:=hx.2 (by omega)
   have HC:=hide hc
   obtain⟨c0,c1,c2⟩:=sq_cells hc hbel (show b<w.heap.size by omega) hlt
   have hl9:=(sq_fits HF.out hql).2.1
   unfold maxLen at hl9
   have hll:=emptyK_length qs k
   have HMM:=hide (fun x=>(emptyK_mem qs k x).1)
   have HNO:=hide (emptyK_no (qs:=qs) (k:=k))
   have HYE:=hide (emptyK_yes (qs:=qs) (k:=k))
   have HIS:=hide (insW_split qs k (emptyK qs k))
   have HIE:Hid (isEmpty (sqAt qs k)=(((sqAt qs k).1.length==0)&&!(sqAt qs k).2.2)):=rfl
   obtain⟨y,hy⟩:∃y,y=sqAt qs k:=⟨_,rfl⟩
   rw[<- hy] at c0 c1 c2 hl9 HNO HYE HIE HIS
   have HY:=hide hy
   clear hc hx ht hy hbel
   obtain⟨ts,zw,bd⟩:=y
   dsimp only at c0 c1 c2 hl9 HIE HIS
   obtain⟨out,ho⟩:∃out,out=emptyK qs k:=⟨_,rfl⟩
   rw[<- ho] at HOW hll HMM HNO HYE HIS hlc ⊢
   have HOE:=hide ho
   clear ho
   obtain⟨wV,hwV⟩:∃wV,wV=wr.alloc (.cells #[.slice (A k) ts.length (C k),.int .i64 zw,.bool bd] 42):=⟨_,rfl⟩
   have hzV:wr.heap.size+1=wV.heap.size:=by rw[hwV];simp
   have HBV:Hid (Below wr.heap.size wr wV):=by rw[hwV];exact(Below.refl _ _).alloc (Nat.le_refl _) _
   have HV0:Hid (wV.heap[wr.heap.size]?=some (.cells #[.slice (A k) ts.length (C k),.int .i64 zw,.bool bd] 42)):=by rw[hwV];exact heap_new _ _
   have HOV:=hide (HOW.out.kept (grown_below HBV.out none) (.inr (by simp[Value.ownBlock])))
   have KV:=hide (block_on K1.out HBV.out)
   have HBF:=hide (below_here HBB.out HBV.out)
   by_cases h0:ts.length=0
   ·have hts:ts=[]:=List.eq_nil_of_length_eq_zero h0
    subst hts
    simp only[List.length_nil] at c0 hwV HV0 HIE hl9
    clear h0
    cases bd with
    | true =>
     have HE:Hid (emptyK qs (k+1)=out):=HNO.out (by rw[HIE.out];simp)
     go_wp2_with fail
     rw[<- hwV]
     exact⟨⟨k+1,g,c,by omega,by go_num,by rw[HE.out],by rw[HE.out];exact hlc,by rw[HE.out];exact HOV.out,KV.out,by omega,HBF.out⟩,by simp[intOf];omega⟩
    | false =>
     have HE:=hide (HYE.out (by rw[HIE.out];simp))
     go_upto_region 7 with fail
     rw[<- hwV]
     clear hwV a0 a1 c0 c1 c2
     go_wp2_with fail
     have hgl:g<wr.heap.size:=(HOW.out.lt g rfl).2
     have hgv:g<wV.heap.size:=by omega
     have hgB:w.heap.size+1<=g:=(HOW.out.lt g rfl).1
     go_loopw [6] (fun t wx=>∃p:Nat,p<=out.length∧t=.int .i64 (p:Int)∧(∀x∈out.take p,(sqAt qs x).2.1<=zw)∧Below wV.heap.size wV wx) (fun t _=>out.length-(intOf t).toNat)
     case atStart=>exact⟨0,Nat.zero_le _,rfl,by simp,Below.refl _ _⟩
     case round =>
      obtain⟨p,hp,rfl,hal,hbx⟩:=hrel
      have HAL:=hide hal
      have HBX:=hide hbx
      have hsx:=hbx.size
      have HOX:=hide (HOV.out.kept (grown_below hbx none) (.inr (by simp[Value.ownBlock])))
      have KX:=hide (block_on KV.out hbx)
      have HVX:=hide (block_on HV0.out hbx)
      have HBWX:=hide (below_here HBF.out hbx)
      obtain⟨a0,a1⟩:=two_cells KX.out
      obtain⟨s0,s1,s2⟩:=three_cells HVX.out
      clear hal hbx s0 s2
      have hpc:p<=c:=by omega
      obtain⟨cont,hcont⟩:∃cont,cont=decide (p<out.length∧(sqAt qs (out.getD p 0)).2.1<=zw):=⟨_,rfl⟩
      have HCO:=hide hcont
      clear hcont
      go_upto_region 8 with fail
      go_cut [46] (fun cc wy=>cc=.bool cont∧Below wr.heap.size wr wy)
      case first =>
       by_cases hpl:p<out.length
       ·have hg1:decide ((p:Int)<(out.length:Int))=true:=by simp;omega
        have hxm:out.getD p 0∈out:=by rw[List.getD_eq_getElem?_getD,List.getElem?_eq_getElem hpl];exact List.getElem_mem hpl
        have hxk:=(HMM.out _ hxm).1
        have o1:wr.cell? ⟨g,p,none⟩=some (.int .i64 ((out.getD p 0:Nat):Int)):=by rw[HOX.out.cellAt p (by omega),valN_at hpl]
        obtain⟨q0,q1,q2⟩:=sq_cells HC.out HBWX.out (show b<w.heap.size by omega) (show out.getD p 0<n by omega)
        have hxn:((out.getD p 0:Nat):Int)<(n:Int):=by omega
        clear q0 q2
        generalize out.getD p 0=x at *
        by_cases hle:(sqAt qs x).2.1<=zw
        ·have hg2:decide ((sqAt qs x).2.1<=zw)=true:=by simpa using hle
         have hct:cont=true:=by rw[HCO.out];simp[hpl,hle]
         subst hct
         generalize (sqAt qs x).2.1=zx at *
         go_quiet (fail)
         go_wp2_with fail
         go_meet
         exact⟨rfl,⟨rfl,rfl,rfl,Nat.le_refl _,fun _ _=>rfl⟩⟩
        ·have hg2:decide ((sqAt qs x).2.1<=zw)=false:=by simpa using hle
         have hct:cont=false:=by rw[HCO.out];simp;intro _;omega
         subst hct
         generalize (sqAt qs x).2.1=zx at *
         go_quiet (fail)
         go_wp2_with fail
         go_meet
         exact⟨rfl,⟨rfl,rfl,rfl,Nat.le_refl _,fun _ _=>rfl⟩⟩
       ·have hg1:decide ((p:Int)<(out.length:Int))=false:=by simp;omega
        have hct:cont=false:=by rw[HCO.out];simp;intro hh;exact absurd hh hpl
        subst hct
        go_quiet (fail)
        go_wp2_with fail
        go_meet
        exact⟨rfl,⟨rfl,rfl,rfl,Nat.le_refl _,fun _ _=>rfl⟩⟩
      case rest =>
       obtain⟨rfl,hby⟩:=hcut
       obtain⟨wE,hwE⟩:∃wE,wE=wc:=⟨_,rfl⟩
       subst hwE
       have HBE:=hide (below_here HBX.out hby)
       have HOE2:=hide (HOX.out.kept (grown_below hby none) (.inr (by simp[Value.ownBlock])))
       have KE:=hide (block_on KX.out hby)
       have HBWE:=hide (below_here HBWX.out hby)
       have hsE:=hby.size
       clear hby a0 a1 s1 HOX KX HVX HBX HBWX
       cases cont with
       | true =>
        have h9:=HCO.out
        simp only[Bool.true_eq,decide_eq_true_eq] at h9
        obtain⟨hpl,hle⟩:=h9
        have HAL2:Hid (∀x∈out.take (p+1),(sqAt qs x).2.1<=zw):=by
         intro x hx
         rw[List.take_succ_eq_append_getElem hpl,List.mem_append,List.mem_singleton] at hx
         rcases hx with hx|hx
         ·exact HAL.out x hx
         ·rw[hx]
          rw[List.getD_eq_getElem?_getD,List.getElem?_eq_getElem hpl] at hle
          exact hle
        clear hle
        go_wp2_with fail
        exact⟨⟨p+1,by omega,by go_num,HAL2.out,HBE.out⟩,by simp[intOf];omega⟩
       | false =>
        have HNC:Hid (p<out.length->zw<(sqAt qs (out.getD p 0)).2.1):=by
         intro hpl
         refine Int.not_le.1 fun hle=>?_
         have h9:=HCO.out
         simp only[Bool.false_eq,decide_eq_false_iff_not] at h9
         exact h9 ⟨hpl,hle⟩
        have HIN:=hide (HE.out.trans (HIS.out p hp HAL.out HNC.out))
        have hLN:(emptyK qs (k+1)).length=out.length+1:=by rw[HE.out,insW_length]
        have HLN:=hide hLN
        clear hLN
        obtain⟨ad,had,hsl⟩:=slice_restW (P:=Tryz.prog) 58 2 Tryz.underlying58 (fun _=>by kernel_rfl) g 0 out.length c p hp hlc
        have hsf:=slice_firstW (P:=Tryz.prog) 58 2 Tryz.underlying58 (fun _=>by kernel_rfl) g 0 out.length c p hp hlc
        have hgE:g<wE.heap.size:=by omega
        have HM0:Hid ((wE.alloc (.cells #[] 2)).ownsRow (w.heap.size+1) 2 1 (.slice (some ⟨wE.heap.size,0,none⟩) 0 0) 0 []):=(own_made0 wE 2).mono (by omega)
        have HBM:=hide ((Below.refl wE.heap.size wE).alloc (Nat.le_refl _) (.cells #[] 2))
        have hzM:wE.heap.size+1=(wE.alloc (.cells #[] 2)).heap.size:=by simp
        have HOM:=hide (HOE2.out.alloc (.cells #[] 2))
        have HNW:Hid (∀j u,(valN (out.drop p))[j]?=some u->(wE.alloc (.cells #[] 2)).cell? (ad.add j)=some u):=by
         have h9:=own_rest HOM.out had hp
         have e9:(valN out).drop p=valN (out.drop p):=by unfold valN;rw[List.map_drop]
         rw[e9] at h9
         exact h9
        have KM:=hide (block_on KE.out HBM.out)
        have hldp:(valN (out.drop p)).length=(out.length-p)*1:=by rw[valN_length,List.length_drop];omega
        have hbM:w.heap.size+1<=(wE.alloc (.cells #[] 2)).heap.size:=by have:=HBM.out.size;omega
        clear hzM
        go_upto_region 11 with(at_builtin;(refine wpList_append_own_at _ rfl (.tmp 49) (.tmp 52) 58 rfl (w.heap.size+1) 2 i0 (.int .i64 0) 1 8 Tryz.underlying58 hi0 hzz0 hzz1 hzz2 rfl (by decide) _ 0 [] rfl HM0.out ad (out.length-p) (c-p) (valN (out.drop p)) rfl hldp HNW.out (valN_one _) (by unfold maxLen;omega) (by omega) hbM ?_);intro v1 w4 hown4 hgr4 hnil4 hat4;obtain⟨g1,c1,rfl,hc1⟩:=some_form hown4 (fun e=>by have h9:=(hnil4.1 e).1;cases h9);have HO4:=hide hown4;have HG4:=hide hgr4;have HA4:=hide hat4;clear hown4 hgr4 hnil4 hat4)
        have hs4:wE.heap.size+1<=w4.heap.size:=by have:=HG4.out.size;simpa using this
        have hg1:wE.heap.size<=g1:=by
         rcases HA4.out with h9|h9
         ·have e9:some g1=some wE.heap.size:=h9
          simp only[Option.some.injEq] at e9;omega
         ·have e9:some g1=some (wE.alloc (.cells #[] 2)).heap.size:=h9
          simp at e9;omega
        have HOW4:=hide (HOM.out.kept HG4.out (.inr (by intro e;have e9:some g=some wE.heap.size:=e;simp only[Option.some.injEq] at e9;omega)))
        have K4:Hid (w4.heap[w.heap.size]?=some (.cells #[.int .i64 z,.slice (some ⟨b,off,none⟩) n cap] 26)):=(HG4.out.block _ (by simp;omega) (by intro e;have e9:some w.heap.size=some wE.heap.size:=e;simp only[Option.some.injEq] at e9;omega)).trans KM.out
        have HB4:=hide ((below_here HBWE.out HBM.out).grown HG4.out (by simp;omega) (by intro q hq;have e9:some wE.heap.size=some q:=hq;simp only[Option.some.injEq] at e9;omega))
        have HOP:=hide ((own_prefix HOW4.out hp).alloc (.cells #[.int .i64 (k:Int)] 2))
        have HRO:=hide (HO4.out.alloc (.cells #[.int .i64 (k:Int)] 2))
        have e9:(valN out).take p=valN (out.take p):=by unfold valN;rw[List.map_take]
        rw[e9] at HOP
        have hb5:w.heap.size+1<=(w4.alloc (.cells #[.int .i64 (k:Int)] 2)).heap.size:=by have:=((Below.refl w4.heap.size w4).alloc (Nat.le_refl _) (.cells #[.int .i64 (k:Int)] 2)).size;omega
        clear e9 HNW HM0 HOM KM HBM hsl had hldp
        go_wp2_with (at_builtin;(first
         | ((refine wpList_append_own_at _ rfl (.tmp 56) (.tmp 58) 58 rfl (w.heap.size+1) 2 i0 (.int .i64 0) 1 8 Tryz.underlying58 hi0 hzz0 hzz1 hzz2 rfl (by decide) _ p (valN (out.take p)) rfl HOP.out ⟨w4.heap.size,0,none⟩ 1 1 [.int .i64 (k:Int)] rfl rfl (cell_one_new _ _ _) (by simp[Value.oneCell']) (by unfold maxLen;omega) (by omega) hb5 ?_);intro v2 w6 hown6 hgr6 hnil6 hat6;obtain⟨g2,c2,rfl,hc2⟩:=some_form hown6 (fun e=>by have h9:=(hnil6.1 e).1;cases h9);have HO6:=hide hown6;have HG6:=hide hgr6;have HR6:=hide (HRO.out.kept hgr6 (.inr (by intro e;have e9:some g1=some g:=e;simp only[Option.some.injEq] at e9;omega)));have HR7:Hid (∀j u,(valN (out.drop p))[j]?=some u->w6.cell? ((⟨g1,0,none⟩:Addr).add j)=some u):=own_all HR6.out;clear hown6 hgr6 hnil6 hat6)
         | ((refine wpList_append_own_at _ rfl (.tmp 59) (.tmp 60) 58 rfl (w.heap.size+1) 2 i0 (.int .i64 0) 1 8 Tryz.underlying58 hi0 hzz0 hzz1 hzz2 rfl (by decide) _ (p+1) _ rfl HO6.out ⟨g1,0,none⟩ (out.length-p) c1 (valN (out.drop p)) rfl (by rw[valN_length,List.length_drop];omega) (HR7.out) (valN_one _) (by unfold maxLen;omega) (by omega) (Nat.le_trans hb5 HG6.out.size) ?_);intro v3 w7 hown7 hgr7 hnil7 hat7;have HO7:=hide hown7;have HG7:=hide hgr7;have HP7:=hide (some_form hown7 (fun e=>by have h9:=(hnil7.1 e).1;cases h9));clear hown7 hgr7 hnil7 hat7)))
        obtain⟨g3,c3,hv3,hc3⟩:=HP7.out
        subst hv3
        have HEV:Hid ((valN (out.take p)++[Value.int .i64 (k:Int)])++valN (out.drop p)=valN (emptyK qs (k+1))):=by
         show _=_
         rw[HIN.out,valN_append,valN_append];rfl
        have hlnn:(emptyK qs (k+1)).length=p+1+(out.length-p):=by rw[HLN.out];omega
        have hg2B:w.heap.size+1<=g2:=(HO6.out.lt g2 rfl).1
        have hs6:w4.heap.size+1<=w6.heap.size:=by have:=HG6.out.size;simpa using this
        have hs7:=HG7.out.size
        have K5:=hide (heap_old (o:=.cells #[.int .i64 (k:Int)] 2) K4.out)
        have K6:Hid (w6.heap[w.heap.size]?=some (.cells #[.int .i64 z,.slice (some ⟨b,off,none⟩) n cap] 26)):=(HG6.out.block _ (by simp;omega) (by intro e;have e9:some w.heap.size=some g:=e;simp only[Option.some.injEq] at e9;omega)).trans K5.out
        have K7:Hid (w7.heap[w.heap.size]?=some (.cells #[.int .i64 z,.slice (some ⟨b,off,none⟩) n cap] 26)):=(HG7.out.block _ (by omega) (by intro e;have e9:some w.heap.size=some g2:=e;simp only[Option.some.injEq] at e9;omega)).trans K6.out
        have B5:=hide (HB4.out.alloc (by omega) (.cells #[.int .i64 (k:Int)] 2))
        have B6:=hide (B5.out.grown HG6.out (by simp;omega) (by intro q hq;have e9:some g=some q:=hq;simp only[Option.some.injEq] at e9;omega))
        have B7:=hide (B6.out.grown HG7.out (by omega) (by intro q hq;have e9:some g2=some q:=hq;simp only[Option.some.injEq] at e9;omega))
        have HO8:Hid (w7.ownsRow (w.heap.size+1) 2 1 (.slice (some ⟨g3,0,none⟩) (emptyK qs (k+1)).length c3) (emptyK qs (k+1)).length (valN (emptyK qs (k+1)))):=by
         show World.ownsRow _ _ _ _ _ _ _
         rw[<- HEV.out,hlnn]
         exact HO7.out
        exact⟨⟨k+1,g3,c3,by omega,by go_num,by rw[hlnn],by rw[hlnn];exact hc3,HO8.out,K7.out,by omega,B7.out⟩,by simp[intOf];omega⟩
   ·have g0:decide ((ts.length:Int) > 0)=true:=by simp;omega
    have HE:Hid (emptyK qs (k+1)=out):=HNO.out (by rw[HIE.out];simp[h0])
    go_wp2_with fail
    rw[<- hwV]
    exact⟨⟨k+1,g,c,by omega,by go_num,by rw[HE.out],by rw[HE.out];exact hlc,by rw[HE.out];exact HOV.out,KV.out,by omega,HBF.out⟩,by simp[intOf];omega⟩
  ·obtain rfl:k=n:=by omega
   go_wp2_with fail
   go_ret
   exact⟨_,rfl,HOW.out,HBB.out⟩
end Go.Proofs.YtgjoepdfhadmcaaGreatDoor
end

section
namespace Go.Proofs.YtgjoepdfhadmcaaGreatDoor
open Go.RowKit
set_option linter.unusedVariables false
set_option maxRecDepth 20000
theorem part_low {s:ByteArray}{b:Int}(h:b<1):part s b=s.extract 0 1:=by unfold part partN;rw[if_pos h]
theorem part_mid {s:ByteArray}{b:Nat}(h:1<=b)(h2:b<=s.size):part s (b:Int)=s.extract 0 b:=by
 unfold part partN;rw[if_neg (by omega),if_pos (by omega)];simp
theorem part_high {s:ByteArray}{b:Int}(h:(s.size:Int)<b)(h1:1<=s.size):part s b=s.extract 0 s.size:=by
 unfold part partN;rw[if_neg (by omega),if_neg (by omega)]
set_option maxHeartbeats 800000 in
theorem firstBytes_any (s:ByteArray)(b:Int)(w:World)(h1:1<=s.size)(h2:s.size<=200):Calls Tryz.prog 172 #[.string s,.int .i64 b] w fun e w'=>e=.returned (.string (part s b))∧w=w':=by
 by_cases c1:b<1
 ·have HE:=hide (part_low (s:=s) c1)
  go_enter Tryz.func172,Tryz.ntmps172
  go_wp2_with fail
  go_ret
  exact⟨by rw[HE.out];rfl,rfl⟩
 ·obtain⟨B,rfl⟩:∃B:Nat,b=(B:Int):=⟨b.toNat,by omega⟩
  have hB1:1<=B:=by omega
  by_cases c2:B<=s.size
  ·have HE:=hide (part_mid hB1 c2)
   go_enter Tryz.func172,Tryz.ntmps172
   go_wp2_with fail
   go_ret
   exact⟨by rw[HE.out];rfl,rfl⟩
  ·have HE:=hide (part_high (s:=s) (b:=(B:Int)) (by omega) h1)
   go_enter Tryz.func172,Tryz.ntmps172
   go_wp2_with fail
   go_ret
   exact⟨by rw[HE.out,ByteArray.extract_zero_size];rfl,rfl⟩
inductive Sh where
 | none|write (s:ByteArray)|wipe|half (b:Int)|spoil
def shV:Sh->Value
 | .none=>.nilIface
 | .write s=>.iface 210 (.agg #[.string s])
 | .wipe=>.iface 212 (.agg #[])
 | .half b=>.iface 214 (.agg #[.int .i64 b])
 | .spoil=>.iface 215 (.agg #[])
def shOf (kd:Int)(tx:ByteArray):Sh:=if kd=1 then .write tx else if kd=2 then .wipe else if kd=3 then .spoil else .none
theorem Tryz.asWrWr (v:Value)(w:World):(Instr.typeAssert (.iface 210 v) 163 210 true).run Tryz.prog w=.ok (.tuple #[v,.bool true]) w:=by kernel_rfl
theorem Tryz.asWiWr (v:Value)(w:World):(Instr.typeAssert (.iface 212 v) 163 210 true).run Tryz.prog w=.ok (.tuple #[.agg #[.string ByteArray.empty],.bool false]) w:=by kernel_rfl
theorem Tryz.asWiWi (v:Value)(w:World):(Instr.typeAssert (.iface 212 v) 163 212 true).run Tryz.prog w=.ok (.tuple #[v,.bool true]) w:=by kernel_rfl
theorem Tryz.asHaWr (v:Value)(w:World):(Instr.typeAssert (.iface 214 v) 163 210 true).run Tryz.prog w=.ok (.tuple #[.agg #[.string ByteArray.empty],.bool false]) w:=by kernel_rfl
theorem Tryz.asHaWi (v:Value)(w:World):(Instr.typeAssert (.iface 214 v) 163 212 true).run Tryz.prog w=.ok (.tuple #[.agg #[],.bool false]) w:=by kernel_rfl
theorem Tryz.asHaHa (v:Value)(w:World):(Instr.typeAssert (.iface 214 v) 163 214 true).run Tryz.prog w=.ok (.tuple #[v,.bool true]) w:=by kernel_rfl
theorem Tryz.asHaSp (v:Value)(w:World):(Instr.typeAssert (.iface 214 v) 163 215 true).run Tryz.prog w=.ok (.tuple #[.agg #[],.bool false]) w:=by kernel_rfl
theorem Tryz.asSpWr (v:Value)(w:World):(Instr.typeAssert (.iface 215 v) 163 210 true).run Tryz.prog w=.ok (.tuple #[.agg #[.string ByteArray.empty],.bool false]) w:=by kernel_rfl
theorem Tryz.asSpWi (v:Value)(w:World):(Instr.typeAssert (.iface 215 v) 163 212 true).run Tryz.prog w=.ok (.tuple #[.agg #[],.bool false]) w:=by kernel_rfl
theorem Tryz.asSpHa (v:Value)(w:World):(Instr.typeAssert (.iface 215 v) 163 214 true).run Tryz.prog w=.ok (.tuple #[.agg #[.int .i64 0],.bool false]) w:=by kernel_rfl
theorem Tryz.asSpSp (v:Value)(w:World):(Instr.typeAssert (.iface 215 v) 163 215 true).run Tryz.prog w=.ok (.tuple #[v,.bool true]) w:=by kernel_rfl
theorem Tryz.asNoWr (w:World):(Instr.typeAssert .nilIface 163 210 true).run Tryz.prog w=.ok (.tuple #[.agg #[.string ByteArray.empty],.bool false]) w:=by kernel_rfl
theorem Tryz.asNoWi (w:World):(Instr.typeAssert .nilIface 163 212 true).run Tryz.prog w=.ok (.tuple #[.agg #[],.bool false]) w:=by kernel_rfl
theorem Tryz.asNoHa (w:World):(Instr.typeAssert .nilIface 163 214 true).run Tryz.prog w=.ok (.tuple #[.agg #[.int .i64 0],.bool false]) w:=by kernel_rfl
theorem Tryz.asNoSp (w:World):(Instr.typeAssert .nilIface 163 215 true).run Tryz.prog w=.ok (.tuple #[.agg #[],.bool false]) w:=by kernel_rfl
set_option maxHeartbeats 800000 in
theorem shapeOf_any (kd sq:Int)(tx:ByteArray)(w:World):Calls Tryz.prog 170 #[.agg #[.int .i64 kd,.int .i64 sq,.string tx]] w fun e w'=>e=.returned (shV (shOf kd tx))∧Below w.heap.size w w':=by
 have HB:=hide ((Below.refl w.heap.size w).alloc (Nat.le_refl _) (.cells #[.int .i64 kd,.int .i64 sq,.string tx] 98))
 by_cases h1:kd=1
 ·subst h1
  go_enter Tryz.func170,Tryz.ntmps170
  go_wp2_with fail
  go_ret
  exact⟨rfl,HB.out⟩
 ·by_cases h2:kd=2
  ·subst h2
   go_enter Tryz.func170,Tryz.ntmps170
   go_wp2_with fail
   go_ret
   exact⟨rfl,HB.out⟩
  ·by_cases h3:kd=3
   ·subst h3
    go_enter Tryz.func170,Tryz.ntmps170
    go_wp2_with fail
    go_ret
    exact⟨rfl,HB.out⟩
   ·have g1:(kd==1)=false:=by simpa using h1
    have g2:(kd==2)=false:=by simpa using h2
    have g3:(kd==3)=false:=by simpa using h3
    have HE:Hid (shV (shOf kd tx)=.nilIface):=by show _=_;unfold shOf;rw[if_neg h1,if_neg h2,if_neg h3];rfl
    go_enter Tryz.func170,Tryz.ntmps170
    go_wp2_with fail
    go_ret
    exact⟨by rw[HE.out];rfl,HB.out⟩
def takesS (z:Int)(q:Sq):Sh->Bool
 | .write s=>decide ((q.1.length:Int)<z)&&txOk s
 | .wipe=>decide (q.2.1<1000000)
 | .spoil=>true
 | _=>false
theorem takesS_of (z:Int)(q:Sq)(kd:Int)(tx:ByteArray):takesS z q (shOf kd tx)=canK z q kd tx:=by
 unfold shOf canK
 by_cases h1:kd=1
 ·rw[if_pos h1,if_pos h1];rfl
 ·rw[if_neg h1,if_neg h1]
  by_cases h2:kd=2
  ·rw[if_pos h2,if_pos h2];rfl
  ·rw[if_neg h2,if_neg h2]
   by_cases h3:kd=3
   ·rw[if_pos h3,decide_eq_true h3];rfl
   ·rw[if_neg h3,decide_eq_false h3];rfl
set_option maxHeartbeats 1600000 in
theorem takes_any (a:Option Addr)(cap:Nat)(q:Sq)(z:Int)(sh:Sh)(w:World)(hl:q.1.length<=8)(hs:∀s,sh=.write s->s.size<=maxLen) :
  Calls Tryz.prog 171 #[.agg #[.slice a q.1.length cap,.int .i64 q.2.1,.bool q.2.2],.int .i64 z,shV sh] w fun e w'=>e=.returned (.bool (!q.2.2&&takesS z q sh))∧Below w.heap.size w w':=by
 obtain⟨ts,zw,bd⟩:=q
 dsimp only at hl ⊢
 obtain⟨wA,hwA⟩:∃wA,wA=w.alloc (.cells #[.slice a ts.length cap,.int .i64 zw,.bool bd] 42):=⟨_,rfl⟩
 have hzA:wA.heap.size=w.heap.size+1:=by rw[hwA];simp
 have HBA:Hid (Below w.heap.size w wA):=by rw[hwA];exact(Below.refl _ _).alloc (Nat.le_refl _) _
 have H1:Hid (wA.heap[w.heap.size]?=some (.cells #[.slice a ts.length cap,.int .i64 zw,.bool bd] 42)):=by rw[hwA];exact heap_new _ _
 obtain⟨c0,c1,c2⟩:=three_cells H1.out
 cases bd with
 | true =>
  go_enter Tryz.func171,Tryz.ntmps171
  go_wp2_with fail
  rw[<- hwA]
  go_ret
  exact⟨rfl,HBA.out⟩
 | false =>
  cases sh with
  | none =>
   have q0:=Tryz.asNoWr
   have q1:=Tryz.asNoWi
   have q2:=Tryz.asNoSp
   go_enter Tryz.func171,Tryz.ntmps171
   unfold shV
   go_wp2_with fail
   rw[<- hwA]
   go_ret
   exact⟨rfl,HBA.out⟩
  | write s =>
   have q0:=Tryz.asWrWr (.agg #[.string s])
   have hs':=hs s rfl
   have HB2:=hide ((Below.refl wA.heap.size wA).alloc (Nat.le_refl _) (.cells #[.string s] 210))
   have c0':=(HB2.out.cell (p:=⟨w.heap.size,0,none⟩) (by show w.heap.size<_;omega)).trans c0
   by_cases hlt:(ts.length:Int)<z
   ·have g1:decide ((ts.length:Int)<z)=true:=by simpa using hlt
    have HE:Hid ((!false&&takesS z (ts,zw,false) (.write s))=txOk s):=by show _=_;unfold takesS;rw[g1];rfl
    go_enter Tryz.func171,Tryz.ntmps171
    unfold shV
    go_upto_region 1 with fail
    rw[<- hwA]
    clear hwA
    go_wp2_with fail
    refine(canBeWritten_any s _ hs').mono ?_
    rintro e w1 ⟨rfl,rfl⟩
    go_wp2_with fail
    go_ret
    exact⟨ret_bool HE.out.symm,below_here HBA.out HB2.out⟩
   ·have g1:decide ((ts.length:Int)<z)=false:=by simpa using hlt
    have HE:Hid ((!false&&takesS z (ts,zw,false) (.write s))=false):=by show _=_;unfold takesS;rw[g1];rfl
    go_enter Tryz.func171,Tryz.ntmps171
    unfold shV
    go_upto_region 1 with fail
    rw[<- hwA]
    clear hwA
    go_wp2_with fail
    go_ret
    exact⟨ret_bool HE.out.symm,below_here HBA.out HB2.out⟩
  | wipe =>
   have q0:=Tryz.asWiWr (.agg #[])
   have q1:=Tryz.asWiWi (.agg #[])
   have HB2:=hide ((Below.refl wA.heap.size wA).alloc (Nat.le_refl _) (.cells #[] 212))
   have c1':=(HB2.out.cell (p:=⟨w.heap.size,1,none⟩) (by show w.heap.size<_;omega)).trans c1
   go_enter Tryz.func171,Tryz.ntmps171
   unfold shV
   go_upto_region 1 with fail
   rw[<- hwA]
   clear hwA
   go_wp2_with fail
   go_ret
   exact⟨rfl,below_here HBA.out HB2.out⟩
  | half b =>
   have q0:=Tryz.asHaWr (.agg #[.int .i64 b])
   have q1:=Tryz.asHaWi (.agg #[.int .i64 b])
   have q2:=Tryz.asHaSp (.agg #[.int .i64 b])
   go_enter Tryz.func171,Tryz.ntmps171
   unfold shV
   go_wp2_with fail
   rw[<- hwA]
   go_ret
   exact⟨rfl,HBA.out⟩
  | spoil =>
   have q0:=Tryz.asSpWr (.agg #[])
   have q1:=Tryz.asSpWi (.agg #[])
   have q2:=Tryz.asSpSp (.agg #[])
   have HB2:=hide ((Below.refl wA.heap.size wA).alloc (Nat.le_refl _) (.cells #[] 215))
   go_enter Tryz.func171,Tryz.ntmps171
   unfold shV
   go_upto_region 1 with fail
   rw[<- hwA]
   clear hwA
   go_wp2_with fail
   go_ret
   exact⟨rfl,below_here HBA.out HB2.out⟩
end Go.Proofs.YtgjoepdfhadmcaaGreatDoor
end

section
namespace Go.Proofs.YtgjoepdfhadmcaaGreatDoor
open Go.RowKit
set_option linter.unusedVariables false
set_option maxRecDepth 20000
def shT (qs:List Sq)(j:Jb):Sh:=if inB j.2.1 0 ((qs.length:Int)-1) then shOf j.1 j.2.2 else .none
theorem canJ_no {z:Int}{qs:List Sq}{j:Jb}(h:inB j.2.1 0 ((qs.length:Int)-1)=false):canJ z qs j=false:=by unfold canJ;rw[h];rfl
theorem canJ_yes {z:Int}{qs:List Sq}{j:Jb}(h:inB j.2.1 0 ((qs.length:Int)-1)=true):canJ z qs j=(!(sqAt qs j.2.1.toNat).2.2&&canK z (sqAt qs j.2.1.toNat) j.1 j.2.2):=by unfold canJ;rw[h];rfl
set_option maxHeartbeats 1600000 in
theorem takenShape_any (z:Int)(a:Option Addr)(n cap:Nat)(qs:List Sq)(kd sq:Int)(tx:ByteArray)(w:World){lo hi:Nat}(h:Squares lo hi w a n qs)(hhi:hi<=w.heap.size)(hn:n<=12)(hl:∀q∈qs,q.1.length<=8)(htx:tx.size<=maxLen) :
  Calls Tryz.prog 126 #[.agg #[.int .i64 z,.slice a n cap],.agg #[.int .i64 kd,.int .i64 sq,.string tx]] w fun e w'=>e=.returned (.tuple #[shV (shT qs (kd,sq,tx)),.bool (canJ z qs (kd,sq,tx))])∧Below w.heap.size w w':=by
 obtain⟨wA,hwA⟩:∃wA,wA=(w.alloc (.cells #[.int .i64 z,.slice a n cap] 26)).alloc (.cells #[.int .i64 kd,.int .i64 sq,.string tx] 98):=⟨_,rfl⟩
 have hzA:wA.heap.size=w.heap.size+1+1:=by rw[hwA];simp
 have HBA:Hid (Below w.heap.size w wA):=by rw[hwA];exact((Below.refl _ _).alloc (Nat.le_refl _) _).alloc (by simp) _
 have H1:Hid (wA.heap[w.heap.size]?=some (.cells #[.int .i64 z,.slice a n cap] 26)):=by rw[hwA];exact heap_old (heap_new _ _)
 have H2:Hid (wA.heap[w.heap.size+1]?=some (.cells #[.int .i64 kd,.int .i64 sq,.string tx] 98)):=by rw[hwA];exact heap_at (by simp)
 have HSQ:=hide (h.later HBA.out hhi)
 have HL:=hide h.1
 have HL8:=hide hl
 clear h hl
 obtain⟨a0,a1⟩:=two_cells H1.out
 obtain⟨b0,b1,b2⟩:=three_cells H2.out
 go_enter Tryz.func126,Tryz.ntmps126
 go_upto_region 1 with fail
 rw[<- hwA]
 clear hwA
 go_wp2_with fail
 refine(hasSquare_any z a n cap sq wA).mono ?_
 rintro e w1 ⟨rfl,hb1⟩
 have hs1:=hb1.size
 have K1:=hide (block_on H1.out hb1)
 have K2:=hide (block_on H2.out hb1)
 have HS1:=hide (HSQ.out.later hb1 (by omega))
 have HB1:=hide (below_here HBA.out hb1)
 clear hb1 H1 H2 HSQ HBA a0 a1 b0 b1 b2
 cases hin:inB sq 0 ((n:Int)-1) with
 | false =>
  have hin':inB sq 0 ((qs.length:Int)-1)=false:=by rw[HL.out];exact hin
  have HE:Hid (shV (shT qs (kd,sq,tx))=.nilIface):=by show _=_;unfold shT;dsimp only;rw[hin'];rfl
  have HC:=hide (canJ_no (z:=z) (qs:=qs) (j:=(kd,sq,tx)) hin')
  go_wp2_with fail
  go_ret2
  exact⟨by rw[HE.out,HC.out];rfl,HB1.out⟩
 | true =>
  have hin':inB sq 0 ((qs.length:Int)-1)=true:=by rw[HL.out];exact hin
  have HE:Hid (shT qs (kd,sq,tx)=shOf kd tx):=by show _=_;unfold shT;dsimp only;rw[hin'];rfl
  have HC:=hide (canJ_yes (z:=z) (qs:=qs) (j:=(kd,sq,tx)) hin')
  unfold inB at hin
  simp only[Bool.and_eq_true,decide_eq_true_eq] at hin
  obtain⟨i,rfl⟩:∃i:Nat,sq=(i:Int):=⟨sq.toNat,by omega⟩
  have hlt:i<n:=by omega
  have hql:i<qs.length:=by rw[HL.out];exact hlt
  obtain⟨b0,b1,b2⟩:=three_cells K2.out
  go_upto_region 3 with fail
  go_wp2_with fail
  refine(shapeOf_any kd (i:Int) tx w1).mono ?_
  rintro e w2 ⟨rfl,hb2⟩
  have hs2:=hb2.size
  have K12:=hide (block_on K1.out hb2)
  have K22:=hide (block_on K2.out hb2)
  have HS2:=hide (HS1.out.later hb2 (by omega))
  have HB2:=hide (below_here HB1.out hb2)
  clear hb2 K1 K2 HS1 HB1 b0 b1 b2
  obtain⟨_,A,C,hx,ht⟩:=HS2.out
  obtain⟨b,off,rfl,_,hb,hc⟩:=hx.2 (by omega)
  obtain⟨c0,c1,c2⟩:=sq_cells hc (Below.refl w2.heap.size w2) (show b<w2.heap.size by have:=hx.1;omega) hlt
  have hl8:=HL8.out _ (sqAt_mem hql)
  obtain⟨a0,a1⟩:=two_cells K12.out
  obtain⟨b0,b1,b2⟩:=three_cells K22.out
  have HTK:Hid (takesS z (sqAt qs i) (shOf kd tx)=canK z (sqAt qs i) kd tx):=takesS_of _ _ _ _
  have hsw:∀s,shOf kd tx=.write s->s.size<=maxLen:=fun s e=>by
   unfold shOf at e
   split at e
   ·cases e;exact htx
   ·split at e
    ·cases e
    ·split at e<;>cases e
  have cT:∀d os,Calls Tryz.prog 171 #[.agg #[.slice (A i) (sqAt qs i).1.length (C i),.int .i64 (sqAt qs i).2.1,.bool (sqAt qs i).2.2],.int .i64 z,shV (shOf kd tx)] (Go.Sort.grow (redrawn w2 d) os) fun e w''=>e=.returned (.bool (canJ z qs (kd,(i:Int),tx)))∧∃p:Regrown,w''=Go.Sort.grow (redrawn w2 p.d) p.os:=fun d os=>Calls.regrown_of ((takes_any (A i) (C i) (sqAt qs i) z (shOf kd tx) _ hl8 hsw).mono (fun e w' h=>⟨by rw[h.1,HC.out,HTK.out];rfl,h.2⟩))
  have k0:=fun d os=>cell_regrown a0 d os
  have k1:=fun d os=>cell_regrown a1 d os
  have k2:=fun d os=>cell_regrown b1 d os
  have k3:=fun d os=>cell_regrown c0 d os
  have k4:=fun d os=>cell_regrown c1 d os
  have k5:=fun d os=>cell_regrown c2 d os
  clear hc hx ht
  obtain⟨sv,hsv⟩:∃sv,sv=shV (shOf kd tx):=⟨_,rfl⟩
  have HSV:Hid (sv=shV (shT qs (kd,(i:Int),tx))):=by show _=_;rw[HE.out];exact hsv
  rw[<- hsv] at cT ⊢
  clear hsv HE HC HTK hsw
  generalize sqAt qs i=y at *
  obtain⟨ts,zw,bd⟩:=y
  obtain⟨cj,hcj⟩:∃cj,cj=canJ z qs (kd,(i:Int),tx):=⟨_,rfl⟩
  rw[<- hcj] at cT
  have HCJ:=hide hcj
  clear hcj
  go_wp2_with fail
  refine wp_region_quiet_below (by kernel_rfl) (by kernel_rfl) ?_
  repeat (go_big_quiet_step ((go_at_call 171;exact cT _ _)))
  refine wpQuiet_nil ?_
  intro _ hw'
  obtain⟨⟨dq,osq⟩,hw''⟩:=hw'
  subst hw''
  have HB3:=hide (below_here HB2.out (below_regrown w2 dq osq))
  go_wp2_with fail
  go_ret2
  exact⟨by rw[<- HSV.out,<- HCJ.out];rfl,HB3.out⟩
end Go.Proofs.YtgjoepdfhadmcaaGreatDoor
end

section
namespace Go.Proofs.YtgjoepdfhadmcaaGreatDoor
open Go.RowKit
set_option linter.unusedVariables false
set_option maxRecDepth 20000
set_option maxHeartbeats 800000 in
theorem placesIn_any (a:Option Addr)(n cap:Nat)(ps:List Pl)(s:Int)(w:World){lo hi:Nat}(h:Places lo hi w a n ps)(hn:n<=1048576) :
  Calls Tryz.prog 214 #[.slice a n cap,.int .i64 s] w fun e w'=>e=.returned (.int .i64 (liveN ps s:Int))∧Below w.heap.size w w':=by
 obtain⟨hl,hx⟩:=h
 have HL:=hide hl
 have HX:=hide hx
 have hsz:=hx.1
 clear hl hx
 go_enter Tryz.func214,Tryz.ntmps214
 go_wp2_with fail
 go_loopw [5,10] (fun t i wr=>∃k:Nat,k<=n∧i=.int .i64 (k:Int)∧t=.int .i64 (liveN (ps.take k) s:Int)∧Below w.heap.size w wr) (fun _ i _=>n-(intOf i).toNat)
 case atStart=>exact⟨0,Nat.zero_le _,rfl,by simp[liveN],Below.refl _ _⟩
 case round =>
  obtain⟨k,hk,rfl,rfl,hbel⟩:=hrel
  have HBB:=hide hbel
  by_cases hlt:k<n
  ·obtain⟨b,off,rfl,_,hb,hc⟩:=HX.out.2 (by omega)
   obtain⟨c0,c1⟩:=pl_cells hc hbel (show b<w.heap.size by omega) hlt
   have HS:=hide (liveN_step (show k<ps.length by rw[HL.out];exact hlt) s)
   have hle:=liveN_le (ps.take k) s
   have hle2:liveN (ps.take k) s<=1048576:=by rw[List.length_take] at hle;omega
   have HBA:Hid (∀o,Below w.heap.size w (wr.alloc o)):=fun o=>hbel.alloc hbel.size o
   clear hc hle hbel
   generalize liveN (ps.take k) s=q at *
   by_cases he:(plAt ps k).1=s
   ·have g:((plAt ps k).1==s)=true:=by simpa using he
    have HE:Hid (liveN (ps.take (k+1)) s=q+1):=by show _=_;rw[HS.out,g];rfl
    generalize plAt ps k=v at *
    obtain⟨v0,v1⟩:=v
    dsimp only at c0 c1 he
    subst he
    go_wp2_with fail
    exact⟨⟨k+1,by omega,by go_num,by rw[HE.out];go_num,HBA.out _⟩,by simp[intOf];omega⟩
   ·have g:((plAt ps k).1==s)=false:=by simpa using he
    have HE:Hid (liveN (ps.take (k+1)) s=q):=by show _=_;rw[HS.out,g];rfl
    generalize plAt ps k=v at *
    obtain⟨v0,v1⟩:=v
    dsimp only at c0 c1 he
    go_wp2_with fail
    exact⟨⟨k+1,by omega,by go_num,by rw[HE.out],HBA.out _⟩,by simp[intOf];omega⟩
  ·have HE:Hid (liveN (ps.take k) s=liveN ps s):=by show _=_;rw[List.take_of_length_le (by rw[HL.out];omega)]
   generalize liveN (ps.take k) s=q at *
   go_wp2_with fail
   go_ret
   exact⟨by rw[<- HE.out];rfl,HBB.out⟩
set_option maxHeartbeats 400000 in
theorem isNone_any (p q:Int)(w:World) :
  Calls Tryz.prog 88 #[.agg #[.int .i64 p,.int .i64 q]] w fun e w'=>e=.returned (.bool ((p== -1)&&(q==0)))∧Below w.heap.size w w':=by
 obtain⟨wA,hwA⟩:∃wA,wA=w.alloc (.cells #[.int .i64 p,.int .i64 q] 39):=⟨_,rfl⟩
 have HBA:Hid (Below w.heap.size w wA):=by rw[hwA];exact(Below.refl _ _).alloc (Nat.le_refl _) _
 have q1:=Tryz.eqPl p q (-1) 0
 have q2:=Tryz.guardPl
 go_enter Tryz.func88,Tryz.ntmps88
 go_wp2_with fail
 rw[<- hwA]
 go_ret
 exact⟨rfl,HBA.out⟩
def noneOf (ps:List Pl)(n:Nat)(v:Pl):Bool:=(List.range n).all (fun j=>plAt ps j != v)
set_option maxHeartbeats 1600000 in
theorem indexPl_any (a:Option Addr)(n cap:Nat)(ps:List Pl)(p q:Int)(w:World){lo hi:Nat}(h:Places lo hi w a n ps)(hn:n<=1048576) :
  Calls Tryz.prog 180 #[.slice a n cap,.agg #[.int .i64 p,.int .i64 q]] w fun e w'=>∃r:Int,e=.returned (.int .i64 r)∧decide (r>=0)=!(noneOf ps n (p,q))∧Below w.heap.size w w':=by
 obtain⟨wA,hwA⟩:∃wA,wA=w.alloc (.cells #[.int .i64 p,.int .i64 q] 39):=⟨_,rfl⟩
 have hzA:wA.heap.size=w.heap.size+1:=by rw[hwA];simp
 have HBA:Hid (Below w.heap.size w wA):=by rw[hwA];exact(Below.refl _ _).alloc (Nat.le_refl _) _
 have H1:Hid (wA.heap[w.heap.size]?=some (.cells #[.int .i64 p,.int .i64 q] 39)):=by rw[hwA];exact heap_new _ _
 obtain⟨hl,hx⟩:=h
 have HL:=hide hl
 have HX:=hide hx
 have hsz:=hx.1
 have q2:=Tryz.guardPl
 clear hl hx
 go_enter Tryz.func180,Tryz.ntmps180
 go_wp2_with fail
 rw[<- hwA]
 clear hwA
 go_loopw [5,8] (fun _ i wr=>∃k:Nat,k<=n∧i=.int .i64 (k:Int)∧noneOf ps k (p,q)=true∧Below wA.heap.size wA wr) (fun _ i _=>n-(intOf i).toNat)
 case atStart=>exact⟨0,Nat.zero_le _,rfl,rfl,Below.refl _ _⟩
 case round =>
  obtain⟨k,hk,rfl,hal,hbel⟩:=hrel
  have HAL:=hide hal
  have HBB:=hide hbel
  obtain⟨d0,d1⟩:=two_cells (block_on H1.out hbel)
  clear hal
  by_cases hlt:k<n
  ·obtain⟨b,off,rfl,_,hb,hc⟩:=HX.out.2 (by omega)
   obtain⟨c0,c1⟩:=pl_cells hc (HBA.out.trans (hbel.mono (by omega))) (show b<w.heap.size by omega) hlt
   have HF:Hid ((plAt ps k==(p,q))=true->noneOf ps n (p,q)=false):=fun hh=>all_range_fall hlt (by simp only[bne,hh];rfl)
   have HS:Hid ((plAt ps k==(p,q))=false->noneOf ps (k+1) (p,q)=true):=fun hh=>all_range_step HAL.out (by simp only[bne,hh];rfl)
   rw[pl_eq] at HF HS
   have hlt2:(k:Int)<(n:Int):=by omega
   clear hc hbel
   generalize plAt ps k=y at *
   obtain⟨r,t⟩:=y
   dsimp only at c0 c1 HF HS
   have q1:=Tryz.eqPl p q r t
   cases heq:((p==r)&&(q==t)) with
   | true =>
    have HNO:=hide (HF.out (by simp only[Bool.and_eq_true,beq_iff_eq] at heq ⊢;exact⟨heq.1.symm,heq.2.symm⟩))
    rw[heq] at q1
    go_wp2_with fail
    go_quiet (fail)
    go_wp2_with fail
    go_ret
    exact⟨_,rfl,by rw[HNO.out];simp,by have hh:=below_here HBA.out HBB.out;exact⟨hh.os,hh.tape,hh.output,hh.size,hh.block⟩⟩
   | false =>
    have HOK:=hide (HS.out (by
     cases hh:((r==p)&&(t==q)) with
     | false=>rfl
     | true =>
      simp only[Bool.and_eq_true,beq_iff_eq] at hh
      rw[hh.1,hh.2] at heq
      simp at heq))
    rw[heq] at q1
    go_wp2_with fail
    go_quiet (fail)
    go_wp2_with fail
    go_roundw
    case rel=>exact⟨k+1,by omega,by go_num,HOK.out,⟨HBB.out.os,HBB.out.tape,HBB.out.output,HBB.out.size,HBB.out.block⟩⟩
    case measure=>simp[intOf];omega
  ·obtain rfl:k=n:=by omega
   go_wp2_with fail
   go_ret
   exact⟨_,rfl,by rw[HAL.out];rfl,below_here HBA.out HBB.out⟩
set_option maxHeartbeats 800000 in
theorem containsPl_any (a:Option Addr)(n cap:Nat)(ps:List Pl)(p q:Int)(w:World){lo hi:Nat}(h:Places lo hi w a n ps)(hhi:hi<=w.heap.size)(hn:n<=1048576) :
  Calls Tryz.prog 143 #[.slice a n cap,.agg #[.int .i64 p,.int .i64 q]] w fun e w'=>e=.returned (.bool (!(noneOf ps n (p,q))))∧Below w.heap.size w w':=by
 obtain⟨wA,hwA⟩:∃wA,wA=w.alloc (.cells #[.int .i64 p,.int .i64 q] 39):=⟨_,rfl⟩
 have hzA:wA.heap.size=w.heap.size+1:=by rw[hwA];simp
 have HBA:Hid (Below w.heap.size w wA):=by rw[hwA];exact(Below.refl _ _).alloc (Nat.le_refl _) _
 have HP:=hide (h.later HBA.out hhi)
 clear h
 go_enter Tryz.func143,Tryz.ntmps143
 go_wp2_with fail
 rw[<- hwA]
 clear hwA
 refine(indexPl_any a n cap ps p q wA HP.out hn).mono ?_
 rintro e w1 ⟨r,rfl,hr,b1⟩
 have HR:=hide hr
 have HB1:=hide (below_here HBA.out b1)
 clear hr b1
 go_wp2_with fail
 go_ret
 exact⟨ret_bool HR.out,HB1.out⟩
end Go.Proofs.YtgjoepdfhadmcaaGreatDoor
end

section
namespace Go.Proofs.YtgjoepdfhadmcaaGreatDoor
open Go.RowKit
set_option linter.unusedVariables false
set_option maxRecDepth 20000
set_option maxHeartbeats 1600000 in
theorem indexPl_at (a:Option Addr)(n cap:Nat)(ps:List Pl)(p q:Int)(w:World){lo hi:Nat}(h:Places lo hi w a n ps)(hn:n<=1048576) :
  Calls Tryz.prog 180 #[.slice a n cap,.agg #[.int .i64 p,.int .i64 q]] w fun e w'=>∃r:Int,e=.returned (.int .i64 r)∧((r = -1∧noneOf ps n (p,q)=true)∨∃i:Nat,r=(i:Int)∧i<n∧plAt ps i=(p,q))∧Below w.heap.size w w':=by
 obtain⟨wA,hwA⟩:∃wA,wA=w.alloc (.cells #[.int .i64 p,.int .i64 q] 39):=⟨_,rfl⟩
 have hzA:wA.heap.size=w.heap.size+1:=by rw[hwA];simp
 have HBA:Hid (Below w.heap.size w wA):=by rw[hwA];exact(Below.refl _ _).alloc (Nat.le_refl _) _
 have H1:Hid (wA.heap[w.heap.size]?=some (.cells #[.int .i64 p,.int .i64 q] 39)):=by rw[hwA];exact heap_new _ _
 obtain⟨hl,hx⟩:=h
 have HL:=hide hl
 have HX:=hide hx
 have hsz:=hx.1
 have q2:=Tryz.guardPl
 clear hl hx
 go_enter Tryz.func180,Tryz.ntmps180
 go_wp2_with fail
 rw[<- hwA]
 clear hwA
 go_loopw [5,8] (fun _ i wr=>∃k:Nat,k<=n∧i=.int .i64 (k:Int)∧noneOf ps k (p,q)=true∧Below wA.heap.size wA wr) (fun _ i _=>n-(intOf i).toNat)
 case atStart=>exact⟨0,Nat.zero_le _,rfl,rfl,Below.refl _ _⟩
 case round =>
  obtain⟨k,hk,rfl,hal,hbel⟩:=hrel
  have HAL:=hide hal
  have HBB:=hide hbel
  obtain⟨d0,d1⟩:=two_cells (block_on H1.out hbel)
  clear hal
  by_cases hlt:k<n
  ·obtain⟨b,off,rfl,_,hb,hc⟩:=HX.out.2 (by omega)
   obtain⟨c0,c1⟩:=pl_cells hc (HBA.out.trans (hbel.mono (by omega))) (show b<w.heap.size by omega) hlt
   have HF:Hid ((plAt ps k==(p,q))=true->noneOf ps n (p,q)=false):=fun hh=>all_range_fall hlt (by simp only[bne,hh];rfl)
   have HS:Hid ((plAt ps k==(p,q))=false->noneOf ps (k+1) (p,q)=true):=fun hh=>all_range_step HAL.out (by simp only[bne,hh];rfl)
   rw[pl_eq] at HF HS
   have hlt2:(k:Int)<(n:Int):=by omega
   clear hc hbel
   have HPK:Hid (∀x,plAt ps k=x->plAt ps k=x):=fun _ h=>h
   obtain⟨y,hy⟩:∃y,y=plAt ps k:=⟨_,rfl⟩
   have HY:=hide hy
   rw[<- hy] at c0 c1 HF HS
   clear hy
   obtain⟨r,t⟩:=y
   dsimp only at c0 c1 HF HS
   have q1:=Tryz.eqPl p q r t
   cases heq:((p==r)&&(q==t)) with
   | true =>
    have HPE:Hid (plAt ps k=(p,q)):=by
     show _=_
     rw[<- HY.out]
     simp only[Bool.and_eq_true,beq_iff_eq] at heq
     rw[heq.1,heq.2]
    have HNO:=hide (HF.out (by simp only[Bool.and_eq_true,beq_iff_eq] at heq ⊢;exact⟨heq.1.symm,heq.2.symm⟩))
    rw[heq] at q1
    go_wp2_with fail
    go_quiet (fail)
    go_wp2_with fail
    go_ret
    exact⟨_,rfl,.inr ⟨k,rfl,hlt,HPE.out⟩,by have hh:=below_here HBA.out HBB.out;exact⟨hh.os,hh.tape,hh.output,hh.size,hh.block⟩⟩
   | false =>
    have HOK:=hide (HS.out (by
     cases hh:((r==p)&&(t==q)) with
     | false=>rfl
     | true =>
      simp only[Bool.and_eq_true,beq_iff_eq] at hh
      rw[hh.1,hh.2] at heq
      simp at heq))
    rw[heq] at q1
    go_wp2_with fail
    go_quiet (fail)
    go_wp2_with fail
    go_roundw
    case rel=>exact⟨k+1,by omega,by go_num,HOK.out,⟨HBB.out.os,HBB.out.tape,HBB.out.output,HBB.out.size,HBB.out.block⟩⟩
    case measure=>simp[intOf];omega
  ·obtain rfl:k=n:=by omega
   go_wp2_with fail
   go_ret
   exact⟨_,rfl,.inl ⟨rfl,HAL.out⟩,below_here HBA.out HBB.out⟩
end Go.Proofs.YtgjoepdfhadmcaaGreatDoor
end

section
namespace Go.Proofs.YtgjoepdfhadmcaaGreatDoor
open Go.RowKit
set_option linter.unusedVariables false
set_option maxRecDepth 20000
def cellR (f:Nat->Rk)(j:Nat):Value:=if j % 3=0 then .int .i64 (f (j / 3)).1 else if j % 3=1 then .int .i64 (f (j / 3)).2.1 else .int .i64 (f (j / 3)).2.2
theorem cellR0 (f:Nat->Rk)(i:Nat):cellR f (i*3)=.int .i64 (f i).1:=by
 unfold cellR;rw[if_pos (by omega),show i*3 / 3=i by omega]
theorem cellR1 (f:Nat->Rk)(i:Nat):cellR f (i*3+1)=.int .i64 (f i).2.1:=by
 unfold cellR;rw[if_neg (by omega),if_pos (by omega),show(i*3+1) / 3=i by omega]
theorem cellR2 (f:Nat->Rk)(i:Nat):cellR f (i*3+2)=.int .i64 (f i).2.2:=by
 unfold cellR;rw[if_neg (by omega),if_neg (by omega),show(i*3+2) / 3=i by omega]
def rkL (n:Nat)(f:Nat->Rk):List Value:=(List.range (n*3)).map (cellR f)
theorem rkL_length (n:Nat)(f:Nat->Rk):(rkL n f).length=n*3:=by simp[rkL]
theorem rkL_at (n:Nat)(f:Nat->Rk){j:Nat}(h:j<n*3):(rkL n f)[j]?=some (cellR f j):=by
 unfold rkL;rw[List.getElem?_map,List.getElem?_range h];rfl
theorem rkL_ext {n:Nat}{f:Nat->Rk}{l:List Value}(hl:l.length=n*3)(h:∀j,j<n*3->l[j]?=some (cellR f j)):l=rkL n f:=by
 refine List.ext_getElem? fun j=>?_
 by_cases hj:j<n*3
 ·rw[h j hj,rkL_at n f hj]
 ·rw[List.getElem?_eq_none (by omega),List.getElem?_eq_none (by rw[rkL_length];omega)]
theorem rkL_snoc (n:Nat)(f:Nat->Rk)(x:Rk):rkL n f++[.int .i64 x.1,.int .i64 x.2.1,.int .i64 x.2.2]=rkL (n+1) (upd f n x):=by
 refine rkL_ext (by simp[rkL_length];omega) fun j hj=>?_
 by_cases h:j<n*3
 ·rw[List.getElem?_append_left (by rw[rkL_length];exact h),rkL_at n f h]
  unfold cellR
  rw[upd_other _ _ (show j / 3≠n by omega)]
 ·rw[List.getElem?_append_right (by rw[rkL_length];omega),rkL_length]
  have e:j=n*3∨j=n*3+1∨j=n*3+2:=by omega
  rcases e with rfl|rfl|rfl
  ·rw[cellR0,upd_same];simp
  ·rw[cellR1,upd_same];simp
  ·rw[cellR2,upd_same];simp
theorem rkL_take (n:Nat)(f:Nat->Rk):(rkL (n+1) f).take (n*3)=rkL n f:=by
 refine rkL_ext (by rw[List.length_take,rkL_length];omega) fun j hj=>?_
 rw[List.getElem?_take,if_pos hj,rkL_at (n+1) f (by omega)]
theorem rkL_set3 (n:Nat)(f:Nat->Rk){i:Nat}(hi:i<n)(x:Rk):(((rkL n f).set (i*3) (.int .i64 x.1)).set (i*3+1) (.int .i64 x.2.1)).set (i*3+2) (.int .i64 x.2.2)=rkL n (upd f i x):=by
 refine rkL_ext (by simp[rkL_length]) fun j hj=>?_
 by_cases e2:j=i*3+2
 ·subst e2
  rw[List.getElem?_set_self (by simp[rkL_length];omega),cellR2,upd_same]
 ·rw[List.getElem?_set_ne (by omega)]
  by_cases e1:j=i*3+1
  ·subst e1
   rw[List.getElem?_set_self (by simp[rkL_length];omega),cellR1,upd_same]
  ·rw[List.getElem?_set_ne (by omega)]
   by_cases e0:j=i*3
   ·subst e0
    rw[List.getElem?_set_self (by simp[rkL_length];omega),cellR0,upd_same]
   ·rw[List.getElem?_set_ne (by omega),rkL_at n f hj]
    unfold cellR
    rw[upd_other _ _ (show j / 3≠i by omega)]
theorem upd_swp (f:Nat->Rk)(i j:Nat):upd (upd f i (f j)) j (f i)=swp f i j:=by
 funext k
 unfold upd swp
 by_cases h1:k=j
 ·subst h1
  by_cases h2:k=i
  ·subst h2;simp
  ·simp[h2]
 ·simp[h1]
abbrev RkRow (B:Nat)(w:World)(g n cap:Nat)(f:Nat->Rk):Prop:=w.ownsRow B 287 3 (.slice (some ⟨g,0,none⟩) n cap) n (rkL n f)
theorem rk_cells {B:Nat}{w:World}{g n cap:Nat}{f:Nat->Rk}(h:RkRow B w g n cap f){i:Nat}(hi:i<n) :
  w.cell? ⟨g,i*3,none⟩=some (.int .i64 (f i).1)∧w.cell? ⟨g,i*3+1,none⟩=some (.int .i64 (f i).2.1)∧w.cell? ⟨g,i*3+2,none⟩=some (.int .i64 (f i).2.2):=by
 refine⟨?_,?_,?_⟩
 ·rw[h.cellAt _ (by omega),rkL_at n f (by omega),cellR0]
 ·rw[h.cellAt _ (by omega),rkL_at n f (by omega),cellR1]
 ·rw[h.cellAt _ (by omega),rkL_at n f (by omega),cellR2]
theorem rk_lt {B:Nat}{w:World}{g n cap:Nat}{f:Nat->Rk}(h:RkRow B w g n cap f):B<=g∧g<w.heap.size:=h.lt g rfl
theorem rk_kind {B:Nat}{w:World}{g n cap:Nat}{f:Nat->Rk}(h:RkRow B w g n cap f):∃c fz,w.heap[g]?=some (.cells c 287 fz):=Go.Lib.ownsRow_kind h g rfl
theorem rk_keep {B:Nat}{w w':World}{g n cap:Nat}{f:Nat->Rk}(h:RkRow B w g n cap f)(hb:w'.heap[g]?=w.heap[g]?):RkRow B w' g n cap f:=by
 refine⟨h.1,?_⟩
 rcases h.2 with h' | ⟨p,cap',cur,e,h1,h2,h3⟩
 ·exact .inl h'
 ·have hp:p=g:=by simp only[Value.slice.injEq,Option.some.injEq,Addr.mk.injEq] at e;exact e.1.1.symm
  subst hp
  exact .inr ⟨p,cap',cur,e,h1,by rw[hb,h2],h3⟩
theorem rk_set {B:Nat}{w:World}{g n cap:Nat}{f:Nat->Rk}(h:RkRow B w g n cap f){i:Nat}(hi:i<n)(x:Rk) :
  RkRow B (((w.setCell ⟨g,i*3,none⟩ (.int .i64 x.1)).setCell ⟨g,i*3+1,none⟩ (.int .i64 x.2.1)).setCell ⟨g,i*3+2,none⟩ (.int .i64 x.2.2)) g n cap (upd f i x):=by
 have h1:=(h.stored (i*3) (.int .i64 x.1)).1
 have h2:=(World.ownsRow.stored h1 (i*3+1) (.int .i64 x.2.1)).1
 have h3:=(World.ownsRow.stored h2 (i*3+2) (.int .i64 x.2.2)).1
 rw[rkL_set3 n f hi x] at h3
 exact h3
theorem rk_cut {B:Nat}{w:World}{g n cap:Nat}{f:Nat->Rk}(h:RkRow B w g (n+1) cap f):RkRow B w g n cap f:=by
 refine⟨rkL_length n f,?_⟩
 rcases h.2 with⟨e,_⟩|⟨p,cap',cur,e,h1,h2,h3,h4,h5,h6⟩
 ·simp at e
 ·simp only[Value.slice.injEq,Option.some.injEq,Addr.mk.injEq,and_true,true_and] at e
  obtain⟨rfl,rfl⟩:=e
  refine .inr ⟨g,cap,cur,rfl,h1,h2,by omega,h4,h5,?_⟩
  rw[<- rkL_take,<- h6,List.take_take,Nat.min_eq_left (by omega)]
structure Rkg (B:Nat)(w:World)(p g n cap:Nat)(f:Nat->Rk):Prop where
 row:RkRow B w g n cap f
 cell:w.heap[p]?=some (.cells #[.slice (some ⟨g,0,none⟩) n cap] 284 (0,0))
 atP:B<=p
theorem rk_cell1 {W:World}{b:Nat}{c0:Value}{t:TypeId}{fr:Nat×Nat}(h:W.heap[b]?=some (.cells #[c0] t fr)):W.cell? ⟨b,0,none⟩=some c0:=by
 simp[World.cell?,h]
section
variable {B:Nat}{w w':World}{p g n cap:Nat}{f:Nat->Rk}
theorem Rkg.ltP (h:Rkg B w p g n cap f):p<w.heap.size:=(Array.getElem?_eq_some_iff.1 h.cell).1
theorem Rkg.apart (h:Rkg B w p g n cap f):g≠p:=by
 intro e
 obtain⟨c,fz,h1⟩:=rk_kind h.row
 rw[e,h.cell] at h1
 simp only[Option.some.injEq,Obj.cells.injEq] at h1
 exact absurd h1.2.1 (by decide)
theorem Rkg.keep (h:Rkg B w p g n cap f)(hp:w'.heap[p]?=w.heap[p]?)(hg:w'.heap[g]?=w.heap[g]?):Rkg B w' p g n cap f :=
 ⟨rk_keep h.row hg,by rw[hp,h.cell],h.atP⟩
theorem Rkg.later (h:Rkg B w p g n cap f)(hb:Below w.heap.size w w'):Rkg B w' p g n cap f :=
 h.keep (hb.block p h.ltP) (hb.block g (rk_lt h.row).2)
theorem Rkg.aside (h:Rkg B w p g n cap f){l r:Nat}(hb:Aside l r w w')(hr:r<=B∨w.heap.size<=l):Rkg B w' p g n cap f:=by
 have h1:=h.ltP
 have h2:=rk_lt h.row
 have h3:=h.atP
 exact h.keep (hb.block p h1 (by omega)) (hb.block g h2.2 (by omega))
end
theorem Tryz.toLen (p:Nat)(v:Value)(w:World)(h:w.cell? ⟨p,0,none⟩=some v):(Go.method 444 282 (.pointer (some ⟨p,0,none⟩)) "Len").run Tryz.prog w=.ok (228,v) w:=by
 have e:∀w,(Go.method 444 282 (.pointer (some ⟨p,0,none⟩)) "Len").run Tryz.prog w=((do let v <- loadVar 284 ⟨p,0,none⟩;pure (228,v)):Sem (FuncId×Value)).run Tryz.prog w:=fun w=>by kernel_rfl
 rw[e]
 simp[loadVar,isAgg,run_underlying (show Tryz.prog.underlying 284=some (.slice 287) from rfl),h]
end Go.Proofs.YtgjoepdfhadmcaaGreatDoor
end

section
namespace Go.Proofs.YtgjoepdfhadmcaaGreatDoor
open Go.RowKit
set_option linter.unusedVariables false
set_option maxRecDepth 20000
set_option maxHeartbeats 400000 in
theorem rkLen_any (a:Option Addr)(n cap:Nat)(w:World)(hn:n<=1048576) :
  Calls Tryz.prog 228 #[.slice a n cap] w fun e w'=>e=.returned (.int .i64 (n:Int))∧w=w':=by
 go_enter Tryz.func228,Tryz.ntmps228
 go_wp2_with fail
 go_ret
 exact⟨rfl,rfl⟩
set_option maxHeartbeats 1600000 in
theorem rkLess_any (B g n cap:Nat)(f:Nat->Rk)(i j:Nat)(w:World)(h:RkRow B w g n cap f)(hi:i<n)(hj:j<n)(hn:n<=1048576) :
  Calls Tryz.prog 282 #[.slice (some ⟨g,0,none⟩) n cap,.int .i64 (i:Int),.int .i64 (j:Int)] w fun e w'=>e=.returned (.bool (decide (lessR (f i) (f j))))∧Below w.heap.size w w':=by
 obtain⟨c0,c1,c2⟩:=rk_cells h hi
 obtain⟨d0,d1,d2⟩:=rk_cells h hj
 have hi2:(i:Int)<(n:Int):=by omega
 have hj2:(j:Int)<(n:Int):=by omega
 have hg:=(rk_lt h).2
 have hg1:¬g=w.heap.size:=by omega
 have hg2:¬g=w.heap.size+1:=by omega
 clear h
 obtain⟨x,hx⟩:∃x,f i=x:=⟨_,rfl⟩
 obtain⟨y,hy⟩:∃y,f j=y:=⟨_,rfl⟩
 rw[hx] at c0 c1 c2
 rw[hy] at d0 d1 d2
 rw[hx,hy]
 obtain⟨x0,x1,x2⟩:=x
 obtain⟨y0,y1,y2⟩:=y
 dsimp only at c0 c1 c2 d0 d1 d2
 clear hx hy
 have HB:Hid (∀o1 o2,Below w.heap.size w ((w.alloc o1).alloc o2).drew):=fun o1 o2=>(((Below.refl _ _).alloc (Nat.le_refl _) o1).alloc (by simp) o2).drew
 go_enter Tryz.func282,Tryz.ntmps282
 go_wp2_with fail
 go_region
 all_goals
  by_cases h0:x0=y0
  ·subst h0
   by_cases h1:x1=y1
   ·subst h1
    go_wp2_with fail
    go_ret
    exact⟨ret_bool (by unfold lessR;simp),(HB.out _ _)⟩
   ·go_wp2_with fail
    go_ret
    exact⟨ret_bool (by unfold lessR;simp[h1]),(HB.out _ _)⟩
  ·go_wp2_with fail
   go_ret
   exact⟨ret_bool (by unfold lessR;simp[h0]),(HB.out _ _)⟩
theorem rk_drew {B:Nat}{w:World}{g n cap:Nat}{f:Nat->Rk}(h:RkRow B w g n cap f):RkRow B w.drew g n cap f:=h
theorem Aside.drew' {lo hi:Nat}{w w':World}(h:Aside lo hi w w'):Aside lo hi w w'.drew:=⟨h.os,h.tape,h.output,h.size,h.block⟩
def put3 (w:World)(g i:Nat)(x:Rk):World:=((w.setCell ⟨g,i*3,none⟩ (.int .i64 x.1)).setCell ⟨g,i*3+1,none⟩ (.int .i64 x.2.1)).setCell ⟨g,i*3+2,none⟩ (.int .i64 x.2.2)
theorem put3_aside (w:World)(g i:Nat)(x:Rk):Aside g (g+1) w (put3 w g i x) :=
 (((Aside.refl g (g+1) w).setCell (p:=⟨g,i*3,none⟩) (Nat.le_refl _) (Nat.lt_succ_self _) _).setCell (p:=⟨g,i*3+1,none⟩) (Nat.le_refl _) (Nat.lt_succ_self _) _).setCell (p:=⟨g,i*3+2,none⟩) (Nat.le_refl _) (Nat.lt_succ_self _) _
set_option maxHeartbeats 1600000 in
theorem rkSwap_any (B g n cap:Nat)(f:Nat->Rk)(i j:Nat)(w:World)(h:RkRow B w g n cap f)(hi:i<n)(hj:j<n)(hn:n<=1048576) :
  Calls Tryz.prog 285 #[.slice (some ⟨g,0,none⟩) n cap,.int .i64 (i:Int),.int .i64 (j:Int)] w fun e w'=>e=.returned (.tuple #[])∧RkRow B w' g n cap (swp f i j)∧Aside g (g+1) w w':=by
 obtain⟨c0,c1,c2⟩:=rk_cells h hi
 obtain⟨d0,d1,d2⟩:=rk_cells h hj
 have e0:=h.frozenAt (i*3)
 have e1:=h.frozenAt (i*3+1)
 have e2:=h.frozenAt (i*3+2)
 have f0:=h.frozenAt (j*3)
 have f1:=h.frozenAt (j*3+1)
 have f2:=h.frozenAt (j*3+2)
 have hi2:(i:Int)<(n:Int):=by omega
 have hj2:(j:Int)<(n:Int):=by omega
 have HR:=hide h
 clear h
 by_cases hij:i=j
 ·subst hij
  obtain⟨x,hx⟩:∃x,f i=x:=⟨_,rfl⟩
  have HX:=hide hx
  rw[hx] at c0 c1 c2
  clear hx hj2 f0 f1 f2 d0 d1 d2
  obtain⟨x0,x1,x2⟩:=x
  dsimp only at c0 c1 c2
  go_enter Tryz.func285,Tryz.ntmps285
  go_wp2_with fail
  go_region
  go_wp2_with fail
  go_end0
  have r1:=rk_set HR.out hi (x0,x1,x2)
  have r2:=rk_set r1 hi (x0,x1,x2)
  have e:upd (upd f i (x0,x1,x2)) i (x0,x1,x2)=swp f i i:=by rw[<- HX.out,upd_swp]
  rw[e] at r2
  exact⟨rfl,rk_drew r2,Aside.drew' ((put3_aside w g i (x0,x1,x2)).trans (put3_aside _ g i (x0,x1,x2)))⟩
 ·have n0:¬j=i:=by omega
  have n1:¬j*3=i*3+1:=by omega
  have n2:¬j*3=i*3+2:=by omega
  have n3:¬j*3+1=i*3:=by omega
  have n4:¬j*3+2=i*3:=by omega
  have n5:¬i*3=j*3+1:=by omega
  have n6:¬i*3=j*3+2:=by omega
  have n7:¬i*3+1=j*3:=by omega
  have n8:¬i*3+2=j*3:=by omega
  obtain⟨x,hx⟩:∃x,f i=x:=⟨_,rfl⟩
  obtain⟨y,hy⟩:∃y,f j=y:=⟨_,rfl⟩
  have HX:=hide hx
  have HY:=hide hy
  rw[hx] at c0 c1 c2
  rw[hy] at d0 d1 d2
  clear hx hy
  obtain⟨x0,x1,x2⟩:=x
  obtain⟨y0,y1,y2⟩:=y
  dsimp only at c0 c1 c2 d0 d1 d2
  go_enter Tryz.func285,Tryz.ntmps285
  go_wp2_with fail
  go_region
  go_wp2_with fail
  go_end0
  have r1:=rk_set HR.out hi (y0,y1,y2)
  have r2:=rk_set r1 hj (x0,x1,x2)
  have e:upd (upd f i (y0,y1,y2)) j (x0,x1,x2)=swp f i j:=by rw[<- HX.out,<- HY.out,upd_swp]
  rw[e] at r2
  exact⟨rfl,rk_drew r2,Aside.drew' ((put3_aside w g i (y0,y1,y2)).trans (put3_aside _ g j (x0,x1,x2)))⟩
end Go.Proofs.YtgjoepdfhadmcaaGreatDoor
end

section
namespace Go.Proofs.YtgjoepdfhadmcaaGreatDoor
open Go.RowKit
set_option linter.unusedVariables false
set_option maxRecDepth 20000
abbrev rkV (x:Rk):Value:=.agg #[.int .i64 x.1,.int .i64 x.2.1,.int .i64 x.2.2]
theorem Tryz.infoRk:(Tryz.prog.info? 287).map (fun i=>(i.zero,i.size,i.bytes))=some (some (.agg #[.int .i64 0,.int .i64 0,.int .i64 0]),3,24):=by kernel_rfl
theorem Tryz.asRk (v:Value)(w:World):(Instr.typeAssert (.iface 287 v) 20 287 false).run Tryz.prog w=.ok v w:=by kernel_rfl
theorem Tryz.toLess (p:Nat)(v:Value)(w:World)(h:w.cell? ⟨p,0,none⟩=some v):(Go.method 444 282 (.pointer (some ⟨p,0,none⟩)) "Less").run Tryz.prog w=.ok (282,v) w:=by
 have e:∀w,(Go.method 444 282 (.pointer (some ⟨p,0,none⟩)) "Less").run Tryz.prog w=((do let v <- loadVar 284 ⟨p,0,none⟩;pure (282,v)):Sem (FuncId×Value)).run Tryz.prog w:=fun w=>by kernel_rfl
 rw[e]
 simp[loadVar,isAgg,run_underlying (show Tryz.prog.underlying 284=some (.slice 287) from rfl),h]
theorem Tryz.toSwap (p:Nat)(v:Value)(w:World)(h:w.cell? ⟨p,0,none⟩=some v):(Go.method 444 282 (.pointer (some ⟨p,0,none⟩)) "Swap").run Tryz.prog w=.ok (285,v) w:=by
 have e:∀w,(Go.method 444 282 (.pointer (some ⟨p,0,none⟩)) "Swap").run Tryz.prog w=((do let v <- loadVar 284 ⟨p,0,none⟩;pure (285,v)):Sem (FuncId×Value)).run Tryz.prog w:=fun w=>by kernel_rfl
 rw[e]
 simp[loadVar,isAgg,run_underlying (show Tryz.prog.underlying 284=some (.slice 287) from rfl),h]
theorem Tryz.toPush (p:Nat)(w:World):(Go.method 444 282 (.pointer (some ⟨p,0,none⟩)) "Push").run Tryz.prog w=.ok (284,.pointer (some ⟨p,0,none⟩)) w:=by kernel_rfl
theorem Tryz.toPop (p:Nat)(w:World):(Go.method 444 282 (.pointer (some ⟨p,0,none⟩)) "Pop").run Tryz.prog w=.ok (283,.pointer (some ⟨p,0,none⟩)) w:=by kernel_rfl
theorem Rkg.setCell {B:Nat}{w:World}{p g n cap:Nat}{f:Nat->Rk}(h:RkRow B w g n cap f){v:Value}(hp:w.heap[p]?=some (.cells #[v] 284 (0,0)))(hB:B<=p):Rkg B (w.setCell ⟨p,0,none⟩ (.slice (some ⟨g,0,none⟩) n cap)) p g n cap f:=by
 have hne:g≠p:=by
  intro e
  obtain⟨c,fz,h1⟩:=rk_kind h
  rw[e,hp] at h1
  simp only[Option.some.injEq,Obj.cells.injEq] at h1
  exact absurd h1.2.1 (by decide)
 exact⟨rk_keep h (Go.Deep.blk_setCell_other _ _ _ _ hne),set_block hp 0 _ (by simp),hB⟩
set_option maxHeartbeats 1600000 in
theorem rkPop_any (B p g n cap:Nat)(f:Nat->Rk)(w:World)(h:Rkg B w p g (n+1) cap f)(hn:n<1048576) :
  Calls Tryz.prog 283 #[.pointer (some ⟨p,0,none⟩)] w fun e w'=>e=.returned (.iface 287 (rkV (f n)))∧Rkg B w' p g n cap f∧Aside p (p+1) w w':=by
 obtain⟨c0,c1,c2⟩:=rk_cells h.row (Nat.lt_succ_self n)
 have hp:=rk_cell1 h.cell
 have hf:=four_frozen h.cell 0
 have HP:=hide h.ltP
 have hpn:p<w.heap.size:=h.ltP
 have hcap:n+1<=cap:=by
  rcases h.row.2 with⟨e,_⟩|⟨p,cap',cur,e,h1,h2,h3,h4,h5,h6⟩
  ·simp at e
  ·simp only[Value.slice.injEq] at e
   omega
 have HR:=hide h
 clear h
 obtain⟨x,hx⟩:∃x,f n=x:=⟨_,rfl⟩
 have HX:=hide hx
 rw[hx] at c0 c1 c2
 rw[hx]
 clear hx
 obtain⟨x0,x1,x2⟩:=x
 dsimp only at c0 c1 c2
 have hi2:(n:Int)<(n:Int)+1:=by omega
 have HS:=hide (Rkg.setCell (rk_cut HR.out.row) HR.out.cell HR.out.atP)
 have HA:=hide ((Aside.refl p (p+1) w).setCell (p:=⟨p,0,none⟩) (Nat.le_refl _) (Nat.lt_succ_self _) (.slice (some ⟨g,0,none⟩) n cap))
 go_enter Tryz.func283,Tryz.ntmps283
 go_wp2_with fail
 go_ret
 exact⟨rfl,HS.out.later ((Below.refl _ _).alloc (Nat.le_refl _) _),HA.out.thenAlloc _⟩
theorem three_news (w:World)(x:Rk)(t:TypeId):∀j u,[Value.int .i64 x.1,.int .i64 x.2.1,.int .i64 x.2.2][j]?=some u->(w.alloc (.cells #[.int .i64 x.1,.int .i64 x.2.1,.int .i64 x.2.2] t)).cell? ((⟨w.heap.size,0,none⟩:Addr).add j)=some u:=by
 intro j u hj
 have h:=heap_new w (.cells #[.int .i64 x.1,.int .i64 x.2.1,.int .i64 x.2.2] t)
 obtain⟨c0,c1,c2⟩:=three_cells h
 have hadd:(⟨w.heap.size,0,none⟩:Addr).add j=⟨w.heap.size,j,none⟩:=by unfold Addr.add;split<;>simp_all
 rw[hadd]
 match j,hj with
 | 0,hj=>rw[c0];exact hj
 | 1,hj=>rw[c1];exact hj
 | 2,hj=>rw[c2];exact hj
 | j+3,hj=>simp at hj
theorem rk_one (x:Rk):∀u∈[Value.int .i64 x.1,.int .i64 x.2.1,.int .i64 x.2.2],u.oneCell'=true:=by
 intro u hu
 simp only[List.mem_cons,List.not_mem_nil,or_false] at hu
 rcases hu with rfl|rfl|rfl<;>rfl
set_option maxHeartbeats 1600000 in
theorem rkPush_any (B p g n cap:Nat)(f:Nat->Rk)(x:Rk)(w:World)(h:Rkg B w p g n cap f)(hn:n<1048576)(hB:B<=w.heap.size) :
  Calls Tryz.prog 284 #[.pointer (some ⟨p,0,none⟩),.iface 287 (rkV x)] w fun e w'=>e=.returned (.tuple #[])∧∃g' cap',Rkg B w' p g' (n+1) cap' (upd f n x)∧Below B w w':=by
 have hp:=rk_cell1 h.cell
 have hf:=four_frozen h.cell 0
 have hpn:p<w.heap.size:=h.ltP
 have q0:=Tryz.asRk (rkV x)
 obtain⟨i0,hi0,hzz0,hzz1,hzz2⟩:=info_parts Tryz.infoRk
 obtain⟨wA,hwA⟩:∃wA,wA=w.alloc (.cells #[.int .i64 x.1,.int .i64 x.2.1,.int .i64 x.2.2] 287):=⟨_,rfl⟩
 have hzA:wA.heap.size=w.heap.size+1:=by rw[hwA];simp
 have HBA:Hid (Below w.heap.size w wA):=by rw[hwA];exact(Below.refl _ _).alloc (Nat.le_refl _) _
 have HRA:=hide (h.later HBA.out)
 have HNW:=hide (three_news w x 287)
 rw[<- hwA] at HNW
 have HNE:Hid (some p≠(Value.slice (some ⟨g,0,none⟩) n cap).ownBlock):=by show _≠_;intro e;simp only[Value.ownBlock,Option.some.injEq] at e;exact h.apart e.symm
 have tA:(w.alloc (.cells #[.int .i64 x.1,.int .i64 x.2.1,.int .i64 x.2.2] 287)).cell? ⟨p,0,none⟩=some (.slice (some ⟨g,0,none⟩) n cap):=by rw[<- hwA];exact rk_cell1 HRA.out.cell
 have tF:(w.alloc (.cells #[.int .i64 x.1,.int .i64 x.2.1,.int .i64 x.2.2] 287)).frozen? ⟨p,0,none⟩=false:=by rw[<- hwA];exact four_frozen HRA.out.cell 0
 have HR:=hide h
 clear h
 go_enter Tryz.func284,Tryz.ntmps284
 go_wp2_with fail
 go_region_law (first
  | (refine step_append_lies _ (by rfl) _ _ _ (by rfl) B 287 i0 (.agg #[.int .i64 0,.int .i64 0,.int .i64 0]) 3 24 Tryz.underlying284 hi0 hzz0 hzz1 hzz2 rfl (by decide) (.slice (some ⟨g,0,none⟩) n cap) n (rkL n f) (by rfl) (by rw[<- hwA];exact HRA.out.row) ⟨w.heap.size,0,none⟩ 1 1 [.int .i64 x.1,.int .i64 x.2.1,.int .i64 x.2.2] (by rfl) rfl (by rw[<- hwA];exact HNW.out) (rk_one x) (by omega) (by unfold maxLen;omega) (by omega) (by rw[<- hwA];show B<=wA.heap.size;omega) (w.heap.size+1) (by simp) ?_;intro g' c' w5 hown5 hgr5 hat5 hlt5;have c5:=(hgr5.cell_far ⟨p,0,none⟩ (by simp;omega) HNE.out).trans tA;have f5:=(hgr5.frozen_far ⟨p,0,none⟩ (by simp;omega) HNE.out).trans tF;have HO5:=hide hown5;have HR5:=hide hgr5;clear hown5 hgr5 hat5))
 all_goals
  have HR6:Hid (wA.grownBy w5 (some g)):=by rw[hwA];exact⟨HR5.out.os,HR5.out.tape,HR5.out.output,HR5.out.size,HR5.out.block⟩
  have HN5:Hid (RkRow B w5 g' (n+1) c' (upd f n x)):=by have h9:=HO5.out;rw[rkL_snoc] at h9;exact h9
  have HP5:Hid (w5.heap[p]?=some (.cells #[.slice (some ⟨g,0,none⟩) n cap] 284 (0,0))):=(HR6.out.block p (by omega) HNE.out).trans HRA.out.cell
  have HF:=hide (Rkg.setCell HN5.out HP5.out HR.out.atP)
  have HB5:=hide (((HBA.out.mono hB).grown HR6.out (by omega) (fun k hk=>(HRA.out.row.lt k hk).1)).setCell (p:=⟨p,0,none⟩) HR.out.atP (.slice (some ⟨g',0,none⟩) (n+1) c'))
  go_wp2_with fail
  go_end0
  exact⟨rfl,g',c',HF.out,HB5.out⟩
end Go.Proofs.YtgjoepdfhadmcaaGreatDoor
end

section
namespace Go.Proofs.YtgjoepdfhadmcaaGreatDoor
open Go.RowKit
set_option linter.unusedVariables false
set_option maxRecDepth 20000
set_option maxHeartbeats 1600000 in
theorem up_any (B p g n cap:Nat)(f:Nat->Rk)(j:Nat)(w:World)(h:Rkg B w p g n cap f)(hj:j<n)(hu:UpR n f j)(hn:n<=1048576) :
  Calls Tryz.prog 235 #[.iface 282 (.pointer (some ⟨p,0,none⟩)),.int .i64 (j:Int)] w fun e w'=>e=.returned (.tuple #[])∧∃f',Rkg B w' p g n cap f'∧HeapR n f'∧SameR n f f'∧Aside g (g+1) w w':=by
 have HR:=hide h
 have HU:=hide hu
 clear h hu
 go_enter Tryz.func235,Tryz.ntmps235
 go_wp2_with fail
 go_loopw [1] (fun jv wr=>∃(k:Nat) (f':Nat->Rk),k<n∧jv=.int .i64 (k:Int)∧Rkg B wr p g n cap f'∧UpR n f' k∧SameR n f f'∧Aside g (g+1) w wr) (fun jv _=>(intOf jv).toNat)
 case atStart=>exact⟨j,f,hj,rfl,HR.out,HU.out,SameR.refl _ _,Aside.refl _ _ _⟩
 case round =>
  obtain⟨k,f',hk,rfl,hR,hU,hS,hA⟩:=hrel
  have HRR:=hide hR
  have HUU:=hide hU
  have HSS:=hide hS
  have HAA:=hide hA
  clear hR hU hS hA
  by_cases h0:k=0
  ·subst h0
   simp only[show((0:Nat):Int)=0 from rfl]
   go_wp2_with fail
   go_end0
   exact⟨rfl,f',HRR.out,HUU.out.stop (.inl rfl),HSS.out,HAA.out⟩
  ·obtain⟨m,rfl⟩:∃m,k=m+1:=⟨k-1,by omega⟩
   obtain⟨i,hi⟩:∃i,i=m / 2:=⟨_,rfl⟩
   have hm2:(m:Int) / 2=(i:Int):=by omega
   have hile:i<m+1:=by omega
   have g1:((i:Int)==((m+1:Nat):Int))=false:=by simp;omega
   have g2:¬((i:Int)=((m+1:Nat):Int)):=by omega
   have g3:¬((i:Int)=(m:Int)+1):=by omega
   have g4:¬(i=m+1):=by omega
   have HI:Hid ((m+1-1) / 2=i):=by show _=_;omega
   clear hi
   have hcell:=rk_cell1 HRR.out.cell
   have q1:=Tryz.toLess p _ wr hcell
   go_wp2_with fail
   refine(rkLess_any B g n cap f' (m+1) i wr HRR.out.row hk (by omega) hn).mono ?_
   rintro e w1 ⟨rfl,b1⟩
   have HR1:=hide (HRR.out.later b1)
   have HA1:=hide (HAA.out.thenBelow b1 HAA.out.size)
   clear b1 q1 hcell
   by_cases hless:lessR (f' (m+1)) (f' i)
   ·rw[decide_eq_true hless]
    have HST:=hide (HUU.out.step (by omega) hk (by rw[HI.out];exact hless))
    rw[HI.out] at HST
    clear hless
    have hcell:=rk_cell1 HR1.out.cell
    have q2:=Tryz.toSwap p _ w1 hcell
    go_wp2_with fail
    refine(rkSwap_any B g n cap f' i (m+1) w1 HR1.out.row (by omega) hk hn).mono ?_
    rintro e w2 ⟨rfl,r2,a2⟩
    have HA2:=hide (HA1.out.trans a2)
    have HR2:Hid (Rkg B w2 p g n cap (swp f' i (m+1))):=⟨r2,(a2.block p HR1.out.ltP (by have:=HR1.out.apart;omega)).trans HR1.out.cell,HR1.out.atP⟩
    clear r2 a2 q2 hcell
    go_wp2_with fail
    go_roundw
    case rel=>exact⟨i,swp f' i (m+1),by omega,rfl,HR2.out,HST.out,HSS.out.trans (SameR.swp f' (by omega) hk),HA2.out⟩
    case measure=>simp[intOf];omega
   ·rw[decide_eq_false hless]
    have HST:=hide (HUU.out.stop (.inr (by rw[HI.out];exact hless)))
    clear hless
    go_wp2_with fail
    go_end0
    exact⟨rfl,f',HR1.out,HST.out,HSS.out,HA1.out⟩
set_option maxHeartbeats 3200000 in
theorem down_any (B p g N cap:Nat)(f:Nat->Rk)(n:Nat)(w:World)(h:Rkg B w p g N cap f)(hnN:n<=N)(hd:DownR n f 0)(hN:N<=1048576) :
  Calls Tryz.prog 243 #[.iface 282 (.pointer (some ⟨p,0,none⟩)),.int .i64 0,.int .i64 (n:Int)] w fun e w'=>∃v,e=.returned v∧∃f',Rkg B w' p g N cap f'∧HeapR n f'∧SameR n f f'∧(∀x,n<=x->f' x=f x)∧Aside g (g+1) w w':=by
 have HR:=hide h
 have HD:=hide hd
 clear h hd
 go_enter Tryz.func243,Tryz.ntmps243
 go_wp2_with fail
 go_loopw [7] (fun iv wr=>∃(k:Nat) (f':Nat->Rk),k<=n∧iv=.int .i64 (k:Int)∧Rkg B wr p g N cap f'∧DownR n f' k∧SameR n f f'∧(∀x,n<=x->f' x=f x)∧Aside g (g+1) w wr) (fun iv _=>n-(intOf iv).toNat)
 case atStart=>exact⟨0,f,Nat.zero_le _,rfl,HR.out,HD.out,SameR.refl _ _,fun _ _=>rfl,Aside.refl _ _ _⟩
 case round =>
  obtain⟨k,f',hk,rfl,hR,hU,hS,hK,hA⟩:=hrel
  have HRR:=hide hR
  have HDD:=hide hU
  have HSS:=hide hS
  have HKK:=hide hK
  have HAA:=hide hA
  clear hR hU hS hK hA HR HD
  obtain⟨a,ha⟩:∃a,a=2*k+1:=⟨_,rfl⟩
  obtain⟨b,hb⟩:∃b,b=a+1:=⟨_,rfl⟩
  have e1:2*(k:Int)+1=(a:Int):=by omega
  have e2:(a:Int)+1=(b:Int):=by omega
  have l1:¬(a:Int)<0:=by omega
  have HEQ:Hid (a=2*k+1∧b=2*k+2):=⟨ha,by omega⟩
  have hka:k<a:=by omega
  have hkb:k<b:=by omega
  clear ha hb
  by_cases h1:a<n
  ·have g1:decide ((a:Int)>=(n:Int))=false:=by simp;omega
   have hkn:k<N:=by omega
   have haN:a<N:=by omega
   by_cases h2:b<n
   ·have g2:decide ((b:Int)<(n:Int))=true:=by simp;omega
    have hbN:b<N:=by omega
    have hcell:=rk_cell1 HRR.out.cell
    have q1:=Tryz.toLess p _ wr hcell
    go_wp2_with fail
    refine(rkLess_any B g N cap f' b a wr HRR.out.row hbN haN hN).mono ?_
    rintro e w1 ⟨rfl,b1⟩
    have HR1:=hide (HRR.out.later b1)
    have HA1:=hide (HAA.out.thenBelow b1 HAA.out.size)
    clear b1 q1 hcell
    by_cases hba:lessR (f' b) (f' a)
    ·rw[decide_eq_true hba]
     have HMIN:Hid (∀x,(x=2*k+1∨x=2*k+2)->x<n->¬lessR (f' x) (f' b)):=fun x hx _=>by
      rcases hx with e|e
      ·rw[e,<- HEQ.out.1];exact leR_of_less hba
      ·rw[e,<- HEQ.out.2];exact fun hh=>lessR_asymm hh hh
     have HEND:Hid (¬lessR (f' b) (f' k)->(2*k+1<n->¬lessR (f' (2*k+1)) (f' k))∧(2*k+2<n->¬lessR (f' (2*k+2)) (f' k))):=fun hh=>by
      rw[<- HEQ.out.1,<- HEQ.out.2]
      exact⟨fun _=>leR_trans hh (leR_of_less hba),fun _=>hh⟩
     clear hba
     have hcell:=rk_cell1 HR1.out.cell
     have q1:=Tryz.toLess p _ w1 hcell
     go_wp2_with fail
     refine(rkLess_any B g N cap f' b k w1 HR1.out.row (by omega) (by omega) hN).mono ?_
     rintro e w2 ⟨rfl,b2⟩
     have HR2:=hide (HR1.out.later b2)
     have HA2:=hide (HA1.out.thenBelow b2 HA1.out.size)
     clear b2 q1 hcell
     by_cases hless:lessR (f' b) (f' k)
     ·rw[decide_eq_true hless]
      have HST:=hide (HDD.out.step (j:=b) (.inr HEQ.out.2) (by omega) hless HMIN.out)
      clear hless
      have hcell:=rk_cell1 HR2.out.cell
      have q2:=Tryz.toSwap p _ w2 hcell
      go_wp2_with fail
      refine(rkSwap_any B g N cap f' k b w2 HR2.out.row (by omega) (by omega) hN).mono ?_
      rintro e w3 ⟨rfl,r3,a3⟩
      have HA3:=hide (HA2.out.trans a3)
      have HR3:Hid (Rkg B w3 p g N cap (swp f' k b)):=⟨r3,(a3.block p HR2.out.ltP (by have:=HR2.out.apart;omega)).trans HR2.out.cell,HR2.out.atP⟩
      clear r3 a3 q2 hcell
      go_wp2_with fail
      go_roundw
      case rel=>exact⟨b,swp f' k b,by omega,rfl,HR3.out,HST.out,HSS.out.trans (SameR.swp f' (by omega) (by omega)),(fun x hx=>by rw[swp_o f' k b (by omega) (by omega)];exact HKK.out x hx),HA3.out⟩
      case measure=>simp[intOf];omega
     ·rw[decide_eq_false hless]
      have HST:=hide (HDD.out.stop (HEND.out hless).1 (HEND.out hless).2)
      clear hless
      go_wp2_with fail
      go_ret
      exact⟨_,rfl,f',HR2.out,HST.out,HSS.out,HKK.out,HA2.out⟩
    ·rw[decide_eq_false hba]
     have HMIN:Hid (∀x,(x=2*k+1∨x=2*k+2)->x<n->¬lessR (f' x) (f' a)):=fun x hx _=>by
      rcases hx with e|e
      ·rw[e,<- HEQ.out.1];exact fun hh=>lessR_asymm hh hh
      ·rw[e,<- HEQ.out.2];exact hba
     have HEND:Hid (¬lessR (f' a) (f' k)->(2*k+1<n->¬lessR (f' (2*k+1)) (f' k))∧(2*k+2<n->¬lessR (f' (2*k+2)) (f' k))):=fun hh=>by
      rw[<- HEQ.out.1,<- HEQ.out.2]
      exact⟨fun _=>hh,fun _=>leR_trans hh hba⟩
     clear hba
     have hcell:=rk_cell1 HR1.out.cell
     have q1:=Tryz.toLess p _ w1 hcell
     go_wp2_with fail
     refine(rkLess_any B g N cap f' a k w1 HR1.out.row (by omega) (by omega) hN).mono ?_
     rintro e w2 ⟨rfl,b2⟩
     have HR2:=hide (HR1.out.later b2)
     have HA2:=hide (HA1.out.thenBelow b2 HA1.out.size)
     clear b2 q1 hcell
     by_cases hless:lessR (f' a) (f' k)
     ·rw[decide_eq_true hless]
      have HST:=hide (HDD.out.step (j:=a) (.inl HEQ.out.1) (by omega) hless HMIN.out)
      clear hless
      have hcell:=rk_cell1 HR2.out.cell
      have q2:=Tryz.toSwap p _ w2 hcell
      go_wp2_with fail
      refine(rkSwap_any B g N cap f' k a w2 HR2.out.row (by omega) (by omega) hN).mono ?_
      rintro e w3 ⟨rfl,r3,a3⟩
      have HA3:=hide (HA2.out.trans a3)
      have HR3:Hid (Rkg B w3 p g N cap (swp f' k a)):=⟨r3,(a3.block p HR2.out.ltP (by have:=HR2.out.apart;omega)).trans HR2.out.cell,HR2.out.atP⟩
      clear r3 a3 q2 hcell
      go_wp2_with fail
      go_roundw
      case rel=>exact⟨a,swp f' k a,by omega,rfl,HR3.out,HST.out,HSS.out.trans (SameR.swp f' (by omega) (by omega)),(fun x hx=>by rw[swp_o f' k a (by omega) (by omega)];exact HKK.out x hx),HA3.out⟩
      case measure=>simp[intOf];omega
     ·rw[decide_eq_false hless]
      have HST:=hide (HDD.out.stop (HEND.out hless).1 (HEND.out hless).2)
      clear hless
      go_wp2_with fail
      go_ret
      exact⟨_,rfl,f',HR2.out,HST.out,HSS.out,HKK.out,HA2.out⟩
   ·have g2:decide ((b:Int)<(n:Int))=false:=by simp;omega
    have HMIN:Hid (∀x,(x=2*k+1∨x=2*k+2)->x<n->¬lessR (f' x) (f' a)):=fun x hx hxn=>by
     rcases hx with e|e
     ·rw[e,<- HEQ.out.1];exact fun hh=>lessR_asymm hh hh
     ·have:=HEQ.out.2;omega
    have HEND:Hid (¬lessR (f' a) (f' k)->(2*k+1<n->¬lessR (f' (2*k+1)) (f' k))∧(2*k+2<n->¬lessR (f' (2*k+2)) (f' k))):=fun hh=>by
     rw[<- HEQ.out.1,<- HEQ.out.2]
     exact⟨fun _=>hh,fun hh=>absurd hh (by omega)⟩
    have hcell:=rk_cell1 HRR.out.cell
    have q1:=Tryz.toLess p _ wr hcell
    go_wp2_with fail
    refine(rkLess_any B g N cap f' a k wr HRR.out.row (by omega) (by omega) hN).mono ?_
    rintro e w2 ⟨rfl,b2⟩
    have HR2:=hide (HRR.out.later b2)
    have HA2:=hide (HAA.out.thenBelow b2 HAA.out.size)
    clear b2 q1 hcell
    by_cases hless:lessR (f' a) (f' k)
    ·rw[decide_eq_true hless]
     have HST:=hide (HDD.out.step (j:=a) (.inl HEQ.out.1) (by omega) hless HMIN.out)
     clear hless
     have hcell:=rk_cell1 HR2.out.cell
     have q2:=Tryz.toSwap p _ w2 hcell
     go_wp2_with fail
     refine(rkSwap_any B g N cap f' k a w2 HR2.out.row (by omega) (by omega) hN).mono ?_
     rintro e w3 ⟨rfl,r3,a3⟩
     have HA3:=hide (HA2.out.trans a3)
     have HR3:Hid (Rkg B w3 p g N cap (swp f' k a)):=⟨r3,(a3.block p HR2.out.ltP (by have:=HR2.out.apart;omega)).trans HR2.out.cell,HR2.out.atP⟩
     clear r3 a3 q2 hcell
     go_wp2_with fail
     go_roundw
     case rel=>exact⟨a,swp f' k a,by omega,rfl,HR3.out,HST.out,HSS.out.trans (SameR.swp f' (by omega) (by omega)),(fun x hx=>by rw[swp_o f' k a (by omega) (by omega)];exact HKK.out x hx),HA3.out⟩
     case measure=>simp[intOf];omega
    ·rw[decide_eq_false hless]
     have HST:=hide (HDD.out.stop (HEND.out hless).1 (HEND.out hless).2)
     clear hless
     go_wp2_with fail
     go_ret
     exact⟨_,rfl,f',HR2.out,HST.out,HSS.out,HKK.out,HA2.out⟩
  ·have g1:decide ((a:Int)>=(n:Int))=true:=by simp;omega
   have HST:=hide (HDD.out.stop (fun hh=>absurd hh (by rw[<- HEQ.out.1];exact h1)) (fun hh=>absurd hh (by have:=HEQ.out.1;omega)))
   go_wp2_with fail
   go_ret
   all_goals first|exact⟨_,rfl,f',HRR.out,HST.out,HSS.out,HKK.out,HAA.out⟩|exact⟨⟨_,rfl⟩,f',HRR.out,HST.out,HSS.out,HKK.out,HAA.out⟩
end Go.Proofs.YtgjoepdfhadmcaaGreatDoor
end

section
namespace Go.Proofs.YtgjoepdfhadmcaaGreatDoor
open Go.RowKit
set_option linter.unusedVariables false
set_option maxRecDepth 20000
theorem HeapR.upd {n:Nat}{f:Nat->Rk}(h:HeapR n f)(x:Rk):HeapR n (upd f n x):=by
 intro k h1 h2
 rw[upd_other _ _ (show k≠n by omega),upd_other _ _ (show(k-1) / 2≠n by omega)]
 exact h k h1 h2
set_option maxHeartbeats 1600000 in
theorem heapPush_any (B p g n cap:Nat)(f:Nat->Rk)(x:Rk)(w:World)(h:Rkg B w p g n cap f)(hh:HeapR n f)(hn:n<1048576)(hB:B<=w.heap.size) :
  Calls Tryz.prog 227 #[.iface 282 (.pointer (some ⟨p,0,none⟩)),.iface 287 (rkV x)] w fun e w'=>e=.returned (.tuple #[])∧∃g' cap' f',Rkg B w' p g' (n+1) cap' f'∧HeapR (n+1) f'∧SameR (n+1) (upd f n x) f'∧Below B w w':=by
 have HR:=hide h
 have HH:=hide hh
 have q0:=Tryz.toPush p
 clear h hh
 go_enter Tryz.func227,Tryz.ntmps227
 go_wp2_with fail
 refine(rkPush_any B p g n cap f x w HR.out hn hB).mono ?_
 rintro e w1 ⟨rfl,g',cap',r1,b1⟩
 have HR1:=hide r1
 have HB1:=hide b1
 have hs1:=b1.size
 have hcell:=rk_cell1 r1.cell
 have q1:=Tryz.toLen p _ w1 hcell
 clear r1 b1 q0
 go_wp2_with fail
 refine(rkLen_any _ (n+1) cap' w1 (by omega)).mono ?_
 rintro e w2 ⟨rfl,rfl⟩
 clear q1 hcell
 go_wp2_with fail
 refine(up_any B p g' (n+1) cap' (upd f n x) n w1 HR1.out (by omega) (UpR.start (HH.out.upd x)) (by omega)).mono ?_
 rintro e w2 ⟨rfl,f',r2,h2,s2,a2⟩
 have HR2:=hide r2
 have HH2:=hide h2
 have HS2:=hide s2
 have HB2:=hide (HB1.out.trans (a2.below (rk_lt HR1.out.row).1 (by omega)))
 clear r2 h2 s2 a2
 go_wp2_with fail
 go_end0
 exact⟨rfl,g',cap',f',HR2.out,HH2.out,HS2.out,HB2.out⟩
set_option maxHeartbeats 1600000 in
theorem heapPop_any (B p g n cap:Nat)(f:Nat->Rk)(H:Nat)(w:World)(h:Rkg B w p g (n+1) cap f)(hh:HeapR (n+1) f)(hn:n<1048576)(hpH:p<H)(hgH:g<H) :
  Calls Tryz.prog 236 #[.iface 282 (.pointer (some ⟨p,0,none⟩))] w fun e w'=>e=.returned (.iface 287 (rkV (f 0)))∧∃f',Rkg B w' p g n cap f'∧HeapR n f'∧SameR n (swp f 0 n) f'∧Aside B H w w':=by
 have HR:=hide h
 have HH:=hide hh
 have hcell:=rk_cell1 h.cell
 have q1:=Tryz.toLen p _ w hcell
 have q2:=Tryz.toSwap p _ w hcell
 clear h hh
 go_enter Tryz.func236,Tryz.ntmps236
 go_wp2_with fail
 refine(rkLen_any _ (n+1) cap w (by omega)).mono ?_
 rintro e w1 ⟨rfl,rfl⟩
 go_wp2_with fail
 refine(rkSwap_any B g (n+1) cap f 0 n w HR.out.row (by omega) (by omega) (by omega)).mono ?_
 rintro e w1 ⟨rfl,r1,a1⟩
 have HR1:Hid (Rkg B w1 p g (n+1) cap (swp f 0 n)):=⟨r1,(a1.block p HR.out.ltP (by have:=HR.out.apart;omega)).trans HR.out.cell,HR.out.atP⟩
 have hgB:=(rk_lt HR.out.row).1
 have hpB:=HR.out.atP
 have HA1:=hide (a1.widen (lo':=B) (hi':=H) hgB (by omega))
 have HD1:Hid (DownR n (swp f 0 n) 0):=DownR.start HH.out (fun k h1 h2=>swp_o f 0 n (by omega) (by omega))
 clear r1 a1 q1 q2 hcell
 go_wp2_with fail
 refine(down_any B p g (n+1) cap (swp f 0 n) n w1 HR1.out (by omega) HD1.out (by omega)).mono ?_
 rintro e w2 ⟨v,rfl,f',r2,h2,s2,k2,a2⟩
 have HR2:=hide r2
 have HH2:=hide h2
 have HS2:=hide s2
 have HE:Hid (f' n=f 0):=by show _=_;rw[k2 n (Nat.le_refl _),swp_r]
 have HA2:=hide (HA1.out.trans (a2.widen (lo':=B) (hi':=H) hgB (by omega)))
 have q0:=Tryz.toPop p
 clear r2 h2 s2 k2 a2
 go_wp2_with fail
 refine(rkPop_any B p g n cap f' w2 HR2.out hn).mono ?_
 rintro e w3 ⟨rfl,r3,a3⟩
 have HR3:=hide r3
 have HA3:=hide (HA2.out.trans (a3.widen (lo':=B) (hi':=H) hpB (by omega)))
 rw[HE.out]
 clear r3 a3
 go_wp2_with fail
 go_ret
 exact⟨rfl,f',HR3.out,HH2.out,HS2.out,HA3.out⟩
set_option maxHeartbeats 1600000 in
theorem takeNext_any (B p g n cap:Nat)(f:Nat->Rk)(H:Nat)(w:World)(h:Rkg B w p g (n+1) cap f)(hh:HeapR (n+1) f)(hn:n<1048576)(hpH:p<H)(hgH:g<H) :
  Calls Tryz.prog 229 #[.pointer (some ⟨p,0,none⟩)] w fun e w'=>e=.returned (rkV (f 0))∧∃f',Rkg B w' p g n cap f'∧HeapR n f'∧SameR n (swp f 0 n) f'∧Aside B H w w':=by
 obtain⟨wA,hwA⟩:∃wA,wA=w.alloc (.cells #[.int .i64 0,.int .i64 0,.int .i64 0] 287):=⟨_,rfl⟩
 have hzA:wA.heap.size=w.heap.size+1:=by rw[hwA];simp
 have HBA:Hid (Below w.heap.size w wA):=by rw[hwA];exact(Below.refl _ _).alloc (Nat.le_refl _) _
 have H1:Hid (wA.heap[w.heap.size]?=some (.cells #[.int .i64 0,.int .i64 0,.int .i64 0] 287)):=by rw[hwA];exact heap_new _ _
 have HRA:=hide (h.later HBA.out)
 have HH:=hide hh
 have hsp:=h.ltP
 have hsg:=(rk_lt h.row).2
 clear h hh
 go_enter Tryz.func229,Tryz.ntmps229
 go_wp2_with fail
 rw[<- hwA]
 clear hwA
 refine(heapPop_any B p g n cap f (min H w.heap.size) wA HRA.out HH.out hn (by omega) (by omega)).mono ?_
 rintro e w1 ⟨rfl,f',r1,h1,s1,a1⟩
 have HR1:=hide r1
 have HH1:=hide h1
 have HS1:=hide s1
 have HA1:=hide (((Aside.ofBelow HBA.out:Aside B (min H w.heap.size) w wA).trans a1).widen (lo':=B) (hi':=H) (Nat.le_refl _) (Nat.min_le_left _ _))
 have K1:Hid (w1.heap[w.heap.size]?=some (.cells #[.int .i64 0,.int .i64 0,.int .i64 0] 287)):=(a1.block w.heap.size (by omega) (.inr (Nat.min_le_right _ _))).trans H1.out
 have q0:=Tryz.asRk (rkV (f 0))
 obtain⟨c0,c1,c2⟩:=three_cells K1.out
 have f0:=four_frozen K1.out 0
 have f1:=four_frozen K1.out 1
 have f2:=four_frozen K1.out 2
 have hs1:=HA1.out.size
 clear r1 h1 s1 a1
 go_wp2_with fail
 have HSET:=hide (set_block (set_block (set_block K1.out 0 (.int .i64 (f 0).1) (by simp)) 1 (.int .i64 (f 0).2.1) (by simp)) 2 (.int .i64 (f 0).2.2) (by simp))
 have HAS:=hide ((((Aside.refl w.heap.size (w.heap.size+1) w1).setCell (p:=⟨w.heap.size,0,none⟩) (Nat.le_refl _) (Nat.lt_succ_self _) (.int .i64 (f 0).1)).setCell (p:=⟨w.heap.size,1,none⟩) (Nat.le_refl _) (Nat.lt_succ_self _) (.int .i64 (f 0).2.1)).setCell (p:=⟨w.heap.size,2,none⟩) (Nat.le_refl _) (Nat.lt_succ_self _) (.int .i64 (f 0).2.2))
 refine bodyPost_ret (results_cell rfl rfl (run_loadVar_row _ _ _ _ _ _ _ HSET.out Tryz.underlying287 rfl (by kernel_rfl))) rfl ⟨rfl,f',HR1.out.keep (HAS.out.block p HR1.out.ltP (by omega)) (HAS.out.block g (rk_lt HR1.out.row).2 (by omega)),HH1.out,HS1.out,HA1.out.thenNew HAS.out (Nat.le_refl _)⟩
end Go.Proofs.YtgjoepdfhadmcaaGreatDoor
end

section
namespace Go.Proofs.YtgjoepdfhadmcaaGreatDoor
open Go.RowKit
set_option linter.unusedVariables false
set_option maxRecDepth 20000
theorem valN_ints (l:List Nat):valN l=(l.map (fun (i:Nat)=>(i:Int))).map (Value.int .i64):=by
 unfold valN;rw[List.map_map];rfl
theorem own_valN {w:World}{base n:Nat}{v:Value}{l:List Nat}(h:w.ownsRow base 2 1 v n (valN l)) :
  ∃a cap,v=.slice a n cap∧n<=cap∧OwnInts base w.heap.size w a n (l.map (fun (i:Nat)=>(i:Int))):=by
 obtain⟨a,cap,e,hc,hl,_,ho⟩:=owned_of_own h
 rw[valN_length] at hl
 refine⟨a,cap,e,hc,by rw[List.length_map];exact hl,ho.congr fun i hi=>?_⟩
 rw[valN_ints]
 exact map_cell _ i (by rw[List.length_map];omega)
end Go.Proofs.YtgjoepdfhadmcaaGreatDoor
end

