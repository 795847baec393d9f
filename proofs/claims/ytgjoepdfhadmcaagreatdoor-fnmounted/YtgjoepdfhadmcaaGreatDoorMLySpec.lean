/- Several texts in one: LySpec, TextNone, LawDig. -/
import Derived.Test.YtgjoepdfhadmcaaGreatDoorMLySpecB2
import Derived.Test.YtgjoepdfhadmcaaGreatDoorMPageBase
import Derived.Test.YtgjoepdfhadmcaaGreatDoorMWalkB1
import Derived.Deep.RegionHeld3
import Derived.Test.YtgjoepdfhadmcaaGreatDoorMPageMath
section
namespace Go.Proofs.YtgjoepdfhadmcaaGreatDoor
open Go.RowKit
set_option linter.unusedVariables false
set_option maxRecDepth 20000
set_option maxHeartbeats 1600000 in
theorem specLying_blank (s:ByteArray)(w:World)(h0:s.size=0) :
  Calls Tryz.prog 16 #[.string s] w fun e w'=>e=.returned (lyV (lyP s))∧Below w.heap.size w w':=by
 have HE:=hide (lyP_blank h0)
 have hs:s.toList.isEmpty=true:=by rw[text_empty];simp[h0]
 go_enter Tryz.func16,Tryz.ntmps16
 go_wp2_with fail
 refine bodyPost_ret (results_ct rfl rfl (run_loadVar_row _ _ _ _ _ _ _ (heap_new _ _) Tryz.underlying31 rfl (by kernel_rfl))) rfl ⟨?_,(Below.refl _ _).alloc (Nat.le_refl _) _⟩
 rw[HE.out];rfl
set_option maxHeartbeats 1600000 in
theorem specLying_one (s:ByteArray)(w:World)(h1:s.size=1) :
  Calls Tryz.prog 16 #[.string s] w fun e w'=>e=.returned (lyV (lyP s))∧Below w.heap.size w w':=by
 have HE:=hide (lyP_torn (s:=s) (by omega) (by simp[goodL,h1]))
 have hs:s.toList.isEmpty=false:=by rw[text_empty];exact decide_eq_false (by omega)
 go_enter Tryz.func16,Tryz.ntmps16
 go_wp2_with fail
 refine bodyPost_ret (results_ct rfl rfl (run_loadVar_row _ _ _ _ _ _ _ (heap_new _ _) Tryz.underlying31 rfl (by kernel_rfl))) rfl ⟨?_,(Below.refl _ _).alloc (Nat.le_refl _) _⟩
 rw[HE.out];rfl
set_option maxHeartbeats 1600000 in
theorem specLying_two (s:ByteArray)(w:World)(h2:2<=s.size)(hs:s.size<=1048576)(hno:¬((headT s).2.2=true∧(restT s).2.2=true∧byN (headT s).1 0=(restT s).1.size∧8<=(restT s).1.size∧whole (restT s).1=true)) :
  Calls Tryz.prog 16 #[.string s] w fun e w'=>e=.returned (lyV (lyP s))∧Below w.heap.size w w':=by
 have he:s.toList.isEmpty=false:=by rw[text_empty];exact decide_eq_false (by omega)
 have HO:=hide (heap_new w (.cells #[.int .i64 0,.int .i64 0,.int .i64 0,.string ⟨#[]⟩] 31))
 have HZ:=hide ((Below.refl w.heap.size w).alloc (Nat.le_refl _) (.cells #[.int .i64 0,.int .i64 0,.int .i64 0,.string ⟨#[]⟩] 31))
 have hx2:=extract_size2 s h2
 have hxr:=extract_rest s h2
 obtain⟨h,m,one,hh⟩:∃h m one,headT s=(h,m,one):=⟨_,_,_,rfl⟩
 obtain⟨t,n,is,ht⟩:∃t n is,restT s=(t,n,is):=⟨_,_,_,rfl⟩
 have hhz:one=true->h.size=1:=fun e=>by
  have:=healed_size (s:=s.extract 0 2) (by rw[show healedAll (s.extract 0 2)=(h,m,one) from hh];exact e)
  rw[show healedAll (s.extract 0 2)=(h,m,one) from hh] at this
  have h':(s.extract 0 2).size=2*h.size:=this
  omega
 have htz:t.size<=300:=by have:=healed_size_le (unwoven (s.extract 2 s.size) 2);rw[show healedAll (unwoven (s.extract 2 s.size) 2)=(t,n,is) from ht] at this;exact this
 have hmb:0<=m∧m<=300:=by have:=healed_fixed (s.extract 0 2);rw[show healedAll (s.extract 0 2)=(h,m,one) from hh] at this;exact this
 have hnb:0<=n∧n<=300:=by have:=healed_fixed (unwoven (s.extract 2 s.size) 2);rw[show healedAll (unwoven (s.extract 2 s.size) 2)=(t,n,is) from ht] at this;exact this
 have HH:=hide hh
 have HT:=hide ht
 have HNO:=hide hno
 clear hh ht hno
 go_enter Tryz.func16,Tryz.ntmps16
 go_wp2_with fail
 refine(specHealedAll_any (s.extract 0 2) _ (by omega)).mono ?_
 rw[show healedAll (s.extract 0 2)=(h,m,one) from HH.out]
 unfold toldV
 rintro e w1 ⟨rfl,b1⟩
 have H1:=hide (block_on HO.out b1)
 have HB1:=hide (below_here HZ.out b1)
 clear b1 HO HZ
 go_wp2_with fail
 refine(specUnwoven_any (s.extract 2 s.size) 2 _ (by omega)).mono ?_
 rintro e w2 ⟨rfl,b2⟩
 have H2:=hide (block_on H1.out b2)
 have HB2:=hide (below_here HB1.out b2)
 clear b2 H1 HB1
 go_wp2_with fail
 refine(specHealedAll_any (unwoven (s.extract 2 s.size) 2) _ (Nat.le_trans (unwoven_size_le _ _) (by omega))).mono ?_
 rw[show healedAll (unwoven (s.extract 2 s.size) 2)=(t,n,is) from HT.out]
 unfold toldV
 rintro e w3 ⟨rfl,b3⟩
 have H3:=hide (block_on H2.out b3)
 have HB3:=hide (below_here HB2.out b3)
 clear b3 H2 HB2
 obtain⟨c0,c1,c2,c3⟩:=four_cells H3.out
 have f0:=four_frozen H3.out 0
 have f1:=four_frozen H3.out 1
 have f2:=four_frozen H3.out 2
 have f3:=four_frozen H3.out 3
 have HTORN:Hid (goodL s=false->lyP s=(0,0,0,⟨#[]⟩,3)):=fun hg=>lyP_torn (by omega) hg
 have HTV:∀W,Hid (W.heap[w.heap.size]?=some (.cells #[.int .i64 0,.int .i64 0,.int .i64 0,.string ⟨#[]⟩] 31)->(loadVar 31 ⟨w.heap.size,0,none⟩).run Tryz.prog W=.ok (.agg #[.int .i64 0,.int .i64 0,.int .i64 0,.string ⟨#[]⟩]) W):=fun W hW=>run_loadVar_row _ _ _ _ _ _ _ hW Tryz.underlying31 rfl (by kernel_rfl)
 have HF:Hid (((((w3.setCell ⟨w.heap.size,0,none⟩ (.int .i64 0)).setCell ⟨w.heap.size,1,none⟩ (.int .i64 0)).setCell ⟨w.heap.size,2,none⟩ (.int .i64 0)).setCell ⟨w.heap.size,3,none⟩ (.string ⟨#[]⟩)).heap[w.heap.size]?=some (.cells #[.int .i64 0,.int .i64 0,.int .i64 0,.string ⟨#[]⟩] 31)):=four_set H3.out _ _ _ _
 have HG:=hide (four_below HB3.out (Nat.le_refl _) (.int .i64 0) (.int .i64 0) (.int .i64 0) (.string ⟨#[]⟩))
 cases one
 ·have HE:=hide (HTORN.out (by simp[goodL,HH.out]))
  clear hhz HTORN
  go_wp2_with fail
  refine bodyPost_ret (results_ct rfl rfl ((HTV _).out HF.out)) rfl ⟨?_,HG.out⟩
  rw[HE.out];rfl
 ·cases is
  ·have HE:=hide (HTORN.out (by simp[goodL,HT.out]))
   clear HTORN
   go_wp2_with fail
   refine bodyPost_ret (results_ct rfl rfl ((HTV _).out HF.out)) rfl ⟨?_,HG.out⟩
   rw[HE.out];rfl
  ·have hz1:=hhz rfl
   clear hhz
   by_cases h8:8<=t.size
   ·have h8d:decide ((t.size:Int)<8)=false:=by simp;omega
    obtain⟨Q,hQ⟩:∃Q,Q=byN h 0:=⟨_,rfl⟩
    have hb0:(h[0]'(by omega)).toNat=Q:=by rw[hQ];exact byN_at h 0 (by omega)
    have hQl:Q<256:=by rw[hQ];exact byN_lt _ _
    have HQ:=hide hQ
    clear hQ
    by_cases hq:Q=t.size
    ·have hne:((Q:Int) != (t.size:Int))=false:=by simp[hq]
     have HQT:=hide hq
     clear hq
     cases hw:whole t
     ·have HE:=hide (HTORN.out (by simp[goodL,HT.out,bodyOk,hw]))
      clear HTORN
      go_wp2_with fail
      refine(specWhole_any t _ (by omega)).mono ?_
      rw[hw]
      rintro e w4 ⟨rfl,b4⟩
      have H4:=hide (block_on H3.out b4)
      have HB4:=hide (below_here HB3.out b4)
      clear b4 c0 c1 c2 c3 f0 f1 f2 f3 HF HG
      obtain⟨c0,c1,c2,c3⟩:=four_cells H4.out
      have f0:=four_frozen H4.out 0
      have f1:=four_frozen H4.out 1
      have f2:=four_frozen H4.out 2
      have f3:=four_frozen H4.out 3
      have HF:=hide (four_set H4.out (.int .i64 0) (.int .i64 0) (.int .i64 0) (.string ⟨#[]⟩))
      have HG:=hide (four_below HB4.out (Nat.le_refl _) (.int .i64 0) (.int .i64 0) (.int .i64 0) (.string ⟨#[]⟩))
      go_wp2_with fail
      refine bodyPost_ret (results_ct rfl rfl ((HTV _).out HF.out)) rfl ⟨?_,HG.out⟩
      rw[HE.out];rfl
     ·exact absurd ⟨by rw[HH.out],by rw[HT.out],by rw[HH.out,HT.out];exact HQ.out.symm.trans HQT.out,by rw[HT.out];exact h8,by rw[HT.out];exact hw⟩ HNO.out
    ·have hne:((Q:Int) != (t.size:Int))=true:=by simp;omega
     have HE:=hide (HTORN.out (by have:=HQ.out;simp[goodL,HT.out,HH.out];omega))
     clear HTORN
     go_wp2_with fail
     refine bodyPost_ret (results_ct rfl rfl ((HTV _).out HF.out)) rfl ⟨?_,HG.out⟩
     rw[HE.out];rfl
   ·have HE:=hide (HTORN.out (by simp[goodL,HT.out,bodyOk,h8]))
    have h8d:decide ((t.size:Int)<8)=true:=by simp;omega
    clear HTORN
    go_wp2_with fail
    refine bodyPost_ret (results_ct rfl rfl ((HTV _).out HF.out)) rfl ⟨?_,HG.out⟩
    rw[HE.out];rfl
theorem specLying_any (s:ByteArray)(w:World)(hs:s.size<=1048576) :
  Calls Tryz.prog 16 #[.string s] w fun e w'=>e=.returned (lyV (lyP s))∧Below w.heap.size w w':=by
 by_cases h0:s.size=0
 ·exact specLying_blank s w h0
 ·by_cases h1:s.size=1
  ·exact specLying_one s w h1
  ·have h2:2<=s.size:=by omega
   by_cases hno:(headT s).2.2=true∧(restT s).2.2=true∧byN (headT s).1 0=(restT s).1.size∧8<=(restT s).1.size∧whole (restT s).1=true
   ·obtain⟨a1,a2,a3,a4,a5⟩:=hno
    exact specLying_pass s w h2 hs a1 a2 a3 a4 a5
   ·exact specLying_two s w h2 hs hno
end Go.Proofs.YtgjoepdfhadmcaaGreatDoor
end

section
namespace Go.Proofs.YtgjoepdfhadmcaaGreatDoor
open Go.RowKit
set_option linter.unusedVariables false
theorem text_none {x:ByteArray}(h:1<=x.size):x.toList.isEmpty=false:=by
 rw[ByteArray.toList_eq]
 cases hl:x.data.toList with
 | nil =>
  have h2:x.data.toList.length=x.size:=by simp
  rw[hl] at h2
  simp at h2
  omega
 | cons a l=>rfl
end Go.Proofs.YtgjoepdfhadmcaaGreatDoor
end

section
namespace Go.Proofs.YtgjoepdfhadmcaaGreatDoor
open Go.RowKit
set_option linter.unusedVariables false
set_option maxRecDepth 20000
set_option maxHeartbeats 800000 in
theorem digits_any (k:Nat)(hk:k<=99)(w:World) :
  Calls Tryz.prog 26 #[.int .i64 (k:Int)] w fun e w'=>∃s:ByteArray,e=.returned (.string s)∧1<=s.size∧s.size<=2∧Below w.heap.size w w':=by
 go_enter Tryz.func26,Tryz.ntmps26
 go_wp2_with fail
 go_loopw [0,3] (fun t s wr=>∃(m:Nat) (x:ByteArray),t=.int .i64 (m:Int)∧s=.string x∧((x=⟨#[]⟩∧m<=99)∨(x.size=1∧m<=9)∨(x.size=2∧m=0))∧Below w.heap.size w wr) (fun t s _=>(intOf t).toNat+(match s with|.string x=>2-x.size|_=>0))
 case atStart=>exact⟨k,⟨#[]⟩,rfl,rfl,.inl ⟨rfl,hk⟩,Below.refl _ _⟩
 case round =>
  obtain⟨m,x,rfl,rfl,hor,hb⟩:=hrel
  have HB:=hide hb
  clear hb
  have hm:m<=99:=by omega
  have hx2:x.size<=2:=by rcases hor with⟨rfl,_⟩|h|h<;>first|omega|decide
  obtain⟨d,hd⟩:∃d:Nat,d=48+m % 10:=⟨_,rfl⟩
  have hd2:d<256:=by omega
  have hd1:48+(m:Int) % 10=(d:Int):=by omega
  obtain⟨q,hqm⟩:∃q:Nat,q=m / 10:=⟨_,rfl⟩
  have hq:(m:Int) / 10=(q:Int):=by omega
  have HQ:=hide hqm
  clear hqm
  have hst:(convert 22 9 (.slice (some ⟨wr.heap.size,0,none⟩) 1 1)).run Tryz.prog (wr.alloc (.cells #[.int .u8 (d:Int)] 5))=.ok (.string ⟨#[UInt8.ofNat d]⟩) (wr.alloc (.cells #[.int .u8 (d:Int)] 5)):=string_of (P:=Tryz.prog) (lit_reads wr [UInt8.ofNat d] #[.int .u8 (d:Int)] 5 (one_cell hd2)) 22 9 5 1 Tryz.underlying22 Tryz.underlying5 Tryz.underlying9
  have h1:(ByteArray.mk #[UInt8.ofNat d]).size=1:=rfl
  have HBN:=hide (HB.out.alloc (HB.out.size) (.cells #[.int .u8 (d:Int)] 5))
  clear hd
  by_cases hgo:x=⟨#[]⟩∨0<m
  ·rcases hor with⟨rfl,hm9⟩|⟨hx,hm9⟩|⟨hx,hm9⟩
   ·go_wp2_with fail
    have hz:(({ data:=#[UInt8.ofNat d] }:ByteArray)++({ data:=#[] }:ByteArray)).size=1:=by rw[ByteArray.size_append];rfl
    have hqe:=HQ.out
    refine⟨⟨q,_,rfl,rfl,.inr (.inl ⟨hz,by omega⟩),HBN.out⟩,?_⟩
    show(intOf (Value.int .i64 (q:Int))).toNat+(2-(({ data:=#[UInt8.ofNat d] }:ByteArray)++({ data:=#[] }:ByteArray)).size)<(intOf (Value.int .i64 (m:Int))).toNat+(2-0)
    rw[hz]
    simp[intOf]
    omega
   ·have e1:=text_none (x:=x) (by omega)
    have hm0:(0:Int)<(m:Int):=by rcases hgo with rfl|h;exact absurd hx (by decide);omega
    go_wp2_with fail
    have hz:(({ data:=#[UInt8.ofNat d] }:ByteArray)++x).size=2:=by rw[ByteArray.size_append,h1,hx]
    have hqe:=HQ.out
    refine⟨⟨q,_,rfl,rfl,.inr (.inr ⟨hz,by omega⟩),HBN.out⟩,?_⟩
    show(intOf (Value.int .i64 (q:Int))).toNat+(2-(({ data:=#[UInt8.ofNat d] }:ByteArray)++x).size)<(intOf (Value.int .i64 (m:Int))).toNat+(2-x.size)
    rw[hz,hx]
    simp[intOf]
    omega
   ·exfalso
    rcases hgo with rfl|h
    ·exact absurd hx (by decide)
    ·omega
  ·have hxs:1<=x.size:=by rcases hor with⟨rfl,_⟩|h|h;exact absurd (.inl rfl) hgo;omega;omega
   have e1:=text_none hxs
   have hm0:m=0:=by omega
   subst hm0
   go_wp2_with fail
   go_ret
   exact⟨x,rfl,hxs,hx2,HB.out⟩
end Go.Proofs.YtgjoepdfhadmcaaGreatDoor
end

