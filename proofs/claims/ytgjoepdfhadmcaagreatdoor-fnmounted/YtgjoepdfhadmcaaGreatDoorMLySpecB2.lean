/- . -/
import Derived.Test.YtgjoepdfhadmcaaGreatDoorMDraw7
import Derived.Test.YtgjoepdfhadmcaaGreatDoorMPageBase
import Derived.Test.YtgjoepdfhadmcaaGreatDoorMWalkB1
import Derived.BigRegion
import Derived.Lib.QuietBelow
import Derived.BigQuiet
namespace Go.Proofs.YtgjoepdfhadmcaaGreatDoor
open Go.RowKit
set_option linter.unusedVariables false
set_option maxRecDepth 20000
set_option maxHeartbeats 4000000 in
theorem specLying_pass (s:ByteArray)(w:World)(h2:2<=s.size)(hs:s.size<=1048576)(ho1:(headT s).2.2=true)(ho2:(restT s).2.2=true)(hq9:byN (headT s).1 0=(restT s).1.size)(h89:8<=(restT s).1.size)(hw9:whole (restT s).1=true) :
  Calls Tryz.prog 16 #[.string s] w fun e w'=>e=.returned (lyV (lyP s))∧Below w.heap.size w w':=by
 have he:s.toList.isEmpty=false:=by rw[text_empty];exact decide_eq_false (by omega)
 have HO:=hide (heap_new w (.cells #[.int .i64 0,.int .i64 0,.int .i64 0,.string ⟨#[]⟩] 31))
 have HZ:=hide ((Below.refl w.heap.size w).alloc (Nat.le_refl _) (.cells #[.int .i64 0,.int .i64 0,.int .i64 0,.string ⟨#[]⟩] 31))
 have hx2:=extract_size2 s h2
 have hxr:=extract_rest s h2
 obtain⟨h,m,one,hh⟩:∃h m one,headT s=(h,m,one):=⟨_,_,_,rfl⟩
 obtain⟨t,n,is,ht⟩:∃t n is,restT s=(t,n,is):=⟨_,_,_,rfl⟩
 have hhz:one=true->h.size=1:=fun e=>by
  have:=healed_size (s:=s.extract 0 2) (by rw[show healedAll (s.extract 0 2)=(h,m,one) from hh];exact e)
  rw[show healedAll (s.extract 0 2)=(h,m,one) from hh] at this
  have h':(s.extract 0 2).size=2*h.size:=this
  omega
 have htz:t.size<=300:=by have:=healed_size_le (unwoven (s.extract 2 s.size) 2);rw[show healedAll (unwoven (s.extract 2 s.size) 2)=(t,n,is) from ht] at this;exact this
 have hmb:0<=m∧m<=300:=by have:=healed_fixed (s.extract 0 2);rw[show healedAll (s.extract 0 2)=(h,m,one) from hh] at this;exact this
 have hnb:0<=n∧n<=300:=by have:=healed_fixed (unwoven (s.extract 2 s.size) 2);rw[show healedAll (unwoven (s.extract 2 s.size) 2)=(t,n,is) from ht] at this;exact this
 have HH:=hide hh
 have HT:=hide ht
 rw[hh] at ho1 hq9
 rw[ht] at ho2 hq9 h89 hw9
 clear hh ht
 have ho1:one=true:=ho1
 have ho2:is=true:=ho2
 have h8:8<=t.size:=h89
 have hw:whole t=true:=hw9
 have hq:byN h 0=t.size:=hq9
 clear hq9 h89 hw9
 subst ho1
 subst ho2
 have hz1:=hhz rfl
 clear hhz
 have h8d:decide ((t.size:Int)<8)=false:=by simp;omega
 obtain⟨Q,hQ⟩:∃Q,Q=byN h 0:=⟨_,rfl⟩
 have hb0:(h[0]'(by omega)).toNat=Q:=by rw[hQ];exact byN_at h 0 (by omega)
 have hQl:Q<256:=by rw[hQ];exact byN_lt _ _
 have hne:((Q:Int) != (t.size:Int))=false:=by simp[hQ,hq]
 have HQ9:=hide hq
 clear hQ hq
 go_enter Tryz.func16,Tryz.ntmps16
 go_wp2_with fail
 refine(specHealedAll_any (s.extract 0 2) _ (by omega)).mono ?_
 rw[show healedAll (s.extract 0 2)=(h,m,true) from HH.out]
 unfold toldV
 rintro e w1 ⟨rfl,b1⟩
 have H1:=hide (block_on HO.out b1)
 have HB1:=hide (below_here HZ.out b1)
 clear b1 HO HZ
 go_wp2_with fail
 refine(specUnwoven_any (s.extract 2 s.size) 2 _ (by omega)).mono ?_
 rintro e w2 ⟨rfl,b2⟩
 have H2:=hide (block_on H1.out b2)
 have HB2:=hide (below_here HB1.out b2)
 clear b2 H1 HB1
 go_wp2_with fail
 refine(specHealedAll_any (unwoven (s.extract 2 s.size) 2) _ (Nat.le_trans (unwoven_size_le _ _) (by omega))).mono ?_
 rw[show healedAll (unwoven (s.extract 2 s.size) 2)=(t,n,true) from HT.out]
 unfold toldV
 rintro e w3 ⟨rfl,b3⟩
 have H3:=hide (block_on H2.out b3)
 have HB3:=hide (below_here HB2.out b3)
 clear b3 H2 HB2
 obtain⟨c0,c1,c2,c3⟩:=four_cells H3.out
 have f0:=four_frozen H3.out 0
 have f1:=four_frozen H3.out 1
 have f2:=four_frozen H3.out 2
 have f3:=four_frozen H3.out 3
 have HTORN:Hid (goodL s=false->lyP s=(0,0,0,⟨#[]⟩,3)):=fun hg=>lyP_torn (by omega) hg
 have HTV:∀W,Hid (W.heap[w.heap.size]?=some (.cells #[.int .i64 0,.int .i64 0,.int .i64 0,.string ⟨#[]⟩] 31)->(loadVar 31 ⟨w.heap.size,0,none⟩).run Tryz.prog W=.ok (.agg #[.int .i64 0,.int .i64 0,.int .i64 0,.string ⟨#[]⟩]) W):=fun W hW=>run_loadVar_row _ _ _ _ _ _ _ hW Tryz.underlying31 rfl (by kernel_rfl)
 have HF:Hid (((((w3.setCell ⟨w.heap.size,0,none⟩ (.int .i64 0)).setCell ⟨w.heap.size,1,none⟩ (.int .i64 0)).setCell ⟨w.heap.size,2,none⟩ (.int .i64 0)).setCell ⟨w.heap.size,3,none⟩ (.string ⟨#[]⟩)).heap[w.heap.size]?=some (.cells #[.int .i64 0,.int .i64 0,.int .i64 0,.string ⟨#[]⟩] 31)):=four_set H3.out _ _ _ _
 have HG:=hide (four_below HB3.out (Nat.le_refl _) (.int .i64 0) (.int .i64 0) (.int .i64 0) (.string ⟨#[]⟩))
 go_wp2_with fail
 refine(specWhole_any t _ (by omega)).mono ?_
 rw[hw]
 rintro e w4 ⟨rfl,b4⟩
 have H4:=hide (block_on H3.out b4)
 have HB4:=hide (below_here HB3.out b4)
 clear b4 c0 c1 c2 c3 f0 f1 f2 f3 HF HG H3 HB3
 obtain⟨B0,hB0⟩:∃B,B=byN t 0:=⟨_,rfl⟩
 obtain⟨B1,hB1⟩:∃B,B=byN t 1:=⟨_,rfl⟩
 obtain⟨B2,hB2⟩:∃B,B=byN t 2:=⟨_,rfl⟩
 obtain⟨B3,hB3⟩:∃B,B=byN t 3:=⟨_,rfl⟩
 obtain⟨B4,hB4⟩:∃B,B=byN t 4:=⟨_,rfl⟩
 obtain⟨B5,hB5⟩:∃B,B=byN t 5:=⟨_,rfl⟩
 have l0:B0<256:=by rw[hB0];exact byN_lt _ _
 have l1:B1<256:=by rw[hB1];exact byN_lt _ _
 have l2:B2<256:=by rw[hB2];exact byN_lt _ _
 have l3:B3<256:=by rw[hB3];exact byN_lt _ _
 have l4:B4<256:=by rw[hB4];exact byN_lt _ _
 have l5:B5<256:=by rw[hB5];exact byN_lt _ _
 have i0:=index_at' (P:=Tryz.prog) 9 Tryz.underlying9 t 0 (by omega) B0 (by rw[hB0];exact(byN_at t 0 (by omega)).symm)
 have i1:=index_at' (P:=Tryz.prog) 9 Tryz.underlying9 t 1 (by omega) B1 (by rw[hB1];exact(byN_at t 1 (by omega)).symm)
 have i2:=index_at' (P:=Tryz.prog) 9 Tryz.underlying9 t 2 (by omega) B2 (by rw[hB2];exact(byN_at t 2 (by omega)).symm)
 have i3:=index_at' (P:=Tryz.prog) 9 Tryz.underlying9 t 3 (by omega) B3 (by rw[hB3];exact(byN_at t 3 (by omega)).symm)
 have i4:=index_at' (P:=Tryz.prog) 9 Tryz.underlying9 t 4 (by omega) B4 (by rw[hB4];exact(byN_at t 4 (by omega)).symm)
 have i5:=index_at' (P:=Tryz.prog) 9 Tryz.underlying9 t 5 (by omega) B5 (by rw[hB5];exact(byN_at t 5 (by omega)).symm)
 simp only[show((0:Nat):Int)=0 from rfl] at i0
 simp only[show((1:Nat):Int)=1 from rfl] at i1
 simp only[show((2:Nat):Int)=2 from rfl] at i2
 simp only[show((3:Nat):Int)=3 from rfl] at i3
 simp only[show((4:Nat):Int)=4 from rfl] at i4
 simp only[show((5:Nat):Int)=5 from rfl] at i5
 obtain⟨tx,htx⟩:∃tx,tx=textIn t:=⟨_,rfl⟩
 have hsl:=slice_mid (P:=Tryz.prog) 9 Tryz.underlying9 t 6 ((t.size:Int)-2) 6 (t.size-2) rfl (by omega) (by omega) (by omega) tx htx
 have hsl2:=slice_mid2 (P:=Tryz.prog) 9 Tryz.underlying9 t 6 ((t.size:Int)-2) 6 (t.size-2) rfl (by omega) (by omega) (by omega) tx htx
 have g1:(6:Int)<=(t.size:Int)-2:=by omega
 have g2:(t.size:Int)-2<=(t.size:Int):=by omega
 have g3:((t.size:Int)-2).toNat=t.size-2:=by omega
 have g0:(8:Int)<=(t.size:Int):=by omega
 have htxz:tx.size=t.size-8:=by rw[htx];exact textIn_size t h8
 have HTX:=hide htx
 have HB:=hide (And.intro hB0 (And.intro hB1 (And.intro hB2 (And.intro hB3 (And.intro hB4 hB5)))))
 have j0:IntKind.i64.wrap ((B2:Int)*65536)=(B2:Int)*65536:=by rw[IntKind.wrap_i64];omega
 have j1:IntKind.i64.wrap ((B3:Int)*256)=(B3:Int)*256:=by rw[IntKind.wrap_i64];omega
 have j2:IntKind.i64.wrap ((B2:Int)*65536+(B3:Int)*256)=(B2:Int)*65536+(B3:Int)*256:=by rw[IntKind.wrap_i64];omega
 have j3:IntKind.i64.wrap ((B2:Int)*65536+(B3:Int)*256+(B4:Int))=(B2:Int)*65536+(B3:Int)*256+(B4:Int):=by rw[IntKind.wrap_i64];omega
 clear hB0 hB1 hB2 hB3 hB4 hB5 htx
 clear HTORN hne hb0 hx2 hxr he hQl hs hz1
 go_wp2_with fail
 go_region
 obtain⟨S,hS⟩:∃S:Nat,S=stampN t:=⟨_,rfl⟩
 have hSe:(B2:Int)*65536+(B3:Int)*256+(B4:Int)=(S:Int):=by
  obtain⟨_,_,e2,e3,e4,_⟩:=HB.out
  rw[hS];unfold stampN;rw[<- e2,<- e3,<- e4];omega
 rw[hSe]
 have HP:Hid (pageOk (B0:Int) (B1:Int) (S:Int) tx=pageOk (byN t 0:Int) (byN t 1:Int) (stampN t:Int) (textIn t)):=by
  obtain⟨e0,e1,_⟩:=HB.out
  show _=_;rw[<- e0,<- e1,<- hS,<- HTX.out]
 have HB5:Hid (B5=byN t 5):=HB.out.2.2.2.2.2
 have HE0:Hid (B0=byN t 0):=HB.out.1
 have HE1:Hid (B1=byN t 1):=HB.out.2.1
 have HES:=hide hS
 have HN4:Hid ((w4.alloc (.cells #[.int .i64 (B0:Int),.int .i64 (B1:Int),.int .i64 (S:Int),.string tx] 31)).heap[w4.heap.size]?=some (.cells #[.int .i64 (B0:Int),.int .i64 (B1:Int),.int .i64 (S:Int),.string tx] 31)):=heap_new w4 _
 have HR4:=hide (heap_old (o:=.cells #[.int .i64 (B0:Int),.int .i64 (B1:Int),.int .i64 (S:Int),.string tx] 31) H4.out)
 have HBB:=hide (HB4.out.alloc HB4.out.size (.cells #[.int .i64 (B0:Int),.int .i64 (B1:Int),.int .i64 (S:Int),.string tx] 31))
 clear j0 j1 j2 j3 i0 i1 i2 i3 i4 hsl hsl2 g0 g1 g2 g3 hS hSe l2 l3 l4
 have hx9:tx.size<=292:=by omega
 generalize (w4.alloc (.cells #[.int .i64 (B0:Int),.int .i64 (B1:Int),.int .i64 (S:Int),.string tx] 31))=w5 at *
 have HN4:Hid (w5.drew.heap[w4.heap.size]?=some (.cells #[.int .i64 (B0:Int),.int .i64 (B1:Int),.int .i64 (S:Int),.string tx] 31)):=HN4
 have HR4:Hid (w5.drew.heap[w.heap.size]?=some (.cells #[.int .i64 0,.int .i64 0,.int .i64 0,.string ⟨#[]⟩] 31)):=HR4
 have HBB:Hid (Below w.heap.size w w5.drew):=HBB.out.drew
 generalize w5.drew=w6 at *
 obtain⟨c0,c1,c2,c3⟩:=four_cells HN4.out
 have HNE:Hid (pageOk (B0:Int) (B1:Int) (S:Int) tx=false∨B5≠tx.size->lyP s=(0,0,0,⟨#[]⟩,3)):=fun hor=>by
  refine lyP_torn (by omega) ?_
  cases hg:goodL s
  ·rfl
  ·exfalso
   simp only[goodL,HH.out,HT.out,bodyOk,Bool.and_eq_true,decide_eq_true_eq] at hg
   obtain⟨_,_,_,_,_,_,h5,h6⟩:=hg
   rcases hor with h|h
   ·rw[HP.out,h6] at h;simp at h
   ·rw[HB5.out] at h;omega
 have HYE:Hid (pageOk (B0:Int) (B1:Int) (S:Int) tx=true->B5=tx.size->lyP s=((B0:Int),(B1:Int),(S:Int),tx,if 0<n+m then 2 else 1)):=fun h1 h3=>by
  have hg:goodL s=true:=by
   rw[HP.out] at h1
   have h5:byN t 5=t.size-8:=by rw[<- HB5.out,h3];omega
   have hqq:=HQ9.out
   simp[goodL,HH.out,HT.out,bodyOk,h1,h5,h8,hw,hqq]
   omega
  rw[lyP_good (by omega) hg,HT.out,HH.out,HE0.out,HE1.out,HES.out,HTX.out]
 clear HE0 HE1 HES HB5 HP
 have k0:=cell_regrown c0
 have k1:=cell_regrown c1
 have k2:=cell_regrown c2
 have k3:=cell_regrown c3
 obtain⟨b,hp⟩:∃b,pageOk (B0:Int) (B1:Int) (S:Int) tx=b:=⟨_,rfl⟩
 have cP:∀d os,Calls Tryz.prog 82 #[.agg #[.int .i64 (B0:Int),.int .i64 (B1:Int),.int .i64 (S:Int),.string tx]] (Go.Sort.grow (redrawn w6 d) os) fun e w''=>e=.returned (.bool b)∧∃p:Regrown,w''=Go.Sort.grow (redrawn w6 p.d) p.os:=fun d os=>Calls.regrown_of (by rw[<- hp];exact specPageOk_any _ _ _ _ _)
 cases b
 ·have HE:=hide (HNE.out (.inl hp))
  clear HYE HNE
  go_wp2_with fail
  refine wp_region_quiet_below (by kernel_rfl) (by kernel_rfl) ?_
  repeat (go_big_quiet_step ((go_at_call 82;exact cP _ _)))
  refine wpQuiet_nil ?_
  intro _ hw'
  obtain⟨⟨dq,osq⟩,hw''⟩:=hw'
  subst hw''
  have HR7:=hide (block_on HR4.out (below_regrown w6 dq osq))
  have HN7:=hide (block_on HN4.out (below_regrown w6 dq osq))
  have HB7:=hide (below_here HBB.out (below_regrown w6 dq osq))
  clear k0 k1 k2 k3 cP c0 c1 c2 c3 HN4 HR4 HBB
  generalize Go.Sort.grow (redrawn w6 dq) osq=w7 at *
  obtain⟨c0,c1,c2,c3⟩:=four_cells HR7.out
  have f0:=four_frozen HR7.out 0
  have f1:=four_frozen HR7.out 1
  have f2:=four_frozen HR7.out 2
  have f3:=four_frozen HR7.out 3
  have HF:=hide (four_set HR7.out (.int .i64 0) (.int .i64 0) (.int .i64 0) (.string ⟨#[]⟩))
  have HG:=hide (four_below HB7.out (Nat.le_refl _) (.int .i64 0) (.int .i64 0) (.int .i64 0) (.string ⟨#[]⟩))
  go_wp2_with fail
  refine bodyPost_ret (results_ct rfl rfl ((HTV _).out HF.out)) rfl ⟨?_,HG.out⟩
  rw[HE.out];rfl
 ·by_cases heq:B5=tx.size
  ·have hb5:((B5:Int) != (tx.size:Int))=false:=by simp[heq]
   have HE:=hide (HYE.out hp heq)
   have HEQ:=hide heq
   clear HYE HNE heq
   go_wp2_with fail
   refine wp_region_quiet_below (by kernel_rfl) (by kernel_rfl) ?_
   repeat (go_big_quiet_step ((go_at_call 82;exact cP _ _)))
   refine wpQuiet_nil ?_
   intro _ hw'
   obtain⟨⟨dq,osq⟩,hw''⟩:=hw'
   subst hw''
   have HR7:=hide (block_on HR4.out (below_regrown w6 dq osq))
   have HN7:=hide (block_on HN4.out (below_regrown w6 dq osq))
   have HB7:=hide (below_here HBB.out (below_regrown w6 dq osq))
   clear k0 k1 k2 k3 cP c0 c1 c2 c3 HN4 HR4 HBB
   generalize Go.Sort.grow (redrawn w6 dq) osq=w7 at *
   obtain⟨c0,c1,c2,c3⟩:=four_cells HR7.out
   have f0:=four_frozen HR7.out 0
   have f1:=four_frozen HR7.out 1
   have f2:=four_frozen HR7.out 2
   have f3:=four_frozen HR7.out 3
   obtain⟨d0,d1,d2,d3⟩:=four_cells HN7.out
   have HF:=hide (four_set HR7.out (.int .i64 (B0:Int)) (.int .i64 (B1:Int)) (.int .i64 (S:Int)) (.string tx))
   have HG:=hide (four_below HB7.out (Nat.le_refl _) (.int .i64 (B0:Int)) (.int .i64 (B1:Int)) (.int .i64 (S:Int)) (.string tx))
   by_cases hpos:0<n+m
   ·rw[if_pos hpos] at HE
    have hd9:decide ((0:Int)<n+m)=true:=by simpa using hpos
    go_wp2_with fail
    refine bodyPost_ret (results_ct rfl rfl (run_loadVar_row _ _ _ _ _ _ _ HF.out Tryz.underlying31 rfl (by kernel_rfl))) rfl ⟨?_,HG.out⟩
    rw[HE.out];rfl
   ·rw[if_neg hpos] at HE
    have hd9:decide ((0:Int)<n+m)=false:=by simpa using hpos
    go_wp2_with fail
    refine bodyPost_ret (results_ct rfl rfl (run_loadVar_row _ _ _ _ _ _ _ HF.out Tryz.underlying31 rfl (by kernel_rfl))) rfl ⟨?_,HG.out⟩
    rw[HE.out];rfl
  ·have hb5:((B5:Int) != (tx.size:Int))=true:=by simp;omega
   have HE:=hide (HNE.out (.inr heq))
   clear HYE HNE
   go_wp2_with fail
   refine wp_region_quiet_below (by kernel_rfl) (by kernel_rfl) ?_
   repeat (go_big_quiet_step ((go_at_call 82;exact cP _ _)))
   refine wpQuiet_nil ?_
   intro _ hw'
   obtain⟨⟨dq,osq⟩,hw''⟩:=hw'
   subst hw''
   have HR7:=hide (block_on HR4.out (below_regrown w6 dq osq))
   have HN7:=hide (block_on HN4.out (below_regrown w6 dq osq))
   have HB7:=hide (below_here HBB.out (below_regrown w6 dq osq))
   clear k0 k1 k2 k3 cP c0 c1 c2 c3 HN4 HR4 HBB
   generalize Go.Sort.grow (redrawn w6 dq) osq=w7 at *
   obtain⟨c0,c1,c2,c3⟩:=four_cells HR7.out
   have f0:=four_frozen HR7.out 0
   have f1:=four_frozen HR7.out 1
   have f2:=four_frozen HR7.out 2
   have f3:=four_frozen HR7.out 3
   have HF:=hide (four_set HR7.out (.int .i64 0) (.int .i64 0) (.int .i64 0) (.string ⟨#[]⟩))
   have HG:=hide (four_below HB7.out (Nat.le_refl _) (.int .i64 0) (.int .i64 0) (.int .i64 0) (.string ⟨#[]⟩))
   go_wp2_with fail
   refine bodyPost_ret (results_ct rfl rfl ((HTV _).out HF.out)) rfl ⟨?_,HG.out⟩
   rw[HE.out];rfl
end Go.Proofs.YtgjoepdfhadmcaaGreatDoor
