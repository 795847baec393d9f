/- . -/
import Derived.Test.YtgjoepdfhadmcaaGreatDoorMPageErr
import Derived.Test.YtgjoepdfhadmcaaGreatDoorMDraw7
import Derived.Test.YtgjoepdfhadmcaaGreatDoorMPageBase
import Derived.Test.YtgjoepdfhadmcaaGreatDoorMCheckSpec
import Derived.BigRegion
namespace Go.Proofs.YtgjoepdfhadmcaaGreatDoor
open Go.RowKit
set_option linter.unusedVariables false
set_option maxRecDepth 20000
def Ref2 (aL aS aC aF:Addr)(e:Ending):Prop:=∃p a,e=.returned (.tuple #[.agg #[.int .i64 0,.int .i64 0,.int .i64 0,.string ⟨#[]⟩],.iface 192 (.agg #[.string p,.iface 312 (.pointer (some a))])])∧Four aL aS aC aF a
set_option maxHeartbeats 1600000 in
theorem pageOf_short (t:ByteArray)(w:World){aB aL aS aC aF:Addr}(E:Errs w aB aL aS aC aF)(h8:¬8<=t.size) :
  Calls Tryz.prog 191 #[.string t] w fun e w'=>Ref2 aL aS aC aF e∧Below w.heap.size w w':=by
 have h8d:decide ((t.size:Int)<8)=true:=by simp;omega
 have cS:=E.s
 have lS:=block_lt_of cS
 clear E
 go_enter Tryz.func191,Tryz.ntmps191
 go_wp2_with fail
 go_region
 all_goals go_wp2_with fail
 refine bodyPost_ret (results_ct rfl rfl (run_loadVar_row _ _ _ _ _ _ _ (heap_new _ _) Tryz.underlying31 rfl (by kernel_rfl))) rfl ⟨⟨_,_,rfl,.inr (.inl rfl)⟩,((Below.refl _ _).alloc (Nat.le_refl _) _).drew⟩
set_option maxHeartbeats 1600000 in
theorem pageOf_smeared (t:ByteArray)(w:World){aB aL aS aC aF:Addr}(E:Errs w aB aL aS aC aF)(h8:8<=t.size)(hz:t.size<=300)(hw:whole t=false) :
  Calls Tryz.prog 191 #[.string t] w fun e w'=>Ref2 aL aS aC aF e∧Below w.heap.size w w':=by
 have h8d:decide ((t.size:Int)<8)=false:=by simp;omega
 have HO:=hide (heap_new w (.cells #[.int .i64 0,.int .i64 0,.int .i64 0,.string ⟨#[]⟩] 31))
 have HZ:=hide ((Below.refl w.heap.size w).alloc (Nat.le_refl _) (.cells #[.int .i64 0,.int .i64 0,.int .i64 0,.string ⟨#[]⟩] 31))
 go_enter Tryz.func191,Tryz.ntmps191
 go_wp2_with fail
 refine(implWhole_any t _ (by omega)).mono ?_
 rw[hw]
 rintro e w1 ⟨rfl,b1⟩
 have H1:=hide (block_on HO.out b1)
 have HB1:=hide (below_here HZ.out b1)
 have cC:=(E.here HB1.out).c
 have cC2:=cell_four cC (b:=w.heap.size) (Nat.ne_of_lt (block_lt_of E.c)) (.int .i64 0) (.int .i64 0) (.int .i64 0) (.string ⟨#[]⟩)
 obtain⟨c0,c1,c2,c3⟩:=four_cells H1.out
 have f0:=four_frozen H1.out 0
 have f1:=four_frozen H1.out 1
 have f2:=four_frozen H1.out 2
 have f3:=four_frozen H1.out 3
 have HF:=hide (four_set H1.out (.int .i64 0) (.int .i64 0) (.int .i64 0) (.string ⟨#[]⟩))
 have HG:=hide (four_below HB1.out (Nat.le_refl _) (.int .i64 0) (.int .i64 0) (.int .i64 0) (.string ⟨#[]⟩)).drew
 clear b1 HO HZ E H1 HB1
 go_wp2_with fail
 go_region
 all_goals go_wp2_with fail
 refine bodyPost_ret (results_ct rfl rfl (run_loadVar_row _ _ _ _ _ _ _ HF.out Tryz.underlying31 rfl (by kernel_rfl))) rfl ⟨⟨_,_,rfl,.inr (.inr (.inl rfl))⟩,HG.out⟩
set_option maxHeartbeats 1600000 in
theorem pageOf_text (t:ByteArray)(w:World){aB aL aS aC aF:Addr}(E:Errs w aB aL aS aC aF)(h8:8<=t.size)(hz:t.size<=300)(hw:whole t=true)(h5:byN t 5≠t.size-8) :
  Calls Tryz.prog 191 #[.string t] w fun e w'=>Ref2 aL aS aC aF e∧Below w.heap.size w w':=by
 have h8d:decide ((t.size:Int)<8)=false:=by simp;omega
 have HO:=hide (heap_new w (.cells #[.int .i64 0,.int .i64 0,.int .i64 0,.string ⟨#[]⟩] 31))
 have HZ:=hide ((Below.refl w.heap.size w).alloc (Nat.le_refl _) (.cells #[.int .i64 0,.int .i64 0,.int .i64 0,.string ⟨#[]⟩] 31))
 obtain⟨B5,hB5⟩:∃B,B=byN t 5:=⟨_,rfl⟩
 have hb5:(t[5]'(by omega)).toNat=B5:=by rw[hB5];exact byN_at t 5 (by omega)
 have l5:B5<256:=by rw[hB5];exact byN_lt _ _
 have hne:((B5:Int) != ((t.size-2-6:Nat):Int))=true:=by simp;omega
 have g5:(5:Int)<(t.size:Int):=by omega
 have g6:(6:Int)<=(t.size:Int)-2:=by omega
 clear hB5 h5
 go_enter Tryz.func191,Tryz.ntmps191
 go_wp2_with fail
 refine(implWhole_any t _ (by omega)).mono ?_
 rw[hw]
 rintro e w1 ⟨rfl,b1⟩
 have H1:=hide (block_on HO.out b1)
 have HB1:=hide (below_here HZ.out b1)
 have cS:=(E.here HB1.out).s
 have cS2:=cell_four cS (b:=w.heap.size) (Nat.ne_of_lt (block_lt_of E.s)) (.int .i64 0) (.int .i64 0) (.int .i64 0) (.string ⟨#[]⟩)
 obtain⟨c0,c1,c2,c3⟩:=four_cells H1.out
 have f0:=four_frozen H1.out 0
 have f1:=four_frozen H1.out 1
 have f2:=four_frozen H1.out 2
 have f3:=four_frozen H1.out 3
 have HF:=hide (four_set H1.out (.int .i64 0) (.int .i64 0) (.int .i64 0) (.string ⟨#[]⟩))
 have HG:=hide (four_below HB1.out (Nat.le_refl _) (.int .i64 0) (.int .i64 0) (.int .i64 0) (.string ⟨#[]⟩)).drew
 clear b1 HO HZ E H1 HB1
 go_wp2_with fail
 go_region
 all_goals go_wp2_with fail
 refine bodyPost_ret (results_ct rfl rfl (run_loadVar_row _ _ _ _ _ _ _ HF.out Tryz.underlying31 rfl (by kernel_rfl))) rfl ⟨⟨_,_,rfl,.inr (.inl rfl)⟩,HG.out⟩
set_option maxHeartbeats 4000000 in
theorem pageOf_told (t:ByteArray)(w:World){aB aL aS aC aF:Addr}(E:Errs w aB aL aS aC aF)(h8:8<=t.size)(hz:t.size<=300)(hw:whole t=true)(h5:byN t 5=t.size-8)(B0 B1 S:Nat)(tx:ByteArray)(hB0:B0=byN t 0)(hB1:B1=byN t 1)(hS:S=stampN t)(htx:tx=textIn t)(b:Bool)(hp:pageOk (B0:Int) (B1:Int) (S:Int) tx=b) :
  Calls Tryz.prog 191 #[.string t] w fun e w'=>(b=true->e=.returned (.tuple #[.agg #[.int .i64 (B0:Int),.int .i64 (B1:Int),.int .i64 (S:Int),.string tx],.nilIface]))∧(b=false->Ref2 aL aS aC aF e)∧Below w.heap.size w w':=by
 have h8d:decide ((t.size:Int)<8)=false:=by simp;omega
 have HO:=hide (heap_new w (.cells #[.int .i64 0,.int .i64 0,.int .i64 0,.string ⟨#[]⟩] 31))
 have HZ:=hide ((Below.refl w.heap.size w).alloc (Nat.le_refl _) (.cells #[.int .i64 0,.int .i64 0,.int .i64 0,.string ⟨#[]⟩] 31))
 obtain⟨B2,hB2⟩:∃B,B=byN t 2:=⟨_,rfl⟩
 obtain⟨B3,hB3⟩:∃B,B=byN t 3:=⟨_,rfl⟩
 obtain⟨B4,hB4⟩:∃B,B=byN t 4:=⟨_,rfl⟩
 obtain⟨B5,hB5⟩:∃B,B=byN t 5:=⟨_,rfl⟩
 have l0:B0<256:=by rw[hB0];exact byN_lt _ _
 have l1:B1<256:=by rw[hB1];exact byN_lt _ _
 have l2:B2<256:=by rw[hB2];exact byN_lt _ _
 have l3:B3<256:=by rw[hB3];exact byN_lt _ _
 have l4:B4<256:=by rw[hB4];exact byN_lt _ _
 have l5:B5<256:=by rw[hB5];exact byN_lt _ _
 have b0:(t[0]'(by omega)).toNat=B0:=by rw[hB0];exact byN_at t 0 (by omega)
 have b1':(t[1]'(by omega)).toNat=B1:=by rw[hB1];exact byN_at t 1 (by omega)
 have b2:(t[2]'(by omega)).toNat=B2:=by rw[hB2];exact byN_at t 2 (by omega)
 have b3:(t[3]'(by omega)).toNat=B3:=by rw[hB3];exact byN_at t 3 (by omega)
 have b4:(t[4]'(by omega)).toNat=B4:=by rw[hB4];exact byN_at t 4 (by omega)
 have b5:(t[5]'(by omega)).toNat=B5:=by rw[hB5];exact byN_at t 5 (by omega)
 have hne:((B5:Int) != ((t.size-2-6:Nat):Int))=false:=by simp;omega
 have g5:(5:Int)<(t.size:Int):=by omega
 have g6:(6:Int)<=(t.size:Int)-2:=by omega
 have HB:=hide (And.intro hB2 (And.intro hB3 hB4))
 have HS:=hide hS
 have HTX:=hide htx
 clear hB0 hB1 hB2 hB3 hB4 hB5 h5 hS htx
 go_enter Tryz.func191,Tryz.ntmps191
 go_wp2_with fail
 refine(implWhole_any t _ (by omega)).mono ?_
 rw[hw]
 rintro e w1 ⟨rfl,b1⟩
 have H1:=hide (block_on HO.out b1)
 have HB1:=hide (below_here HZ.out b1)
 clear b1 HO HZ
 go_wp2_with fail
 go_region
 rw[stamp_or l2 l3 l4]
 obtain⟨e2,e3,e4⟩:=HB.out
 rw[show B2*65536+B3*256+B4=S by rw[HS.out,stampN,<- e2,<- e3,<- e4],show t.extract 6 (t.size-2)=tx from HTX.out.symm]
 clear e2 e3 e4 HB b2 b3 b4 b0 b1' l2 l3 l4 hw hne
 have HN1:=hide (heap_new w1 (.cells #[.int .i64 (B0:Int),.int .i64 (B1:Int),.int .i64 (S:Int),.string tx] 31))
 have HR1:=hide (heap_old (o:=.cells #[.int .i64 (B0:Int),.int .i64 (B1:Int),.int .i64 (S:Int),.string tx] 31) H1.out)
 have HB2:=hide (HB1.out.alloc HB1.out.size (.cells #[.int .i64 (B0:Int),.int .i64 (B1:Int),.int .i64 (S:Int),.string tx] 31))
 have HB2:Hid (Below w.heap.size w (w1.alloc (.cells #[.int .i64 (B0:Int),.int .i64 (B1:Int),.int .i64 (S:Int),.string tx] 31)).drew):=HB2.out.drew
 have HN1:Hid ((w1.alloc (.cells #[.int .i64 (B0:Int),.int .i64 (B1:Int),.int .i64 (S:Int),.string tx] 31)).drew.heap[w1.heap.size]?=some (.cells #[.int .i64 (B0:Int),.int .i64 (B1:Int),.int .i64 (S:Int),.string tx] 31)):=HN1
 have HR1:Hid ((w1.alloc (.cells #[.int .i64 (B0:Int),.int .i64 (B1:Int),.int .i64 (S:Int),.string tx] 31)).drew.heap[w.heap.size]?=some (.cells #[.int .i64 0,.int .i64 0,.int .i64 0,.string ⟨#[]⟩] 31)):=HR1
 generalize (w1.alloc (.cells #[.int .i64 (B0:Int),.int .i64 (B1:Int),.int .i64 (S:Int),.string tx] 31)).drew=w2 at *
 clear H1 HB1
 obtain⟨c0,c1,c2,c3⟩:=four_cells HN1.out
 cases b
 ·go_wp2_with fail
  refine(implPageOk_any _ _ _ _ _).mono ?_
  rw[hp]
  rintro e w3 ⟨rfl,b3⟩
  have HR3:=hide (block_on HR1.out b3)
  have HB3:=hide (below_here HB2.out b3)
  clear b3 HR1 HN1 HB2 c0 c1 c2 c3
  have cF:=(E.here HB3.out).f
  have cF2:=cell_four cF (b:=w.heap.size) (Nat.ne_of_lt (block_lt_of E.f)) (.int .i64 0) (.int .i64 0) (.int .i64 0) (.string ⟨#[]⟩)
  obtain⟨c0,c1,c2,c3⟩:=four_cells HR3.out
  have f0:=four_frozen HR3.out 0
  have f1:=four_frozen HR3.out 1
  have f2:=four_frozen HR3.out 2
  have f3:=four_frozen HR3.out 3
  have HF:=hide (four_set HR3.out (.int .i64 0) (.int .i64 0) (.int .i64 0) (.string ⟨#[]⟩))
  have HG:=hide (four_below HB3.out (Nat.le_refl _) (.int .i64 0) (.int .i64 0) (.int .i64 0) (.string ⟨#[]⟩)).drew
  clear E HR3 HB3
  go_wp2_with fail
  go_region
  all_goals go_wp2_with fail
  refine bodyPost_ret (results_ct rfl rfl (run_loadVar_row _ _ _ _ _ _ _ HF.out Tryz.underlying31 rfl (by kernel_rfl))) rfl ⟨⟨_,_,rfl,.inr (.inr (.inr rfl))⟩,HG.out⟩
 ·go_wp2_with fail
  refine(implPageOk_any _ _ _ _ _).mono ?_
  rw[hp]
  rintro e w3 ⟨rfl,b3⟩
  have HR3:=hide (block_on HR1.out b3)
  have HN3:=hide (block_on HN1.out b3)
  have HB3:=hide (below_here HB2.out b3)
  clear b3 HR1 HN1 HB2 c0 c1 c2 c3
  obtain⟨c0,c1,c2,c3⟩:=four_cells HR3.out
  obtain⟨d0,d1,d2,d3⟩:=four_cells HN3.out
  have f0:=four_frozen HR3.out 0
  have f1:=four_frozen HR3.out 1
  have f2:=four_frozen HR3.out 2
  have f3:=four_frozen HR3.out 3
  have HF:=hide (four_set HR3.out (.int .i64 (B0:Int)) (.int .i64 (B1:Int)) (.int .i64 (S:Int)) (.string tx))
  have HG:=hide (four_below HB3.out (Nat.le_refl _) (.int .i64 (B0:Int)) (.int .i64 (B1:Int)) (.int .i64 (S:Int)) (.string tx))
  clear E HR3 HB3 HN3
  go_wp2_with fail
  refine bodyPost_ret (results_ct rfl rfl (run_loadVar_row _ _ _ _ _ _ _ HF.out Tryz.underlying31 rfl (by kernel_rfl))) rfl ⟨rfl,HG.out⟩
theorem pageOf_any (t:ByteArray)(w:World){aB aL aS aC aF:Addr}(E:Errs w aB aL aS aC aF)(hz:t.size<=300) :
  Calls Tryz.prog 191 #[.string t] w fun e w'=>(bodyOk t=true->e=.returned (.tuple #[.agg #[.int .i64 (byN t 0:Int),.int .i64 (byN t 1:Int),.int .i64 (stampN t:Int),.string (textIn t)],.nilIface]))∧(bodyOk t=false->Ref2 aL aS aC aF e)∧Below w.heap.size w w':=by
 by_cases h8:8<=t.size
 ·cases hw:whole t
  ·have hb:bodyOk t=false:=by simp[bodyOk,hw]
   rw[hb]
   exact(pageOf_smeared t w E h8 hz hw).mono fun e w' h=>⟨(fun h'=>by cases h'),fun _=>h.1,h.2⟩
  ·by_cases h5:byN t 5=t.size-8
   ·have hb:pageOk (byN t 0) (byN t 1) (stampN t) (textIn t)=bodyOk t:=by simp[bodyOk,h8,hw,h5]
    exact pageOf_told t w E h8 hz hw h5 _ _ _ _ rfl rfl rfl rfl _ hb
   ·have hb:bodyOk t=false:=by simp[bodyOk,h5]
    rw[hb]
    exact(pageOf_text t w E h8 hz hw h5).mono fun e w' h=>⟨(fun h'=>by cases h'),fun _=>h.1,h.2⟩
 ·have hb:bodyOk t=false:=by simp[bodyOk,h8]
  rw[hb]
  exact(pageOf_short t w E h8).mono fun e w' h=>⟨(fun h'=>by cases h'),fun _=>h.1,h.2⟩
end Go.Proofs.YtgjoepdfhadmcaaGreatDoor
