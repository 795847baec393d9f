/- Several texts in one: LyImplB, LyImplC. -/
import Derived.Test.YtgjoepdfhadmcaaGreatDoorMPageErr
import Derived.Test.YtgjoepdfhadmcaaGreatDoorMDraw7
import Derived.Test.YtgjoepdfhadmcaaGreatDoorMWalkB1
import Derived.Test.YtgjoepdfhadmcaaGreatDoorMWeaveIter
import Derived.BigRegion
import Derived.Test.YtgjoepdfhadmcaaGreatDoorMLyImplA
section
namespace Go.Proofs.YtgjoepdfhadmcaaGreatDoor
open Go.RowKit
set_option linter.unusedVariables false
set_option maxRecDepth 20000
def Ref3 (aL aS aC aF:Addr)(e:Ending):Prop:=∃p a,e=.returned (.tuple #[.string ⟨#[]⟩,.int .i64 0,.iface 192 (.agg #[.string p,.iface 312 (.pointer (some a))])])∧Four aL aS aC aF a
def told3 (s:ByteArray):Bool:=decide (2<=s.size)&&((headT s).2.2&&(decide (s.size-2=2*byN (headT s).1 0)&&(restT s).2.2))
set_option maxHeartbeats 1600000 in
theorem readBody_short (s:ByteArray)(w:World){aB aL aS aC aF:Addr}(E:Errs w aB aL aS aC aF)(h2:¬2<=s.size) :
  Calls Tryz.prog 190 #[.string s] w fun e w'=>Ref3 aL aS aC aF e∧Below w.heap.size w w':=by
 have h2d:decide ((s.size:Int)<2)=true:=by simp;omega
 have cS:=E.s
 clear E
 go_enter Tryz.func190,Tryz.ntmps190
 go_wp2_with fail
 go_region
 all_goals go_wp2_with fail
 all_goals go_ret3
 all_goals exact⟨⟨_,_,rfl,.inr (.inl rfl)⟩,(Below.refl _ _).drew⟩
set_option maxHeartbeats 4000000 in
theorem readBody_two (s:ByteArray)(w:World)(hT:Tab w){aB aL aS aC aF:Addr}(E:Errs w aB aL aS aC aF)(h2:2<=s.size)(hs:s.size<=1048576)(h t:ByteArray)(m n:Int)(one is:Bool)(hh:headT s=(h,m,one))(ht:restT s=(t,n,is)) :
  Calls Tryz.prog 190 #[.string s] w fun e w'=>(told3 s=true->e=.returned (.tuple #[.string t,.int .i64 (m+n),.nilIface]))∧(told3 s=false->Ref3 aL aS aC aF e)∧Below w.heap.size w w':=by
 have h2d:decide ((s.size:Int)<2)=false:=by simp;omega
 have g2:(2:Int)<=(s.size:Int):=by omega
 have HTB:=hide hT
 clear hT
 have hx2:=extract_size2 s h2
 have hxr:=extract_rest s h2
 have hhz:one=true->h.size=1:=fun e=>by
  have:=healed_size (s:=s.extract 0 2) (by rw[show healedAll (s.extract 0 2)=(h,m,one) from hh];exact e)
  rw[show healedAll (s.extract 0 2)=(h,m,one) from hh] at this
  have h':(s.extract 0 2).size=2*h.size:=this
  omega
 have hmb:0<=m∧m<=300:=by have:=healed_fixed (s.extract 0 2);rw[show healedAll (s.extract 0 2)=(h,m,one) from hh] at this;exact this
 have hnb:0<=n∧n<=300:=by have:=healed_fixed (unwoven (s.extract 2 s.size) 2);rw[show healedAll (unwoven (s.extract 2 s.size) 2)=(t,n,is) from ht] at this;exact this
 obtain⟨Q,hQ⟩:∃Q,Q=byN h 0:=⟨_,rfl⟩
 have hQl:Q<256:=by rw[hQ];exact byN_lt _ _
 have hb0:one=true->∀hx:0<h.size,(h[0]'hx).toNat=Q:=fun _ hx=>by rw[hQ];exact byN_at h 0 hx
 have HG:Hid (told3 s=(one&&(decide (s.size-2=2*Q)&&is))):=by show _=_;simp[told3,h2,hh,ht,hQ]
 have HH:=hide hh
 have HR:=hide ht
 clear hh ht hQ
 go_enter Tryz.func190,Tryz.ntmps190
 go_wp2_with fail
 refine(implHealedAll_any (s.extract 0 2) _ HTB.out (by omega)).mono ?_
 rw[show healedAll (s.extract 0 2)=(h,m,one) from HH.out]
 unfold toldV
 rintro e w1 ⟨rfl,b1⟩
 have HB1:=hide b1
 have E1:=E.here b1
 clear b1
 cases one
 ·have HGF:Hid (told3 s=false):=by show _=_;rw[HG.out];rfl
  have cL:=E1.l
  clear E E1 hhz hb0 HG
  go_wp2_with fail
  go_region
  all_goals go_wp2_with fail
  all_goals go_ret3
  all_goals exact⟨(fun hg=>by rw[HGF.out] at hg;cases hg),fun _=>⟨_,_,rfl,.inl rfl⟩,HB1.out.drew⟩
 ·have hz1:=hhz rfl
  have hb1:=hb0 rfl (by omega)
  clear hhz hb0
  by_cases hlen:s.size-2=2*Q
  ·have hne:(((s.size-2:Nat):Int) != 2*(Q:Int))=false:=by simp;omega
   have HGL:Hid (told3 s=is):=by show _=_;rw[HG.out];simp[hlen]
   clear HG hlen
   go_wp2_with fail
   refine(implUnwoven_any (s.extract 2 s.size) 2 _ (by omega)).mono ?_
   rintro e w2 ⟨rfl,b2⟩
   have HB2:=hide (below_here HB1.out b2)
   clear b2 HB1 E1
   go_wp2_with fail
   refine(implHealedAll_any (unwoven (s.extract 2 s.size) 2) _ (HTB.out.here HB2.out) (Nat.le_trans (unwoven_size_le _ _) (by omega))).mono ?_
   rw[show healedAll (unwoven (s.extract 2 s.size) 2)=(t,n,is) from HR.out]
   unfold toldV
   rintro e w3 ⟨rfl,b3⟩
   have HB3:=hide (below_here HB2.out b3)
   have E3:=E.here HB3.out
   clear b3 HB2 E
   cases is
   ·have cL:=E3.l
    clear E3
    go_wp2_with fail
    go_region
    all_goals go_wp2_with fail
    all_goals go_ret3
    all_goals exact⟨(fun hg=>by rw[HGL.out] at hg;cases hg),fun _=>⟨_,_,rfl,.inl rfl⟩,HB3.out.drew⟩
   ·clear E3
    go_wp2_with fail
    go_ret3
    exact⟨fun _=>rfl,(fun hg=>by rw[HGL.out] at hg;cases hg),HB3.out⟩
  ·have hne:(((s.size-2:Nat):Int) != 2*(Q:Int))=true:=by simp;omega
   have HGF:Hid (told3 s=false):=by show _=_;rw[HG.out];simp[hlen]
   have cS:=E1.s
   clear E E1 HG hlen
   go_wp2_with fail
   go_region
   all_goals go_wp2_with fail
   all_goals go_ret3
   all_goals exact⟨(fun hg=>by rw[HGF.out] at hg;cases hg),fun _=>⟨_,_,rfl,.inr (.inl rfl)⟩,HB1.out.drew⟩
end Go.Proofs.YtgjoepdfhadmcaaGreatDoor
end

section
namespace Go.Proofs.YtgjoepdfhadmcaaGreatDoor
open Go.RowKit
set_option linter.unusedVariables false
set_option maxRecDepth 20000
theorem told_good {s:ByteArray}:(told3 s&&bodyOk (restT s).1)=goodL s:=by
 by_cases h2:2<=s.size
 ·by_cases hl:s.size-2=2*byN (headT s).1 0
  ·cases ho:(headT s).2.2
   ·simp[told3,goodL,ho]
   ·cases hi:(restT s).2.2
    ·simp[told3,goodL,hi]
    ·have hz:=healed_size (s:=unwoven (s.extract 2 s.size) 2) hi
     have hb:=byN_lt (headT s).1 0
     have hu:=unwoven_size (s:=s.extract 2 s.size) (by rw[extract_rest s h2];omega)
     rw[extract_rest s h2] at hu
     have hq:byN (headT s).1 0=(restT s).1.size:=by
      have hr:(restT s).1.size=(healedAll (unwoven (s.extract 2 s.size) 2)).1.size:=rfl
      omega
     simp[told3,goodL,ho,hi,h2,hq,hl]
  ·rw[torn_len h2 hl]
   simp[told3,hl]
 ·simp[told3,goodL,h2]
def RefP (aL aS aC aF:Addr)(e:Ending):Prop:=∃p a,e=.returned (.tuple #[.agg #[.int .i64 0,.int .i64 0,.int .i64 0,.string ⟨#[]⟩],.int .i64 0,.iface 192 (.agg #[.string p,.iface 312 (.pointer (some a))])])∧Four aL aS aC aF a
set_option maxHeartbeats 1600000 in
theorem readPage_blank (s:ByteArray)(w:World){aB aL aS aC aF:Addr}(E:Errs w aB aL aS aC aF)(h0:s.size=0) :
  Calls Tryz.prog 154 #[.string s] w fun e w'=>e=.returned (.tuple #[.agg #[.int .i64 0,.int .i64 0,.int .i64 0,.string ⟨#[]⟩],.int .i64 0,.iface 192 (.agg #[.string ⟨#[97,108,108]⟩,.iface 312 (.pointer (some aB))])])∧Below w.heap.size w w':=by
 have hs:s.toList.isEmpty=true:=by rw[text_empty];simp[h0]
 have cB:=E.b
 have lB:=block_lt_of cB
 clear E
 go_enter Tryz.func154,Tryz.ntmps154
 go_wp2_with fail
 go_region
 all_goals go_wp2_with fail
 refine bodyPost_ret (results_ctt rfl rfl (run_loadVar_row _ _ _ _ _ _ _ (heap_new _ _) Tryz.underlying31 rfl (by kernel_rfl))) rfl ⟨rfl,((Below.refl _ _).alloc (Nat.le_refl _) _).drew⟩
set_option maxHeartbeats 4000000 in
theorem readPage_any (s:ByteArray)(w:World)(hT:Tab w){aB aL aS aC aF:Addr}(E:Errs w aB aL aS aC aF)(h0:s.size≠0)(hs:s.size<=1048576)(h t:ByteArray)(m n:Int)(one is:Bool)(hh:headT s=(h,m,one))(ht:restT s=(t,n,is))(K A S:Nat)(x:ByteArray)(hK:K=byN t 0)(hA:A=byN t 1)(hS:S=stampN t)(hx:x=textIn t) :
  Calls Tryz.prog 154 #[.string s] w fun e w'=>(goodL s=true->e=.returned (.tuple #[.agg #[.int .i64 (K:Int),.int .i64 (A:Int),.int .i64 (S:Int),.string x],.int .i64 (m+n),.nilIface]))∧(goodL s=false->RefP aL aS aC aF e)∧Below w.heap.size w w':=by
 have he:s.toList.isEmpty=false:=by rw[text_empty];exact decide_eq_false (by omega)
 have htz:t.size<=300:=by have:=healed_size_le (unwoven (s.extract 2 s.size) 2);rw[show healedAll (unwoven (s.extract 2 s.size) 2)=(t,n,is) from ht] at this;exact this
 have HG:Hid (goodL s=(told3 s&&bodyOk t)):=by show _=_;rw[<- told_good,ht]
 have HRB:∀w1,Hid (Tab w1->Errs w1 aB aL aS aC aF->Calls Tryz.prog 190 #[.string s] w1 fun e w'=>(told3 s=true->e=.returned (.tuple #[.string t,.int .i64 (m+n),.nilIface]))∧(told3 s=false->Ref3 aL aS aC aF e)∧Below w1.heap.size w1 w'):=fun w1 hT1 E1=>by
  by_cases h2:2<=s.size
  ·exact readBody_two s w1 hT1 E1 h2 hs h t m n one is hh ht
  ·have hb:told3 s=false:=by simp[told3,h2]
   rw[hb]
   exact(readBody_short s w1 E1 h2).mono fun e w' h=>⟨(fun h'=>by cases h'),fun _=>h.1,h.2⟩
 have HPO:∀w1,Hid (Errs w1 aB aL aS aC aF->Calls Tryz.prog 191 #[.string t] w1 fun e w'=>(bodyOk t=true->e=.returned (.tuple #[.agg #[.int .i64 (K:Int),.int .i64 (A:Int),.int .i64 (S:Int),.string x],.nilIface]))∧(bodyOk t=false->Ref2 aL aS aC aF e)∧Below w1.heap.size w1 w'):=fun w1 E1=>by
  rw[hK,hA,hS,hx];exact pageOf_any t w1 E1 htz
 have HO:=hide (heap_new w (.cells #[.int .i64 0,.int .i64 0,.int .i64 0,.string ⟨#[]⟩] 31))
 have HZ:=hide ((Below.refl w.heap.size w).alloc (Nat.le_refl _) (.cells #[.int .i64 0,.int .i64 0,.int .i64 0,.string ⟨#[]⟩] 31))
 have HTB:=hide hT
 clear hT hh ht hK hA hS hx
 cases h3:told3 s
 ·have HGF:Hid (goodL s=false):=by show _=_;rw[HG.out,h3];rfl
  go_enter Tryz.func154,Tryz.ntmps154
  go_wp2_with fail
  refine((HRB _).out (HTB.out.here HZ.out) (E.here HZ.out)).mono ?_
  rintro e w1 ⟨_,hr,b1⟩
  obtain⟨p,a,rfl,h4⟩:=hr h3
  have H1:=hide (block_on HO.out b1)
  have HB1:=hide (below_here HZ.out b1)
  obtain⟨c0,c1,c2,c3⟩:=four_cells H1.out
  have f0:=four_frozen H1.out 0
  have f1:=four_frozen H1.out 1
  have f2:=four_frozen H1.out 2
  have f3:=four_frozen H1.out 3
  have HF:=hide (four_set H1.out (.int .i64 0) (.int .i64 0) (.int .i64 0) (.string ⟨#[]⟩))
  have HL:=hide (four_below HB1.out (Nat.le_refl _) (.int .i64 0) (.int .i64 0) (.int .i64 0) (.string ⟨#[]⟩))
  have H4:=hide h4
  clear b1 HO HZ hr H1 HB1 HRB HPO HG h4
  go_wp2_with fail
  refine bodyPost_ret (results_ctt rfl rfl (run_loadVar_row _ _ _ _ _ _ _ HF.out Tryz.underlying31 rfl (by kernel_rfl))) rfl ⟨(fun hg=>by rw[HGF.out] at hg;cases hg),fun _=>⟨_,_,rfl,H4.out⟩,HL.out⟩
 ·have HGF:Hid (goodL s=bodyOk t):=by show _=_;rw[HG.out,h3];rfl
  go_enter Tryz.func154,Tryz.ntmps154
  go_wp2_with fail
  refine((HRB _).out (HTB.out.here HZ.out) (E.here HZ.out)).mono ?_
  rintro e w1 ⟨hr,_,b1⟩
  obtain rfl:=hr h3
  have H1:=hide (block_on HO.out b1)
  have HB1:=hide (below_here HZ.out b1)
  clear b1 HO HZ hr HRB HG
  go_wp2_with fail
  refine((HPO _).out (E.here HB1.out)).mono ?_
  rintro e w2 ⟨hy,hr,b2⟩
  have H2:=hide (block_on H1.out b2)
  have HB2:=hide (below_here HB1.out b2)
  clear b2 H1 HB1 HPO
  cases hb:bodyOk t
  ·obtain⟨p,a,rfl,h4⟩:=hr hb
   have HGF:Hid (goodL s=false):=by show _=_;rw[HGF.out,hb]
   have H2:=hide (heap_old (o:=(.cells #[.int .i64 0,.int .i64 0,.int .i64 0,.string ⟨#[]⟩] 31)) H2.out)
   have HB2:=hide (HB2.out.alloc HB2.out.size (.cells #[.int .i64 0,.int .i64 0,.int .i64 0,.string ⟨#[]⟩] 31))
   obtain⟨c0,c1,c2,c3⟩:=four_cells H2.out
   have f0:=four_frozen H2.out 0
   have f1:=four_frozen H2.out 1
   have f2:=four_frozen H2.out 2
   have f3:=four_frozen H2.out 3
   have HF:=hide (four_set H2.out (.int .i64 0) (.int .i64 0) (.int .i64 0) (.string ⟨#[]⟩))
   have HL:=hide (four_below HB2.out (Nat.le_refl _) (.int .i64 0) (.int .i64 0) (.int .i64 0) (.string ⟨#[]⟩))
   have H4:=hide h4
   clear hy hr h4 H2 HB2
   go_wp2_with fail
   refine bodyPost_ret (results_ctt rfl rfl (run_loadVar_row _ _ _ _ _ _ _ HF.out Tryz.underlying31 rfl (by kernel_rfl))) rfl ⟨(fun hg=>by rw[HGF.out] at hg;cases hg),fun _=>⟨_,_,rfl,H4.out⟩,HL.out⟩
  ·obtain rfl:=hy hb
   have HGF:Hid (goodL s=true):=by show _=_;rw[HGF.out,hb]
   have H2:=hide (heap_old (o:=(.cells #[.int .i64 (K:Int),.int .i64 (A:Int),.int .i64 (S:Int),.string x] 31)) H2.out)
   have HB2:=hide (HB2.out.alloc HB2.out.size (.cells #[.int .i64 (K:Int),.int .i64 (A:Int),.int .i64 (S:Int),.string x] 31))
   obtain⟨c0,c1,c2,c3⟩:=four_cells H2.out
   have f0:=four_frozen H2.out 0
   have f1:=four_frozen H2.out 1
   have f2:=four_frozen H2.out 2
   have f3:=four_frozen H2.out 3
   have HF:=hide (four_set H2.out (.int .i64 (K:Int)) (.int .i64 (A:Int)) (.int .i64 (S:Int)) (.string x))
   have HL:=hide (four_below HB2.out (Nat.le_refl _) (.int .i64 (K:Int)) (.int .i64 (A:Int)) (.int .i64 (S:Int)) (.string x))
   clear hy hr H2 HB2
   go_wp2_with fail
   refine bodyPost_ret (results_ctt rfl rfl (run_loadVar_row _ _ _ _ _ _ _ HF.out Tryz.underlying31 rfl (by kernel_rfl))) rfl ⟨fun _=>rfl,(fun hg=>by rw[HGF.out] at hg;cases hg),HL.out⟩
end Go.Proofs.YtgjoepdfhadmcaaGreatDoor
end

