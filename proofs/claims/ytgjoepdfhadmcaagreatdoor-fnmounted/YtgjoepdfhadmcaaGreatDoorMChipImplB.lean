/- . -/
import Derived.Test.YtgjoepdfhadmcaaGreatDoorMChipOwn2
import Derived.Test.YtgjoepdfhadmcaaGreatDoorMCloneW
namespace Go.Proofs.YtgjoepdfhadmcaaGreatDoor
open Go.RowKit
set_option linter.unusedVariables false
set_option maxRecDepth 20000
set_option maxHeartbeats 1600000 in
theorem implNewChip_any (n:Nat)(z:Int)(w:World)(h1:1<=n)(h2:n<=12)(hz:inB z 1 8=true) :
  Calls Tryz.prog 132 #[.int .i64 (n:Int),.int .i64 z] w fun e w'=>∃a,e=.returned (.tuple #[.agg #[.int .i64 z,.slice a n n],.bool true])∧OwnSquares w.heap.size w'.heap.size w' a n (List.replicate n ([],0,false))∧Below w.heap.size w w':=by
 obtain⟨wA,hwA⟩:∃wA,wA=w.alloc (.cells #[.int .i64 0,.slice none 0 0] 26):=⟨_,rfl⟩
 have hzA:wA.heap.size=w.heap.size+1:=by rw[hwA];simp
 have HBA:Hid (Below w.heap.size w wA):=by rw[hwA];exact(Below.refl _ _).alloc (Nat.le_refl _) _
 have H1:Hid (wA.heap[w.heap.size]?=some (.cells #[.int .i64 0,.slice none 0 0] 26)):=by rw[hwA];exact heap_new _ _
 have hi:inB (n:Int) 1 12=true:=by unfold inB;simp;omega
 have hmk:=make3 (P:=Tryz.prog) 24 42 (.slice none 0 0) (.int .i64 0) (.bool false) 40 Tryz.underlying24 Tryz.infoSq n (by omega) (by omega) wA
 go_enter Tryz.func132,Tryz.ntmps132
 go_wp2_with fail
 rw[<- hwA]
 clear hwA
 refine(isLayout_any (n:Int) z wA).mono ?_
 rintro e w1 ⟨rfl,rfl⟩
 rw[hi,hz]
 obtain⟨a0,a1⟩:=two_cells H1.out
 have f0:=four_frozen H1.out 0
 have f1:=four_frozen H1.out 1
 go_wp2_with fail
 have HRS:=hide (two_set H1.out (.int .i64 z) (.slice (some ⟨w.heap.size+1,0,none⟩) n n))
 have HAS:=hide (two_aside (b:=w.heap.size) (Aside.refl w.heap.size (w.heap.size+1) wA) (Nat.le_refl _) (Nat.lt_succ_self _) (.int .i64 z) (.slice (some ⟨w.heap.size+1,0,none⟩) n n))
 have hsW:((wA.setCell ⟨w.heap.size,0,none⟩ (.int .i64 z)).setCell ⟨w.heap.size,1,none⟩ (.slice (some ⟨w.heap.size+1,0,none⟩) n n)).heap.size=w.heap.size+1:=by rw[Go.Deep.nblk_setCell,Go.Deep.nblk_setCell,hzA]
 have HBW:=hide (HBA.out.trans (HAS.out.below (Nat.le_refl _) (by omega)))
 have HOW:=hide (made3 ((wA.setCell ⟨w.heap.size,0,none⟩ (.int .i64 z)).setCell ⟨w.heap.size,1,none⟩ (.slice (some ⟨w.heap.size+1,0,none⟩) n n)) n 42)
 rw[hsW] at HOW
 refine bodyPost_ret (results_ct rfl rfl (run_loadVar_row _ _ _ _ _ _ _ (heap_old HRS.out) Tryz.underlying26 rfl (by kernel_rfl))) rfl ⟨_,rfl,squares_new HOW.out (by omega),HBW.out.alloc (by omega) _⟩
set_option maxHeartbeats 800000 in
theorem implNewChip_no (q z:Int)(w:World)(h:(inB q 1 12&&inB z 1 8)=false) :
  Calls Tryz.prog 132 #[.int .i64 q,.int .i64 z] w fun e w'=>e=.returned (.tuple #[.agg #[.int .i64 0,.slice none 0 0],.bool false])∧Below w.heap.size w w':=by
 obtain⟨wA,hwA⟩:∃wA,wA=w.alloc (.cells #[.int .i64 0,.slice none 0 0] 26):=⟨_,rfl⟩
 have hzA:wA.heap.size=w.heap.size+1:=by rw[hwA];simp
 have HBA:Hid (Below w.heap.size w wA):=by rw[hwA];exact(Below.refl _ _).alloc (Nat.le_refl _) _
 have H1:Hid (wA.heap[w.heap.size]?=some (.cells #[.int .i64 0,.slice none 0 0] 26)):=by rw[hwA];exact heap_new _ _
 obtain⟨a0,a1⟩:=two_cells H1.out
 have f0:=four_frozen H1.out 0
 have f1:=four_frozen H1.out 1
 have HRS:=hide (two_set H1.out (.int .i64 0) (.slice none 0 0))
 have HAS:=hide (two_aside (b:=w.heap.size) (Aside.refl w.heap.size (w.heap.size+1) wA) (Nat.le_refl _) (Nat.lt_succ_self _) (.int .i64 0) (.slice none 0 0))
 have HBW:=hide (HBA.out.trans (HAS.out.below (Nat.le_refl _) (by omega)))
 go_enter Tryz.func132,Tryz.ntmps132
 go_wp2_with fail
 rw[<- hwA]
 clear hwA
 refine(isLayout_any q z wA).mono ?_
 rintro e w1 ⟨rfl,rfl⟩
 rw[h]
 go_wp2_with fail
 refine bodyPost_ret (results_ct rfl rfl (run_loadVar_row _ _ _ _ _ _ _ HRS.out Tryz.underlying26 rfl (by kernel_rfl))) rfl ⟨rfl,HBW.out⟩
set_option maxHeartbeats 800000 in
theorem hasPage_any (z:Int)(a:Option Addr)(n cap:Nat)(qs:List Sq)(sq pg:Int)(w:World){lo hi:Nat}(h:Squares lo hi w a n qs)(hhi:hi<=w.heap.size)(hn:n<=1048576)(hf:∀x∈qs,sqFits x) :
  Calls Tryz.prog 142 #[.agg #[.int .i64 z,.slice a n cap],.int .i64 sq,.int .i64 pg] w fun e w'=>e=.returned (.bool (inB sq 0 ((n:Int)-1)&&inB pg 0 (((sqAt qs sq.toNat).1.length:Int)-1)))∧Below w.heap.size w w':=by
 obtain⟨wA,hwA⟩:∃wA,wA=w.alloc (.cells #[.int .i64 z,.slice a n cap] 26):=⟨_,rfl⟩
 have hzA:wA.heap.size=w.heap.size+1:=by rw[hwA];simp
 have HBA:Hid (Below w.heap.size w wA):=by rw[hwA];exact(Below.refl _ _).alloc (Nat.le_refl _) _
 have H1:Hid (wA.heap[w.heap.size]?=some (.cells #[.int .i64 z,.slice a n cap] 26)):=by rw[hwA];exact heap_new _ _
 have HSQ:=hide (h.later HBA.out hhi)
 have HL:=hide h.1
 have HF:=hide hf
 clear h hf
 obtain⟨a0,a1⟩:=two_cells H1.out
 obtain⟨bb,hbb⟩:∃bb,bb=(inB sq 0 ((n:Int)-1)&&inB pg 0 (((sqAt qs sq.toNat).1.length:Int)-1)):=⟨_,rfl⟩
 have HBB:=hide hbb
 rw[<- hbb]
 clear hbb
 go_enter Tryz.func142,Tryz.ntmps142
 go_wp2_with fail
 rw[<- hwA]
 clear hwA
 refine(hasSquare_any z a n cap sq wA).mono ?_
 rintro e w2 ⟨rfl,b2⟩
 have H3:=hide (block_on H1.out b2)
 have HS2:=hide (HSQ.out.later b2 (by omega))
 have hs2:=b2.size
 have HB2:=hide (below_here HBA.out b2)
 clear b2 H1 HSQ HBA a0 a1
 obtain⟨a0,a1⟩:=two_cells H3.out
 cases hin:inB sq 0 ((n:Int)-1) with
 | false =>
  go_wp2_with fail
  go_ret
  exact⟨ret_bool (by rw[HBB.out,hin];rfl),HB2.out⟩
 | true =>
  have hin2:=hin
  unfold inB at hin2
  simp only[Bool.and_eq_true,decide_eq_true_eq] at hin2
  obtain⟨i,rfl⟩:∃i:Nat,sq=(i:Int):=⟨sq.toNat,by omega⟩
  have hlt:i<n:=by omega
  have hql:i<qs.length:=by rw[HL.out];exact hlt
  obtain⟨_,A,C,hx,ht⟩:=HS2.out
  obtain⟨b,off,rfl,_,hb,hc⟩:=hx.2 (by omega)
  obtain⟨c0,c1,c2⟩:=sq_cells hc (Below.refl w2.heap.size w2) (show b<w2.heap.size by have:=hx.1;omega) hlt
  have hl9:=(sq_fits HF.out hql).2.1
  unfold maxLen at hl9
  rw[Int.toNat_natCast,hin,Bool.true_and] at HBB
  clear hc hx ht hin hin2 c1 c2
  generalize sqAt qs i=y at *
  obtain⟨ts,zw,bd⟩:=y
  dsimp only at c0 hl9 HBB
  by_cases hp0:0<=pg
  ·have g0:decide (pg>=0)=true:=by simpa using hp0
   have HE:Hid (inB pg 0 ((ts.length:Int)-1)=decide (pg<(ts.length:Int))):=by show _=_;unfold inB;rw[decide_eq_true hp0,Bool.true_and];congr 1;apply propext;omega
   go_wp2_with fail
   go_ret
   exact⟨ret_bool (by rw[HBB.out,HE.out]),HB2.out⟩
  ·have g0:decide (pg>=0)=false:=by simpa using hp0
   have HE:Hid (inB pg 0 ((ts.length:Int)-1)=false):=by show _=_;unfold inB;rw[decide_eq_false hp0,Bool.false_and]
   go_wp2_with fail
   go_ret
   exact⟨ret_bool (by rw[HBB.out,HE.out]),HB2.out⟩
end Go.Proofs.YtgjoepdfhadmcaaGreatDoor
