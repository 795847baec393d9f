/- . -/
import Derived.Test.YtgjoepdfhadmcaaGreatDoorMLyImplB
namespace Go.Proofs.YtgjoepdfhadmcaaGreatDoor
open Go.RowKit
set_option linter.unusedVariables false
set_option maxRecDepth 20000
theorem two_cells {W:World}{b:Nat}{c0 c1:Value}{t:TypeId}{fr:Nat×Nat}(h:W.heap[b]?=some (.cells #[c0,c1] t fr)):W.cell? ⟨b,0,none⟩=some c0∧W.cell? ⟨b,1,none⟩=some c1:=by
 simp[World.cell?,h]
theorem two_other {W:World}{b k:Nat}{o:Option Obj}(h:W.heap[b]?=o)(hne:k≠b)(u v:Value):((W.setCell ⟨k,0,none⟩ u).setCell ⟨k,1,none⟩ v).heap[b]?=o:=by
 rw[Go.Deep.blk_setCell_other _ _ _ _ (by exact fun e=>hne (by simpa using e.symm)),Go.Deep.blk_setCell_other _ _ _ _ (by exact fun e=>hne (by simpa using e.symm))];exact h
set_option maxHeartbeats 4000000 in
theorem implLying_blank (s:ByteArray)(w:World){aB aL aS aC aF:Addr}(E:Errs w aB aL aS aC aF)(h0:s.size=0) :
  Calls Tryz.prog 102 #[.string s] w fun e w'=>e=.returned (lyV (lyP s))∧Below w.heap.size w w':=by
 have HE:=hide (lyP_blank h0)
 have HO:=hide (heap_new w (.cells #[.int .i64 0,.int .i64 0,.int .i64 0,.string ⟨#[]⟩] 31))
 have HZ:=hide ((Below.refl w.heap.size w).alloc (Nat.le_refl _) (.cells #[.int .i64 0,.int .i64 0,.int .i64 0,.string ⟨#[]⟩] 31))
 go_enter Tryz.func102,Tryz.ntmps102
 go_wp2_with fail
 refine(readPage_blank s _ (E.here HZ.out) h0).mono ?_
 rintro e w1 ⟨rfl,b1⟩
 have H1:=hide (block_on HO.out b1)
 have HB1:=hide (below_here HZ.out b1)
 clear b1 HO HZ
 have HBA:Hid (Below w.heap.size w ((w1.alloc (.cells #[.int .i64 0,.int .i64 0,.int .i64 0,.string ⟨#[]⟩] 31)).alloc (.cells #[.string ⟨#[]⟩,.nilIface] 192))):=(HB1.out.alloc HB1.out.size _).alloc (by have:=HB1.out.size;simp;omega) _
 have HRA:Hid (((w1.alloc (.cells #[.int .i64 0,.int .i64 0,.int .i64 0,.string ⟨#[]⟩] 31)).alloc (.cells #[.string ⟨#[]⟩,.nilIface] 192)).heap[w.heap.size]?=some (.cells #[.int .i64 0,.int .i64 0,.int .i64 0,.string ⟨#[]⟩] 31)):=heap_old (heap_old H1.out)
 have HPA:Hid (((w1.alloc (.cells #[.int .i64 0,.int .i64 0,.int .i64 0,.string ⟨#[]⟩] 31)).alloc (.cells #[.string ⟨#[]⟩,.nilIface] 192)).heap[w1.heap.size]?=some (.cells #[.int .i64 0,.int .i64 0,.int .i64 0,.string ⟨#[]⟩] 31)):=heap_old (heap_new _ _)
 have HNA:Hid (((w1.alloc (.cells #[.int .i64 0,.int .i64 0,.int .i64 0,.string ⟨#[]⟩] 31)).alloc (.cells #[.string ⟨#[]⟩,.nilIface] 192)).heap[w1.heap.size+1]?=some (.cells #[.string ⟨#[]⟩,.nilIface] 192)):=heap_at (by simp)
 have cB:((w1.alloc (.cells #[.int .i64 0,.int .i64 0,.int .i64 0,.string ⟨#[]⟩] 31)).alloc (.cells #[.string ⟨#[]⟩,.nilIface] 192)).cell? ⟨0,0,none⟩=some (.iface 312 (.pointer (some aB))):=(E.here HBA.out).b
 have EA:=hide (E.here HBA.out)
 have hlt:w.heap.size<w1.heap.size:=(Array.getElem?_eq_some_iff.1 H1.out).1
 clear H1 HB1
 go_wp2_with fail
 refine(is_blank _ aB _).mono ?_
 rintro e w3 ⟨rfl,rfl⟩
 generalize ((w1.alloc (.cells #[.int .i64 0,.int .i64 0,.int .i64 0,.string ⟨#[]⟩] 31)).alloc (.cells #[.string ⟨#[]⟩,.nilIface] 192))=wA at *
 have HRX:=hide (heap_old (o:=.cells #[.string ⟨#[97,108,108]⟩,.iface 312 (.pointer (some aB))] 192) HRA.out)
 have HBX:=hide (HBA.out.alloc HBA.out.size (.cells #[.string ⟨#[97,108,108]⟩,.iface 312 (.pointer (some aB))] 192))
 clear HRA HBA HPA HNA EA
 obtain⟨c0,c1,c2,c3⟩:=four_cells HRX.out
 have f0:=four_frozen HRX.out 0
 have f1:=four_frozen HRX.out 1
 have f2:=four_frozen HRX.out 2
 have f3:=four_frozen HRX.out 3
 have HF:=hide (four_set HRX.out (.int .i64 0) (.int .i64 0) (.int .i64 0) (.string ⟨#[]⟩))
 have HG:=hide (four_below HBX.out (Nat.le_refl _) (.int .i64 0) (.int .i64 0) (.int .i64 0) (.string ⟨#[]⟩))
 clear HRX HBX
 go_wp2_with fail
 refine bodyPost_ret (results_ct rfl rfl (run_loadVar_row _ _ _ _ _ _ _ HF.out Tryz.underlying31 rfl (by kernel_rfl))) rfl ⟨?_,HG.out⟩
 rw[HE.out];rfl
set_option maxHeartbeats 4000000 in
theorem implLying_torn (s:ByteArray)(w:World)(hT:Tab w){aB aL aS aC aF:Addr}(E:Errs w aB aL aS aC aF)(h0:s.size≠0)(hs:s.size<=1048576)(hg:goodL s=false) :
  Calls Tryz.prog 102 #[.string s] w fun e w'=>e=.returned (lyV (lyP s))∧Below w.heap.size w w':=by
 have HE:=hide (lyP_torn h0 hg)
 have HO:=hide (heap_new w (.cells #[.int .i64 0,.int .i64 0,.int .i64 0,.string ⟨#[]⟩] 31))
 have HZ:=hide ((Below.refl w.heap.size w).alloc (Nat.le_refl _) (.cells #[.int .i64 0,.int .i64 0,.int .i64 0,.string ⟨#[]⟩] 31))
 have HTB:=hide hT
 clear hT
 go_enter Tryz.func102,Tryz.ntmps102
 go_wp2_with fail
 refine(readPage_any s _ (HTB.out.here HZ.out) (E.here HZ.out) h0 hs _ _ _ _ _ _ rfl rfl _ _ _ _ rfl rfl rfl rfl).mono ?_
 rintro e w1 ⟨_,hr,b1⟩
 obtain⟨p,a,rfl,h4⟩:=hr hg
 have H4:=hide h4
 have H1:=hide (block_on HO.out b1)
 have HB1:=hide (below_here HZ.out b1)
 clear b1 HO HZ hr h4
 have HBA:Hid (Below w.heap.size w ((w1.alloc (.cells #[.int .i64 0,.int .i64 0,.int .i64 0,.string ⟨#[]⟩] 31)).alloc (.cells #[.string ⟨#[]⟩,.nilIface] 192))):=(HB1.out.alloc HB1.out.size _).alloc (by have:=HB1.out.size;simp;omega) _
 have HRA:Hid (((w1.alloc (.cells #[.int .i64 0,.int .i64 0,.int .i64 0,.string ⟨#[]⟩] 31)).alloc (.cells #[.string ⟨#[]⟩,.nilIface] 192)).heap[w.heap.size]?=some (.cells #[.int .i64 0,.int .i64 0,.int .i64 0,.string ⟨#[]⟩] 31)):=heap_old (heap_old H1.out)
 have HPA:Hid (((w1.alloc (.cells #[.int .i64 0,.int .i64 0,.int .i64 0,.string ⟨#[]⟩] 31)).alloc (.cells #[.string ⟨#[]⟩,.nilIface] 192)).heap[w1.heap.size]?=some (.cells #[.int .i64 0,.int .i64 0,.int .i64 0,.string ⟨#[]⟩] 31)):=heap_old (heap_new _ _)
 have HNA:Hid (((w1.alloc (.cells #[.int .i64 0,.int .i64 0,.int .i64 0,.string ⟨#[]⟩] 31)).alloc (.cells #[.string ⟨#[]⟩,.nilIface] 192)).heap[w1.heap.size+1]?=some (.cells #[.string ⟨#[]⟩,.nilIface] 192)):=heap_at (by simp)
 have cB:((w1.alloc (.cells #[.int .i64 0,.int .i64 0,.int .i64 0,.string ⟨#[]⟩] 31)).alloc (.cells #[.string ⟨#[]⟩,.nilIface] 192)).cell? ⟨0,0,none⟩=some (.iface 312 (.pointer (some aB))):=(E.here HBA.out).b
 have EA:=hide (E.here HBA.out)
 have hlt:w.heap.size<w1.heap.size:=(Array.getElem?_eq_some_iff.1 H1.out).1
 clear H1 HB1
 go_wp2_with fail
 generalize ((w1.alloc (.cells #[.int .i64 0,.int .i64 0,.int .i64 0,.string ⟨#[]⟩] 31)).alloc (.cells #[.string ⟨#[]⟩,.nilIface] 192))=wA at *
 obtain⟨hne,ca,ta,ha⟩:=EA.out.other H4.out
 obtain⟨cb,tb,hb⟩:=EA.out.hb
 refine(is_else p aB a ca cb ta tb wA hne ha hb).mono ?_
 rintro e w3 ⟨rfl,rfl⟩
 have HRX:=hide (heap_old (o:=.cells #[.string p,.iface 312 (.pointer (some a))] 192) HRA.out)
 have HNX:=hide (heap_old (o:=.cells #[.string p,.iface 312 (.pointer (some a))] 192) HNA.out)
 have HBX:=hide (HBA.out.alloc HBA.out.size (.cells #[.string p,.iface 312 (.pointer (some a))] 192))
 have EX:=hide (E.here HBX.out)
 clear HRA HBA HPA HNA EA hne ha hb cB
 generalize wA.alloc (.cells #[.string p,.iface 312 (.pointer (some a))] 192)=wX at *
 go_wp2_with fail
 obtain⟨n0,n1⟩:=two_cells HNX.out
 refine(as_hit p _ rfl (w1.heap.size+1) _ _ wX EX.out.t n0 n1 (four_frozen HNX.out 0) (four_frozen HNX.out 1)).mono ?_
 rintro e w4 ⟨rfl,w5,b5,rfl⟩
 have HR5:=hide (two_other (block_on HRX.out b5) (show w1.heap.size+1≠w.heap.size by omega) (.string p) (.iface 312 (.pointer (some a))))
 have HB5:=hide (((below_here HBX.out b5).setCell (p:=⟨w1.heap.size+1,0,none⟩) (by show w.heap.size<=w1.heap.size+1;omega) (.string p)).setCell (p:=⟨w1.heap.size+1,1,none⟩) (by show w.heap.size<=w1.heap.size+1;omega) (.iface 312 (.pointer (some a))))
 clear b5 HRX HNX HBX EX n0 n1
 generalize ((w5.setCell ⟨w1.heap.size+1,0,none⟩ (.string p)).setCell ⟨w1.heap.size+1,1,none⟩ (.iface 312 (.pointer (some a))))=wY at *
 have HRX:=HR5
 have HBX:=HB5
 clear HR5 HB5
 obtain⟨c0,c1,c2,c3⟩:=four_cells HRX.out
 have f0:=four_frozen HRX.out 0
 have f1:=four_frozen HRX.out 1
 have f2:=four_frozen HRX.out 2
 have f3:=four_frozen HRX.out 3
 have HF:=hide (four_set HRX.out (.int .i64 0) (.int .i64 0) (.int .i64 0) (.string ⟨#[]⟩))
 have HG:=hide (four_below HBX.out (Nat.le_refl _) (.int .i64 0) (.int .i64 0) (.int .i64 0) (.string ⟨#[]⟩))
 clear HRX HBX
 go_wp2_with fail
 refine bodyPost_ret (results_ct rfl rfl (run_loadVar_row _ _ _ _ _ _ _ HF.out Tryz.underlying31 rfl (by kernel_rfl))) rfl ⟨?_,HG.out⟩
 rw[HE.out];rfl
set_option maxHeartbeats 4000000 in
theorem implLying_good (s:ByteArray)(w:World)(hT:Tab w){aB aL aS aC aF:Addr}(E:Errs w aB aL aS aC aF)(h0:s.size≠0)(hs:s.size<=1048576)(hg:goodL s=true) :
  Calls Tryz.prog 102 #[.string s] w fun e w'=>e=.returned (lyV (lyP s))∧Below w.heap.size w w':=by
 obtain⟨h,m,one,hh⟩:∃h m one,headT s=(h,m,one):=⟨_,_,_,rfl⟩
 obtain⟨t,n,is,ht⟩:∃t n is,restT s=(t,n,is):=⟨_,_,_,rfl⟩
 obtain⟨K,hK⟩:∃K,K=byN t 0:=⟨_,rfl⟩
 obtain⟨A,hA⟩:∃A,A=byN t 1:=⟨_,rfl⟩
 obtain⟨S,hS⟩:∃S,S=stampN t:=⟨_,rfl⟩
 obtain⟨x,hx⟩:∃x,x=textIn t:=⟨_,rfl⟩
 have HE:=hide (lyP_good h0 hg)
 rw[ht,hh] at HE
 have HE:Hid (lyP s=((K:Int),(A:Int),(S:Int),x,if 0<m+n then 2 else 1)):=by
  rw[HE.out,hK,hA,hS,hx,Int.add_comm n m];exact rfl
 have HO:=hide (heap_new w (.cells #[.int .i64 0,.int .i64 0,.int .i64 0,.string ⟨#[]⟩] 31))
 have HZ:=hide ((Below.refl w.heap.size w).alloc (Nat.le_refl _) (.cells #[.int .i64 0,.int .i64 0,.int .i64 0,.string ⟨#[]⟩] 31))
 have HTB:=hide hT
 have HRP:=hide (readPage_any s _ (hT.here HZ.out) (E.here HZ.out) h0 hs _ _ _ _ _ _ hh ht K A S x hK hA hS hx)
 clear hT hh ht hK hA hS hx
 go_enter Tryz.func102,Tryz.ntmps102
 go_wp2_with fail
 refine HRP.out.mono ?_
 rintro e w1 ⟨hy,_,b1⟩
 obtain rfl:=hy hg
 have H1:=hide (block_on HO.out b1)
 have HB1:=hide (below_here HZ.out b1)
 clear b1 HO HZ hy HRP
 have HBA:Hid (Below w.heap.size w ((w1.alloc (.cells #[.int .i64 (K:Int),.int .i64 (A:Int),.int .i64 (S:Int),.string x] 31)).alloc (.cells #[.string ⟨#[]⟩,.nilIface] 192))):=(HB1.out.alloc HB1.out.size _).alloc (by have:=HB1.out.size;simp;omega) _
 have HRA:Hid (((w1.alloc (.cells #[.int .i64 (K:Int),.int .i64 (A:Int),.int .i64 (S:Int),.string x] 31)).alloc (.cells #[.string ⟨#[]⟩,.nilIface] 192)).heap[w.heap.size]?=some (.cells #[.int .i64 0,.int .i64 0,.int .i64 0,.string ⟨#[]⟩] 31)):=heap_old (heap_old H1.out)
 have HPA:Hid (((w1.alloc (.cells #[.int .i64 (K:Int),.int .i64 (A:Int),.int .i64 (S:Int),.string x] 31)).alloc (.cells #[.string ⟨#[]⟩,.nilIface] 192)).heap[w1.heap.size]?=some (.cells #[.int .i64 (K:Int),.int .i64 (A:Int),.int .i64 (S:Int),.string x] 31)):=heap_old (heap_new _ _)
 have HNA:Hid (((w1.alloc (.cells #[.int .i64 (K:Int),.int .i64 (A:Int),.int .i64 (S:Int),.string x] 31)).alloc (.cells #[.string ⟨#[]⟩,.nilIface] 192)).heap[w1.heap.size+1]?=some (.cells #[.string ⟨#[]⟩,.nilIface] 192)):=heap_at (by simp)
 have cB:((w1.alloc (.cells #[.int .i64 (K:Int),.int .i64 (A:Int),.int .i64 (S:Int),.string x] 31)).alloc (.cells #[.string ⟨#[]⟩,.nilIface] 192)).cell? ⟨0,0,none⟩=some (.iface 312 (.pointer (some aB))):=(E.here HBA.out).b
 have EA:=hide (E.here HBA.out)
 have hlt:w.heap.size<w1.heap.size:=(Array.getElem?_eq_some_iff.1 H1.out).1
 clear H1 HB1
 go_wp2_with fail
 generalize ((w1.alloc (.cells #[.int .i64 (K:Int),.int .i64 (A:Int),.int .i64 (S:Int),.string x] 31)).alloc (.cells #[.string ⟨#[]⟩,.nilIface] 192))=wA at *
 refine(is_nil aB wA).mono ?_
 rintro e w3 ⟨rfl,rfl⟩
 go_wp2_with fail
 refine(as_nil _ w3).mono ?_
 rintro e w4 ⟨rfl,rfl⟩
 have HRX:=HRA
 have HBX:=HBA
 obtain⟨d0,d1,d2,d3⟩:=four_cells HPA.out
 clear HRA HBA HPA HNA EA cB
 by_cases hpos:0<m+n
 ·rw[if_pos hpos] at HE
  have hd9:decide ((0:Int)<m+n)=true:=by simpa using hpos
  obtain⟨c0,c1,c2,c3⟩:=four_cells HRX.out
  have f0:=four_frozen HRX.out 0
  have f1:=four_frozen HRX.out 1
  have f2:=four_frozen HRX.out 2
  have f3:=four_frozen HRX.out 3
  have HF:=hide (four_set HRX.out (.int .i64 (K:Int)) (.int .i64 (A:Int)) (.int .i64 (S:Int)) (.string x))
  have HG:=hide (four_below HBX.out (Nat.le_refl _) (.int .i64 (K:Int)) (.int .i64 (A:Int)) (.int .i64 (S:Int)) (.string x))
  clear HRX HBX
  go_wp2_with fail
  refine bodyPost_ret (results_ct rfl rfl (run_loadVar_row _ _ _ _ _ _ _ HF.out Tryz.underlying31 rfl (by kernel_rfl))) rfl ⟨?_,HG.out⟩
  rw[HE.out];rfl
 ·rw[if_neg hpos] at HE
  have hd9:decide ((0:Int)<m+n)=false:=by simpa using hpos
  obtain⟨c0,c1,c2,c3⟩:=four_cells HRX.out
  have f0:=four_frozen HRX.out 0
  have f1:=four_frozen HRX.out 1
  have f2:=four_frozen HRX.out 2
  have f3:=four_frozen HRX.out 3
  have HF:=hide (four_set HRX.out (.int .i64 (K:Int)) (.int .i64 (A:Int)) (.int .i64 (S:Int)) (.string x))
  have HG:=hide (four_below HBX.out (Nat.le_refl _) (.int .i64 (K:Int)) (.int .i64 (A:Int)) (.int .i64 (S:Int)) (.string x))
  clear HRX HBX
  go_wp2_with fail
  refine bodyPost_ret (results_ct rfl rfl (run_loadVar_row _ _ _ _ _ _ _ HF.out Tryz.underlying31 rfl (by kernel_rfl))) rfl ⟨?_,HG.out⟩
  rw[HE.out];rfl
theorem implLying_any (s:ByteArray)(w:World)(hT:Tab w){aB aL aS aC aF:Addr}(E:Errs w aB aL aS aC aF)(hs:s.size<=1048576) :
  Calls Tryz.prog 102 #[.string s] w fun e w'=>e=.returned (lyV (lyP s))∧Below w.heap.size w w':=by
 by_cases h0:s.size=0
 ·exact implLying_blank s w E h0
 ·cases hg:goodL s
  ·exact implLying_torn s w hT E h0 hs hg
  ·exact implLying_good s w hT E h0 hs hg
end Go.Proofs.YtgjoepdfhadmcaaGreatDoor
