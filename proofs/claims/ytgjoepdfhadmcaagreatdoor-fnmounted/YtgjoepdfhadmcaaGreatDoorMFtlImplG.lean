/- . -/
import Derived.Test.YtgjoepdfhadmcaaGreatDoorMFtlImplF
import Derived.Test.YtgjoepdfhadmcaaGreatDoorMPageLaidI
import Derived.Deep.RegionHeld3
namespace Go.Proofs.YtgjoepdfhadmcaaGreatDoor
open Go.RowKit
set_option linter.unusedVariables false
set_option maxRecDepth 20000
theorem Tab.low {w w':World}(h:Tab w){B:Nat}(hb:Below B w w')(hG:7<B):Tab w':=fun k hk=>(hb.cell (p:=⟨7,k,none⟩) hG).trans (h k hk)
theorem KeeperAt.stamped {B pk n g c gm cm:Nat}{w:World}{z st:Int}{A:Nat->Option Addr}{C:Nat->Nat}{V:Value}{s:Kp}{aN:Addr}(h:KeeperAt B w pk z st n g c gm cm A C V s aN)(o:Int) :
  KeeperAt B (w.setCell ⟨pk,4,none⟩ (.int .i64 o)) pk z o n g c gm cm A C V s aN:=by
 have hm:=h.mem.set (o:=4) (.int .i64 o) h.nk h.box (by decide) (by decide) (by decide)
 refine⟨⟨hm.sq,hm.pl,hm.jb,hm.ne,hm.nj⟩,set_block h.box 4 _ (by simp),h.nk,h.bk,?_,h.eb⟩
 rw[World.cell?_setCell_other _ _ _ _ (by intro e2;simp only[Addr.mk.injEq] at e2;have:=h.eb;have:=h.bk;omega)]
 exact h.er
theorem roomy_room {z:Int}{t:Kp}{o:Nat}(h:roomy z t=true)(ho:t.op=(o:Int)):((sqAt t.qs o).1.length:Int)<z:=by
 unfold roomy at h
 rw[ho] at h
 simpa using h
theorem laidB_some (K A S:Nat)(x:ByteArray):1<=(laidB K A S x).size:=by
 have h4:(str (spreadL [UInt8.ofNat (x.size+8)])).size=2:=by rw[spread_len];rfl
 unfold laidB
 rw[ByteArray.size_append]
 omega
set_option maxHeartbeats 6400000 in
theorem enter_any (B pk:Nat)(z st:Int)(n g c gm cm:Nat)(A:Nat->Option Addr)(C:Nat->Nat)(V:Value)(s:Kp)(aN:Addr)(kd a sp:Int)(tx:ByteArray)(w:World)(h:KeeperAt B w pk z st n g c gm cm A C V s aN)(hB:B<=w.heap.size)(hK:KOk z s)(hjs:s.js.length<=1000)(hst:0<=st∧st<=1000000)(hme:mayEnt s.ps st kd a tx=true)(hT:Tab w)(hG:7<B) :
  Calls Tryz.prog 99 #[.pointer (some ⟨pk,0,none⟩),.agg #[.int .i64 kd,.int .i64 a,.int .i64 sp,.string tx]] w fun e w'=>IPost (enterK z s st kd a tx) (.tuple #[]) (fun _=>True) B pk z (st+1) n g c gm cm aN w e w':=by
 have HEN:=hide (enterK_yes (z:=z) hme)
 have hmm:=hme
 unfold mayEnt at hmm
 rw[Bool.and_eq_true] at hmm
 obtain⟨hpk,hin⟩:=hmm
 obtain⟨K,a',S',rfl,rfl,hSe,hK2,ha63,hS1,hS2,hx24⟩:=page_ok hpk
 obtain⟨wA,hwA⟩:∃wA,wA=w.alloc (.cells #[.int .i64 (K:Int),.int .i64 (a':Int),.int .i64 sp,.string tx] 31):=⟨_,rfl⟩
 have hzA:wA.heap.size=w.heap.size+1:=by rw[hwA];simp
 have HBA:Hid (Below w.heap.size w wA):=by rw[hwA];exact(Below.refl _ _).alloc (Nat.le_refl _) _
 have HP:Hid (wA.heap[w.heap.size]?=some (.cells #[.int .i64 (K:Int),.int .i64 (a':Int),.int .i64 sp,.string tx] 31)):=by rw[hwA];exact heap_new _ _
 have HA:=hide (h.later HBA.out hB)
 have HTA:=hide (hT.here HBA.out)
 obtain⟨bd1,bd2,bd3,bd4,bd5⟩:=h.bound
 have HNL:=hide h.mem.sq.len
 have hn12:n<=12:=by have:=(chipOk_parts hK.map.chip).2.2.2.1;rw[h.mem.sq.len] at this;exact this
 obtain⟨m,hme2⟩:∃m,m=s.ps.length:=⟨_,rfl⟩
 have HME:=hide hme2
 have hm64:=hK.map.few
 rw[<- hme2] at hm64 hin
 have hal:a'<m:=by unfold inB at hin;simp only[Bool.and_eq_true,decide_eq_true_eq] at hin;omega
 have hai:(a':Int)<(m:Int):=by omega
 have HK:=hide hK
 have HLA:Hid (laid (K:Int) (a':Int) (st+1) tx=laidB K a' S' tx):=by show _=_;rw[hSe];exact laid_yes (by rw[<- hSe];exact hpk)
 have hwr:IntKind.i64.wrap (st+1)=st+1:=by rw[IntKind.wrap_i64];omega
 have HSE:=hide hSe
 clear h hK hme hpk hin hme2 hT hSe
 go_enter Tryz.func99,Tryz.ntmps99
 go_wp2_with fail
 rw[<- hwA]
 clear hwA
 refine(makeRoom_any B pk z st n g c gm cm A C V s aN wA HA.out (by omega) HK.out hjs).mono ?_
 rintro e w1 ⟨hf1,hk1⟩
 have HF1:=hide ((frame_of_below (L:=[g,pk,gm]) HBA.out hB).trans hf1)
 have HP1:=hide (hf1.other w.heap.size _ _ _ (by simp;omega) (by decide) (by decide) HP.out)
 have HT1:=hide (HTA.out.low hf1.below hG)
 have hs1:=hf1.below.size
 clear hf1
 cases hrm:roomK z 20 s with
 | none =>
  have HE:Hid (enterK z s st (K:Int) (a':Int) tx=none):=by show _=_;rw[HEN.out,hrm];rfl
  rw[hrm] at hk1
  dsimp only at hk1
  subst hk1
  unfold noRoomV
  go_wp2_with fail
  refine⟨rfl,?_⟩
  unfold IPost
  rw[HE.out]
  exact⟨HF1.out,rfl⟩
 | some t =>
  rw[hrm] at hk1
  dsimp only at hk1
  obtain⟨rfl,A1,C1,V1,hA1,_⟩:=hk1
  obtain⟨hST,hry⟩:=roomK_ok HK.out hrm
  have htm:t.ps.length=m:=hST.places.trans HME.out.symm
  have htq:t.qs.length=n:=hST.squares.trans HNL.out
  have hop:0<=t.op:=by unfold roomy at hry;simp at hry;exact hry.1
  obtain⟨o,ho⟩:∃o:Nat,t.op=(o:Int):=⟨t.op.toNat,by omega⟩
  have hon:o<n:=by have:=hST.ok.hi;omega
  have hjt:t.js.length<=20000:=by have:=roomK_len HK.out hrm;omega
  have hrz:=roomy_room hry ho
  have HEN2:Hid (enterK z s st (K:Int) (a':Int) tx=putK z t a' (laidB K a' S' tx)):=by show _=_;rw[HEN.out,hrm,Option.bind_some,Int.toNat_natCast,HLA.out]
  have HPI:=hide (putK_in (z:=z) (i:=a') (tx:=laidB K a' S' tx) ho)
  have hds:=doK_room (z:=z) (s:=t) (o:=o) (k:=(sqAt t.qs o).1.length) (tx:=laidB K a' S' tx) hST.ok ho (by omega) (Nat.le_refl _) hrz (laidB_some K a' S' tx) (laidB_small K a' S' tx hx24)
  obtain⟨u1,hd⟩:=Option.isSome_iff_exists.1 hds
  obtain⟨hu2,hu3⟩:=doK_op hd
  have hu1:u1.ps.length=m:=by rw[hu3];exact htm
  have HTX:=hide (laidB_small K a' S' tx hx24)
  have HCK:=hide hST.ok.map.chip
  have HES:Hid (enterK z s st (K:Int) (a':Int) tx=some ⟨u1.qs,u1.ps.set a' ((o:Int),((sqAt t.qs o).1.length:Int)),u1.op,u1.js⟩):=by show _=_;rw[HEN2.out,HPI.out,hd];rfl
  obtain⟨x0,x1,x2,x3,x4,x5⟩:=six_cells hA1.box
  have f4:=four_frozen hA1.box 4
  obtain⟨p0,p1,p2,p3⟩:=four_cells HP1.out
  have q2:=four_frozen HP1.out 2
  have HA2:=hide (hA1.stamped (st+1))
  have HF2:=hide (HF1.out.set (p:=pk) (by simp) hA1.bk 4 (.int .i64 (st+1)))
  obtain⟨w2,hw2⟩:∃w2,w2=(w1.setCell ⟨pk,4,none⟩ (.int .i64 (st+1))).setCell ⟨w.heap.size,2,none⟩ (.int .i64 (st+1)):=⟨_,rfl⟩
  have hpw:pk≠w.heap.size:=by omega
  have HP1b:=hide (set_other (o:=4) HP1.out hpw (.int .i64 (st+1)))
  have HA3:Hid (KeeperAt B w2 pk z (st+1) n g c gm cm A1 C1 V1 t aN):=by
   rw[hw2]
   exact HA2.out.setP 2 (.int .i64 (st+1)) (by omega) (by omega) (by omega) hB HP1b.out (by decide) (by decide)
  have HP3:Hid (w2.heap[w.heap.size]?=some (.cells #[.int .i64 (K:Int),.int .i64 (a':Int),.int .i64 (st+1),.string tx] 31)):=by rw[hw2];exact set_block HP1b.out 2 _ (by simp)
  have HF3:Hid (Frame B [g,pk,gm] w w2):=by rw[hw2];exact HF2.out.setNew (p:=w.heap.size) (Nat.le_refl _) hB 2 (.int .i64 (st+1))
  have hs2:w1.heap.size=w2.heap.size:=by rw[hw2,Go.Deep.nblk_setCell,Go.Deep.nblk_setCell]
  have HS2:=hide hs2
  have HT3:Hid (Tab w2):=by
   have:=hA1.bk
   rw[hw2]
   intro k hk
   rw[World.cell?_setCell_other _ _ _ _ (by intro e2;simp only[Addr.mk.injEq] at e2;omega),World.cell?_setCell_other _ _ _ _ (by intro e2;simp only[Addr.mk.injEq] at e2;omega)]
   exact HT1.out k hk
  clear hA1 hrm hST hry hop hs2 HP1b HA2 HF2 hds x0 x1 x2 x3 x5 p0 p1 p3
  go_upto_region 4 with fail
  rw[<- hw2]
  clear hw2 x4 f4 p2 q2
  have hs2:=HS2.out
  have HLD:∀W,Hid (Below w2.heap.size w2 W->Calls Tryz.prog 153 #[.agg #[.int .i64 (K:Int),.int .i64 (a':Int),.int .i64 (st+1),.string tx]] W fun e w'=>e=.returned (.string (laidB K a' S' tx))∧Below W.heap.size W w'):=fun W hb=>by
   have h9:=implLaid_any (K:Int) (a':Int) (st+1) tx W (HT3.out.here hb)
   rw[HLA.out] at h9
   exact h9
  have HWR:∀W,Hid (Below w2.heap.size w2 W->Calls Tryz.prog 152 #[.pointer (some ⟨pk,0,none⟩),.string (laidB K a' S' tx)] W fun e w'=>Frame B [g,pk,gm] W w'∧e=.returned (.agg #[.int .i64 (o:Int),.int .i64 ((sqAt t.qs o).1.length:Int)])∧∃A C V,KeeperAt B w' pk z (st+1) n g c gm cm A C V u1 aN):=fun W hb=>by
   have h9:=write_any B pk z (st+1) n g c gm cm A1 C1 V1 t aN o (laidB K a' S' tx) W (HA3.out.later hb (by omega)) (by have:=hb.size;omega) HCK.out ho hon (by have:=HTX.out;unfold maxLen;omega) (by omega)
   refine h9.mono fun e w' hh=>?_
   unfold IPost at hh
   rw[hd] at hh
   dsimp only at hh
   obtain⟨k1,k2,A9,C9,V9,k3,_⟩:=hh
   exact⟨k1,k2,A9,C9,V9,k3⟩
  obtain⟨lt,hlt⟩:∃lt,lt=laidB K a' S' tx:=⟨_,rfl⟩
  rw[<- hlt] at HLD HWR
  obtain⟨lo,hlo⟩:∃lo,lo=(sqAt t.qs o).1.length:=⟨_,rfl⟩
  rw[<- hlo] at HWR HES
  clear hlt hlo hd HPI HEN2 HEN HLA HTX hrz
  obtain⟨x0,x1,x2,x3,x4,x5⟩:=six_cells HA3.out.box
  rw[htm] at x2
  obtain⟨p0,p1,p2,p3⟩:=four_cells HP3.out
  have HSK:∀W,Hid (Below w2.heap.size w2 W->W.cell? ⟨pk,2,none⟩=some (.slice (some ⟨gm,0,none⟩) m cm)∧W.cell? ⟨w.heap.size,0,none⟩=some (.int .i64 (K:Int))∧W.cell? ⟨w.heap.size,1,none⟩=some (.int .i64 (a':Int))∧W.cell? ⟨w.heap.size,2,none⟩=some (.int .i64 (st+1))∧W.cell? ⟨w.heap.size,3,none⟩=some (.string tx)):=fun W hb=>⟨(hb.cell (p:=⟨_,_,none⟩) (by show pk<_;omega)).trans x2,(hb.cell (p:=⟨_,_,none⟩) (by show w.heap.size<_;omega)).trans p0,(hb.cell (p:=⟨_,_,none⟩) (by show w.heap.size<_;omega)).trans p1,(hb.cell (p:=⟨_,_,none⟩) (by show w.heap.size<_;omega)).trans p2,(hb.cell (p:=⟨_,_,none⟩) (by show w.heap.size<_;omega)).trans p3⟩
  have HSW:∀W W',Hid (Below w2.heap.size w2 W->Frame B [g,pk,gm] W W'->∀A C V,KeeperAt B W' pk z (st+1) n g c gm cm A C V u1 aN->W'.cell? ⟨pk,2,none⟩=some (.slice (some ⟨gm,0,none⟩) m cm)∧W'.cell? ⟨w.heap.size,0,none⟩=some (.int .i64 (K:Int))∧W'.cell? ⟨w.heap.size,1,none⟩=some (.int .i64 (a':Int))∧W'.cell? ⟨w.heap.size,2,none⟩=some (.int .i64 (st+1))∧W'.cell? ⟨w.heap.size,3,none⟩=some (.string tx)):=fun W W' hb hf A9 C9 V9 hk9=>by
   obtain⟨_,_,e2,_,_,_⟩:=six_cells hk9.box
   rw[hu1] at e2
   obtain⟨q0,q1,q2,q3⟩:=four_cells (hf.other w.heap.size _ _ _ (by simp;omega) (by decide) (by decide) (block_on HP3.out hb))
   exact⟨e2,q0,q1,q2,q3⟩
  have hgp:=HA3.out.apart
  have hgw:gm≠w.heap.size:=by omega
  have hcs:∀(W:World) (i j q r:Nat) (u v x:Value),q≠gm->W.cell? ⟨q,r,none⟩=some x->((W.setCell ⟨gm,i,none⟩ u).setCell ⟨gm,j,none⟩ v).cell? ⟨q,r,none⟩=some x:=fun W i j q r u v x hq hx=>by
   rw[World.cell?_setCell_other _ _ _ _ (by intro e2;simp only[Addr.mk.injEq] at e2;omega),World.cell?_setCell_other _ _ _ _ (by intro e2;simp only[Addr.mk.injEq] at e2;omega)]
   exact hx
  have HSG:∀(W:World) (i j:Nat) (u v:Value),Hid ((W.cell? ⟨pk,2,none⟩=some (.slice (some ⟨gm,0,none⟩) m cm)∧W.cell? ⟨w.heap.size,0,none⟩=some (.int .i64 (K:Int))∧W.cell? ⟨w.heap.size,1,none⟩=some (.int .i64 (a':Int))∧W.cell? ⟨w.heap.size,2,none⟩=some (.int .i64 (st+1))∧W.cell? ⟨w.heap.size,3,none⟩=some (.string tx))->(((W.setCell ⟨gm,i,none⟩ u).setCell ⟨gm,j,none⟩ v).cell? ⟨pk,2,none⟩=some (.slice (some ⟨gm,0,none⟩) m cm)∧((W.setCell ⟨gm,i,none⟩ u).setCell ⟨gm,j,none⟩ v).cell? ⟨w.heap.size,0,none⟩=some (.int .i64 (K:Int))∧((W.setCell ⟨gm,i,none⟩ u).setCell ⟨gm,j,none⟩ v).cell? ⟨w.heap.size,1,none⟩=some (.int .i64 (a':Int))∧((W.setCell ⟨gm,i,none⟩ u).setCell ⟨gm,j,none⟩ v).cell? ⟨w.heap.size,2,none⟩=some (.int .i64 (st+1))∧((W.setCell ⟨gm,i,none⟩ u).setCell ⟨gm,j,none⟩ v).cell? ⟨w.heap.size,3,none⟩=some (.string tx))):=fun W i j u v hh=>⟨hcs W i j pk 2 u v _ (Ne.symm hgp) hh.1,hcs W i j _ 0 u v _ (Ne.symm hgw) hh.2.1,hcs W i j _ 1 u v _ (Ne.symm hgw) hh.2.2.1,hcs W i j _ 2 u v _ (Ne.symm hgw) hh.2.2.2.1,hcs W i j _ 3 u v _ (Ne.symm hgw) hh.2.2.2.2⟩
  have HB0:Hid (Below w2.heap.size w2 w2.drew):=(Below.refl w2.heap.size w2).drew
  clear hcs hgp hgw
  have hB2:B<=w2.heap.size:=by omega
  have HZ2:=hide hs2
  clear hs2
  go_region_held3 (fun W=>W.cell? ⟨pk,2,none⟩=some (.slice (some ⟨gm,0,none⟩) m cm)∧W.cell? ⟨w.heap.size,0,none⟩=some (.int .i64 (K:Int))∧W.cell? ⟨w.heap.size,1,none⟩=some (.int .i64 (a':Int))∧W.cell? ⟨w.heap.size,2,none⟩=some (.int .i64 (st+1))∧W.cell? ⟨w.heap.size,3,none⟩=some (.string tx))
   (first|exact(HSK _).out HB0.out|exact(HSK _).out HB5.out|exact HS6.out|exact(HSG _ _ _ _ _).out HS6.out|fail)
   (first
    | (go_at_call 153;refine((HLD _).out HB0.out).mono ?_;rintro e w5 ⟨rfl,b5⟩;have HB5:=hide (below_here HB0.out b5);clear b5)
    | (go_at_call 152;refine((HWR _).out HB5.out).mono ?_;rintro e w6 ⟨hf6,rfl,A6,C6,V6,hA6⟩;have HS6:=hide ((HSW _ _).out HB5.out hf6 A6 C6 V6 hA6);have HF6:=hide ((HF3.out.on HB5.out hB2).trans hf6);have HA6:=hide hA6;obtain⟨y0,y1,g0,g1⟩:=hA6.mem.cells (i:=a') (by omega);clear hf6 hA6)
    | fail)
  all_goals
   have HL:=hide (HA6.out.led (i:=a') (by omega) ((o:Int),(lo:Int)))
   have HFL:=hide ((HF6.out.set (p:=gm) (by simp) bd4 (a'*2) (.int .i64 (o:Int))).set (p:=gm) (by simp) bd4 (a'*2+1) (.int .i64 (lo:Int)))
   go_wp2_with fail
   go_end0
   unfold IPost
   rw[HES.out]
   exact⟨HFL.out,rfl,A6,C6,V6,HL.out,trivial⟩
end Go.Proofs.YtgjoepdfhadmcaaGreatDoor
