/- . -/
import Derived.Test.YtgjoepdfhadmcaaGreatDoorSFtlImplG
import Derived.Test.YtgjoepdfhadmcaaGreatDoorSChipGrow
import Derived.Test.YtgjoepdfhadmcaaGreatDoorSChipAns
import Derived.Test.YtgjoepdfhadmcaaGreatDoorSFtlOwnP
import Derived.Test.YtgjoepdfhadmcaaGreatDoorSFtlImplA
import Derived.Test.YtgjoepdfhadmcaaGreatDoorSPageBase
namespace Go.Proofs.YtgjoepdfhadmcaaGreatDoor
open Go.RowKit
set_option linter.unusedVariables false
set_option maxRecDepth 20000
set_option maxHeartbeats 1600000 in
theorem clonePl_any (b off m cm : Nat) (ps : List Pl) (w : World) {lo hi : Nat} (hp : Places lo hi w (some ⟨b,off,none⟩) m ps) (hhi : hi <= w.heap.size) (hm1 : 1 <= m) (hm : m <= 64) :
  Calls Tryz.prog 150 #[.slice (some ⟨b,off,none⟩) m cm] w fun e w' => ∃ gm cm',e = .returned (.slice (some ⟨gm,0,none⟩) m cm') ∧ PlOwn w.heap.size w' (.slice (some ⟨gm,0,none⟩) ps.length cm') ps ∧ Below w.heap.size w w' := by
 obtain ⟨wC,hwC⟩ : ∃ wC,wC = w.alloc (.cells #[] 39) := ⟨_,rfl⟩
 have hzC : wC.heap.size = w.heap.size + 1 := by rw [hwC]; simp
 have HBC : Hid (Below w.heap.size w wC) := by rw [hwC]; exact (Below.refl _ _).alloc (Nat.le_refl _) _
 have HMD : Hid (PlOwn w.heap.size wC (.slice (some ⟨w.heap.size,0,none⟩) 0 0) []) := by rw [hwC]; exact pl_made0 w
 obtain ⟨gm,cm',w2,hap,hpo,hgr,hat⟩ := append_places (P := Tryz.prog) Tryz.infoPl9 Tryz.underlying27 HMD.out (by omega) (c := cm) (hp.later HBC.out hhi) hm1 (by omega)
 have HAP := hide hap
 have HPO := hide hpo
 have HB2 : Hid (Below w.heap.size w w2) := HBC.out.grown hgr (by omega) (fun k e => by simp only [Option.some.injEq] at e; omega)
 clear hap hpo hgr hat HMD hp hzC
 have hq : ∀ w,(binOp BinOp.eql 27 (.slice (some ⟨b,off,none⟩) m cm) (.slice none 0 0)).run Tryz.prog w = .ok (.bool false) w := fun w => by kernel_rfl
 go_enter Tryz.func150,Tryz.ntmps150
 go_wp2_with (at_builtin; rw [<- hwC]; refine wpList_append_eq rfl (.tmp 5) (.tmp 6) 27 rfl _ _ _ w2 rfl rfl HAP.out ?_)
 go_ret
 exact ⟨gm,cm',rfl,HPO.out,HB2.out⟩
set_option maxHeartbeats 3200000 in
theorem keeperOf_any (z : Int) (a : Option Addr) (n cap : Nat) (qs : List Sq) (am : Option Addr) (m cm : Nat) (ps : List Pl) (op st : Int) (w : World) {lo hi lo' hi' : Nat} (h : Squares lo hi w a n qs) (hhi : hi <= w.heap.size) (hok : chipOk z qs = true) (hp : Places lo' hi' w am m ps) (hhi' : hi' <= w.heap.size) (hm1 : 1 <= m) (hm : m <= 64) {aN : Addr} (hN : w.cell? ⟨1,0,none⟩ = some (noRoomV aN)) :
  Calls Tryz.prog 98 #[.agg #[.int .i64 z,.slice a n cap,.slice am m cm,.int .i64 op,.int .i64 st]] w fun e w' => ∃ pk g c gm cm' A C,e = .returned (.pointer (some ⟨pk,0,none⟩)) ∧ KeeperAt w.heap.size w' pk z st n g c gm cm' A C (.slice none 0 0) ⟨qs,ps,op,[]⟩ aN ∧ Below w.heap.size w w' := by
 obtain ⟨wA,hwA⟩ : ∃ wA,wA = w.alloc (.cells #[.int .i64 z,.slice a n cap,.slice am m cm,.int .i64 op,.int .i64 st] 29) := ⟨_,rfl⟩
 have hzA : wA.heap.size = w.heap.size + 1 := by rw [hwA]; simp
 have HBA : Hid (Below w.heap.size w wA) := by rw [hwA]; exact (Below.refl _ _).alloc (Nat.le_refl _) _
 have H0 : Hid (wA.heap[w.heap.size]? = some (.cells #[.int .i64 z,.slice a n cap,.slice am m cm,.int .i64 op,.int .i64 st] 29)) := by rw [hwA]; exact heap_new _ _
 have HSQ := hide (h.later HBA.out hhi)
 have HPL := hide (hp.later HBA.out hhi')
 have HLP := hide hp.1
 have hGl : 1 < w.heap.size := World.block_lt_of_cell? _ _ hN
 have HN := hide hN
 obtain ⟨b,off,rfl,_,hb,_⟩ := hp.2.2 (by omega)
 clear h hp hN
 obtain ⟨c0,c1,c2,c3,c4⟩ := five_cells H0.out
 have HSK : ∀ W,Hid (Below wA.heap.size wA W -> W.cell? ⟨w.heap.size,0,none⟩ = some (.int .i64 z) ∧ W.cell? ⟨w.heap.size,1,none⟩ = some (.slice a n cap) ∧ W.cell? ⟨w.heap.size,2,none⟩ = some (.slice (some ⟨b,off,none⟩) m cm) ∧ W.cell? ⟨w.heap.size,3,none⟩ = some (.int .i64 op) ∧ W.cell? ⟨w.heap.size,4,none⟩ = some (.int .i64 st)) := fun W hb => ⟨(hb.cell (p := ⟨_,_,none⟩) (by show w.heap.size < _; omega)).trans c0,(hb.cell (p := ⟨_,_,none⟩) (by show w.heap.size < _; omega)).trans c1,(hb.cell (p := ⟨_,_,none⟩) (by show w.heap.size < _; omega)).trans c2,(hb.cell (p := ⟨_,_,none⟩) (by show w.heap.size < _; omega)).trans c3,(hb.cell (p := ⟨_,_,none⟩) (by show w.heap.size < _; omega)).trans c4⟩
 have HCC : ∀ W,Hid (Below wA.heap.size wA W -> Calls Tryz.prog 76 #[.agg #[.int .i64 z,.slice a n cap]] W fun e w' => ∃ g c A C,e = .returned (.agg #[.int .i64 z,.slice (some ⟨g,0,none⟩) n c]) ∧ GrowSqs W.heap.size w' n qs g A C ∧ Below W.heap.size W w') := fun W hb => copyOfChip_any z a n cap qs W (HSQ.out.later hb (by omega)) (by have := hb.size; omega) hok
 have HCP : ∀ W,Hid (Below wA.heap.size wA W -> Calls Tryz.prog 150 #[.slice (some ⟨b,off,none⟩) m cm] W fun e w' => ∃ gm cm',e = .returned (.slice (some ⟨gm,0,none⟩) m cm') ∧ PlOwn W.heap.size w' (.slice (some ⟨gm,0,none⟩) ps.length cm') ps ∧ Below W.heap.size W w') := fun W hb => clonePl_any b off m cm ps W (HPL.out.later hb (by omega)) (by have := hb.size; omega) hm1 hm
 have HB0 : Hid (Below wA.heap.size wA wA.drew) := (Below.refl wA.heap.size wA).drew
 go_enter Tryz.func98,Tryz.ntmps98
 go_upto_region 1 with fail
 rw [<- hwA]
 clear hwA
 have HZA := hide hzA
 clear hzA
 go_region_held3 (fun W => W.cell? ⟨w.heap.size,0,none⟩ = some (.int .i64 z) ∧ W.cell? ⟨w.heap.size,1,none⟩ = some (.slice a n cap) ∧ W.cell? ⟨w.heap.size,2,none⟩ = some (.slice (some ⟨b,off,none⟩) m cm) ∧ W.cell? ⟨w.heap.size,3,none⟩ = some (.int .i64 op) ∧ W.cell? ⟨w.heap.size,4,none⟩ = some (.int .i64 st))
  (first | exact (HSK _).out HB0.out | exact (HSK _).out HB5.out | exact (HSK _).out HB6.out | exact (HSK _).out HB7.out | fail)
  (first
   | (go_at_call 76; refine ((HCC _).out HB0.out).mono ?_; rintro e w5 ⟨g,c,A,C,rfl,hG5,b5⟩; have HB5 := hide (below_here HB0.out b5); have HG5 := hide hG5; have hs5 : wA.heap.size <= w5.heap.size := HB5.out.size; clear hG5 b5)
   | (go_at_call 150; refine ((HCP _).out HB5.out).mono ?_; rintro e w6 ⟨gm,cm',rfl,hP6,b6⟩; have HB6 := hide (below_here HB5.out b6); have HG6 := hide (HG5.out.later b6); have HP6 := hide hP6; have hs6 : w5.heap.size <= w6.heap.size := b6.size; have HB7 := hide (HB6.out.alloc HB6.out.size (.cells #[.int .i64 z,.slice (some ⟨g,0,none⟩) n c,.slice (some ⟨gm,0,none⟩) m cm',.int .i64 op,.int .i64 st,.slice none 0 0] 161)); clear hP6 b6)
   | fail)
 all_goals
  have hzA := HZA.out
  have hg1 := HG6.out.atG
  have hg2 : g < w5.heap.size := by have := HG5.out.row.1; omega
  have hgm1 : w5.heap.size <= gm := (World.ownsRow.lt HP6.out gm rfl).1
  have HBX := hide ((Below.refl w6.heap.size w6).alloc (Nat.le_refl _) (.cells #[.int .i64 z,.slice (some ⟨g,0,none⟩) n c,.slice (some ⟨gm,0,none⟩) m cm',.int .i64 op,.int .i64 st,.slice none 0 0] 161))
  have HBW := hide (below_here HBA.out HB7.out)
  have hle : ps.length = m := HLP.out
  have HKA : Hid (KeeperAt w.heap.size (w6.alloc (.cells #[.int .i64 z,.slice (some ⟨g,0,none⟩) n c,.slice (some ⟨gm,0,none⟩) m cm',.int .i64 op,.int .i64 st,.slice none 0 0] 161)) w6.heap.size z st n g c gm cm' A C (.slice none 0 0) ⟨qs,ps,op,[]⟩ aN) :=
   ⟨⟨(HG6.out.mono (show w.heap.size <= wA.heap.size by omega)).later HBX.out,own_keepBy (HP6.out.mono (by omega)) (grown_below HBX.out none) (fun k e => by cases e),World.ownsRow_nil _ _ _ _,by omega,fun e => by cases e⟩,by dsimp only; rw [hle]; exact heap_new _ _,by omega,by omega,(HBW.out.cell (p := ⟨_,_,none⟩) hGl).trans HN.out,hGl⟩
  go_wp2_with fail
  go_ret
  exact ⟨_,g,c,gm,cm',A,C,rfl,HKA.out,HBW.out⟩
set_option maxHeartbeats 1600000 in
theorem ftl_any (B pk : Nat) (z st : Int) (n g c gm cm : Nat) (A : Nat -> Option Addr) (C : Nat -> Nat) (V : Value) (s : Kp) (aN : Addr) (w : World) (h : KeeperAt B w pk z st n g c gm cm A C V s aN) (hB : B <= w.heap.size) :
  Calls Tryz.prog 100 #[.pointer (some ⟨pk,0,none⟩)] w fun e w' => e = .returned (.agg #[.int .i64 z,.slice (some ⟨g,0,none⟩) n c,.slice (some ⟨gm,0,none⟩) s.ps.length cm,.int .i64 s.op,.int .i64 st]) ∧ Below w.heap.size w w' := by
 obtain ⟨wA,hwA⟩ : ∃ wA,wA = w.alloc (.cells #[.int .i64 0,.slice none 0 0,.slice none 0 0,.int .i64 0,.int .i64 0] 29) := ⟨_,rfl⟩
 have hzA : wA.heap.size = w.heap.size + 1 := by rw [hwA]; simp
 have HBA : Hid (Below w.heap.size w wA) := by rw [hwA]; exact (Below.refl _ _).alloc (Nat.le_refl _) _
 have H0 : Hid (wA.heap[w.heap.size]? = some (.cells #[.int .i64 0,.slice none 0 0,.slice none 0 0,.int .i64 0,.int .i64 0] 29)) := by rw [hwA]; exact heap_new _ _
 obtain ⟨x0,x1,x2,x3,x4,x5⟩ := six_cells (h.later HBA.out hB).box
 clear h
 obtain ⟨p0,p1,p2,p3,p4⟩ := five_cells H0.out
 have f0 := four_frozen H0.out 0
 have f1 := four_frozen H0.out 1
 have f2 := four_frozen H0.out 2
 have f3 := four_frozen H0.out 3
 have f4 := four_frozen H0.out 4
 have HAS := hide (five_aside (b := w.heap.size) (Aside.refl w.heap.size (w.heap.size + 1) wA) (Nat.le_refl _) (Nat.lt_succ_self _) (.int .i64 z) (.slice (some ⟨g,0,none⟩) n c) (.slice (some ⟨gm,0,none⟩) s.ps.length cm) (.int .i64 s.op) (.int .i64 st))
 have HBF := hide (HBA.out.trans (HAS.out.below (B := w.heap.size) (Nat.le_refl _) (by omega)))
 have HRS := hide (five_set H0.out (.int .i64 z) (.slice (some ⟨g,0,none⟩) n c) (.slice (some ⟨gm,0,none⟩) s.ps.length cm) (.int .i64 s.op) (.int .i64 st))
 go_enter Tryz.func100,Tryz.ntmps100
 go_upto_region 1 with fail
 rw [<- hwA]
 clear hwA
 refine wp_region_quiet_tail 17 (by kernel_rfl) (by kernel_rfl) ?_
 simp only [List.take_succ_cons,List.take_zero,List.drop_succ_cons,List.drop_zero]
 repeat (go_big_quiet_step (fail))
 refine wpQuiet_nil ?_
 rintro _ ⟨nq,rfl⟩
 go_wp2_with fail
 refine bodyPost_ret (results_cell rfl rfl (run_loadVar_row _ _ _ _ _ _ _ (by exact HRS.out) Tryz.underlying29 rfl (by kernel_rfl))) rfl ⟨rfl,HBF.out.trans ⟨rfl,rfl,rfl,Nat.le_refl _,fun _ _ => rfl⟩⟩
set_option maxHeartbeats 1600000 in
theorem copyOfFtl_any (z : Int) (a : Option Addr) (n cap : Nat) (qs : List Sq) (am : Option Addr) (m cm : Nat) (ps : List Pl) (op st : Int) (w : World) {lo hi lo' hi' : Nat} (h : Squares lo hi w a n qs) (hhi : hi <= w.heap.size) (hok : chipOk z qs = true) (hp : Places lo' hi' w am m ps) (hhi' : hi' <= w.heap.size) (hm1 : 1 <= m) (hm : m <= 64) {aN : Addr} (hN : w.cell? ⟨1,0,none⟩ = some (noRoomV aN)) :
  Calls Tryz.prog 96 #[.agg #[.int .i64 z,.slice a n cap,.slice am m cm,.int .i64 op,.int .i64 st]] w fun e w' => ∃ v,e = .returned v ∧ FtlAns w ⟨z,qs,ps,op,st⟩ v w' := by
 obtain ⟨wA,hwA⟩ : ∃ wA,wA = (w.alloc (.cells #[.int .i64 z,.slice a n cap,.slice am m cm,.int .i64 op,.int .i64 st] 29)).alloc (.cells #[.int .i64 0,.slice none 0 0,.slice none 0 0,.int .i64 0,.int .i64 0] 29) := ⟨_,rfl⟩
 have hzA : wA.heap.size = w.heap.size + 1 + 1 := by rw [hwA]; simp
 have HBA : Hid (Below w.heap.size w wA) := by rw [hwA]; exact ((Below.refl _ _).alloc (Nat.le_refl _) _).alloc (by simp) _
 have H0 : Hid (wA.heap[w.heap.size]? = some (.cells #[.int .i64 z,.slice a n cap,.slice am m cm,.int .i64 op,.int .i64 st] 29)) := by rw [hwA]; exact heap_old (heap_new _ _)
 have H1 : Hid (wA.heap[w.heap.size + 1]? = some (.cells #[.int .i64 0,.slice none 0 0,.slice none 0 0,.int .i64 0,.int .i64 0] 29)) := by rw [hwA]; exact heap_at (by simp)
 have HSQ := hide (h.later HBA.out hhi)
 have HPL := hide (hp.later HBA.out hhi')
 have HLP := hide hp.1
 have HLQ := hide h.1
 have hGl : 1 < w.heap.size := World.block_lt_of_cell? _ _ hN
 have HN := hide ((HBA.out.cell (p := ⟨1,0,none⟩) hGl).trans hN)
 clear h hp hN
 obtain ⟨c0,c1,c2,c3,c4⟩ := five_cells H0.out
 go_enter Tryz.func96,Tryz.ntmps96
 go_wp2_with fail
 rw [<- hwA]
 clear hwA
 refine (keeperOf_any z a n cap qs am m cm ps op st wA HSQ.out (by omega) hok HPL.out (by omega) hm1 hm HN.out).mono ?_
 rintro e w1 ⟨pk,g,c,gm,cm',A,C,rfl,hK1,b1⟩
 have HK1 := hide hK1
 have K1 := hide (block_on H1.out b1)
 have HB1 := hide (below_here HBA.out b1)
 have hs1 := b1.size
 clear hK1 b1 c0 c1 c2 c3 c4
 go_wp2_with fail
 refine (ftl_any wA.heap.size pk z st n g c gm cm' A C _ ⟨qs,ps,op,[]⟩ aN w1 HK1.out (by omega)).mono ?_
 rintro e w2 ⟨rfl,b2⟩
 have hle : ps.length = m := HLP.out
 dsimp only
 rw [hle]
 have K2 := hide (block_on K1.out b2)
 have HB2 := hide (below_here HB1.out b2)
 have hs2 := b2.size
 have HO2 := hide (own_of_kp (HK1.out.mem.later b2))
 clear b2
 obtain ⟨p0,p1,p2,p3,p4⟩ := five_cells K2.out
 have f0 := four_frozen K2.out 0
 have f1 := four_frozen K2.out 1
 have f2 := four_frozen K2.out 2
 have f3 := four_frozen K2.out 3
 have f4 := four_frozen K2.out 4
 have HRS := hide (five_set K2.out (.int .i64 z) (.slice (some ⟨g,0,none⟩) n c) (.slice (some ⟨gm,0,none⟩) m cm') (.int .i64 op) (.int .i64 st))
 have HAS := hide (five_aside (b := w.heap.size + 1) (Aside.refl (w.heap.size + 1) (w.heap.size + 1 + 1) w2) (Nat.le_refl _) (Nat.lt_succ_self _) (.int .i64 z) (.slice (some ⟨g,0,none⟩) n c) (.slice (some ⟨gm,0,none⟩) m cm') (.int .i64 op) (.int .i64 st))
 have HBF := hide (HB2.out.trans (HAS.out.below (B := w.heap.size) (by omega) (by omega)))
 go_wp2_with fail
 refine bodyPost_ret (results_cell rfl rfl (run_loadVar_row _ _ _ _ _ _ _ HRS.out Tryz.underlying29 rfl (by kernel_rfl))) rfl ⟨_,rfl,some ⟨g,0,none⟩,c,some ⟨gm,0,none⟩,cm',by unfold fvV; dsimp only; rw [HLQ.out,HLP.out],?_,HBF.out,pl_cap HK1.out.mem.pl⟩
 exact (HO2.out.aside HAS.out (.inl (by omega))).wide (by omega) HAS.out.size (Nat.le_refl _)
set_option maxHeartbeats 1600000 in
theorem mayEnter_any (v0 v1 : Value) (am : Option Addr) (m cm : Nat) (v3 : Value) (st kd a sp : Int) (tx : ByteArray) (ps : List Pl) (w : World) (hl : ps.length = m) (hm : m <= 1048576) (hst : 0 <= st ∧ st <= 1000000) :
  Calls Tryz.prog 95 #[.agg #[v0,v1,.slice am m cm,v3,.int .i64 st],.agg #[.int .i64 kd,.int .i64 a,.int .i64 sp,.string tx]] w fun e w' => e = .returned (.bool (mayEnt ps st kd a tx)) ∧ Below w.heap.size w w' := by
 obtain ⟨wA,hwA⟩ : ∃ wA,wA = (w.alloc (.cells #[v0,v1,.slice am m cm,v3,.int .i64 st] 29)).alloc (.cells #[.int .i64 kd,.int .i64 a,.int .i64 (st + 1),.string tx] 31) := ⟨_,rfl⟩
 have hzA : wA.heap.size = w.heap.size + 1 + 1 := by rw [hwA]; simp
 have HBA : Hid (Below w.heap.size w wA) := by rw [hwA]; exact ((Below.refl _ _).alloc (Nat.le_refl _) _).alloc (by simp) _
 have H0 : Hid (wA.heap[w.heap.size]? = some (.cells #[v0,v1,.slice am m cm,v3,.int .i64 st] 29)) := by rw [hwA]; exact heap_old (heap_new _ _)
 have H1 : Hid (wA.heap[w.heap.size + 1]? = some (.cells #[.int .i64 kd,.int .i64 a,.int .i64 (st + 1),.string tx] 31)) := by rw [hwA]; exact heap_at (by simp)
 have HME : Hid (mayEnt ps st kd a tx = (pageOk kd a (st + 1) tx && inB a 0 ((m : Int) - 1))) := by show _ = _; unfold mayEnt; rw [hl]
 have hwr : IntKind.i64.wrap (st + 1) = st + 1 := by rw [IntKind.wrap_i64]; omega
 have hst0 := hst.1
 have hst1 := hst.2
 clear hst
 obtain ⟨p0,p1,p2,p3⟩ := four_cells H1.out
 obtain ⟨c0,c1,c2,c3,c4⟩ := five_cells H0.out
 go_enter Tryz.func95,Tryz.ntmps95
 go_wp2_with fail
 rw [<- hwA]
 clear hwA
 refine (implPageOk_any kd a (st + 1) tx wA).mono ?_
 rintro e w1 ⟨rfl,b1⟩
 have K0 := hide (block_on H0.out b1)
 have K1 := hide (block_on H1.out b1)
 have HB1 := hide (below_here HBA.out b1)
 clear b1 p0 p1 p2 p3 c0 c1 c2 c3 c4
 cases hpk : pageOk kd a (st + 1) tx with
 | false =>
  have HE : Hid (mayEnt ps st kd a tx = false) := by show _ = _; rw [HME.out,hpk]; rfl
  go_wp2_with fail
  go_ret
  exact ⟨ret_bool HE.out.symm,HB1.out⟩
 | true =>
  have HE : Hid (mayEnt ps st kd a tx = inB a 0 ((m : Int) - 1)) := by show _ = _; rw [HME.out,hpk]; rfl
  obtain ⟨p0,p1,p2,p3⟩ := four_cells K1.out
  obtain ⟨c0,c1,c2,c3,c4⟩ := five_cells K0.out
  go_wp2_with fail
  refine (hasNumber_any v0 v1 am m cm v3 (.int .i64 st) a w1 (by unfold maxLen; omega)).mono ?_
  rintro e w2 ⟨rfl,b2⟩
  have HB2 := hide (below_here HB1.out b2)
  clear b2
  go_wp2_with fail
  go_ret
  exact ⟨ret_bool HE.out.symm,HB2.out⟩
end Go.Proofs.YtgjoepdfhadmcaaGreatDoor
