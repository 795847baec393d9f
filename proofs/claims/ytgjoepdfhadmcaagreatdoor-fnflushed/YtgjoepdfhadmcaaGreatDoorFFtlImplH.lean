/- Several texts in one: FtlImplH, CopyRaw, CacheNew, CacheKeepS, CacheGrow, CacheCopyI, FtlImplC, FindImpl2. -/
import Derived.Test.YtgjoepdfhadmcaaGreatDoorFFtlImplG
import Derived.Test.YtgjoepdfhadmcaaGreatDoorFChipCutS
import Derived.Test.YtgjoepdfhadmcaaGreatDoorFWearImplB
import Derived.Test.YtgjoepdfhadmcaaGreatDoorFFtlOwnP
import Derived.Test.YtgjoepdfhadmcaaGreatDoorFFtlImplA
import Derived.Test.YtgjoepdfhadmcaaGreatDoorFPageBase
import Derived.Test.YtgjoepdfhadmcaaGreatDoorFFtlMath
import Derived.Test.YtgjoepdfhadmcaaGreatDoorFChipOwn2
import Derived.Test.YtgjoepdfhadmcaaGreatDoorFPageMath
import Derived.Test.YtgjoepdfhadmcaaGreatDoorFWeaveSpec
import Derived.BigRegion
import Derived.Lib.QuietBelow
import Derived.BigQuiet
import Derived.Deep.RegionHeld3
import Derived.Test.YtgjoepdfhadmcaaGreatDoorFChipGrow
import Derived.Deep.DeepCutAuto
import Derived.Test.YtgjoepdfhadmcaaGreatDoorFCSpecD
import Derived.Test.YtgjoepdfhadmcaaGreatDoorFFtlImplD
import Derived.Deep.RegionWith
import Derived.Deep.RegionLaw
import Derived.Deep.AppendLies
import Derived.Test.YtgjoepdfhadmcaaGreatDoorFCopyBase
import Derived.Test.YtgjoepdfhadmcaaGreatDoorFInfo
section
namespace Go.Proofs.YtgjoepdfhadmcaaGreatDoor
open Go.RowKit
set_option linter.unusedVariables false
set_option maxRecDepth 20000
set_option maxHeartbeats 1600000 in
theorem clonePl_any (b off m cm : Nat) (ps : List Pl) (w : World) {lo hi : Nat} (hp : Places lo hi w (some ⟨b,off,none⟩) m ps) (hhi : hi <= w.heap.size) (hm1 : 1 <= m) (hm : m <= 64) :
  Calls Tryz.prog 150 #[.slice (some ⟨b,off,none⟩) m cm] w fun e w' => ∃ gm cm',e = .returned (.slice (some ⟨gm,0,none⟩) m cm') ∧ PlOwn w.heap.size w' (.slice (some ⟨gm,0,none⟩) ps.length cm') ps ∧ Below w.heap.size w w' := by
 obtain ⟨wC,hwC⟩ : ∃ wC,wC = w.alloc (.cells #[] 39) := ⟨_,rfl⟩
 have hzC : wC.heap.size = w.heap.size + 1 := by rw [hwC]; simp
 have HBC : Hid (Below w.heap.size w wC) := by rw [hwC]; exact (Below.refl _ _).alloc (Nat.le_refl _) _
 have HMD : Hid (PlOwn w.heap.size wC (.slice (some ⟨w.heap.size,0,none⟩) 0 0) []) := by rw [hwC]; exact pl_made0 w
 obtain ⟨gm,cm',w2,hap,hpo,hgr,hat⟩ := append_places (P := Tryz.prog) Tryz.infoPl9 Tryz.underlying27 HMD.out (by omega) (c := cm) (hp.later HBC.out hhi) hm1 (by omega)
 have HAP := hide hap
 have HPO := hide hpo
 have HB2 : Hid (Below w.heap.size w w2) := HBC.out.grown hgr (by omega) (fun k e => by simp only [Option.some.injEq] at e; omega)
 clear hap hpo hgr hat HMD hp hzC
 have hq : ∀ w,(binOp BinOp.eql 27 (.slice (some ⟨b,off,none⟩) m cm) (.slice none 0 0)).run Tryz.prog w = .ok (.bool false) w := fun w => by kernel_rfl
 go_enter Tryz.func150,Tryz.ntmps150
 go_wp2_with (at_builtin; rw [<- hwC]; refine wpList_append_eq rfl (.tmp 5) (.tmp 6) 27 rfl _ _ _ w2 rfl rfl HAP.out ?_)
 go_ret
 exact ⟨gm,cm',rfl,HPO.out,HB2.out⟩
set_option maxHeartbeats 3200000 in
theorem keeperOf_any (z : Int) (a : Option Addr) (n cap : Nat) (qs : List Sq) (am : Option Addr) (m cm : Nat) (ps : List Pl) (op st : Int) (w : World) {lo hi lo' hi' : Nat} (h : Squares lo hi w a n qs) (hhi : hi <= w.heap.size) (hok : chipOk z qs = true) (hp : Places lo' hi' w am m ps) (hhi' : hi' <= w.heap.size) (hm1 : 1 <= m) (hm : m <= 64) {aN : Addr} (hN : w.cell? ⟨1,0,none⟩ = some (noRoomV aN)) :
  Calls Tryz.prog 98 #[.agg #[.int .i64 z,.slice a n cap,.slice am m cm,.int .i64 op,.int .i64 st]] w fun e w' => ∃ pk g c gm cm' A C,e = .returned (.pointer (some ⟨pk,0,none⟩)) ∧ KeeperAt w.heap.size w' pk z st n g c gm cm' A C (.slice none 0 0) ⟨qs,ps,op,[]⟩ aN ∧ Below w.heap.size w w' := by
 obtain ⟨wA,hwA⟩ : ∃ wA,wA = w.alloc (.cells #[.int .i64 z,.slice a n cap,.slice am m cm,.int .i64 op,.int .i64 st] 29) := ⟨_,rfl⟩
 have hzA : wA.heap.size = w.heap.size + 1 := by rw [hwA]; simp
 have HBA : Hid (Below w.heap.size w wA) := by rw [hwA]; exact (Below.refl _ _).alloc (Nat.le_refl _) _
 have H0 : Hid (wA.heap[w.heap.size]? = some (.cells #[.int .i64 z,.slice a n cap,.slice am m cm,.int .i64 op,.int .i64 st] 29)) := by rw [hwA]; exact heap_new _ _
 have HSQ := hide (h.later HBA.out hhi)
 have HPL := hide (hp.later HBA.out hhi')
 have HLP := hide hp.1
 have hGl : 1 < w.heap.size := World.block_lt_of_cell? _ _ hN
 have HN := hide hN
 obtain ⟨b,off,rfl,_,hb,_⟩ := hp.2.2 (by omega)
 clear h hp hN
 obtain ⟨c0,c1,c2,c3,c4⟩ := five_cells H0.out
 have HSK : ∀ W,Hid (Below wA.heap.size wA W -> W.cell? ⟨w.heap.size,0,none⟩ = some (.int .i64 z) ∧ W.cell? ⟨w.heap.size,1,none⟩ = some (.slice a n cap) ∧ W.cell? ⟨w.heap.size,2,none⟩ = some (.slice (some ⟨b,off,none⟩) m cm) ∧ W.cell? ⟨w.heap.size,3,none⟩ = some (.int .i64 op) ∧ W.cell? ⟨w.heap.size,4,none⟩ = some (.int .i64 st)) := fun W hb => ⟨(hb.cell (p := ⟨_,_,none⟩) (by show w.heap.size < _; omega)).trans c0,(hb.cell (p := ⟨_,_,none⟩) (by show w.heap.size < _; omega)).trans c1,(hb.cell (p := ⟨_,_,none⟩) (by show w.heap.size < _; omega)).trans c2,(hb.cell (p := ⟨_,_,none⟩) (by show w.heap.size < _; omega)).trans c3,(hb.cell (p := ⟨_,_,none⟩) (by show w.heap.size < _; omega)).trans c4⟩
 have HCC : ∀ W,Hid (Below wA.heap.size wA W -> Calls Tryz.prog 76 #[.agg #[.int .i64 z,.slice a n cap]] W fun e w' => ∃ g c A C,e = .returned (.agg #[.int .i64 z,.slice (some ⟨g,0,none⟩) n c]) ∧ GrowSqs W.heap.size w' n qs g A C ∧ Below W.heap.size W w') := fun W hb => copyOfChip_any z a n cap qs W (HSQ.out.later hb (by omega)) (by have := hb.size; omega) hok
 have HCP : ∀ W,Hid (Below wA.heap.size wA W -> Calls Tryz.prog 150 #[.slice (some ⟨b,off,none⟩) m cm] W fun e w' => ∃ gm cm',e = .returned (.slice (some ⟨gm,0,none⟩) m cm') ∧ PlOwn W.heap.size w' (.slice (some ⟨gm,0,none⟩) ps.length cm') ps ∧ Below W.heap.size W w') := fun W hb => clonePl_any b off m cm ps W (HPL.out.later hb (by omega)) (by have := hb.size; omega) hm1 hm
 have HB0 : Hid (Below wA.heap.size wA wA.drew) := (Below.refl wA.heap.size wA).drew
 go_enter Tryz.func98,Tryz.ntmps98
 go_upto_region 1 with fail
 rw [<- hwA]
 clear hwA
 have HZA := hide hzA
 clear hzA
 go_region_held3 (fun W => W.cell? ⟨w.heap.size,0,none⟩ = some (.int .i64 z) ∧ W.cell? ⟨w.heap.size,1,none⟩ = some (.slice a n cap) ∧ W.cell? ⟨w.heap.size,2,none⟩ = some (.slice (some ⟨b,off,none⟩) m cm) ∧ W.cell? ⟨w.heap.size,3,none⟩ = some (.int .i64 op) ∧ W.cell? ⟨w.heap.size,4,none⟩ = some (.int .i64 st))
  (first | exact (HSK _).out HB0.out | exact (HSK _).out HB5.out | exact (HSK _).out HB6.out | exact (HSK _).out HB7.out | fail)
  (first
   | (go_at_call 76; refine ((HCC _).out HB0.out).mono ?_; rintro e w5 ⟨g,c,A,C,rfl,hG5,b5⟩; have HB5 := hide (below_here HB0.out b5); have HG5 := hide hG5; have hs5 : wA.heap.size <= w5.heap.size := HB5.out.size; clear hG5 b5)
   | (go_at_call 150; refine ((HCP _).out HB5.out).mono ?_; rintro e w6 ⟨gm,cm',rfl,hP6,b6⟩; have HB6 := hide (below_here HB5.out b6); have HG6 := hide (HG5.out.later b6); have HP6 := hide hP6; have hs6 : w5.heap.size <= w6.heap.size := b6.size; have HB7 := hide (HB6.out.alloc HB6.out.size (.cells #[.int .i64 z,.slice (some ⟨g,0,none⟩) n c,.slice (some ⟨gm,0,none⟩) m cm',.int .i64 op,.int .i64 st,.slice none 0 0] 161)); clear hP6 b6)
   | fail)
 all_goals
  have hzA := HZA.out
  have hg1 := HG6.out.atG
  have hg2 : g < w5.heap.size := by have := HG5.out.row.1; omega
  have hgm1 : w5.heap.size <= gm := (World.ownsRow.lt HP6.out gm rfl).1
  have HBX := hide ((Below.refl w6.heap.size w6).alloc (Nat.le_refl _) (.cells #[.int .i64 z,.slice (some ⟨g,0,none⟩) n c,.slice (some ⟨gm,0,none⟩) m cm',.int .i64 op,.int .i64 st,.slice none 0 0] 161))
  have HBW := hide (below_here HBA.out HB7.out)
  have hle : ps.length = m := HLP.out
  have HKA : Hid (KeeperAt w.heap.size (w6.alloc (.cells #[.int .i64 z,.slice (some ⟨g,0,none⟩) n c,.slice (some ⟨gm,0,none⟩) m cm',.int .i64 op,.int .i64 st,.slice none 0 0] 161)) w6.heap.size z st n g c gm cm' A C (.slice none 0 0) ⟨qs,ps,op,[]⟩ aN) :=
   ⟨⟨(HG6.out.mono (show w.heap.size <= wA.heap.size by omega)).later HBX.out,own_keepBy (HP6.out.mono (by omega)) (grown_below HBX.out none) (fun k e => by cases e),World.ownsRow_nil _ _ _ _,by omega,fun e => by cases e⟩,by dsimp only; rw [hle]; exact heap_new _ _,by omega,by omega,(HBW.out.cell (p := ⟨_,_,none⟩) hGl).trans HN.out,hGl⟩
  go_wp2_with fail
  go_ret
  exact ⟨_,g,c,gm,cm',A,C,rfl,HKA.out,HBW.out⟩
set_option maxHeartbeats 1600000 in
theorem ftl_any (B pk : Nat) (z st : Int) (n g c gm cm : Nat) (A : Nat -> Option Addr) (C : Nat -> Nat) (V : Value) (s : Kp) (aN : Addr) (w : World) (h : KeeperAt B w pk z st n g c gm cm A C V s aN) (hB : B <= w.heap.size) :
  Calls Tryz.prog 100 #[.pointer (some ⟨pk,0,none⟩)] w fun e w' => e = .returned (.agg #[.int .i64 z,.slice (some ⟨g,0,none⟩) n c,.slice (some ⟨gm,0,none⟩) s.ps.length cm,.int .i64 s.op,.int .i64 st]) ∧ Below w.heap.size w w' := by
 obtain ⟨wA,hwA⟩ : ∃ wA,wA = w.alloc (.cells #[.int .i64 0,.slice none 0 0,.slice none 0 0,.int .i64 0,.int .i64 0] 29) := ⟨_,rfl⟩
 have hzA : wA.heap.size = w.heap.size + 1 := by rw [hwA]; simp
 have HBA : Hid (Below w.heap.size w wA) := by rw [hwA]; exact (Below.refl _ _).alloc (Nat.le_refl _) _
 have H0 : Hid (wA.heap[w.heap.size]? = some (.cells #[.int .i64 0,.slice none 0 0,.slice none 0 0,.int .i64 0,.int .i64 0] 29)) := by rw [hwA]; exact heap_new _ _
 obtain ⟨x0,x1,x2,x3,x4,x5⟩ := six_cells (h.later HBA.out hB).box
 clear h
 obtain ⟨p0,p1,p2,p3,p4⟩ := five_cells H0.out
 have f0 := four_frozen H0.out 0
 have f1 := four_frozen H0.out 1
 have f2 := four_frozen H0.out 2
 have f3 := four_frozen H0.out 3
 have f4 := four_frozen H0.out 4
 have HAS := hide (five_aside (b := w.heap.size) (Aside.refl w.heap.size (w.heap.size + 1) wA) (Nat.le_refl _) (Nat.lt_succ_self _) (.int .i64 z) (.slice (some ⟨g,0,none⟩) n c) (.slice (some ⟨gm,0,none⟩) s.ps.length cm) (.int .i64 s.op) (.int .i64 st))
 have HBF := hide (HBA.out.trans (HAS.out.below (B := w.heap.size) (Nat.le_refl _) (by omega)))
 have HRS := hide (five_set H0.out (.int .i64 z) (.slice (some ⟨g,0,none⟩) n c) (.slice (some ⟨gm,0,none⟩) s.ps.length cm) (.int .i64 s.op) (.int .i64 st))
 go_enter Tryz.func100,Tryz.ntmps100
 go_upto_region 1 with fail
 rw [<- hwA]
 clear hwA
 refine wp_region_quiet_tail 17 (by kernel_rfl) (by kernel_rfl) ?_
 simp only [List.take_succ_cons,List.take_zero,List.drop_succ_cons,List.drop_zero]
 repeat (go_big_quiet_step (fail))
 refine wpQuiet_nil ?_
 rintro _ ⟨nq,rfl⟩
 go_wp2_with fail
 refine bodyPost_ret (results_cell rfl rfl (run_loadVar_row _ _ _ _ _ _ _ (by exact HRS.out) Tryz.underlying29 rfl (by kernel_rfl))) rfl ⟨rfl,HBF.out.trans ⟨rfl,rfl,rfl,Nat.le_refl _,fun _ _ => rfl⟩⟩
set_option maxHeartbeats 1600000 in
theorem copyOfFtl_any (z : Int) (a : Option Addr) (n cap : Nat) (qs : List Sq) (am : Option Addr) (m cm : Nat) (ps : List Pl) (op st : Int) (w : World) {lo hi lo' hi' : Nat} (h : Squares lo hi w a n qs) (hhi : hi <= w.heap.size) (hok : chipOk z qs = true) (hp : Places lo' hi' w am m ps) (hhi' : hi' <= w.heap.size) (hm1 : 1 <= m) (hm : m <= 64) {aN : Addr} (hN : w.cell? ⟨1,0,none⟩ = some (noRoomV aN)) :
  Calls Tryz.prog 96 #[.agg #[.int .i64 z,.slice a n cap,.slice am m cm,.int .i64 op,.int .i64 st]] w fun e w' => ∃ v,e = .returned v ∧ FtlAns w ⟨z,qs,ps,op,st⟩ v w' := by
 obtain ⟨wA,hwA⟩ : ∃ wA,wA = (w.alloc (.cells #[.int .i64 z,.slice a n cap,.slice am m cm,.int .i64 op,.int .i64 st] 29)).alloc (.cells #[.int .i64 0,.slice none 0 0,.slice none 0 0,.int .i64 0,.int .i64 0] 29) := ⟨_,rfl⟩
 have hzA : wA.heap.size = w.heap.size + 1 + 1 := by rw [hwA]; simp
 have HBA : Hid (Below w.heap.size w wA) := by rw [hwA]; exact ((Below.refl _ _).alloc (Nat.le_refl _) _).alloc (by simp) _
 have H0 : Hid (wA.heap[w.heap.size]? = some (.cells #[.int .i64 z,.slice a n cap,.slice am m cm,.int .i64 op,.int .i64 st] 29)) := by rw [hwA]; exact heap_old (heap_new _ _)
 have H1 : Hid (wA.heap[w.heap.size + 1]? = some (.cells #[.int .i64 0,.slice none 0 0,.slice none 0 0,.int .i64 0,.int .i64 0] 29)) := by rw [hwA]; exact heap_at (by simp)
 have HSQ := hide (h.later HBA.out hhi)
 have HPL := hide (hp.later HBA.out hhi')
 have HLP := hide hp.1
 have HLQ := hide h.1
 have hGl : 1 < w.heap.size := World.block_lt_of_cell? _ _ hN
 have HN := hide ((HBA.out.cell (p := ⟨1,0,none⟩) hGl).trans hN)
 clear h hp hN
 obtain ⟨c0,c1,c2,c3,c4⟩ := five_cells H0.out
 go_enter Tryz.func96,Tryz.ntmps96
 go_wp2_with fail
 rw [<- hwA]
 clear hwA
 refine (keeperOf_any z a n cap qs am m cm ps op st wA HSQ.out (by omega) hok HPL.out (by omega) hm1 hm HN.out).mono ?_
 rintro e w1 ⟨pk,g,c,gm,cm',A,C,rfl,hK1,b1⟩
 have HK1 := hide hK1
 have K1 := hide (block_on H1.out b1)
 have HB1 := hide (below_here HBA.out b1)
 have hs1 := b1.size
 clear hK1 b1 c0 c1 c2 c3 c4
 go_wp2_with fail
 refine (ftl_any wA.heap.size pk z st n g c gm cm' A C _ ⟨qs,ps,op,[]⟩ aN w1 HK1.out (by omega)).mono ?_
 rintro e w2 ⟨rfl,b2⟩
 have hle : ps.length = m := HLP.out
 dsimp only
 rw [hle]
 have K2 := hide (block_on K1.out b2)
 have HB2 := hide (below_here HB1.out b2)
 have hs2 := b2.size
 have HO2 := hide (own_of_kp (HK1.out.mem.later b2))
 clear b2
 obtain ⟨p0,p1,p2,p3,p4⟩ := five_cells K2.out
 have f0 := four_frozen K2.out 0
 have f1 := four_frozen K2.out 1
 have f2 := four_frozen K2.out 2
 have f3 := four_frozen K2.out 3
 have f4 := four_frozen K2.out 4
 have HRS := hide (five_set K2.out (.int .i64 z) (.slice (some ⟨g,0,none⟩) n c) (.slice (some ⟨gm,0,none⟩) m cm') (.int .i64 op) (.int .i64 st))
 have HAS := hide (five_aside (b := w.heap.size + 1) (Aside.refl (w.heap.size + 1) (w.heap.size + 1 + 1) w2) (Nat.le_refl _) (Nat.lt_succ_self _) (.int .i64 z) (.slice (some ⟨g,0,none⟩) n c) (.slice (some ⟨gm,0,none⟩) m cm') (.int .i64 op) (.int .i64 st))
 have HBF := hide (HB2.out.trans (HAS.out.below (B := w.heap.size) (by omega) (by omega)))
 go_wp2_with fail
 refine bodyPost_ret (results_cell rfl rfl (run_loadVar_row _ _ _ _ _ _ _ HRS.out Tryz.underlying29 rfl (by kernel_rfl))) rfl ⟨_,rfl,some ⟨g,0,none⟩,c,some ⟨gm,0,none⟩,cm',by unfold fvV; dsimp only; rw [HLQ.out,HLP.out],?_,HBF.out,pl_cap HK1.out.mem.pl⟩
 exact (HO2.out.aside HAS.out (.inl (by omega))).wide (by omega) HAS.out.size (Nat.le_refl _)
set_option maxHeartbeats 1600000 in
theorem mayEnter_any (v0 v1 : Value) (am : Option Addr) (m cm : Nat) (v3 : Value) (st kd a sp : Int) (tx : ByteArray) (ps : List Pl) (w : World) (hl : ps.length = m) (hm : m <= 1048576) (hst : 0 <= st ∧ st <= 1000000) :
  Calls Tryz.prog 95 #[.agg #[v0,v1,.slice am m cm,v3,.int .i64 st],.agg #[.int .i64 kd,.int .i64 a,.int .i64 sp,.string tx]] w fun e w' => e = .returned (.bool (mayEnt ps st kd a tx)) ∧ Below w.heap.size w w' := by
 obtain ⟨wA,hwA⟩ : ∃ wA,wA = (w.alloc (.cells #[v0,v1,.slice am m cm,v3,.int .i64 st] 29)).alloc (.cells #[.int .i64 kd,.int .i64 a,.int .i64 (st + 1),.string tx] 31) := ⟨_,rfl⟩
 have hzA : wA.heap.size = w.heap.size + 1 + 1 := by rw [hwA]; simp
 have HBA : Hid (Below w.heap.size w wA) := by rw [hwA]; exact ((Below.refl _ _).alloc (Nat.le_refl _) _).alloc (by simp) _
 have H0 : Hid (wA.heap[w.heap.size]? = some (.cells #[v0,v1,.slice am m cm,v3,.int .i64 st] 29)) := by rw [hwA]; exact heap_old (heap_new _ _)
 have H1 : Hid (wA.heap[w.heap.size + 1]? = some (.cells #[.int .i64 kd,.int .i64 a,.int .i64 (st + 1),.string tx] 31)) := by rw [hwA]; exact heap_at (by simp)
 have HME : Hid (mayEnt ps st kd a tx = (pageOk kd a (st + 1) tx && inB a 0 ((m : Int) - 1))) := by show _ = _; unfold mayEnt; rw [hl]
 have hwr : IntKind.i64.wrap (st + 1) = st + 1 := by rw [IntKind.wrap_i64]; omega
 have hst0 := hst.1
 have hst1 := hst.2
 clear hst
 obtain ⟨p0,p1,p2,p3⟩ := four_cells H1.out
 obtain ⟨c0,c1,c2,c3,c4⟩ := five_cells H0.out
 go_enter Tryz.func95,Tryz.ntmps95
 go_wp2_with fail
 rw [<- hwA]
 clear hwA
 refine (implPageOk_any kd a (st + 1) tx wA).mono ?_
 rintro e w1 ⟨rfl,b1⟩
 have K0 := hide (block_on H0.out b1)
 have K1 := hide (block_on H1.out b1)
 have HB1 := hide (below_here HBA.out b1)
 clear b1 p0 p1 p2 p3 c0 c1 c2 c3 c4
 cases hpk : pageOk kd a (st + 1) tx with
 | false =>
  have HE : Hid (mayEnt ps st kd a tx = false) := by show _ = _; rw [HME.out,hpk]; rfl
  go_wp2_with fail
  go_ret
  exact ⟨ret_bool HE.out.symm,HB1.out⟩
 | true =>
  have HE : Hid (mayEnt ps st kd a tx = inB a 0 ((m : Int) - 1)) := by show _ = _; rw [HME.out,hpk]; rfl
  obtain ⟨p0,p1,p2,p3⟩ := four_cells K1.out
  obtain ⟨c0,c1,c2,c3,c4⟩ := five_cells K0.out
  go_wp2_with fail
  refine (hasNumber_any v0 v1 am m cm v3 (.int .i64 st) a w1 (by unfold maxLen; omega)).mono ?_
  rintro e w2 ⟨rfl,b2⟩
  have HB2 := hide (below_here HB1.out b2)
  clear b2
  go_wp2_with fail
  go_ret
  exact ⟨ret_bool HE.out.symm,HB2.out⟩
end Go.Proofs.YtgjoepdfhadmcaaGreatDoor
end

section
namespace Go.Proofs.YtgjoepdfhadmcaaGreatDoor
open Go.RowKit
set_option linter.unusedVariables false
set_option maxRecDepth 20000
structure KeeperRaw (B : Nat) (w : World) (pk : Nat) (z st : Int) (n g c gm cm : Nat) (A : Nat -> Option Addr) (C : Nat -> Nat) (V : Value) (s : Kp) : Prop where
 mem : KpMem B w n g gm cm A C V s
 box : w.heap[pk]? = some (.cells #[.int .i64 z,.slice (some ⟨g,0,none⟩) n c,.slice (some ⟨gm,0,none⟩) s.ps.length cm,.int .i64 s.op,.int .i64 st,V] 161)
 nk : pk ≠ g
 bk : B <= pk
theorem KeeperRaw.later {B pk n g c gm cm : Nat} {w w' : World} {z st : Int} {A : Nat -> Option Addr} {C : Nat -> Nat} {V : Value} {s : Kp} (h : KeeperRaw B w pk z st n g c gm cm A C V s) (hb : Below w.heap.size w w') : KeeperRaw B w' pk z st n g c gm cm A C V s :=
 ⟨h.mem.later hb,block_on h.box hb,h.nk,h.bk⟩
set_option maxHeartbeats 3200000 in
theorem keeperOf_raw (z : Int) (a : Option Addr) (n cap : Nat) (qs : List Sq) (am : Option Addr) (m cm : Nat) (ps : List Pl) (op st : Int) (w : World) {lo hi lo' hi' : Nat} (h : Squares lo hi w a n qs) (hhi : hi <= w.heap.size) (hok : chipOk z qs = true) (hp : Places lo' hi' w am m ps) (hhi' : hi' <= w.heap.size) (hm1 : 1 <= m) (hm : m <= 64) :
  Calls Tryz.prog 98 #[.agg #[.int .i64 z,.slice a n cap,.slice am m cm,.int .i64 op,.int .i64 st]] w fun e w' => ∃ pk g c gm cm' A C,e = .returned (.pointer (some ⟨pk,0,none⟩)) ∧ KeeperRaw w.heap.size w' pk z st n g c gm cm' A C (.slice none 0 0) ⟨qs,ps,op,[]⟩ ∧ Below w.heap.size w w' := by
 obtain ⟨wA,hwA⟩ : ∃ wA,wA = w.alloc (.cells #[.int .i64 z,.slice a n cap,.slice am m cm,.int .i64 op,.int .i64 st] 29) := ⟨_,rfl⟩
 have hzA : wA.heap.size = w.heap.size + 1 := by rw [hwA]; simp
 have HBA : Hid (Below w.heap.size w wA) := by rw [hwA]; exact (Below.refl _ _).alloc (Nat.le_refl _) _
 have H0 : Hid (wA.heap[w.heap.size]? = some (.cells #[.int .i64 z,.slice a n cap,.slice am m cm,.int .i64 op,.int .i64 st] 29)) := by rw [hwA]; exact heap_new _ _
 have HSQ := hide (h.later HBA.out hhi)
 have HPL := hide (hp.later HBA.out hhi')
 have HLP := hide hp.1
 obtain ⟨b,off,rfl,_,hb,_⟩ := hp.2.2 (by omega)
 clear h hp
 obtain ⟨c0,c1,c2,c3,c4⟩ := five_cells H0.out
 have HSK : ∀ W,Hid (Below wA.heap.size wA W -> W.cell? ⟨w.heap.size,0,none⟩ = some (.int .i64 z) ∧ W.cell? ⟨w.heap.size,1,none⟩ = some (.slice a n cap) ∧ W.cell? ⟨w.heap.size,2,none⟩ = some (.slice (some ⟨b,off,none⟩) m cm) ∧ W.cell? ⟨w.heap.size,3,none⟩ = some (.int .i64 op) ∧ W.cell? ⟨w.heap.size,4,none⟩ = some (.int .i64 st)) := fun W hb => ⟨(hb.cell (p := ⟨_,_,none⟩) (by show w.heap.size < _; omega)).trans c0,(hb.cell (p := ⟨_,_,none⟩) (by show w.heap.size < _; omega)).trans c1,(hb.cell (p := ⟨_,_,none⟩) (by show w.heap.size < _; omega)).trans c2,(hb.cell (p := ⟨_,_,none⟩) (by show w.heap.size < _; omega)).trans c3,(hb.cell (p := ⟨_,_,none⟩) (by show w.heap.size < _; omega)).trans c4⟩
 have HCC : ∀ W,Hid (Below wA.heap.size wA W -> Calls Tryz.prog 76 #[.agg #[.int .i64 z,.slice a n cap]] W fun e w' => ∃ g c A C,e = .returned (.agg #[.int .i64 z,.slice (some ⟨g,0,none⟩) n c]) ∧ GrowSqs W.heap.size w' n qs g A C ∧ Below W.heap.size W w') := fun W hb => copyOfChip_any z a n cap qs W (HSQ.out.later hb (by omega)) (by have := hb.size; omega) hok
 have HCP : ∀ W,Hid (Below wA.heap.size wA W -> Calls Tryz.prog 150 #[.slice (some ⟨b,off,none⟩) m cm] W fun e w' => ∃ gm cm',e = .returned (.slice (some ⟨gm,0,none⟩) m cm') ∧ PlOwn W.heap.size w' (.slice (some ⟨gm,0,none⟩) ps.length cm') ps ∧ Below W.heap.size W w') := fun W hb => clonePl_any b off m cm ps W (HPL.out.later hb (by omega)) (by have := hb.size; omega) hm1 hm
 have HB0 : Hid (Below wA.heap.size wA wA.drew) := (Below.refl wA.heap.size wA).drew
 go_enter Tryz.func98,Tryz.ntmps98
 go_upto_region 1 with fail
 rw [<- hwA]
 clear hwA
 have HZA := hide hzA
 clear hzA
 go_region_held3 (fun W => W.cell? ⟨w.heap.size,0,none⟩ = some (.int .i64 z) ∧ W.cell? ⟨w.heap.size,1,none⟩ = some (.slice a n cap) ∧ W.cell? ⟨w.heap.size,2,none⟩ = some (.slice (some ⟨b,off,none⟩) m cm) ∧ W.cell? ⟨w.heap.size,3,none⟩ = some (.int .i64 op) ∧ W.cell? ⟨w.heap.size,4,none⟩ = some (.int .i64 st))
  (first | exact (HSK _).out HB0.out | exact (HSK _).out HB5.out | exact (HSK _).out HB6.out | exact (HSK _).out HB7.out | fail)
  (first
   | (go_at_call 76; refine ((HCC _).out HB0.out).mono ?_; rintro e w5 ⟨g,c,A,C,rfl,hG5,b5⟩; have HB5 := hide (below_here HB0.out b5); have HG5 := hide hG5; have hs5 : wA.heap.size <= w5.heap.size := HB5.out.size; clear hG5 b5)
   | (go_at_call 150; refine ((HCP _).out HB5.out).mono ?_; rintro e w6 ⟨gm,cm',rfl,hP6,b6⟩; have HB6 := hide (below_here HB5.out b6); have HG6 := hide (HG5.out.later b6); have HP6 := hide hP6; have hs6 : w5.heap.size <= w6.heap.size := b6.size; have HB7 := hide (HB6.out.alloc HB6.out.size (.cells #[.int .i64 z,.slice (some ⟨g,0,none⟩) n c,.slice (some ⟨gm,0,none⟩) m cm',.int .i64 op,.int .i64 st,.slice none 0 0] 161)); clear hP6 b6)
   | fail)
 all_goals
  have hzA := HZA.out
  have hg1 := HG6.out.atG
  have hg2 : g < w5.heap.size := by have := HG5.out.row.1; omega
  have hgm1 : w5.heap.size <= gm := (World.ownsRow.lt HP6.out gm rfl).1
  have HBX := hide ((Below.refl w6.heap.size w6).alloc (Nat.le_refl _) (.cells #[.int .i64 z,.slice (some ⟨g,0,none⟩) n c,.slice (some ⟨gm,0,none⟩) m cm',.int .i64 op,.int .i64 st,.slice none 0 0] 161))
  have HBW := hide (below_here HBA.out HB7.out)
  have hle : ps.length = m := HLP.out
  have HKA : Hid (KeeperRaw w.heap.size (w6.alloc (.cells #[.int .i64 z,.slice (some ⟨g,0,none⟩) n c,.slice (some ⟨gm,0,none⟩) m cm',.int .i64 op,.int .i64 st,.slice none 0 0] 161)) w6.heap.size z st n g c gm cm' A C (.slice none 0 0) ⟨qs,ps,op,[]⟩) :=
   ⟨⟨(HG6.out.mono (show w.heap.size <= wA.heap.size by omega)).later HBX.out,own_keepBy (HP6.out.mono (by omega)) (grown_below HBX.out none) (fun k e => by cases e),World.ownsRow_nil _ _ _ _,by omega,fun e => by cases e⟩,by dsimp only; rw [hle]; exact heap_new _ _,by omega,by omega⟩
  go_wp2_with fail
  go_ret
  exact ⟨_,g,c,gm,cm',A,C,rfl,HKA.out,HBW.out⟩
set_option maxHeartbeats 1600000 in
theorem ftl_raw (B pk : Nat) (z st : Int) (n g c gm cm : Nat) (A : Nat -> Option Addr) (C : Nat -> Nat) (V : Value) (s : Kp) (w : World) (h : KeeperRaw B w pk z st n g c gm cm A C V s) (hB : B <= w.heap.size) :
  Calls Tryz.prog 100 #[.pointer (some ⟨pk,0,none⟩)] w fun e w' => e = .returned (.agg #[.int .i64 z,.slice (some ⟨g,0,none⟩) n c,.slice (some ⟨gm,0,none⟩) s.ps.length cm,.int .i64 s.op,.int .i64 st]) ∧ Below w.heap.size w w' := by
 obtain ⟨wA,hwA⟩ : ∃ wA,wA = w.alloc (.cells #[.int .i64 0,.slice none 0 0,.slice none 0 0,.int .i64 0,.int .i64 0] 29) := ⟨_,rfl⟩
 have hzA : wA.heap.size = w.heap.size + 1 := by rw [hwA]; simp
 have HBA : Hid (Below w.heap.size w wA) := by rw [hwA]; exact (Below.refl _ _).alloc (Nat.le_refl _) _
 have H0 : Hid (wA.heap[w.heap.size]? = some (.cells #[.int .i64 0,.slice none 0 0,.slice none 0 0,.int .i64 0,.int .i64 0] 29)) := by rw [hwA]; exact heap_new _ _
 obtain ⟨x0,x1,x2,x3,x4,x5⟩ := six_cells (h.later HBA.out).box
 clear h
 obtain ⟨p0,p1,p2,p3,p4⟩ := five_cells H0.out
 have f0 := four_frozen H0.out 0
 have f1 := four_frozen H0.out 1
 have f2 := four_frozen H0.out 2
 have f3 := four_frozen H0.out 3
 have f4 := four_frozen H0.out 4
 have HAS := hide (five_aside (b := w.heap.size) (Aside.refl w.heap.size (w.heap.size + 1) wA) (Nat.le_refl _) (Nat.lt_succ_self _) (.int .i64 z) (.slice (some ⟨g,0,none⟩) n c) (.slice (some ⟨gm,0,none⟩) s.ps.length cm) (.int .i64 s.op) (.int .i64 st))
 have HBF := hide (HBA.out.trans (HAS.out.below (B := w.heap.size) (Nat.le_refl _) (by omega)))
 have HRS := hide (five_set H0.out (.int .i64 z) (.slice (some ⟨g,0,none⟩) n c) (.slice (some ⟨gm,0,none⟩) s.ps.length cm) (.int .i64 s.op) (.int .i64 st))
 go_enter Tryz.func100,Tryz.ntmps100
 go_upto_region 1 with fail
 rw [<- hwA]
 clear hwA
 refine wp_region_quiet_tail 17 (by kernel_rfl) (by kernel_rfl) ?_
 simp only [List.take_succ_cons,List.take_zero,List.drop_succ_cons,List.drop_zero]
 repeat (go_big_quiet_step (fail))
 refine wpQuiet_nil ?_
 rintro _ ⟨nq,rfl⟩
 go_wp2_with fail
 refine bodyPost_ret (results_cell rfl rfl (run_loadVar_row _ _ _ _ _ _ _ (by exact HRS.out) Tryz.underlying29 rfl (by kernel_rfl))) rfl ⟨rfl,HBF.out.trans ⟨rfl,rfl,rfl,Nat.le_refl _,fun _ _ => rfl⟩⟩
set_option maxHeartbeats 1600000 in
theorem copyOfFtl_raw (z : Int) (a : Option Addr) (n cap : Nat) (qs : List Sq) (am : Option Addr) (m cm : Nat) (ps : List Pl) (op st : Int) (w : World) {lo hi lo' hi' : Nat} (h : Squares lo hi w a n qs) (hhi : hi <= w.heap.size) (hok : chipOk z qs = true) (hp : Places lo' hi' w am m ps) (hhi' : hi' <= w.heap.size) (hm1 : 1 <= m) (hm : m <= 64) :
  Calls Tryz.prog 96 #[.agg #[.int .i64 z,.slice a n cap,.slice am m cm,.int .i64 op,.int .i64 st]] w fun e w' => ∃ v,e = .returned v ∧ FtlAns w ⟨z,qs,ps,op,st⟩ v w' := by
 obtain ⟨wA,hwA⟩ : ∃ wA,wA = (w.alloc (.cells #[.int .i64 z,.slice a n cap,.slice am m cm,.int .i64 op,.int .i64 st] 29)).alloc (.cells #[.int .i64 0,.slice none 0 0,.slice none 0 0,.int .i64 0,.int .i64 0] 29) := ⟨_,rfl⟩
 have hzA : wA.heap.size = w.heap.size + 1 + 1 := by rw [hwA]; simp
 have HBA : Hid (Below w.heap.size w wA) := by rw [hwA]; exact ((Below.refl _ _).alloc (Nat.le_refl _) _).alloc (by simp) _
 have H0 : Hid (wA.heap[w.heap.size]? = some (.cells #[.int .i64 z,.slice a n cap,.slice am m cm,.int .i64 op,.int .i64 st] 29)) := by rw [hwA]; exact heap_old (heap_new _ _)
 have H1 : Hid (wA.heap[w.heap.size + 1]? = some (.cells #[.int .i64 0,.slice none 0 0,.slice none 0 0,.int .i64 0,.int .i64 0] 29)) := by rw [hwA]; exact heap_at (by simp)
 have HSQ := hide (h.later HBA.out hhi)
 have HPL := hide (hp.later HBA.out hhi')
 have HLP := hide hp.1
 have HLQ := hide h.1
 clear h hp
 obtain ⟨c0,c1,c2,c3,c4⟩ := five_cells H0.out
 go_enter Tryz.func96,Tryz.ntmps96
 go_wp2_with fail
 rw [<- hwA]
 clear hwA
 refine (keeperOf_raw z a n cap qs am m cm ps op st wA HSQ.out (by omega) hok HPL.out (by omega) hm1 hm).mono ?_
 rintro e w1 ⟨pk,g,c,gm,cm',A,C,rfl,hK1,b1⟩
 have HK1 := hide hK1
 have K1 := hide (block_on H1.out b1)
 have HB1 := hide (below_here HBA.out b1)
 have hs1 := b1.size
 clear hK1 b1 c0 c1 c2 c3 c4
 go_wp2_with fail
 refine (ftl_raw wA.heap.size pk z st n g c gm cm' A C _ ⟨qs,ps,op,[]⟩ w1 HK1.out (by omega)).mono ?_
 rintro e w2 ⟨rfl,b2⟩
 have hle : ps.length = m := HLP.out
 dsimp only
 rw [hle]
 have K2 := hide (block_on K1.out b2)
 have HB2 := hide (below_here HB1.out b2)
 have hs2 := b2.size
 have HO2 := hide (own_of_kp (HK1.out.mem.later b2))
 clear b2
 obtain ⟨p0,p1,p2,p3,p4⟩ := five_cells K2.out
 have f0 := four_frozen K2.out 0
 have f1 := four_frozen K2.out 1
 have f2 := four_frozen K2.out 2
 have f3 := four_frozen K2.out 3
 have f4 := four_frozen K2.out 4
 have HRS := hide (five_set K2.out (.int .i64 z) (.slice (some ⟨g,0,none⟩) n c) (.slice (some ⟨gm,0,none⟩) m cm') (.int .i64 op) (.int .i64 st))
 have HAS := hide (five_aside (b := w.heap.size + 1) (Aside.refl (w.heap.size + 1) (w.heap.size + 1 + 1) w2) (Nat.le_refl _) (Nat.lt_succ_self _) (.int .i64 z) (.slice (some ⟨g,0,none⟩) n c) (.slice (some ⟨gm,0,none⟩) m cm') (.int .i64 op) (.int .i64 st))
 have HBF := hide (HB2.out.trans (HAS.out.below (B := w.heap.size) (by omega) (by omega)))
 go_wp2_with fail
 refine bodyPost_ret (results_cell rfl rfl (run_loadVar_row _ _ _ _ _ _ _ HRS.out Tryz.underlying29 rfl (by kernel_rfl))) rfl ⟨_,rfl,some ⟨g,0,none⟩,c,some ⟨gm,0,none⟩,cm',by unfold fvV; dsimp only; rw [HLQ.out,HLP.out],?_,HBF.out,pl_cap HK1.out.mem.pl⟩
 exact (HO2.out.aside HAS.out (.inl (by omega))).wide (by omega) HAS.out.size (Nat.le_refl _)
end Go.Proofs.YtgjoepdfhadmcaaGreatDoor
end

section
namespace Go.Proofs.YtgjoepdfhadmcaaGreatDoor
open Go.RowKit
set_option linter.unusedVariables false
set_option maxRecDepth 20000
theorem cache_of_ftl {lo hi : Nat} {w : World} {a am : Option Addr} {qs : List Sq} {ps : List Pl} (h : FtlOwn lo hi w a am qs ps) : CacheOwn lo hi w none a am [] qs ps :=
 ⟨h.1,lo,0,lo,hi,Nat.le_refl _,Nat.zero_le _,Nat.le_refl _,Nat.le_refl _,.inl (Nat.zero_le _),⟨rfl,Nat.zero_le _,fun h => absurd h (by simp)⟩,h⟩
theorem cache_zero (w : World) (lo : Nat) : CacheOwn lo w.heap.size w none none none [] [] [] := cache_of_ftl ⟨Nat.le_refl _,.inl ⟨rfl,rfl⟩⟩
theorem cache_stored {lo hi b : Nat} {w w5 W : World} {ai a am : Option Addr} {ys : List Hd} {qs : List Sq} {ps : List Pl} (h : CacheOwn lo hi w5 ai a am ys qs ps) (hA : Aside b (b + 1) w5 W) (hb : b + 1 <= lo) (hw : w.heap.size <= lo) : CacheOwn w.heap.size W.heap.size W ai a am ys qs ps :=
 (h.aside hA (.inl hb)).wide hw (Nat.le_trans h.1 hA.size) (Nat.le_refl _)
def newCB (f : Fv) (rm : Int) : Bool := ftlOkF f && inB rm 1 16
def newCF (f : Fv) (rm : Int) : Cv := if newCB f rm then ⟨rm,[],f⟩ else zeroC
set_option maxHeartbeats 1600000 in
theorem implNewCache_any (z : Int) (a : Option Addr) (n cap : Nat) (qs : List Sq) (am : Option Addr) (m cm : Nat) (ps : List Pl) (op st rm : Int) (w : World) {lo hi lo' hi' : Nat} (h : Squares lo hi w a n qs) (hhi : hi <= w.heap.size) (hn : n <= 1048576) (hf : ∀ x ∈ qs,sqFits x) (hp : Places lo' hi' w am m ps) (hhi' : hi' <= w.heap.size) (hm : m <= 1048576) (hcl : m <= cm) (hT : Tab w) {aB aL aS aC aF : Addr} (E : Errs w aB aL aS aC aF) :
  Calls Tryz.prog 43 #[.agg #[.int .i64 z,.slice a n cap,.slice am m cm,.int .i64 op,.int .i64 st],.int .i64 rm] w fun e w' => ∃ v,e = .returned (.tuple #[v,.bool (newCB ⟨z,qs,ps,op,st⟩ rm)]) ∧ CacheAns w (newCF ⟨z,qs,ps,op,st⟩ rm) v w' := by
 obtain ⟨cv,hcv⟩ : ∃ cv,cv = newCF ⟨z,qs,ps,op,st⟩ rm := ⟨_,rfl⟩
 obtain ⟨bv,hbv⟩ : ∃ bv,bv = newCB ⟨z,qs,ps,op,st⟩ rm := ⟨_,rfl⟩
 have HCV := hide hcv
 have HBV := hide hbv
 rw [<- hcv,<- hbv]
 clear hcv hbv
 obtain ⟨wA,hwA⟩ : ∃ wA,wA = (w.alloc (.cells #[.int .i64 z,.slice a n cap,.slice am m cm,.int .i64 op,.int .i64 st] 29)).alloc (.cells #[.int .i64 0,.slice none 0 0,.int .i64 0,.slice none 0 0,.slice none 0 0,.int .i64 0,.int .i64 0] 65) := ⟨_,rfl⟩
 have hzA : wA.heap.size = w.heap.size + 1 + 1 := by rw [hwA]; simp
 have HBA : Hid (Below w.heap.size w wA) := by rw [hwA]; exact ((Below.refl _ _).alloc (Nat.le_refl _) _).alloc (by simp) _
 have H0 : Hid (wA.heap[w.heap.size]? = some (.cells #[.int .i64 z,.slice a n cap,.slice am m cm,.int .i64 op,.int .i64 st] 29)) := by rw [hwA]; exact heap_old (heap_new _ _)
 have H1 : Hid (wA.heap[w.heap.size + 1]? = some (.cells #[.int .i64 0,.slice none 0 0,.int .i64 0,.slice none 0 0,.slice none 0 0,.int .i64 0,.int .i64 0] 65)) := by rw [hwA]; exact heap_at (by simp)
 have HSA := hide (h.later HBA.out hhi)
 have HPA := hide (hp.later HBA.out hhi')
 have HF := hide hf
 have hlq := h.1
 have hlp := hp.1
 have HTA := hide (hT.here HBA.out)
 have HEA := hide (E.here HBA.out)
 clear hT E
 clear h hp hf
 obtain ⟨c0,c1,c2,c3,c4⟩ := five_cells H0.out
 have HNOT : Hid (bv = false -> ∀ W,W.heap[w.heap.size + 1]? = some (.cells #[.int .i64 0,.slice none 0 0,.int .i64 0,.slice none 0 0,.slice none 0 0,.int .i64 0,.int .i64 0] 65) -> Below w.heap.size w W -> CacheAns w cv (.agg #[.int .i64 0,.slice none 0 0,.int .i64 0,.slice none 0 0,.slice none 0 0,.int .i64 0,.int .i64 0]) W) := fun hb W hW hB => by
  have e : cv = zeroC := by rw [HCV.out]; unfold newCF; rw [<- HBV.out,hb]; rfl
  rw [e]
  exact ⟨none,0,none,0,none,0,rfl,cache_zero W _,hB,Nat.le_refl _⟩
 go_enter Tryz.func43,Tryz.ntmps43
 go_wp2_with fail
 rw [<- hwA]
 clear hwA
 refine (isCacheRoom_any rm wA).mono ?_
 rintro e w1 ⟨rfl,rfl⟩
 cases hin : inB rm 1 16 with
 | false =>
  have HE : Hid (bv = false) := by show _ = _; rw [HBV.out]; unfold newCB ftlOkF; dsimp only; simp [hin]
  obtain ⟨d0,d1,d2,d3,d4,d5,d6⟩ := seven_cells H1.out
  have f0 := four_frozen H1.out 0
  have f1 := four_frozen H1.out 1
  have f2 := four_frozen H1.out 2
  have f3 := four_frozen H1.out 3
  have f4 := four_frozen H1.out 4
  have f5 := four_frozen H1.out 5
  have f6 := four_frozen H1.out 6
  have HRS := hide (seven_set H1.out (.int .i64 0) (.slice none 0 0) (.int .i64 0) (.slice none 0 0) (.slice none 0 0) (.int .i64 0) (.int .i64 0))
  have HAS := hide (seven_aside (b := w.heap.size + 1) (Aside.refl (w.heap.size + 1) (w.heap.size + 1 + 1) wA) (Nat.le_refl _) (Nat.lt_succ_self _) (.int .i64 0) (.slice none 0 0) (.int .i64 0) (.slice none 0 0) (.slice none 0 0) (.int .i64 0) (.int .i64 0))
  have HBF := hide (HBA.out.trans (HAS.out.below (B := w.heap.size) (by omega) (by omega)))
  go_wp2_with fail
  refine bodyPost_ret (results_ct rfl rfl (run_loadVar_row _ _ _ _ _ _ _ HRS.out Tryz.underlying65 rfl (by kernel_rfl))) rfl ⟨_,by rw [HE.out]; rfl,HNOT.out HE.out _ HRS.out HBF.out⟩
 | true =>
  go_wp2_with fail
  refine (implFtlOk_any z a n cap qs am m cm ps op st wA HSA.out (by omega) hn HF.out HPA.out (by omega) hm hcl HTA.out HEA.out).mono ?_
  rintro e w2 ⟨rfl,b2⟩
  have K0 := hide (block_on H0.out b2)
  have K1 := hide (block_on H1.out b2)
  have HB2 := hide (below_here HBA.out b2)
  have HS2 := hide (HSA.out.later b2 (by omega))
  have HP2 := hide (HPA.out.later b2 (by omega))
  have hs2 := b2.size
  clear b2 c0 c1 c2 c3 c4
  obtain ⟨c0,c1,c2,c3,c4⟩ := five_cells K0.out
  cases hfo : ftlOk z qs ps op st with
  | false =>
   have HE : Hid (bv = false) := by show _ = _; rw [HBV.out]; unfold newCB ftlOkF; dsimp only; simp [hfo]
   obtain ⟨d0,d1,d2,d3,d4,d5,d6⟩ := seven_cells K1.out
   have f0 := four_frozen K1.out 0
   have f1 := four_frozen K1.out 1
   have f2 := four_frozen K1.out 2
   have f3 := four_frozen K1.out 3
   have f4 := four_frozen K1.out 4
   have f5 := four_frozen K1.out 5
   have f6 := four_frozen K1.out 6
   have HRS := hide (seven_set K1.out (.int .i64 0) (.slice none 0 0) (.int .i64 0) (.slice none 0 0) (.slice none 0 0) (.int .i64 0) (.int .i64 0))
   have HAS := hide (seven_aside (b := w.heap.size + 1) (Aside.refl (w.heap.size + 1) (w.heap.size + 1 + 1) w2) (Nat.le_refl _) (Nat.lt_succ_self _) (.int .i64 0) (.slice none 0 0) (.int .i64 0) (.slice none 0 0) (.slice none 0 0) (.int .i64 0) (.int .i64 0))
   have HBF := hide (HB2.out.trans (HAS.out.below (B := w.heap.size) (by omega) (by omega)))
   go_wp2_with fail
   refine bodyPost_ret (results_ct rfl rfl (run_loadVar_row _ _ _ _ _ _ _ HRS.out Tryz.underlying65 rfl (by kernel_rfl))) rfl ⟨_,by rw [HE.out]; rfl,HNOT.out HE.out _ HRS.out HBF.out⟩
  | true =>
   have HE : Hid (bv = true) := by show _ = _; rw [HBV.out]; unfold newCB ftlOkF; dsimp only; rw [hfo,hin]; rfl
   have HCE : Hid (cv = ⟨rm,[],⟨z,qs,ps,op,st⟩⟩) := by show _ = _; rw [HCV.out]; unfold newCF; rw [<- HBV.out,HE.out]; rfl
   obtain ⟨hmo,_,_,_,_,_,_⟩ := ftlOk_parts hfo
   have hm64 : m <= 64 := by have := (mapOk_len hmo).2; rw [hlp] at this; exact this
   have hm1 : 1 <= m := by have := (mapOk_len hmo).1; rw [hlp] at this; exact this
   have HCK := hide (mapOk_chip hmo)
   clear hmo
   go_wp2_with fail
   refine (copyOfFtl_raw z a n cap qs am m cm ps op st w2 HS2.out (by omega) HCK.out HP2.out (by omega) hm1 hm64).mono ?_
   rintro e w5 ⟨v,rfl,a',c',am',cm',rfl,ho5,b5,hcap5⟩
   unfold fvV
   dsimp only
   rw [hlq,hlp]
   have HO5 := hide (cache_of_ftl ho5)
   have HC5 := hide hcap5
   have M1 := hide (block_on K1.out b5)
   have HB5 := hide (below_here HB2.out b5)
   have hs5 := b5.size
   clear ho5 b5 hcap5 c0 c1 c2 c3 c4
   obtain ⟨d0,d1,d2,d3,d4,d5,d6⟩ := seven_cells M1.out
   have f0 := four_frozen M1.out 0
   have f1 := four_frozen M1.out 1
   have f2 := four_frozen M1.out 2
   have f3 := four_frozen M1.out 3
   have f4 := four_frozen M1.out 4
   have f5 := four_frozen M1.out 5
   have f6 := four_frozen M1.out 6
   have HRS := hide (seven_set M1.out (.int .i64 rm) (.slice none 0 0) (.int .i64 z) (.slice a' n c') (.slice am' m cm') (.int .i64 op) (.int .i64 st))
   have HAS := hide (seven_aside (b := w.heap.size + 1) (Aside.refl (w.heap.size + 1) (w.heap.size + 1 + 1) w5) (Nat.le_refl _) (Nat.lt_succ_self _) (.int .i64 rm) (.slice none 0 0) (.int .i64 z) (.slice a' n c') (.slice am' m cm') (.int .i64 op) (.int .i64 st))
   have HBF := hide (HB5.out.trans (HAS.out.below (B := w.heap.size) (by omega) (by omega)))
   go_wp2_with fail
   refine bodyPost_ret (results_ct rfl rfl (run_loadVar_row _ _ _ _ _ _ _ HRS.out Tryz.underlying65 rfl (by kernel_rfl))) rfl ⟨_,by rw [HE.out]; rfl,none,0,a',c',am',cm',?_,?_,HBF.out,by rw [HCE.out]; exact HC5.out⟩
   ·rw [HCE.out]; unfold cvV; dsimp only; rw [hlq,hlp]; rfl
   ·rw [HCE.out]; exact cache_stored HO5.out HAS.out (by omega) (by omega)
end Go.Proofs.YtgjoepdfhadmcaaGreatDoor
end

section
namespace Go.Proofs.YtgjoepdfhadmcaaGreatDoor
open Go.RowKit
set_option linter.unusedVariables false
set_option maxRecDepth 20000
theorem crd_of {B n g gm cm ni cj : Nat} {w : World} {aj : Option Addr} {A : Nat -> Option Addr} {C : Nat -> Nat} {ys : List Hd} {qs : List Sq} {ps : List Pl} (h1 : HdOwn B w (.slice aj ni cj) ys) (h2 : GrowSqs B w n qs g A C) (h3 : PlOwn B w (.slice (some ⟨gm,0,none⟩) ps.length cm) ps) : CRd B w.heap.size w aj (some ⟨g,0,none⟩) (some ⟨gm,0,none⟩) ys qs ps :=
 ⟨(hd_own h1).helds,by have h9 := h2.ownS.squares; rw [h2.len]; exact h9,pl_places h3,Nat.le_refl _⟩
end Go.Proofs.YtgjoepdfhadmcaaGreatDoor
end

section
namespace Go.Proofs.YtgjoepdfhadmcaaGreatDoor
open Go.RowKit
set_option linter.unusedVariables false
set_option maxRecDepth 20000
structure CGr (lo : Nat) (w : World) (ai : Option Addr) (ci : Nat) (a am : Option Addr) (cm : Nat) (ys : List Hd) (qs : List Sq) (ps : List Pl) : Prop where
 items : HdOwn lo w (.slice ai ys.length ci) ys
 sq : ∃ g A C,a = some ⟨g,0,none⟩ ∧ GrowSqs lo w qs.length qs g A C ∧ (Value.slice ai ys.length ci).ownBlock ≠ some g
 pl : ∃ gm,am = some ⟨gm,0,none⟩ ∧ PlOwn lo w (.slice (some ⟨gm,0,none⟩) ps.length cm) ps
section
variable {lo ci cm : Nat} {w w' : World} {ai a am : Option Addr} {ys : List Hd} {qs : List Sq} {ps : List Pl}
theorem CGr.aside (h : CGr lo w ai ci a am cm ys qs ps) {l r : Nat} (hb : Aside l r w w') (hr : r <= lo) : CGr lo w' ai ci a am cm ys qs ps := by
 obtain ⟨h1,⟨g,A,C,e,h2,h3⟩,⟨gm,e2,h4⟩⟩ := h
 exact ⟨own_aside2 h1 hb hr,⟨g,A,C,e,h2.aside hb (.inl hr),h3⟩,⟨gm,e2,own_aside2 h4 hb hr⟩⟩
theorem CGr.wide (h : CGr lo w ai ci a am cm ys qs ps) {lo' : Nat} (h' : lo' <= lo) : CGr lo' w ai ci a am cm ys qs ps := by
 obtain ⟨h1,⟨g,A,C,e,h2,h3⟩,⟨gm,e2,h4⟩⟩ := h
 exact ⟨World.ownsRow.mono h1 h',⟨g,A,C,e,h2.mono h',h3⟩,⟨gm,e2,World.ownsRow.mono h4 h'⟩⟩
theorem CGr.later (h : CGr lo w ai ci a am cm ys qs ps) (hb : Below w.heap.size w w') : CGr lo w' ai ci a am cm ys qs ps := by
 obtain ⟨h1,⟨g,A,C,e,h2,h3⟩,⟨gm,e2,h4⟩⟩ := h
 exact ⟨own_keepBy h1 (grown_below hb none) (fun k e => by cases e),⟨g,A,C,e,h2.later hb,h3⟩,⟨gm,e2,own_keepBy h4 (grown_below hb none) (fun k e => by cases e)⟩⟩
theorem CGr.rd (h : CGr lo w ai ci a am cm ys qs ps) : CRd lo w.heap.size w ai a am ys qs ps := by
 obtain ⟨h1,⟨g,A,C,rfl,h2,h3⟩,⟨gm,rfl,h4⟩⟩ := h
 exact crd_of h1 h2 h4
theorem CGr.room (h : CGr lo w ai ci a am cm ys qs ps) : ps.length <= cm := by
 obtain ⟨h1,_,⟨gm,_,h4⟩⟩ := h
 rcases h4.2 with ⟨e,_⟩ | ⟨p,cap',cur,e,h1,h2,h3,h4,h5,h6⟩
 ·simp at e
 ·simp only [Value.slice.injEq] at e
  omega
end
end Go.Proofs.YtgjoepdfhadmcaaGreatDoor
end

section
namespace Go.Proofs.YtgjoepdfhadmcaaGreatDoor
open Go.RowKit
set_option linter.unusedVariables false
set_option maxRecDepth 20000
theorem hdL_snoc (ys : List Hd) (x : Hd) : hdL ys ++ [.int .i64 x.1,.string x.2.1,.bool x.2.2] = hdL (ys ++ [x]) := by rw [hdL_append]; rfl
theorem hd_take_snoc {ys : List Hd} {k : Nat} (h : k < ys.length) : ys.take k ++ [hdAt ys k] = ys.take (k + 1) := by
 rw [List.take_succ_eq_append_getElem h,hdAt_get h]
theorem hd_new (w : World) (x y z : Value) (t : TypeId) : ∀ j u,[x,y,z][j]? = some u -> (w.alloc (.cells #[x,y,z] t)).cell? ((⟨w.heap.size,0,none⟩ : Addr).add j) = some u := cell_three_new w x y z t
def CacheAns2 (w : World) (c : Cv) (v : Value) (w' : World) : Prop := ∃ ai ci a cp am cm,v = cvV c ai ci a cp am cm ∧ CacheOwn w.heap.size w'.heap.size w' ai a am c.ys c.f.qs c.f.ps ∧ Below w.heap.size w w' ∧ c.f.ps.length <= cm ∧ c.ys.length <= ci
theorem CacheAns2.one {w w' : World} {c : Cv} {v : Value} (h : CacheAns2 w c v w') : CacheAns w c v w' := by
 obtain ⟨ai,ci,a,cp,am,cm,h1,h2,h3,h4,_⟩ := h
 exact ⟨ai,ci,a,cp,am,cm,h1,h2,h3,h4⟩
set_option maxHeartbeats 6400000 in
theorem copyOfCache_any (rm : Int) (ai : Option Addr) (ni ci : Nat) (ys : List Hd) (z : Int) (a : Option Addr) (n cap : Nat) (qs : List Sq) (am : Option Addr) (m cm : Nat) (ps : List Pl) (op st : Int) (w : World) {l1 r1 lo hi lo' hi' : Nat} (hy : Helds l1 r1 w ai ni ys) (hr1 : r1 <= w.heap.size) (hni : ni <= 1000) (hfy : ∀ i,i < ni -> (hdAt ys i).2.1.size <= 1048576) (h : Squares lo hi w a n qs) (hhi : hi <= w.heap.size) (hok : chipOk z qs = true) (hp : Places lo' hi' w am m ps) (hhi' : hi' <= w.heap.size) (hm1 : 1 <= m) (hm : m <= 64) :
  Calls Tryz.prog 108 #[.agg #[.int .i64 rm,.slice ai ni ci,.int .i64 z,.slice a n cap,.slice am m cm,.int .i64 op,.int .i64 st]] w fun e w' => ∃ v,e = .returned v ∧ CacheAns2 w ⟨rm,ys,⟨z,qs,ps,op,st⟩⟩ v w' := by
 obtain ⟨wA,hwA⟩ : ∃ wA,wA = (w.alloc (.cells #[.int .i64 rm,.slice ai ni ci,.int .i64 z,.slice a n cap,.slice am m cm,.int .i64 op,.int .i64 st] 65)).alloc (.cells #[.int .i64 0,.slice none 0 0,.int .i64 0,.slice none 0 0,.slice none 0 0,.int .i64 0,.int .i64 0] 65) := ⟨_,rfl⟩
 have hzA : wA.heap.size = w.heap.size + 1 + 1 := by rw [hwA]; simp
 have HBA : Hid (Below w.heap.size w wA) := by rw [hwA]; exact ((Below.refl _ _).alloc (Nat.le_refl _) _).alloc (by simp) _
 have H0 : Hid (wA.heap[w.heap.size]? = some (.cells #[.int .i64 rm,.slice ai ni ci,.int .i64 z,.slice a n cap,.slice am m cm,.int .i64 op,.int .i64 st] 65)) := by rw [hwA]; exact heap_old (heap_new _ _)
 have H1 : Hid (wA.heap[w.heap.size + 1]? = some (.cells #[.int .i64 0,.slice none 0 0,.int .i64 0,.slice none 0 0,.slice none 0 0,.int .i64 0,.int .i64 0] 65)) := by rw [hwA]; exact heap_at (by simp)
 have HYA := hide (hy.later HBA.out hr1)
 have HSA := hide (h.later HBA.out hhi)
 have HPA := hide (hp.later HBA.out hhi')
 have HFY := hide hfy
 have hly := hy.1
 have hlq := h.1
 have hlp := hp.1
 obtain ⟨i0,hi0,hzz0,hzz1,hzz2⟩ := info_parts Tryz.infoHeld
 have HCF : ∀ W,Hid (Below wA.heap.size wA W -> Calls Tryz.prog 96 #[.agg #[.int .i64 z,.slice a n cap,.slice am m cm,.int .i64 op,.int .i64 st]] W fun e w' => ∃ v,e = .returned v ∧ FtlAns W ⟨z,qs,ps,op,st⟩ v w') := fun W hb =>
  copyOfFtl_raw z a n cap qs am m cm ps op st W (HSA.out.later hb (by omega)) (by have := hb.size; omega) hok (HPA.out.later hb (by omega)) (by have := hb.size; omega) hm1 hm
 clear h hp hy hfy
 obtain ⟨c0,c1,c2,c3,c4,c5,c6⟩ := seven_cells H0.out
 go_enter Tryz.func108,Tryz.ntmps108
 go_upto_region 1 with fail
 rw [<- hwA]
 clear hwA
 go_cut [3] (fun v wx => ∃ (P : Nat) (a' : Option Addr) (c' : Nat) (am' : Option Addr) (cm' : Nat),v = .pointer (some ⟨P,0,none⟩) ∧ wx.heap[P]? = some (.cells #[.int .i64 rm,.slice none 0 0,.int .i64 z,.slice a' n c',.slice am' m cm',.int .i64 op,.int .i64 st] 65) ∧ (∃ lF hF,FtlOwn lF hF wx a' am' qs ps ∧ wA.heap.size <= lF ∧ hF <= wx.heap.size ∧ (P + 1 <= lF ∨ hF <= P)) ∧ Below wA.heap.size wA wx ∧ ps.length <= cm' ∧ wA.heap.size <= P)
 case first =>
  obtain ⟨wZ,hwZ⟩ : ∃ wZ,wZ = wA.alloc (.cells #[.int .i64 0,.slice none 0 0,.int .i64 0,.slice none 0 0,.slice none 0 0,.int .i64 0,.int .i64 0] 65) := ⟨_,rfl⟩
  have hzZ : wZ.heap.size = wA.heap.size + 1 := by rw [hwZ]; simp
  have HBZ : Hid (Below wA.heap.size wA wZ) := by rw [hwZ]; exact (Below.refl _ _).alloc (Nat.le_refl _) _
  have HZ : Hid (wZ.heap[wA.heap.size]? = some (.cells #[.int .i64 0,.slice none 0 0,.int .i64 0,.slice none 0 0,.slice none 0 0,.int .i64 0,.int .i64 0] 65)) := by rw [hwZ]; exact heap_new _ _
  have HZ0 := hide (block_on H0.out HBZ.out)
  have HBD : Hid (Below wA.heap.size wA wZ.drew) := HBZ.out.drew
  rw [hwZ] at HBD
  have cz := seven_cells HZ0.out
  rw [hwZ] at cz
  obtain ⟨e0,e1,e2,e3,e4,e5,e6⟩ := cz
  have HZA := hide hzA
  have HZZ := hide hzZ
  clear hzA hzZ
  go_region_with (first
   | (go_at_call 96; refine ((HCF _).out (by exact (Below.refl wA.heap.size wA).drew)).mono ?_; rintro e w5 ⟨v,rfl,a',c',am',cm',rfl,ho5,b5,hcap5⟩; unfold fvV; dsimp only; rw [hlq,hlp]; have HO5 := hide ho5; have HC5 := hide hcap5; have M0 := hide (block_on (w := wA.drew) H0.out b5); have HB5 : Hid (Below wA.heap.size wA w5) := below_here (Below.refl wA.heap.size wA).drew b5; have hs5 : wA.heap.size <= w5.heap.size := b5.size; have HWAY : Hid (True ∧ wA = wA) := ⟨trivial,rfl⟩; clear ho5 b5 hcap5; obtain ⟨y0,y1,y2,y3,y4,y5,y6⟩ := seven_cells M0.out; have M2 := hide (heap_old (o := .cells #[.int .i64 0,.slice none 0 0,.int .i64 0,.slice none 0 0,.slice none 0 0,.int .i64 0,.int .i64 0] 65) M0.out); obtain ⟨v0,v1,v2,v3,v4,v5,v6⟩ := seven_cells M2.out; have NZ := hide (heap_new w5 (.cells #[.int .i64 0,.slice none 0 0,.int .i64 0,.slice none 0 0,.slice none 0 0,.int .i64 0,.int .i64 0] 65)); obtain ⟨d0,d1,d2,d3,d4,d5,d6⟩ := seven_cells NZ.out; have f0 := four_frozen NZ.out 0; have f1 := four_frozen NZ.out 1; have f2 := four_frozen NZ.out 2; have f3 := four_frozen NZ.out 3; have f4 := four_frozen NZ.out 4; have f5 := four_frozen NZ.out 5; have f6 := four_frozen NZ.out 6)
   | (go_at_call 96; refine ((HCF _).out (by exact HBD.out)).mono ?_; rintro e w5 ⟨v,rfl,a',c',am',cm',rfl,ho5,b5,hcap5⟩; unfold fvV; dsimp only; rw [hlq,hlp]; rw [<- hwZ] at ho5 b5; have HO5 := hide ho5; have HC5 := hide hcap5; have M0 := hide (block_on (w := wZ.drew) HZ0.out b5); have M1 := hide (block_on (w := wZ.drew) HZ.out b5); have HB5 : Hid (Below wA.heap.size wA w5) := (show Below wA.heap.size wA wZ.drew from HBZ.out.drew).trans (b5.mono HBZ.out.size); have hs5 : wZ.heap.size <= w5.heap.size := b5.size; clear ho5 b5 hcap5; obtain ⟨y0,y1,y2,y3,y4,y5,y6⟩ := seven_cells M0.out; obtain ⟨d0,d1,d2,d3,d4,d5,d6⟩ := seven_cells M1.out; have f0 := four_frozen M1.out 0; have f1 := four_frozen M1.out 1; have f2 := four_frozen M1.out 2; have f3 := four_frozen M1.out 3; have f4 := four_frozen M1.out 4; have f5 := four_frozen M1.out 5; have f6 := four_frozen M1.out 6))
  all_goals first
   | (have HBF := hide (HB5.out.alloc (o := .cells #[.int .i64 rm,.slice none 0 0,.int .i64 z,.slice a' n c',.slice am' m cm',.int .i64 op,.int .i64 st] 65) hs5)
      have HOF := hide (HO5.out.later ((Below.refl w5.heap.size w5).alloc (o := .cells #[.int .i64 rm,.slice none 0 0,.int .i64 z,.slice a' n c',.slice am' m cm',.int .i64 op,.int .i64 st] 65) (Nat.le_refl _)) (Nat.le_refl _))
      have HUSE := HWAY
      go_wp2_with fail
      go_meet
      exact ⟨w5.heap.size,a',c',am',cm',rfl,heap_new _ _,⟨wA.heap.size,w5.heap.size,HOF.out,Nat.le_refl _,by simp,.inr (Nat.le_refl _)⟩,HBF.out,HC5.out,hs5⟩)
   | (have HRS := hide (seven_set M1.out (.int .i64 rm) (.slice none 0 0) (.int .i64 z) (.slice a' n c') (.slice am' m cm') (.int .i64 op) (.int .i64 st))
      have HAS := hide (seven_aside (b := wA.heap.size) (Aside.refl wA.heap.size (wA.heap.size + 1) w5) (Nat.le_refl _) (Nat.lt_succ_self _) (.int .i64 rm) (.slice none 0 0) (.int .i64 z) (.slice a' n c') (.slice am' m cm') (.int .i64 op) (.int .i64 st))
      have HBF := hide (HB5.out.trans (HAS.out.below (B := wA.heap.size) (Nat.le_refl _) (by have := HZZ.out; omega)))
      have HOF := hide (HO5.out.aside HAS.out (.inl (by show wA.heap.size + 1 <= wZ.heap.size; have := HZZ.out; omega)))
      go_wp2_with fail
      go_meet
      exact ⟨wA.heap.size,a',c',am',cm',rfl,HRS.out,⟨wZ.heap.size,w5.heap.size,HOF.out,HBZ.out.size,HAS.out.size,.inl (by have := HZZ.out; omega)⟩,HBF.out,HC5.out,Nat.le_refl _⟩)
 case rest =>
  obtain ⟨P,a',c',am',cm',rfl,hP,hown,hbel,hcap,hPA⟩ := hcut
  obtain ⟨wS,hwS⟩ : ∃ wS,wS = wc := ⟨_,rfl⟩
  subst hwS
  have HP := hide hP
  obtain ⟨lF,hF,hown,hlF,hhF,hapF⟩ := hown
  have HOW := hide hown
  have HBS := hide hbel
  have HCP := hide hcap
  have hPl : P < wS.heap.size := (Array.getElem?_eq_some_iff.1 hP).1
  have K0 := hide (block_on H0.out hbel)
  have K1 := hide (block_on H1.out hbel)
  have HY := hide (HYA.out.later hbel (by omega))
  clear hP hown hbel hcap HCF c0 c1 c2 c3 c4 c5 c6 H0 H1
  obtain ⟨c0,c1,c2,c3,c4,c5,c6⟩ := seven_cells K0.out
  go_wp2_with fail
  clear c0 c1 c2 c3 c4 c5 c6
  go_loopw [15] (fun i wr => ∃ (k : Nat) (V : Value),k <= ni ∧ i = .int .i64 (k : Int) ∧ wr.heap[P]? = some (.cells #[.int .i64 rm,V,.int .i64 z,.slice a' n c',.slice am' m cm',.int .i64 op,.int .i64 st] 65) ∧ wr.ownsRow wS.heap.size 83 3 V k (hdL (ys.take k)) ∧ wS.heap.size <= wr.heap.size ∧ Aside P (P + 1) wS wr) (fun i _ => ni - (intOf i).toNat)
  case atStart => exact ⟨0,.slice none 0 0,Nat.zero_le _,rfl,HP.out,World.ownsRow_nil _ _ _ _,Nat.le_refl _,Aside.refl _ _ _⟩
  case round =>
   obtain ⟨k,V,hk,rfl,hb0,hrow,hsz,hbel⟩ := hrel
   have KP := hide hb0
   have HRW := hide hrow
   have HBB := hide hbel
   clear hb0 hrow
   have hV : ∀ m,V.ownBlock = some m -> wS.heap.size <= m := fun m hm => (HRW.out.lt m hm).1
   by_cases hlt : k < ni
   ·obtain ⟨b,off,rfl,hb1,hb2,x0,x1,x2⟩ := hd_read (HY.out.aside hbel (.inl (by omega))) hlt
    have hx9 := HFY.out k hlt
    have HTK := hide (hd_take_snoc (ys := ys) (k := k) (by omega))
    have hkn : (k : Int) < (ni : Int) := by omega
    clear hbel
    generalize hdAt ys k = x at *
    obtain ⟨xa,xt,xd⟩ := x
    dsimp only at x0 x1 x2 hx9
    obtain ⟨wI,hwI⟩ : ∃ wI,wI = wr.alloc (.cells #[.int .i64 xa,.string xt,.bool xd] 83) := ⟨_,rfl⟩
    have hzI : wI.heap.size = wr.heap.size + 1 := by rw [hwI]; simp
    have HBI : Hid (Below wr.heap.size wr wI) := by rw [hwI]; exact (Below.refl _ _).alloc (Nat.le_refl _) _
    have HI : Hid (wI.heap[wr.heap.size]? = some (.cells #[.int .i64 xa,.string xt,.bool xd] 83)) := by rw [hwI]; exact heap_new _ _
    have KI := hide (block_on KP.out HBI.out)
    have HRI : Hid (wI.ownsRow wS.heap.size 83 3 V k (hdL (ys.take k))) := own_keepBy HRW.out (grown_below HBI.out none) (fun k e => by cases e)
    have HWI := hide (HBB.out.trans (aside_new HBI.out))
    obtain ⟨i1,i2,i3⟩ := three_cells HI.out
    obtain ⟨q0,q1,q2,q3,q4,q5,q6⟩ := seven_cells KI.out
    have HCL : ∀ w9,Hid (Calls Tryz.prog 160 #[.agg #[.int .i64 xa,.string xt,.bool xd]] w9 fun e w' => e = .returned (.agg #[.int .i64 xa,.string xt,.bool xd]) ∧ Below w9.heap.size w9 w') := fun w9 => copyOfHeld_any xa xt xd w9 hx9
    go_upto_region 5 with fail
    rw [<- hwI]
    clear hwI x0 x1 x2
    go_region_law (first
     | (refine step_append_lies _ (by rfl) _ _ _ (by rfl) wS.heap.size 83 i0 (.agg #[.int .i64 0,.string ByteArray.empty,.bool false]) 3 32 Tryz.underlying63 hi0 hzz0 hzz1 hzz2 rfl (by decide) V k (hdL (ys.take k)) (by rfl) HO9.out ⟨w9.heap.size,0,none⟩ 1 1 [.int .i64 xa,.string xt,.bool xd] (by rfl) rfl (hd_new _ _ _ _ _) (hdV_one (xa,xt,xd)) (by omega) (by unfold maxLen; omega) (by omega) (by simp; omega) (w9.heap.size + 1) (by simp) ?_; intro g' c'' w5 hown5 hgr5 hat5 hlt5; have K5 : Hid (w5.heap[P]? = some (.cells #[.int .i64 rm,V,.int .i64 z,.slice a' n c',.slice am' m cm',.int .i64 op,.int .i64 st] 65)) := (hgr5.block _ (by simp; omega) (fun e => by have := hV _ e.symm; omega)).trans KA.out; obtain ⟨r0,r1,r2,r3,r4,r5,r6⟩ := seven_cells K5.out; have rf := four_frozen K5.out 1; have HO5 := hide hown5; have HR5 := hide hgr5; clear hown5 hgr5 hat5)
     | (go_simp; go_at_call 160; refine (HCL _).out.mono ?_; rintro e w9 ⟨rfl,b9⟩; have K9 := hide (block_on (w := wI.drew) KI.out b9); have hs9 : wI.heap.size <= w9.heap.size := b9.size; have KA := hide (heap_old (o := .cells #[.int .i64 xa,.string xt,.bool xd] 83) K9.out); have HO9 := hide ((HRI.out.drew.kept (grown_below b9 none) (by cases hv : V.ownBlock with | none => exact .inl rfl | some q => exact .inr (by simp))).alloc (.cells #[.int .i64 xa,.string xt,.bool xd] 83)); obtain ⟨s0,s1,s2,s3,s4,s5,s6⟩ := seven_cells K9.out; obtain ⟨t0,t1,t2,t3,t4,t5,t6⟩ := seven_cells KA.out; have B9 := hide ((Below.refl wI.heap.size wI).drew.trans b9); clear b9; dsimp only))
    all_goals
     have hs5 := HR5.out.size
     have hzz : (w9.alloc (.cells #[.int .i64 xa,.string xt,.bool xd] 83)).heap.size = w9.heap.size + 1 := by simp
     have HRL : Hid (w5.ownsRow wS.heap.size 83 3 (.slice (some ⟨g',0,none⟩) (k + 1) c'') (k + 1) (hdL (ys.take (k + 1)))) := by have := HO5.out; rw [<- HTK.out,<- hdL_snoc]; exact this
     have HBA2 := hide ((HWI.out.trans (aside_new B9.out)).trans (aside_new ((Below.refl w9.heap.size w9).alloc (Nat.le_refl _) (.cells #[.int .i64 xa,.string xt,.bool xd] 83))))
     have HK0F := hide (set_block K5.out 1 (.slice (some ⟨g',0,none⟩) (k + 1) c'') (by simp))
     have HOF := hide (ownsRow_setCell_below HRL.out (a := ⟨P,1,none⟩) (by show P < _; omega) (.slice (some ⟨g',0,none⟩) (k + 1) c''))
     have HA5 : Hid (Aside P (P + 1) wS w5) := ⟨HR5.out.os.trans HBA2.out.os,HR5.out.tape.trans HBA2.out.tape,HR5.out.output.trans HBA2.out.output,Nat.le_trans HBA2.out.size hs5,fun q hq h' => (HR5.out.block q (by omega) (fun e => by have := hV q e.symm; omega)).trans (HBA2.out.block q hq h')⟩
     have HBF := hide (HA5.out.setCell (p := ⟨P,1,none⟩) (Nat.le_refl _) (Nat.lt_succ_self _) (.slice (some ⟨g',0,none⟩) (k + 1) c''))
     have hsF : wS.heap.size <= (w5.setCell ⟨P,1,none⟩ (.slice (some ⟨g',0,none⟩) (k + 1) c'')).heap.size := by rw [Go.Deep.nblk_setCell]; omega
     go_wp2_with fail
     exact ⟨⟨k + 1,.slice (some ⟨g',0,none⟩) (k + 1) c'',by omega,by go_num,HK0F.out,HOF.out,hsF,HBF.out⟩,by simp [intOf]; omega⟩
   ·obtain rfl : k = ni := by omega
    have HTK : Hid (ys.take k = ys) := by show _ = _; rw [<- hly]; exact List.take_length
    have hrw := HRW.out
    rw [HTK.out] at hrw
    obtain ⟨ai',ci',rfl⟩ : ∃ ai' ci',V = .slice ai' k ci' := by
     rcases Go.Joins.ownsRow_forms hrw with ⟨rfl,h0⟩ | ⟨g',c',rfl⟩
     ·exact ⟨none,0,by rw [h0]⟩
     ·exact ⟨_,c',rfl⟩
    have hrw' : HdOwn wS.heap.size wr (.slice ai' k ci') ys := by show World.ownsRow _ _ _ _ _ ys.length _; rw [hly]; exact hrw
    have HOI := hide (hd_own hrw')
    have HCI : Hid (ys.length <= ci') := by
     obtain ⟨a9,c9,e9,h9⟩ := hd_form hrw'
     simp only [Value.slice.injEq] at e9
     show _ <= _
     omega
    have KZ : Hid (wr.heap[w.heap.size + 1]? = some (.cells #[.int .i64 0,.slice none 0 0,.int .i64 0,.slice none 0 0,.slice none 0 0,.int .i64 0,.int .i64 0] 65)) := (hbel.block _ (by omega) (.inl (by omega))).trans K1.out
    have HFT := hide (HOW.out.aside hbel hapF)
    clear hrw hrw' hbel
    obtain ⟨q0,q1,q2,q3,q4,q5,q6⟩ := seven_cells KP.out
    obtain ⟨p0,p1,p2,p3,p4,p5,p6⟩ := seven_cells KZ.out
    have f0 := four_frozen KZ.out 0
    have f1 := four_frozen KZ.out 1
    have f2 := four_frozen KZ.out 2
    have f3 := four_frozen KZ.out 3
    have f4 := four_frozen KZ.out 4
    have f5 := four_frozen KZ.out 5
    have f6 := four_frozen KZ.out 6
    have HRS := hide (seven_set KZ.out (.int .i64 rm) (.slice ai' k ci') (.int .i64 z) (.slice a' n c') (.slice am' m cm') (.int .i64 op) (.int .i64 st))
    have HAS := hide (seven_aside (b := w.heap.size + 1) (Aside.refl (w.heap.size + 1) (w.heap.size + 1 + 1) wr) (Nat.le_refl _) (Nat.lt_succ_self _) (.int .i64 rm) (.slice ai' k ci') (.int .i64 z) (.slice a' n c') (.slice am' m cm') (.int .i64 op) (.int .i64 st))
    have HBF := hide ((below_here HBA.out HBS.out).trans ((HBB.out.below (B := w.heap.size) (by omega) (by omega)).trans (HAS.out.below (B := w.heap.size) (by omega) (by omega))))
    have HCO : Hid (CacheOwn wA.heap.size wr.heap.size wr ai' a' am' ys qs ps) := ⟨Nat.le_refl _,wS.heap.size,wr.heap.size,lF,hF,by omega,Nat.le_refl _,hlF,by omega,.inr (by omega),HOI.out,HFT.out⟩
    go_wp2_with fail
    refine bodyPost_ret (results_cell rfl rfl (run_loadVar_row _ _ _ _ _ _ _ HRS.out Tryz.underlying65 rfl (by kernel_rfl))) rfl ⟨_,rfl,ai',ci',a',c',am',cm',?_,?_,HBF.out,HCP.out,HCI.out⟩
    ·unfold cvV; dsimp only; rw [hly,hlq,hlp]
    ·exact cache_stored HCO.out HAS.out (by omega) (by omega)
end Go.Proofs.YtgjoepdfhadmcaaGreatDoor
end

section
namespace Go.Proofs.YtgjoepdfhadmcaaGreatDoor
open Go.RowKit
set_option linter.unusedVariables false
set_option maxRecDepth 20000
set_option maxHeartbeats 6400000 in
theorem entryOf_any (z : Int) (a : Option Addr) (n cap : Nat) (qs : List Sq) (am : Option Addr) (m cm : Nat) (ps : List Pl) (op st : Int) (k : Nat) (w : World) {lo hi lo' hi' : Nat} (h : Squares lo hi w a n qs) (hhi : hi <= w.heap.size) (hn : n <= 1048576) (hp : Places lo' hi' w am m ps) (hhi' : hi' <= w.heap.size) (hT : Tab w) {aB aL aS aC aF : Addr} (E : Errs w aB aL aS aC aF) (hok : ftlOk z qs ps op st = true) (hlt : k < m) :
  Calls Tryz.prog 85 #[.agg #[.int .i64 z,.slice a n cap,.slice am m cm,.int .i64 op,.int .i64 st],.int .i64 (k : Int)] w fun e w' => e = .returned (.tuple #[.string (ftlGet z qs ps op st (k : Int)).1,.bool (ftlGet z qs ps op st (k : Int)).2]) ∧ Below w.heap.size w w' := by
 obtain ⟨gg,hgg⟩ : ∃ g,g = ftlGet z qs ps op st (k : Int) := ⟨_,rfl⟩
 have HG := hide hgg
 rw [<- hgg]
 clear hgg
 obtain ⟨w2,hwA⟩ : ∃ wA,wA = w.alloc (.cells #[.int .i64 z,.slice a n cap,.slice am m cm,.int .i64 op,.int .i64 st] 29) := ⟨_,rfl⟩
 have hs2 : w2.heap.size = w.heap.size + 1 := by rw [hwA]; simp
 have HB2 : Hid (Below w.heap.size w w2) := by rw [hwA]; exact (Below.refl _ _).alloc (Nat.le_refl _) _
 have K2 : Hid (w2.heap[w.heap.size]? = some (.cells #[.int .i64 z,.slice a n cap,.slice am m cm,.int .i64 op,.int .i64 st] 29)) := by rw [hwA]; exact heap_new _ _
 have HS2 := hide (h.later HB2.out hhi)
 have HP2 := hide (hp.later HB2.out hhi')
 have HL := hide h.1
 have HLP := hide hp.1
 have HT2 := hide (hT.here HB2.out)
 have HE2 := hide (E.here HB2.out)
 clear h hp hT E
 have HCK := hide (mapOk_chip (ftlOk_map hok))
 have HMR := hide (mapR_of (ftlOk_map hok))
 have hm64 : m <= 64 := by have := (mapOk_len (ftlOk_map hok)).2; rw [HLP.out] at this; exact this
 have hin : inB (k : Int) 0 ((m : Int) - 1) = true := by unfold inB; simp; omega
 have hlt2 : (k : Int) < (m : Int) := by omega
 have hpl : k < ps.length := by rw [HLP.out]; exact hlt
 obtain ⟨c0,c1,c2,c3,c4⟩ := five_cells K2.out
 have HTH := hide (HMR.out.there k hpl)
 obtain ⟨b,off,rfl,_,hb,hc⟩ := HP2.out.2.2 (by omega)
 have hbs : b < w2.heap.size := by have := HP2.out.2.1; omega
 obtain ⟨d0,d1⟩ := pl_cells hc (Below.refl w2.heap.size w2) hbs hlt
 have HGE : Hid (gg = (if !(((plAt ps k).1 == -1) && ((plAt ps k).2 == 0)) then ((pgOf z qs (plAt ps k)).2.2.2.1,(pgOf z qs (plAt ps k)).1 == 1) else (ByteArray.empty,false))) := by
  show _ = _
  rw [HG.out]
  unfold ftlGet
  rw [hok,HLP.out,hin,Int.toNat_natCast,pl_eq]
  rfl
 clear hc hok hin HG
 obtain ⟨y,hy⟩ : ∃ y,y = plAt ps k := ⟨_,rfl⟩
 rw [<- hy] at d0 d1 HTH HGE
 clear hy
 obtain ⟨p,q⟩ := y
 dsimp only at d0 d1 HGE
 go_enter Tryz.func85,Tryz.ntmps85
 go_upto_region 1 with fail
 rw [<- hwA]
 clear hwA
 go_wp2_with fail
 refine (isNone_any p q w2).mono ?_
 rintro e w3 ⟨rfl,b3⟩
 have K3 := hide (block_on K2.out b3)
 have HS3 := hide (HS2.out.later b3 (by omega))
 have HB3 := hide (below_here HB2.out b3)
 have HT3 := hide (HT2.out.here b3)
 have HE3 := hide (HE2.out.here b3)
 have hs3 := b3.size
 have e0 := (b3.cell (p := ⟨b,off + k * 2,none⟩) hbs).trans d0
 have e1 := (b3.cell (p := ⟨b,off + k * 2 + 1,none⟩) hbs).trans d1
 clear b3 c0 c1 c2 c3 c4 d0 d1
 cases hnone : ((p == -1) && (q == 0)) with
 | true =>
  have HE : Hid (gg = (ByteArray.empty,false)) := by show _ = _; rw [HGE.out,hnone]; rfl
  go_wp2_with fail
  go_ret2
  exact ⟨by rw [HE.out]; rfl,HB3.out⟩
 | false =>
  obtain ⟨s,j,he,hsl,hjl⟩ : ∃ s j : Nat,(p,q) = ((s : Int),(j : Int)) ∧ s < qs.length ∧ j < (sqAt qs s).1.length := by
   rcases HTH.out with e1 | e1
   ·simp only [Prod.mk.injEq] at e1
    rw [e1.1,e1.2] at hnone
    simp at hnone
   ·exact plThere_iff.1 e1
  simp only [Prod.mk.injEq] at he
  obtain ⟨rfl,rfl⟩ := he
  have HPG := hide (pgOf_there HCK.out hsl hjl)
  have hsq := sqOk_parts (chipOk_at HCK.out hsl)
  have hl8 : (sqAt qs s).1.length <= 8 := by have := hsq.1; have := (chipOk_parts HCK.out).2.1; omega
  have htz : (txAt qs s j).size <= 1048576 := by
   have := (hsq.2.2.2 (txAt qs s j) (by unfold txAt; rw [List.getD_eq_getElem?_getD,List.getElem?_eq_getElem hjl]; exact List.getElem_mem _)).2
   omega
  obtain ⟨r,hr⟩ : ∃ r,r = lyP (txAt qs s j) := ⟨_,rfl⟩
  have HCL : ∀ w',Hid (Below w3.heap.size w3 w' -> Calls Tryz.prog 89 #[.agg #[.int .i64 z,.slice a n cap],.agg #[.int .i64 (s : Int),.int .i64 (j : Int)]] w' fun e w'' => e = .returned (.tuple #[pgV4 r,.bool (lyWell r.2.2.2.2)]) ∧ Below w'.heap.size w' w'') := fun w' hb' => by
   rw [hr]
   have hs' := hb'.size
   exact pageLying_any z a n cap qs s j w' (HS3.out.later hb' (by omega)) (by omega) (by rw [<- HL.out]; exact hsl) hjl hl8 hn htz (HT3.out.here hb') (HE3.out.here hb')
  have HGE2 : Hid (gg = (r.2.2.2.1,r.1 == 1)) := by show _ = _; rw [HGE.out,hnone,HPG.out,<- hr]; rfl
  clear hr hnone HPG HGE hsq
  obtain ⟨r0,r1,r2,r3,r4⟩ := r
  unfold pgV4 at HCL
  dsimp only at HCL HGE2
  obtain ⟨lw,hlw⟩ : ∃ lw,lw = lyWell r4 := ⟨_,rfl⟩
  rw [<- hlw] at HCL
  clear hlw
  obtain ⟨a0,a1,a2,a3,a4⟩ := five_cells K3.out
  have hwz : w.heap.size < w3.heap.size := by omega
  have hb3 : b < w3.heap.size := by omega
  have HK : ∀ w',Hid (Below w3.heap.size w3 w' -> w'.cell? ⟨w.heap.size,0,none⟩ = some (.int .i64 z) ∧ w'.cell? ⟨w.heap.size,1,none⟩ = some (.slice a n cap) ∧ w'.cell? ⟨w.heap.size,2,none⟩ = some (.slice (some ⟨b,off,none⟩) m cm) ∧ w'.cell? ⟨b,off + k * 2,none⟩ = some (.int .i64 (s : Int)) ∧ w'.cell? ⟨b,off + k * 2 + 1,none⟩ = some (.int .i64 (j : Int))) := fun w' hb' => ⟨(hb'.cell (p := ⟨_,_,none⟩) hwz).trans a0,(hb'.cell (p := ⟨_,_,none⟩) hwz).trans a1,(hb'.cell (p := ⟨_,_,none⟩) hwz).trans a2,(hb'.cell (p := ⟨_,_,none⟩) hb3).trans e0,(hb'.cell (p := ⟨_,_,none⟩) hb3).trans e1⟩
  go_upto_region 3 with fail
  go_cut [6] (fun v wx => ∃ g,v = .pointer (some ⟨g,0,none⟩) ∧ wx.heap[g]? = some (.cells #[.int .i64 r0,.int .i64 r1,.int .i64 r2,.string r3] 31) ∧ Below w3.heap.size w3 wx)
  case first =>
   have HB0 : Hid (Below w3.heap.size w3 w3.drew) := (Below.refl w3.heap.size w3).drew
   have HBa : Hid (Below w3.heap.size w3 (w3.alloc (.cells #[.int .i64 0,.int .i64 0,.int .i64 0,.string ⟨#[]⟩] 31)).drew) := ((Below.refl w3.heap.size w3).alloc (Nat.le_refl _) _).drew
   have HEa : Hid ((w3.alloc (.cells #[.int .i64 0,.int .i64 0,.int .i64 0,.string ⟨#[]⟩] 31)).drew.heap[w3.heap.size]? = some (.cells #[.int .i64 0,.int .i64 0,.int .i64 0,.string ⟨#[]⟩] 31)) := heap_new w3 _
   go_region_held3 (fun w' => w'.cell? ⟨w.heap.size,0,none⟩ = some (.int .i64 z) ∧ w'.cell? ⟨w.heap.size,1,none⟩ = some (.slice a n cap) ∧ w'.cell? ⟨w.heap.size,2,none⟩ = some (.slice (some ⟨b,off,none⟩) m cm) ∧ w'.cell? ⟨b,off + k * 2,none⟩ = some (.int .i64 (s : Int)) ∧ w'.cell? ⟨b,off + k * 2 + 1,none⟩ = some (.int .i64 (j : Int)))
    (first | exact (HK _).out HB0.out | exact (HK _).out HBa.out | exact (HK _).out HB5.out | exact (HK _).out HBS.out | exact (HK _).out HB6.out | exact ⟨a0,a1,a2,e0,e1⟩ | fail)
    (first
     | (go_at_call 89; refine ((HCL _).out HB0.out).mono ?_; rintro e w5 ⟨rfl,b5⟩; have HB5 := hide (below_here HB0.out b5); have hs5 := b5.size; have HB6 := hide (HB5.out.alloc HB5.out.size (.cells #[.int .i64 0,.int .i64 0,.int .i64 0,.string ⟨#[]⟩] 31)); have HBS := hide (HB5.out.alloc HB5.out.size (.cells #[.int .i64 r0,.int .i64 r1,.int .i64 r2,.string r3] 31)); have HRS := hide (heap_new w5 (.cells #[.int .i64 r0,.int .i64 r1,.int .i64 r2,.string r3] 31)))
     | (go_at_call 89; refine ((HCL _).out HBa.out).mono ?_; rintro e w5 ⟨rfl,b5⟩; have HB5 := hide (below_here HBa.out b5); have hs5 := b5.size; have E5 := hide (block_on HEa.out b5); obtain ⟨e0,e1,e2,e3⟩ := four_cells E5.out; have f0 := four_frozen E5.out 0; have f1 := four_frozen E5.out 1; have f2 := four_frozen E5.out 2; have f3 := four_frozen E5.out 3; have HRS := hide (four_set E5.out (.int .i64 r0) (.int .i64 r1) (.int .i64 r2) (.string r3)); have HBS := hide (four_below (b := w3.heap.size) HB5.out (Nat.le_refl _) (.int .i64 r0) (.int .i64 r1) (.int .i64 r2) (.string r3))))
   all_goals
    clear HB0 HBa HEa HK HCL a0 a1 a2 a3 a4 b5 HB5 hs5
    go_wp2_with fail
    go_meet
    exact ⟨_,rfl,HRS.out,HBS.out⟩
  case rest =>
   obtain ⟨g,rfl,hrs,hb5⟩ := hcut
   obtain ⟨w5,hw5⟩ : ∃ w5,w5 = wc := ⟨_,rfl⟩
   subst hw5
   have HB7 := hide (below_here HB3.out hb5)
   clear hb5 HK HCL a0 a1 a2 a3 a4 e0 e1
   obtain ⟨d0,d1,d2,d3⟩ := four_cells hrs
   go_wp2_with fail
   go_quiet (fail)
   have HB9 : Hid (Below w.heap.size w (w5.drewN nq)) := HB7.out.trans ⟨rfl,rfl,rfl,Nat.le_refl _,fun _ _ => rfl⟩
   go_wp2_with fail
   go_ret2
   exact ⟨by rw [HGE2.out]; rfl,HB9.out⟩
end Go.Proofs.YtgjoepdfhadmcaaGreatDoor
end

section
namespace Go.Proofs.YtgjoepdfhadmcaaGreatDoor
open Go.RowKit
set_option linter.unusedVariables false
set_option maxRecDepth 20000
set_option maxHeartbeats 1600000 in
theorem maxI64_any (G N : Nat) (st : List Int) (w : World) (h : Owned G (G + 1) w (some ⟨G,0,none⟩) N (fun j => .int .i64 (stAt st j))) (h1 : 1 <= N) (h64 : N <= 64) :
  Calls Tryz.prog 78 #[.slice (some ⟨G,0,none⟩) N N] w fun e w' => (∃ m,e = .returned (.int .i64 m) ∧ (∀ j,j < N -> stAt st j <= m) ∧ ∃ j,j < N ∧ stAt st j = m) ∧ w = w' := by
 have HO := hide h
 obtain ⟨c0,_⟩ := h.at0 (i := 0) (by omega)
 clear h
 have g0 : decide ((N : Int) < 1) = false := by simp; omega
 obtain ⟨X,hX⟩ : ∃ X,X = stAt st 0 := ⟨_,rfl⟩
 have HX := hide hX
 rw [<- hX] at c0
 clear hX
 have HS1 : Hid (∀ j,j < 1 -> stAt st j <= X) := fun j hj => by
  have e : j = 0 := by omega
  rw [e,HX.out]
  exact Int.le_refl _
 have hN0 : (0 : Int) < (N : Int) := by omega
 go_enter Tryz.func78,Tryz.ntmps78
 go_wp2_with fail
 go_loop [4,3] (fun i v => ∃ (k : Nat) (m : Int),1 <= k ∧ k <= N ∧ i = .int .i64 (k : Int) ∧ v = .int .i64 m ∧ (∀ j,j < k -> stAt st j <= m) ∧ ∃ j,j < k ∧ stAt st j = m) (fun i _ => N - (intOf i).toNat)
 case atStart => exact ⟨1,X,Nat.le_refl _,h1,rfl,rfl,HS1.out,0,by omega,HX.out.symm⟩
 case round =>
  obtain ⟨k,m,hk1,hk,rfl,rfl,hall,hex⟩ := hrel
  have HAL := hide hall
  have HEX := hide hex
  clear hall hex c0
  by_cases hlt : k < N
  ·obtain ⟨d0,_⟩ := HO.out.at0 hlt
   have hlt2 : (k : Int) < (N : Int) := by omega
   obtain ⟨Y,hY⟩ : ∃ Y,Y = stAt st k := ⟨_,rfl⟩
   have HY := hide hY
   rw [<- hY] at d0
   clear hY
   have HA2 : Hid (∀ j,j < k + 1 -> stAt st j <= max m Y) := fun j hj => by
    by_cases e : j = k
    ·subst e; rw [<- HY.out]; omega
    ·have := HAL.out j (by omega); omega
   have HE2 : Hid (∃ j,j < k + 1 ∧ stAt st j = max m Y) := by
    by_cases e : Y <= m
    ·obtain ⟨j,hj,ej⟩ := HEX.out
     exact ⟨j,by omega,by omega⟩
    ·exact ⟨k,by omega,by rw [<- HY.out]; omega⟩
   go_wp2_with fail
   exact ⟨⟨k + 1,max m Y,by omega,by omega,by go_num,rfl,HA2.out,HE2.out⟩,by simp [intOf]; omega⟩
  ·obtain rfl : k = N := by omega
   go_wp2_with fail
   go_ret
   exact ⟨⟨_,rfl,HAL.out,HEX.out⟩,rfl⟩
theorem mtOne_st {n i k : Nat} {r : Int × Int × Int × ByteArray × Int} {s : Mt} (hh : mtHit n r = true) (hl : r.2.1.toNat < s.st.length) : (mtOne n i k r s).st = s.st.set r.2.1.toNat (max (stAt s.st r.2.1.toNat) r.2.2.1) := by
 unfold mtOne
 rw [if_pos hh,set_max s.st _ hl]
 split <;> rfl
theorem mtOne_no {n i k : Nat} {r : Int × Int × Int × ByteArray × Int} {s : Mt} (hh : mtHit n r = false) : mtOne n i k r s = s := by
 unfold mtOne
 rw [if_neg (by rw [hh]; simp)]
structure FdR (wF wr : World) (b G N : Nat) (cnt : Nat) (s : Mt) (F : Fnd) : Prop where
 mem : FdAt wr b G N cnt s.st F
 ok : FdOk N s F
 lens : s.st.length = N ∧ s.ps.length = N
 two : Two b G wF wr
theorem FdR.on {wF wr w' : World} {b G N cnt : Nat} {s : Mt} {F : Fnd} (h : FdR wF wr b G N cnt s F) (hb : Below wr.heap.size wr w') : FdR wF w' b G N cnt s F := ⟨h.mem.later hb,h.ok,h.lens,h.two.trans (Two.of_below hb)⟩
set_option maxHeartbeats 6400000 in
theorem findPages_any (z : Int) (a : Option Addr) (n cap : Nat) (qs : List Sq) (N : Nat) (w : World) {lo hi : Nat} (h : Squares lo hi w a n qs) (hhi : hi <= w.heap.size) (hok : chipOk z qs = true) (h1 : 1 <= N) (h64 : N <= 64) (hT : Tab w) {aB aL aS aC aF : Addr} (E : Errs w aB aL aS aC aF) :
  Calls Tryz.prog 77 #[.agg #[.int .i64 z,.slice a n cap],.int .i64 (N : Int)] w fun e w' => ∃ v,e = .returned v ∧ ∃ b G cnt F,v = .agg #[.map (some b),.slice (some ⟨G,0,none⟩) N N] ∧ w.heap.size <= b ∧ w.heap.size <= G ∧ FdAt w' b G N cnt (mtAll N qs).st F ∧ FdOk N (mtAll N qs) F ∧ Below w.heap.size w w' := by
 obtain ⟨sA,hsA⟩ : ∃ s,s = mtAll N qs := ⟨_,rfl⟩
 have HSA := hide hsA
 rw [<- hsA]
 clear hsA
 have hn12 : n <= 12 := by have := (chipOk_parts hok).2.2.2.1; rw [h.1] at this; exact this
 obtain ⟨wA,hwA⟩ : ∃ wA,wA = (w.alloc (.cells #[.int .i64 z,.slice a n cap] 26)).alloc (.cells #[.map none,.slice none 0 0] 113) := ⟨_,rfl⟩
 obtain ⟨wM,hwM⟩ : ∃ wM,wM = wA.alloc (.map #[] 0) := ⟨_,rfl⟩
 obtain ⟨wS,hwS⟩ : ∃ wS,wS = wM.alloc (.cells (madeCells #[.int .i64 0] N) 2) := ⟨_,rfl⟩
 obtain ⟨wF,hwF⟩ : ∃ wF,wF = wS.alloc (.cells #[.map (some (w.heap.size + 1 + 1)),.slice (some ⟨w.heap.size + 1 + 1 + 1,0,none⟩) N N] 113) := ⟨_,rfl⟩
 have hzA : wA.heap.size = w.heap.size + 1 + 1 := by rw [hwA]; simp
 have hzM : wM.heap.size = wA.heap.size + 1 := by rw [hwM]; simp
 have hzS : wS.heap.size = wM.heap.size + 1 := by rw [hwS]; simp
 have hzF : wF.heap.size = wS.heap.size + 1 := by rw [hwF]; simp
 have BM : Below wA.heap.size wA wM := by rw [hwM]; exact (Below.refl _ _).alloc (Nat.le_refl _) _
 have BS : Below wM.heap.size wM wS := by rw [hwS]; exact (Below.refl _ _).alloc (Nat.le_refl _) _
 have BF : Below wS.heap.size wS wF := by rw [hwF]; exact (Below.refl _ _).alloc (Nat.le_refl _) _
 have BA : Below w.heap.size w wA := by rw [hwA]; exact ((Below.refl _ _).alloc (Nat.le_refl _) _).alloc (by simp) _
 have HBF : Hid (Below w.heap.size w wF) := below_here (below_here (below_here BA BM) BS) BF
 have H0 : Hid (wF.heap[w.heap.size]? = some (.cells #[.int .i64 z,.slice a n cap] 26)) := block_on (block_on (block_on (by rw [hwA]; exact heap_old (heap_new _ _)) BM) BS) BF
 have H2 : Hid (wF.heap[w.heap.size + 1]? = some (.cells #[.map none,.slice none 0 0] 113)) := block_on (block_on (block_on (by rw [hwA]; exact heap_at (by simp)) BM) BS) BF
 have HV : Hid (wF.heap[w.heap.size + 1 + 1 + 1 + 1]? = some (.cells #[.map (some (w.heap.size + 1 + 1)),.slice (some ⟨w.heap.size + 1 + 1 + 1,0,none⟩) N N] 113)) := by rw [hwF]; exact heap_at (by omega)
 obtain ⟨b,hb⟩ : ∃ b,b = w.heap.size + 1 + 1 := ⟨_,rfl⟩
 obtain ⟨G,hG⟩ : ∃ G,G = w.heap.size + 1 + 1 + 1 := ⟨_,rfl⟩
 obtain ⟨V,hV⟩ : ∃ V,V = w.heap.size + 1 + 1 + 1 + 1 := ⟨_,rfl⟩
 have HFD : Hid (FdR wF wF b G N 0 (mtSqs N qs 0) (fun _ _ => none)) := by
  have m1 : MapAtM wM b 0 (fun _ _ => none) := by rw [hb,<- hzA,hwM]; exact mapAt_made wA
  have m2 : MapAtM wF b 0 (fun _ _ => none) := (m1.kept (BS.block b m1.lt)).kept (BF.block b (Nat.lt_of_lt_of_le m1.lt BS.size))
  have r1 : Owned G (G + 1) wS (some ⟨G,0,none⟩) N (fun j => .int .i64 (stAt (List.replicate N 0) j)) := by
   rw [hG,<- hzA,<- hzM,hwS]
   have hr := World.rowIs_made wM (.int .i64 0) N 2
   refine ⟨by simp,fun _ => ⟨wM.heap.size,0,rfl,Nat.le_refl _,Nat.lt_succ_self _,fun i hi => ?_⟩⟩
   rw [Nat.zero_add]
   refine ⟨(hr.cell hi).trans ?_,hr.frozen i⟩
   show some (Value.int .i64 0) = some (.int .i64 ((List.replicate N (0 : Int)).getD i 0))
   rw [List.getD_eq_getElem?_getD,List.getElem?_replicate,if_pos hi]
   rfl
  exact ⟨⟨m2,r1.later BF (by omega),List.length_replicate,by omega⟩,fdOk_start h1,⟨List.length_replicate,List.length_replicate⟩,Two.refl _ _ _⟩
 rw [<- hV,<- hG,<- hb] at HV
 have hmm := @run_makeMap Tryz.prog
 have hmake := run_make_row' (P := Tryz.prog) 58 2 (.int .i64 0) 8 Tryz.underlying58 Tryz.infoI64 rfl .i64 .i64 N (by omega) (by omega)
 have HSQ := hide h
 have HLQ := hide h.1
 have HOK := hide hok
 have HT := hide hT
 have HE := hide E
 clear h hok hT E BA BM BS BF
 go_enter Tryz.func77,Tryz.ntmps77
 go_upto_region 2 with fail
 rw [<- hwA,<- hwM,<- hwS,<- hwF,<- hV,<- hG,<- hb]
 have hbw : w.heap.size + 1 < b := by omega
 have hbG : b < G := by omega
 have hGV : G < V := by omega
 have hVF : V < wF.heap.size := by omega
 clear hwA hwM hwS hwF hzA hzM hzS hzF hb hG hV hmm hmake
 obtain ⟨c0,c1⟩ := two_cells H0.out
 go_wp2_with fail
 go_loopw [19] (fun x wr => ∃ (i cnt : Nat) (F : Fnd),i <= n ∧ x = .int .i64 (i : Int) ∧ cnt <= 8 * i ∧ FdR wF wr b G N cnt (mtSqs N qs i) F) (fun x _ => n - (intOf x).toNat)
 case atStart => exact ⟨0,0,_,Nat.zero_le _,rfl,Nat.le_refl _,HFD.out⟩
 case round =>
  obtain ⟨i,cnt,F,hi,rfl,hcnt,hR⟩ := hrel
  have HR := hide hR
  have hszr := hR.two.size
  have HBR := hide (HBF.out.trans (hR.two.below (B := w.heap.size) (by omega) (by omega) (by omega)))
  have K0 : Hid (wr.heap[w.heap.size]? = some (.cells #[.int .i64 z,.slice a n cap] 26)) := (hR.two.block _ (by omega) (by omega) (by omega)).trans H0.out
  have K2 : Hid (wr.heap[w.heap.size + 1]? = some (.cells #[.map none,.slice none 0 0] 113)) := (hR.two.block _ (by omega) (by omega) (by omega)).trans H2.out
  have KV : Hid (wr.heap[V]? = some (.cells #[.map (some b),.slice (some ⟨G,0,none⟩) N N] 113)) := (hR.two.block _ (by omega) (by omega) (by omega)).trans HV.out
  clear hR c0 c1
  by_cases hlt : i < n
  ·have hql : i < qs.length := by rw [HLQ.out]; exact hlt
   have hlt2 : (i : Int) < (n : Int) := by omega
   have HSR := hide (HSQ.out.later HBR.out hhi)
   obtain ⟨_,A,C,hx,ht⟩ := HSR.out
   obtain ⟨bq,off,rfl,_,hbq,hc⟩ := hx.2 (by omega)
   have hbqs : bq < wr.heap.size := by have := hx.1; omega
   obtain ⟨q0,q1,q2⟩ := sq_cells hc (Below.refl wr.heap.size wr) hbqs hlt
   have hsq := sqOk_parts (chipOk_at HOK.out hql)
   have hl8 : (sqAt qs i).1.length <= 8 := by have := hsq.1; have := (chipOk_parts HOK.out).2.1; omega
   have HTX : Hid (∀ j,j < (sqAt qs i).1.length -> (txAt qs i j).size <= 1048576) := fun j hj => by
    have := (hsq.2.2.2 (txAt qs i j) (by unfold txAt; rw [List.getD_eq_getElem?_getD,List.getElem?_eq_getElem hj]; exact List.getElem_mem _)).2
    omega
   obtain ⟨ln,hln⟩ : ∃ ln,ln = (sqAt qs i).1.length := ⟨_,rfl⟩
   obtain ⟨zw,hzw⟩ : ∃ zw,zw = (sqAt qs i).2.1 := ⟨_,rfl⟩
   obtain ⟨bd,hbd⟩ : ∃ bd,bd = (sqAt qs i).2.2 := ⟨_,rfl⟩
   have HLN := hide hln
   rw [<- hln] at q0 hl8 HTX
   rw [<- hzw] at q1
   rw [<- hbd] at q2
   clear hln hzw hbd hsq hc hx ht
   obtain ⟨wQ,hwQ⟩ : ∃ wQ,wQ = wr.alloc (.cells #[.slice (A i) ln (C i),.int .i64 zw,.bool bd] 42) := ⟨_,rfl⟩
   have hzQ : wr.heap.size < wQ.heap.size := by rw [hwQ]; simp
   have HBQ : Hid (Below wr.heap.size wr wQ) := by rw [hwQ]; exact (Below.refl _ _).alloc (Nat.le_refl _) _
   have HQQ : Hid (wQ.heap[wr.heap.size]? = some (.cells #[.slice (A i) ln (C i),.int .i64 zw,.bool bd] 42)) := by rw [hwQ]; exact heap_new _ _
   have HRQ := hide (HR.out.on HBQ.out)
   obtain ⟨wo,hwo⟩ : ∃ wo,wo = wr := ⟨_,rfl⟩
   subst hwo
   obtain ⟨k0,k1⟩ := two_cells K0.out
   go_upto_region 5 with fail
   rw [<- hwQ]
   clear hwQ q0 q1 q2 k0 k1
   obtain ⟨x0,x1,x2⟩ := three_cells HQQ.out
   go_wp2_with fail
   go_loopw [27] (fun x wr => ∃ (k cn : Nat) (F : Fnd),k <= ln ∧ x = .int .i64 (k : Int) ∧ cn <= 8 * i + k ∧ FdR wF wr b G N cn (mtPages N qs i (mtSqs N qs i) k) F) (fun x _ => ln - (intOf x).toNat)
   case atStart => exact ⟨0,cnt,F,Nat.zero_le _,rfl,by omega,HRQ.out⟩
   case round =>
    obtain ⟨k,cn,F2,hk,rfl,hcn,hR2⟩ := hrel
    have HR2 := hide hR2
    have hsz2 := hR2.two.size
    have L0 : Hid (wr.heap[w.heap.size]? = some (.cells #[.int .i64 z,.slice (some ⟨bq,off,none⟩) n cap] 26)) := (hR2.two.block _ (by omega) (by omega) (by omega)).trans H0.out
    have LV : Hid (wr.heap[V]? = some (.cells #[.map (some b),.slice (some ⟨G,0,none⟩) N N] 113)) := (hR2.two.block _ (by omega) (by omega) (by omega)).trans HV.out
    have HB2 := hide (HBF.out.trans (hR2.two.below (B := w.heap.size) (by omega) (by omega) (by omega)))
    clear hR2 x0 x1 x2
    by_cases hltk : k < ln
    ·have hkl : k < (sqAt qs i).1.length := by rw [<- HLN.out]; exact hltk
     have hltk2 : (k : Int) < (ln : Int) := by omega
     obtain ⟨wP,hwP⟩ : ∃ wP,wP = wr.alloc (.cells #[.int .i64 (i : Int),.int .i64 (k : Int)] 39) := ⟨_,rfl⟩
     have hzP : wr.heap.size < wP.heap.size := by rw [hwP]; simp
     have HBP : Hid (Below wr.heap.size wr wP) := by rw [hwP]; exact (Below.refl _ _).alloc (Nat.le_refl _) _
     have HPP : Hid (wP.heap[wr.heap.size]? = some (.cells #[.int .i64 (i : Int),.int .i64 (k : Int)] 39)) := by rw [hwP]; exact heap_new _ _
     have HRP := hide (HR2.out.on HBP.out)
     have HB3 := hide (HB2.out.trans (HBP.out.mono (by omega)))
     have M0 := hide (block_on L0.out HBP.out)
     have MV := hide (block_on LV.out HBP.out)
     go_upto_region 9 with fail
     rw [<- hwP]
     clear hwP
     obtain ⟨k0,k1⟩ := two_cells M0.out
     obtain ⟨p0,p1⟩ := two_cells HPP.out
     go_wp2_with fail
     refine (pageLying_any z (some ⟨bq,off,none⟩) n cap qs i k wP (HSQ.out.later HB3.out hhi) (by omega) hlt hkl (by rw [<- HLN.out]; exact hl8) (by omega) (HTX.out k hltk) (HT.out.here HB3.out) (HE.out.here HB3.out)).mono ?_
     rintro e w4 ⟨rfl,b4⟩
     clear k0 k1 p0 p1
     have HSTEP := hide (show mtPages N qs i (mtSqs N qs i) (k + 1) = mtOne N i k (lyP (txAt qs i k)) (mtPages N qs i (mtSqs N qs i) k) from rfl)
     have HWEL := hide (fun hh => lyP_well (s := txAt qs i k) hh)
     have HOKN := hide (fun s9 F9 (h9 : FdOk N s9 F9) h10 h11 => fdOk_one (n := N) (i := i) (k := k) (tx := txAt qs i k) h9 h10 h11)
     obtain ⟨r,hr⟩ : ∃ r,r = lyP (txAt qs i k) := ⟨_,rfl⟩
     rw [<- hr] at HSTEP HWEL HOKN
     rw [<- hr]
     clear hr
     obtain ⟨r0,r1,r2,r3,r4⟩ := r
     unfold pgV4
     dsimp only at HWEL ⊢
     obtain ⟨wG,hwG⟩ : ∃ wG,wG = w4.alloc (.cells #[.int .i64 r0,.int .i64 r1,.int .i64 r2,.string r3] 31) := ⟨_,rfl⟩
     have hzG : w4.heap.size < wG.heap.size := by rw [hwG]; simp
     have HBG : Hid (Below w4.heap.size w4 wG) := by rw [hwG]; exact (Below.refl _ _).alloc (Nat.le_refl _) _
     have HGG : Hid (wG.heap[w4.heap.size]? = some (.cells #[.int .i64 r0,.int .i64 r1,.int .i64 r2,.string r3] 31)) := by rw [hwG]; exact heap_new _ _
     have HB4 := hide (below_here b4 HBG.out)
     have HRG := hide (HRP.out.on HB4.out)
     have NV := hide (block_on MV.out HB4.out)
     have NP := hide (block_on HPP.out HB4.out)
     clear b4
     obtain ⟨s,hs⟩ : ∃ s,s = mtPages N qs i (mtSqs N qs i) k := ⟨_,rfl⟩
     rw [<- hs] at HRG HSTEP
     have HS := hide hs
     clear hs
     have HNXT : Hid (mtHit N (r0,r1,r2,r3,r4) = false -> FdR wF wG b G N cn (mtPages N qs i (mtSqs N qs i) (k + 1)) F2) := fun hh => by
      rw [HSTEP.out,mtOne_no hh]; exact HRG.out
     cases hw : lyWell r4 with
     | false =>
      have HN := hide (HNXT.out (by unfold mtHit; rw [hw]; rfl))
      go_wp2_with fail
      rw [<- hwG]
      exact ⟨⟨k + 1,cn,F2,by omega,by go_num,by omega,HN.out⟩,by simp [intOf]; omega⟩
     | true =>
      obtain ⟨v1,v2,v3,v4⟩ := HWEL.out hw
      obtain ⟨aa,rfl⟩ : ∃ aa : Nat,r1 = (aa : Int) := ⟨r1.toNat,by omega⟩
      go_upto_region 10 with fail
      rw [<- hwG]
      clear hwG
      obtain ⟨g0,g1,g2,g3⟩ := four_cells HGG.out
      by_cases haN : aa < N
      ·have haN2 : (aa : Int) < (N : Int) := by omega
       have hhit : mtHit N (r0,(aa : Int),r2,r3,r4) = true := by unfold mtHit; dsimp only; rw [hw]; simp; omega
       obtain ⟨y0,y1⟩ := two_cells NV.out
       obtain ⟨p0,p1⟩ := two_cells NP.out
       go_wp2_with fail
       refine (add_any b G N cn aa s.st F2 r0 r2 r3 (i : Int) (k : Int) wG HRG.out.mem haN h64 v3 v4 (by omega)).mono ?_
       rintro e w5 ⟨rfl,hm5,ht5⟩
       have HN : Hid (FdR wF w5 b G N (cn + 1) (mtPages N qs i (mtSqs N qs i) (k + 1)) (fndAdd F2 (aa : Int) r2 ((i : Int),(k : Int)))) := by
        have hl := HRG.out.lens
        have hst : (mtOne N i k (r0,(aa : Int),r2,r3,r4) s).st = s.st.set aa (max (stAt s.st aa) r2) := by
         have := mtOne_st (i := i) (k := k) (s := s) hhit (by show (aa : Int).toNat < _; rw [Int.toNat_natCast,hl.1]; exact haN)
         dsimp only at this
         rw [Int.toNat_natCast] at this
         exact this
        have hfd := HOKN.out s F2 HRG.out.ok hl.1 hl.2
        unfold fdOne at hfd
        rw [if_pos hhit] at hfd
        dsimp only at hfd
        rw [HSTEP.out]
        refine ⟨by rw [hst]; exact hm5,hfd,⟨by rw [hst,List.length_set]; exact hl.1,?_⟩,HRG.out.two.trans ht5⟩
        unfold mtOne
        rw [if_pos hhit]
        split
        ·dsimp only; rw [List.length_set]; exact hl.2
        ·exact hl.2
       clear hm5 ht5 y0 y1 p0 p1 g0 g1 g2 g3
       go_wp2_with fail
       exact ⟨⟨k + 1,cn + 1,_,by omega,by go_num,by omega,HN.out⟩,by simp [intOf]; omega⟩
      ·have haN2 : decide ((aa : Int) < (N : Int)) = false := by simp; omega
       have HN := hide (HNXT.out (by unfold mtHit; dsimp only; rw [hw]; simp; omega))
       go_wp2_with fail
       exact ⟨⟨k + 1,cn,F2,by omega,by go_num,by omega,HN.out⟩,by simp [intOf]; omega⟩
    ·obtain rfl : k = ln := by omega
     have HN : Hid (FdR wF wr b G N cn (mtSqs N qs (i + 1)) F2) := by
      show FdR wF wr b G N cn (mtPages N qs i (mtSqs N qs i) (sqAt qs i).1.length) F2
      rw [<- HLN.out]; exact HR2.out
     go_wp2_with fail
     exact ⟨⟨i + 1,cn,F2,by omega,by go_num,by omega,HN.out⟩,by simp [intOf]; omega⟩
  ·obtain rfl : i = n := by omega
   have HEQ : Hid (mtSqs N qs i = sA) := by show _ = _; rw [HSA.out]; unfold mtAll; rw [HLQ.out]
   rw [HEQ.out] at HR
   obtain ⟨v0,v1⟩ := two_cells KV.out
   obtain ⟨p0,p1⟩ := two_cells K2.out
   have f0 := four_frozen K2.out 0
   have f1 := four_frozen K2.out 1
   have HRS := hide (two_set K2.out (.map (some b)) (.slice (some ⟨G,0,none⟩) N N))
   have HAS := hide (two_aside (b := w.heap.size + 1) (Aside.refl (w.heap.size + 1) (w.heap.size + 1 + 1) wr) (Nat.le_refl _) (Nat.lt_succ_self _) (.map (some b)) (.slice (some ⟨G,0,none⟩) N N))
   have HBE := hide (HBR.out.trans (HAS.out.below (B := w.heap.size) (by omega) (by omega)))
   have HFE : Hid (FdAt ((wr.setCell ⟨w.heap.size + 1,0,none⟩ (.map (some b))).setCell ⟨w.heap.size + 1,1,none⟩ (.slice (some ⟨G,0,none⟩) N N)) b G N cnt sA.st F) :=
    ⟨HR.out.mem.map.kept (HAS.out.block b HR.out.mem.map.lt (.inr (by omega))),HR.out.mem.row.aside HAS.out (.inr (by omega)),HR.out.mem.len,HR.out.mem.ne⟩
   go_wp2_with fail
   refine bodyPost_ret (results_cell rfl rfl (run_loadVar_row _ _ _ _ _ _ _ HRS.out Tryz.underlying113 rfl (by kernel_rfl))) rfl ⟨_,rfl,b,G,cnt,F,rfl,by omega,by omega,HFE.out,HR.out.ok,HBE.out⟩
end Go.Proofs.YtgjoepdfhadmcaaGreatDoor
end

