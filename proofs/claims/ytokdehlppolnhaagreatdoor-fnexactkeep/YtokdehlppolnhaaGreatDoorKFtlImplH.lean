/- Several texts in one: FtlImplH, CopyRaw, CacheNew, CacheKeepS, CacheCopyI. -/
import Derived.Test.YtokdehlppolnhaaGreatDoorKFtlImplG
import Derived.Test.YtokdehlppolnhaaGreatDoorKChipGrow
import Derived.Test.YtokdehlppolnhaaGreatDoorKChipAns
import Derived.Test.YtokdehlppolnhaaGreatDoorKFtlOwnP
import Derived.Test.YtokdehlppolnhaaGreatDoorKFtlImplA
import Derived.Test.YtokdehlppolnhaaGreatDoorKPageBase
import Derived.Test.YtokdehlppolnhaaGreatDoorKFtlMath
import Derived.Test.YtokdehlppolnhaaGreatDoorKCSpecC
import Derived.Deep.RegionWith
import Derived.Deep.RegionLaw
import Derived.Deep.AppendLies
section
namespace Go.Proofs.YtokdehlppolnhaaGreatDoor
open Go.RowKit
set_option linter.unusedVariables false
set_option maxRecDepth 20000
set_option maxHeartbeats 1600000 in
theorem clonePl_any (b off m cm : Nat) (ps : List Pl) (w : World) {lo hi : Nat} (hp : Places lo hi w (some ⟨b, off, none⟩) m ps) (hhi : hi <= w.heap.size) (hm1 : 1 <= m) (hm : m <= 64) :
  Calls Tryz.prog 187 #[.slice (some ⟨b, off, none⟩) m cm] w fun e w' => ∃ gm cm', e = .returned (.slice (some ⟨gm, 0, none⟩) m cm') ∧ PlOwn w.heap.size w' (.slice (some ⟨gm, 0, none⟩) ps.length cm') ps ∧ Below w.heap.size w w' := by
 obtain ⟨wC, hwC⟩ : ∃ wC, wC = w.alloc (.cells #[] 86) := ⟨_, rfl⟩
 have hzC : wC.heap.size = w.heap.size + 1 := by rw [hwC]; simp
 have HBC : Hid (Below w.heap.size w wC) := by rw [hwC]; exact (Below.refl _ _).alloc (Nat.le_refl _) _
 have HMD : Hid (PlOwn w.heap.size wC (.slice (some ⟨w.heap.size, 0, none⟩) 0 0) []) := by rw [hwC]; exact pl_made0 w
 obtain ⟨gm, cm', w2, hap, hpo, hgr, hat⟩ := append_places (P := Tryz.prog) Tryz.infoPl9 Tryz.underlying36 HMD.out (by omega) (c := cm) (hp.later HBC.out hhi) hm1 (by omega)
 have HAP := hide hap
 have HPO := hide hpo
 have HB2 : Hid (Below w.heap.size w w2) := HBC.out.grown hgr (by omega) (fun k e => by simp only [Option.some.injEq] at e; omega)
 clear hap hpo hgr hat HMD hp hzC
 have hq : ∀ w, (binOp BinOp.eql 36 (.slice (some ⟨b, off, none⟩) m cm) (.slice none 0 0)).run Tryz.prog w = .ok (.bool false) w := fun w => by kernel_rfl
 go_enter Tryz.func187, Tryz.ntmps187
 go_wp2_with (at_builtin; rw [<- hwC]; refine wpList_append_eq rfl (.tmp 5) (.tmp 6) 36 rfl _ _ _ w2 rfl rfl HAP.out ?_)
 go_ret
 exact ⟨gm, cm', rfl, HPO.out, HB2.out⟩
set_option maxHeartbeats 3200000 in
theorem keeperOf_any (z : Int) (a : Option Addr) (n cap : Nat) (qs : List Sq) (am : Option Addr) (m cm : Nat) (ps : List Pl) (op st : Int) (w : World) {lo hi lo' hi' : Nat} (h : Squares lo hi w a n qs) (hhi : hi <= w.heap.size) (hok : chipOk z qs = true) (hp : Places lo' hi' w am m ps) (hhi' : hi' <= w.heap.size) (hm1 : 1 <= m) (hm : m <= 64) {aN : Addr} (hN : w.cell? ⟨2, 0, none⟩ = some (noRoomV aN)) :
  Calls Tryz.prog 123 #[.agg #[.int .i64 z, .slice a n cap, .slice am m cm, .int .i64 op, .int .i64 st]] w fun e w' => ∃ pk g c gm cm' A C, e = .returned (.pointer (some ⟨pk, 0, none⟩)) ∧ KeeperAt w.heap.size w' pk z st n g c gm cm' A C (.slice none 0 0) ⟨qs, ps, op, []⟩ aN ∧ Below w.heap.size w w' := by
 obtain ⟨wA, hwA⟩ : ∃ wA, wA = w.alloc (.cells #[.int .i64 z, .slice a n cap, .slice am m cm, .int .i64 op, .int .i64 st] 38) := ⟨_, rfl⟩
 have hzA : wA.heap.size = w.heap.size + 1 := by rw [hwA]; simp
 have HBA : Hid (Below w.heap.size w wA) := by rw [hwA]; exact (Below.refl _ _).alloc (Nat.le_refl _) _
 have H0 : Hid (wA.heap[w.heap.size]? = some (.cells #[.int .i64 z, .slice a n cap, .slice am m cm, .int .i64 op, .int .i64 st] 38)) := by rw [hwA]; exact heap_new _ _
 have HSQ := hide (h.later HBA.out hhi)
 have HPL := hide (hp.later HBA.out hhi')
 have HLP := hide hp.1
 have hGl : 2 < w.heap.size := World.block_lt_of_cell? _ _ hN
 have HN := hide hN
 obtain ⟨b, off, rfl, _, hb, _⟩ := hp.2.2 (by omega)
 clear h hp hN
 obtain ⟨c0, c1, c2, c3, c4⟩ := five_cells H0.out
 have HSK : ∀ W, Hid (Below wA.heap.size wA W -> W.cell? ⟨w.heap.size, 0, none⟩ = some (.int .i64 z) ∧ W.cell? ⟨w.heap.size, 1, none⟩ = some (.slice a n cap) ∧ W.cell? ⟨w.heap.size, 2, none⟩ = some (.slice (some ⟨b, off, none⟩) m cm) ∧ W.cell? ⟨w.heap.size, 3, none⟩ = some (.int .i64 op) ∧ W.cell? ⟨w.heap.size, 4, none⟩ = some (.int .i64 st)) := fun W hb => ⟨(hb.cell (p := ⟨_, _, none⟩) (by show w.heap.size < _; omega)).trans c0, (hb.cell (p := ⟨_, _, none⟩) (by show w.heap.size < _; omega)).trans c1, (hb.cell (p := ⟨_, _, none⟩) (by show w.heap.size < _; omega)).trans c2, (hb.cell (p := ⟨_, _, none⟩) (by show w.heap.size < _; omega)).trans c3, (hb.cell (p := ⟨_, _, none⟩) (by show w.heap.size < _; omega)).trans c4⟩
 have HCC : ∀ W, Hid (Below wA.heap.size wA W -> Calls Tryz.prog 118 #[.agg #[.int .i64 z, .slice a n cap]] W fun e w' => ∃ g c A C, e = .returned (.agg #[.int .i64 z, .slice (some ⟨g, 0, none⟩) n c]) ∧ GrowSqs W.heap.size w' n qs g A C ∧ Below W.heap.size W w') := fun W hb => copyOfChip_any z a n cap qs W (HSQ.out.later hb (by omega)) (by have := hb.size; omega) hok
 have HCP : ∀ W, Hid (Below wA.heap.size wA W -> Calls Tryz.prog 187 #[.slice (some ⟨b, off, none⟩) m cm] W fun e w' => ∃ gm cm', e = .returned (.slice (some ⟨gm, 0, none⟩) m cm') ∧ PlOwn W.heap.size w' (.slice (some ⟨gm, 0, none⟩) ps.length cm') ps ∧ Below W.heap.size W w') := fun W hb => clonePl_any b off m cm ps W (HPL.out.later hb (by omega)) (by have := hb.size; omega) hm1 hm
 have HB0 : Hid (Below wA.heap.size wA wA.drew) := (Below.refl wA.heap.size wA).drew
 go_enter Tryz.func123, Tryz.ntmps123
 go_upto_region 1 with fail
 rw [<- hwA]
 clear hwA
 have HZA := hide hzA
 clear hzA
 go_region_held3 (fun W => W.cell? ⟨w.heap.size, 0, none⟩ = some (.int .i64 z) ∧ W.cell? ⟨w.heap.size, 1, none⟩ = some (.slice a n cap) ∧ W.cell? ⟨w.heap.size, 2, none⟩ = some (.slice (some ⟨b, off, none⟩) m cm) ∧ W.cell? ⟨w.heap.size, 3, none⟩ = some (.int .i64 op) ∧ W.cell? ⟨w.heap.size, 4, none⟩ = some (.int .i64 st))
  (first | exact (HSK _).out HB0.out | exact (HSK _).out HB5.out | exact (HSK _).out HB6.out | exact (HSK _).out HB7.out | fail)
  (first
   | (go_at_call 118; refine ((HCC _).out HB0.out).mono ?_; rintro e w5 ⟨g, c, A, C, rfl, hG5, b5⟩; have HB5 := hide (below_here HB0.out b5); have HG5 := hide hG5; have hs5 : wA.heap.size <= w5.heap.size := HB5.out.size; clear hG5 b5)
   | (go_at_call 187; refine ((HCP _).out HB5.out).mono ?_; rintro e w6 ⟨gm, cm', rfl, hP6, b6⟩; have HB6 := hide (below_here HB5.out b6); have HG6 := hide (HG5.out.later b6); have HP6 := hide hP6; have hs6 : w5.heap.size <= w6.heap.size := b6.size; have HB7 := hide (HB6.out.alloc HB6.out.size (.cells #[.int .i64 z, .slice (some ⟨g, 0, none⟩) n c, .slice (some ⟨gm, 0, none⟩) m cm', .int .i64 op, .int .i64 st, .slice none 0 0] 229)); clear hP6 b6)
   | fail)
 all_goals
  have hzA := HZA.out
  have hg1 := HG6.out.atG
  have hg2 : g < w5.heap.size := by have := HG5.out.row.1; omega
  have hgm1 : w5.heap.size <= gm := (World.ownsRow.lt HP6.out gm rfl).1
  have HBX := hide ((Below.refl w6.heap.size w6).alloc (Nat.le_refl _) (.cells #[.int .i64 z, .slice (some ⟨g, 0, none⟩) n c, .slice (some ⟨gm, 0, none⟩) m cm', .int .i64 op, .int .i64 st, .slice none 0 0] 229))
  have HBW := hide (below_here HBA.out HB7.out)
  have hle : ps.length = m := HLP.out
  have HKA : Hid (KeeperAt w.heap.size (w6.alloc (.cells #[.int .i64 z, .slice (some ⟨g, 0, none⟩) n c, .slice (some ⟨gm, 0, none⟩) m cm', .int .i64 op, .int .i64 st, .slice none 0 0] 229)) w6.heap.size z st n g c gm cm' A C (.slice none 0 0) ⟨qs, ps, op, []⟩ aN) :=
   ⟨⟨(HG6.out.mono (show w.heap.size <= wA.heap.size by omega)).later HBX.out, own_keepBy (HP6.out.mono (by omega)) (grown_below HBX.out none) (fun k e => by cases e), World.ownsRow_nil _ _ _ _, by omega, fun e => by cases e⟩, by dsimp only; rw [hle]; exact heap_new _ _, by omega, by omega, (HBW.out.cell (p := ⟨_, _, none⟩) hGl).trans HN.out, hGl⟩
  go_wp2_with fail
  go_ret
  exact ⟨_, g, c, gm, cm', A, C, rfl, HKA.out, HBW.out⟩
set_option maxHeartbeats 1600000 in
theorem ftl_any (B pk : Nat) (z st : Int) (n g c gm cm : Nat) (A : Nat -> Option Addr) (C : Nat -> Nat) (V : Value) (s : Kp) (aN : Addr) (w : World) (h : KeeperAt B w pk z st n g c gm cm A C V s aN) (hB : B <= w.heap.size) :
  Calls Tryz.prog 125 #[.pointer (some ⟨pk, 0, none⟩)] w fun e w' => e = .returned (.agg #[.int .i64 z, .slice (some ⟨g, 0, none⟩) n c, .slice (some ⟨gm, 0, none⟩) s.ps.length cm, .int .i64 s.op, .int .i64 st]) ∧ Below w.heap.size w w' := by
 obtain ⟨wA, hwA⟩ : ∃ wA, wA = w.alloc (.cells #[.int .i64 0, .slice none 0 0, .slice none 0 0, .int .i64 0, .int .i64 0] 38) := ⟨_, rfl⟩
 have hzA : wA.heap.size = w.heap.size + 1 := by rw [hwA]; simp
 have HBA : Hid (Below w.heap.size w wA) := by rw [hwA]; exact (Below.refl _ _).alloc (Nat.le_refl _) _
 have H0 : Hid (wA.heap[w.heap.size]? = some (.cells #[.int .i64 0, .slice none 0 0, .slice none 0 0, .int .i64 0, .int .i64 0] 38)) := by rw [hwA]; exact heap_new _ _
 obtain ⟨x0, x1, x2, x3, x4, x5⟩ := six_cells (h.later HBA.out hB).box
 clear h
 obtain ⟨p0, p1, p2, p3, p4⟩ := five_cells H0.out
 have f0 := four_frozen H0.out 0
 have f1 := four_frozen H0.out 1
 have f2 := four_frozen H0.out 2
 have f3 := four_frozen H0.out 3
 have f4 := four_frozen H0.out 4
 have HAS := hide (five_aside (b := w.heap.size) (Aside.refl w.heap.size (w.heap.size + 1) wA) (Nat.le_refl _) (Nat.lt_succ_self _) (.int .i64 z) (.slice (some ⟨g, 0, none⟩) n c) (.slice (some ⟨gm, 0, none⟩) s.ps.length cm) (.int .i64 s.op) (.int .i64 st))
 have HBF := hide (HBA.out.trans (HAS.out.below (B := w.heap.size) (Nat.le_refl _) (by omega)))
 have HRS := hide (five_set H0.out (.int .i64 z) (.slice (some ⟨g, 0, none⟩) n c) (.slice (some ⟨gm, 0, none⟩) s.ps.length cm) (.int .i64 s.op) (.int .i64 st))
 go_enter Tryz.func125, Tryz.ntmps125
 go_upto_region 1 with fail
 rw [<- hwA]
 clear hwA
 refine wp_region_quiet_tail 17 (by kernel_rfl) (by kernel_rfl) ?_
 simp only [List.take_succ_cons, List.take_zero, List.drop_succ_cons, List.drop_zero]
 repeat (go_big_quiet_step (fail))
 refine wpQuiet_nil ?_
 rintro _ ⟨nq, rfl⟩
 go_wp2_with fail
 refine bodyPost_ret (results_cell rfl rfl (run_loadVar_row _ _ _ _ _ _ _ (by exact HRS.out) Tryz.underlying38 rfl (by kernel_rfl))) rfl ⟨rfl, HBF.out.trans ⟨rfl, rfl, rfl, Nat.le_refl _, fun _ _ => rfl⟩⟩
set_option maxHeartbeats 1600000 in
theorem copyOfFtl_any (z : Int) (a : Option Addr) (n cap : Nat) (qs : List Sq) (am : Option Addr) (m cm : Nat) (ps : List Pl) (op st : Int) (w : World) {lo hi lo' hi' : Nat} (h : Squares lo hi w a n qs) (hhi : hi <= w.heap.size) (hok : chipOk z qs = true) (hp : Places lo' hi' w am m ps) (hhi' : hi' <= w.heap.size) (hm1 : 1 <= m) (hm : m <= 64) {aN : Addr} (hN : w.cell? ⟨2, 0, none⟩ = some (noRoomV aN)) :
  Calls Tryz.prog 93 #[.agg #[.int .i64 z, .slice a n cap, .slice am m cm, .int .i64 op, .int .i64 st]] w fun e w' => ∃ v, e = .returned v ∧ FtlAns w ⟨z, qs, ps, op, st⟩ v w' := by
 obtain ⟨wA, hwA⟩ : ∃ wA, wA = (w.alloc (.cells #[.int .i64 z, .slice a n cap, .slice am m cm, .int .i64 op, .int .i64 st] 38)).alloc (.cells #[.int .i64 0, .slice none 0 0, .slice none 0 0, .int .i64 0, .int .i64 0] 38) := ⟨_, rfl⟩
 have hzA : wA.heap.size = w.heap.size + 1 + 1 := by rw [hwA]; simp
 have HBA : Hid (Below w.heap.size w wA) := by rw [hwA]; exact ((Below.refl _ _).alloc (Nat.le_refl _) _).alloc (by simp) _
 have H0 : Hid (wA.heap[w.heap.size]? = some (.cells #[.int .i64 z, .slice a n cap, .slice am m cm, .int .i64 op, .int .i64 st] 38)) := by rw [hwA]; exact heap_old (heap_new _ _)
 have H1 : Hid (wA.heap[w.heap.size + 1]? = some (.cells #[.int .i64 0, .slice none 0 0, .slice none 0 0, .int .i64 0, .int .i64 0] 38)) := by rw [hwA]; exact heap_at (by simp)
 have HSQ := hide (h.later HBA.out hhi)
 have HPL := hide (hp.later HBA.out hhi')
 have HLP := hide hp.1
 have HLQ := hide h.1
 have hGl : 2 < w.heap.size := World.block_lt_of_cell? _ _ hN
 have HN := hide ((HBA.out.cell (p := ⟨2, 0, none⟩) hGl).trans hN)
 clear h hp hN
 obtain ⟨c0, c1, c2, c3, c4⟩ := five_cells H0.out
 go_enter Tryz.func93, Tryz.ntmps93
 go_wp2_with fail
 rw [<- hwA]
 clear hwA
 refine (keeperOf_any z a n cap qs am m cm ps op st wA HSQ.out (by omega) hok HPL.out (by omega) hm1 hm HN.out).mono ?_
 rintro e w1 ⟨pk, g, c, gm, cm', A, C, rfl, hK1, b1⟩
 have HK1 := hide hK1
 have K1 := hide (block_on H1.out b1)
 have HB1 := hide (below_here HBA.out b1)
 have hs1 := b1.size
 clear hK1 b1 c0 c1 c2 c3 c4
 go_wp2_with fail
 refine (ftl_any wA.heap.size pk z st n g c gm cm' A C _ ⟨qs, ps, op, []⟩ aN w1 HK1.out (by omega)).mono ?_
 rintro e w2 ⟨rfl, b2⟩
 have hle : ps.length = m := HLP.out
 dsimp only
 rw [hle]
 have K2 := hide (block_on K1.out b2)
 have HB2 := hide (below_here HB1.out b2)
 have hs2 := b2.size
 have HO2 := hide (own_of_kp (HK1.out.mem.later b2))
 clear b2
 obtain ⟨p0, p1, p2, p3, p4⟩ := five_cells K2.out
 have f0 := four_frozen K2.out 0
 have f1 := four_frozen K2.out 1
 have f2 := four_frozen K2.out 2
 have f3 := four_frozen K2.out 3
 have f4 := four_frozen K2.out 4
 have HRS := hide (five_set K2.out (.int .i64 z) (.slice (some ⟨g, 0, none⟩) n c) (.slice (some ⟨gm, 0, none⟩) m cm') (.int .i64 op) (.int .i64 st))
 have HAS := hide (five_aside (b := w.heap.size + 1) (Aside.refl (w.heap.size + 1) (w.heap.size + 1 + 1) w2) (Nat.le_refl _) (Nat.lt_succ_self _) (.int .i64 z) (.slice (some ⟨g, 0, none⟩) n c) (.slice (some ⟨gm, 0, none⟩) m cm') (.int .i64 op) (.int .i64 st))
 have HBF := hide (HB2.out.trans (HAS.out.below (B := w.heap.size) (by omega) (by omega)))
 go_wp2_with fail
 refine bodyPost_ret (results_cell rfl rfl (run_loadVar_row _ _ _ _ _ _ _ HRS.out Tryz.underlying38 rfl (by kernel_rfl))) rfl ⟨_, rfl, some ⟨g, 0, none⟩, c, some ⟨gm, 0, none⟩, cm', by unfold fvV; dsimp only; rw [HLQ.out, HLP.out], ?_, HBF.out, pl_cap HK1.out.mem.pl⟩
 exact (HO2.out.aside HAS.out (.inl (by omega))).wide (by omega) HAS.out.size (Nat.le_refl _)
set_option maxHeartbeats 1600000 in
theorem mayEnter_any (v0 v1 : Value) (am : Option Addr) (m cm : Nat) (v3 : Value) (st kd a sp : Int) (tx : ByteArray) (ps : List Pl) (w : World) (hl : ps.length = m) (hm : m <= 1048576) (hst : 0 <= st ∧ st <= 1000000) :
  Calls Tryz.prog 121 #[.agg #[v0, v1, .slice am m cm, v3, .int .i64 st], .agg #[.int .i64 kd, .int .i64 a, .int .i64 sp, .string tx]] w fun e w' => e = .returned (.bool (mayEnt ps st kd a tx)) ∧ Below w.heap.size w w' := by
 obtain ⟨wA, hwA⟩ : ∃ wA, wA = (w.alloc (.cells #[v0, v1, .slice am m cm, v3, .int .i64 st] 38)).alloc (.cells #[.int .i64 kd, .int .i64 a, .int .i64 (st + 1), .string tx] 81) := ⟨_, rfl⟩
 have hzA : wA.heap.size = w.heap.size + 1 + 1 := by rw [hwA]; simp
 have HBA : Hid (Below w.heap.size w wA) := by rw [hwA]; exact ((Below.refl _ _).alloc (Nat.le_refl _) _).alloc (by simp) _
 have H0 : Hid (wA.heap[w.heap.size]? = some (.cells #[v0, v1, .slice am m cm, v3, .int .i64 st] 38)) := by rw [hwA]; exact heap_old (heap_new _ _)
 have H1 : Hid (wA.heap[w.heap.size + 1]? = some (.cells #[.int .i64 kd, .int .i64 a, .int .i64 (st + 1), .string tx] 81)) := by rw [hwA]; exact heap_at (by simp)
 have HME : Hid (mayEnt ps st kd a tx = (pageOk kd a (st + 1) tx && inB a 0 ((m : Int) - 1))) := by show _ = _; unfold mayEnt; rw [hl]
 have hwr : IntKind.i64.wrap (st + 1) = st + 1 := by rw [IntKind.wrap_i64]; omega
 have hst0 := hst.1
 have hst1 := hst.2
 clear hst
 obtain ⟨p0, p1, p2, p3⟩ := four_cells H1.out
 obtain ⟨c0, c1, c2, c3, c4⟩ := five_cells H0.out
 go_enter Tryz.func121, Tryz.ntmps121
 go_wp2_with fail
 rw [<- hwA]
 clear hwA
 refine (implPageOk_any kd a (st + 1) tx wA).mono ?_
 rintro e w1 ⟨rfl, b1⟩
 have K0 := hide (block_on H0.out b1)
 have K1 := hide (block_on H1.out b1)
 have HB1 := hide (below_here HBA.out b1)
 clear b1 p0 p1 p2 p3 c0 c1 c2 c3 c4
 cases hpk : pageOk kd a (st + 1) tx with
 | false =>
  have HE : Hid (mayEnt ps st kd a tx = false) := by show _ = _; rw [HME.out, hpk]; rfl
  go_wp2_with fail
  go_ret
  exact ⟨ret_bool HE.out.symm, HB1.out⟩
 | true =>
  have HE : Hid (mayEnt ps st kd a tx = inB a 0 ((m : Int) - 1)) := by show _ = _; rw [HME.out, hpk]; rfl
  obtain ⟨p0, p1, p2, p3⟩ := four_cells K1.out
  obtain ⟨c0, c1, c2, c3, c4⟩ := five_cells K0.out
  go_wp2_with fail
  refine (hasNumber_any v0 v1 am m cm v3 (.int .i64 st) a w1 (by unfold maxLen; omega)).mono ?_
  rintro e w2 ⟨rfl, b2⟩
  have HB2 := hide (below_here HB1.out b2)
  clear b2
  go_wp2_with fail
  go_ret
  exact ⟨ret_bool HE.out.symm, HB2.out⟩
end Go.Proofs.YtokdehlppolnhaaGreatDoor
end

section
namespace Go.Proofs.YtokdehlppolnhaaGreatDoor
open Go.RowKit
set_option linter.unusedVariables false
set_option maxRecDepth 20000
structure KeeperRaw (B : Nat) (w : World) (pk : Nat) (z st : Int) (n g c gm cm : Nat) (A : Nat -> Option Addr) (C : Nat -> Nat) (V : Value) (s : Kp) : Prop where
 mem : KpMem B w n g gm cm A C V s
 box : w.heap[pk]? = some (.cells #[.int .i64 z, .slice (some ⟨g, 0, none⟩) n c, .slice (some ⟨gm, 0, none⟩) s.ps.length cm, .int .i64 s.op, .int .i64 st, V] 229)
 nk : pk ≠ g
 bk : B <= pk
theorem KeeperRaw.later {B pk n g c gm cm : Nat} {w w' : World} {z st : Int} {A : Nat -> Option Addr} {C : Nat -> Nat} {V : Value} {s : Kp} (h : KeeperRaw B w pk z st n g c gm cm A C V s) (hb : Below w.heap.size w w') : KeeperRaw B w' pk z st n g c gm cm A C V s :=
 ⟨h.mem.later hb, block_on h.box hb, h.nk, h.bk⟩
set_option maxHeartbeats 3200000 in
theorem keeperOf_raw (z : Int) (a : Option Addr) (n cap : Nat) (qs : List Sq) (am : Option Addr) (m cm : Nat) (ps : List Pl) (op st : Int) (w : World) {lo hi lo' hi' : Nat} (h : Squares lo hi w a n qs) (hhi : hi <= w.heap.size) (hok : chipOk z qs = true) (hp : Places lo' hi' w am m ps) (hhi' : hi' <= w.heap.size) (hm1 : 1 <= m) (hm : m <= 64) :
  Calls Tryz.prog 123 #[.agg #[.int .i64 z, .slice a n cap, .slice am m cm, .int .i64 op, .int .i64 st]] w fun e w' => ∃ pk g c gm cm' A C, e = .returned (.pointer (some ⟨pk, 0, none⟩)) ∧ KeeperRaw w.heap.size w' pk z st n g c gm cm' A C (.slice none 0 0) ⟨qs, ps, op, []⟩ ∧ Below w.heap.size w w' := by
 obtain ⟨wA, hwA⟩ : ∃ wA, wA = w.alloc (.cells #[.int .i64 z, .slice a n cap, .slice am m cm, .int .i64 op, .int .i64 st] 38) := ⟨_, rfl⟩
 have hzA : wA.heap.size = w.heap.size + 1 := by rw [hwA]; simp
 have HBA : Hid (Below w.heap.size w wA) := by rw [hwA]; exact (Below.refl _ _).alloc (Nat.le_refl _) _
 have H0 : Hid (wA.heap[w.heap.size]? = some (.cells #[.int .i64 z, .slice a n cap, .slice am m cm, .int .i64 op, .int .i64 st] 38)) := by rw [hwA]; exact heap_new _ _
 have HSQ := hide (h.later HBA.out hhi)
 have HPL := hide (hp.later HBA.out hhi')
 have HLP := hide hp.1
 obtain ⟨b, off, rfl, _, hb, _⟩ := hp.2.2 (by omega)
 clear h hp
 obtain ⟨c0, c1, c2, c3, c4⟩ := five_cells H0.out
 have HSK : ∀ W, Hid (Below wA.heap.size wA W -> W.cell? ⟨w.heap.size, 0, none⟩ = some (.int .i64 z) ∧ W.cell? ⟨w.heap.size, 1, none⟩ = some (.slice a n cap) ∧ W.cell? ⟨w.heap.size, 2, none⟩ = some (.slice (some ⟨b, off, none⟩) m cm) ∧ W.cell? ⟨w.heap.size, 3, none⟩ = some (.int .i64 op) ∧ W.cell? ⟨w.heap.size, 4, none⟩ = some (.int .i64 st)) := fun W hb => ⟨(hb.cell (p := ⟨_, _, none⟩) (by show w.heap.size < _; omega)).trans c0, (hb.cell (p := ⟨_, _, none⟩) (by show w.heap.size < _; omega)).trans c1, (hb.cell (p := ⟨_, _, none⟩) (by show w.heap.size < _; omega)).trans c2, (hb.cell (p := ⟨_, _, none⟩) (by show w.heap.size < _; omega)).trans c3, (hb.cell (p := ⟨_, _, none⟩) (by show w.heap.size < _; omega)).trans c4⟩
 have HCC : ∀ W, Hid (Below wA.heap.size wA W -> Calls Tryz.prog 118 #[.agg #[.int .i64 z, .slice a n cap]] W fun e w' => ∃ g c A C, e = .returned (.agg #[.int .i64 z, .slice (some ⟨g, 0, none⟩) n c]) ∧ GrowSqs W.heap.size w' n qs g A C ∧ Below W.heap.size W w') := fun W hb => copyOfChip_any z a n cap qs W (HSQ.out.later hb (by omega)) (by have := hb.size; omega) hok
 have HCP : ∀ W, Hid (Below wA.heap.size wA W -> Calls Tryz.prog 187 #[.slice (some ⟨b, off, none⟩) m cm] W fun e w' => ∃ gm cm', e = .returned (.slice (some ⟨gm, 0, none⟩) m cm') ∧ PlOwn W.heap.size w' (.slice (some ⟨gm, 0, none⟩) ps.length cm') ps ∧ Below W.heap.size W w') := fun W hb => clonePl_any b off m cm ps W (HPL.out.later hb (by omega)) (by have := hb.size; omega) hm1 hm
 have HB0 : Hid (Below wA.heap.size wA wA.drew) := (Below.refl wA.heap.size wA).drew
 go_enter Tryz.func123, Tryz.ntmps123
 go_upto_region 1 with fail
 rw [<- hwA]
 clear hwA
 have HZA := hide hzA
 clear hzA
 go_region_held3 (fun W => W.cell? ⟨w.heap.size, 0, none⟩ = some (.int .i64 z) ∧ W.cell? ⟨w.heap.size, 1, none⟩ = some (.slice a n cap) ∧ W.cell? ⟨w.heap.size, 2, none⟩ = some (.slice (some ⟨b, off, none⟩) m cm) ∧ W.cell? ⟨w.heap.size, 3, none⟩ = some (.int .i64 op) ∧ W.cell? ⟨w.heap.size, 4, none⟩ = some (.int .i64 st))
  (first | exact (HSK _).out HB0.out | exact (HSK _).out HB5.out | exact (HSK _).out HB6.out | exact (HSK _).out HB7.out | fail)
  (first
   | (go_at_call 118; refine ((HCC _).out HB0.out).mono ?_; rintro e w5 ⟨g, c, A, C, rfl, hG5, b5⟩; have HB5 := hide (below_here HB0.out b5); have HG5 := hide hG5; have hs5 : wA.heap.size <= w5.heap.size := HB5.out.size; clear hG5 b5)
   | (go_at_call 187; refine ((HCP _).out HB5.out).mono ?_; rintro e w6 ⟨gm, cm', rfl, hP6, b6⟩; have HB6 := hide (below_here HB5.out b6); have HG6 := hide (HG5.out.later b6); have HP6 := hide hP6; have hs6 : w5.heap.size <= w6.heap.size := b6.size; have HB7 := hide (HB6.out.alloc HB6.out.size (.cells #[.int .i64 z, .slice (some ⟨g, 0, none⟩) n c, .slice (some ⟨gm, 0, none⟩) m cm', .int .i64 op, .int .i64 st, .slice none 0 0] 229)); clear hP6 b6)
   | fail)
 all_goals
  have hzA := HZA.out
  have hg1 := HG6.out.atG
  have hg2 : g < w5.heap.size := by have := HG5.out.row.1; omega
  have hgm1 : w5.heap.size <= gm := (World.ownsRow.lt HP6.out gm rfl).1
  have HBX := hide ((Below.refl w6.heap.size w6).alloc (Nat.le_refl _) (.cells #[.int .i64 z, .slice (some ⟨g, 0, none⟩) n c, .slice (some ⟨gm, 0, none⟩) m cm', .int .i64 op, .int .i64 st, .slice none 0 0] 229))
  have HBW := hide (below_here HBA.out HB7.out)
  have hle : ps.length = m := HLP.out
  have HKA : Hid (KeeperRaw w.heap.size (w6.alloc (.cells #[.int .i64 z, .slice (some ⟨g, 0, none⟩) n c, .slice (some ⟨gm, 0, none⟩) m cm', .int .i64 op, .int .i64 st, .slice none 0 0] 229)) w6.heap.size z st n g c gm cm' A C (.slice none 0 0) ⟨qs, ps, op, []⟩) :=
   ⟨⟨(HG6.out.mono (show w.heap.size <= wA.heap.size by omega)).later HBX.out, own_keepBy (HP6.out.mono (by omega)) (grown_below HBX.out none) (fun k e => by cases e), World.ownsRow_nil _ _ _ _, by omega, fun e => by cases e⟩, by dsimp only; rw [hle]; exact heap_new _ _, by omega, by omega⟩
  go_wp2_with fail
  go_ret
  exact ⟨_, g, c, gm, cm', A, C, rfl, HKA.out, HBW.out⟩
set_option maxHeartbeats 1600000 in
theorem ftl_raw (B pk : Nat) (z st : Int) (n g c gm cm : Nat) (A : Nat -> Option Addr) (C : Nat -> Nat) (V : Value) (s : Kp) (w : World) (h : KeeperRaw B w pk z st n g c gm cm A C V s) (hB : B <= w.heap.size) :
  Calls Tryz.prog 125 #[.pointer (some ⟨pk, 0, none⟩)] w fun e w' => e = .returned (.agg #[.int .i64 z, .slice (some ⟨g, 0, none⟩) n c, .slice (some ⟨gm, 0, none⟩) s.ps.length cm, .int .i64 s.op, .int .i64 st]) ∧ Below w.heap.size w w' := by
 obtain ⟨wA, hwA⟩ : ∃ wA, wA = w.alloc (.cells #[.int .i64 0, .slice none 0 0, .slice none 0 0, .int .i64 0, .int .i64 0] 38) := ⟨_, rfl⟩
 have hzA : wA.heap.size = w.heap.size + 1 := by rw [hwA]; simp
 have HBA : Hid (Below w.heap.size w wA) := by rw [hwA]; exact (Below.refl _ _).alloc (Nat.le_refl _) _
 have H0 : Hid (wA.heap[w.heap.size]? = some (.cells #[.int .i64 0, .slice none 0 0, .slice none 0 0, .int .i64 0, .int .i64 0] 38)) := by rw [hwA]; exact heap_new _ _
 obtain ⟨x0, x1, x2, x3, x4, x5⟩ := six_cells (h.later HBA.out).box
 clear h
 obtain ⟨p0, p1, p2, p3, p4⟩ := five_cells H0.out
 have f0 := four_frozen H0.out 0
 have f1 := four_frozen H0.out 1
 have f2 := four_frozen H0.out 2
 have f3 := four_frozen H0.out 3
 have f4 := four_frozen H0.out 4
 have HAS := hide (five_aside (b := w.heap.size) (Aside.refl w.heap.size (w.heap.size + 1) wA) (Nat.le_refl _) (Nat.lt_succ_self _) (.int .i64 z) (.slice (some ⟨g, 0, none⟩) n c) (.slice (some ⟨gm, 0, none⟩) s.ps.length cm) (.int .i64 s.op) (.int .i64 st))
 have HBF := hide (HBA.out.trans (HAS.out.below (B := w.heap.size) (Nat.le_refl _) (by omega)))
 have HRS := hide (five_set H0.out (.int .i64 z) (.slice (some ⟨g, 0, none⟩) n c) (.slice (some ⟨gm, 0, none⟩) s.ps.length cm) (.int .i64 s.op) (.int .i64 st))
 go_enter Tryz.func125, Tryz.ntmps125
 go_upto_region 1 with fail
 rw [<- hwA]
 clear hwA
 refine wp_region_quiet_tail 17 (by kernel_rfl) (by kernel_rfl) ?_
 simp only [List.take_succ_cons, List.take_zero, List.drop_succ_cons, List.drop_zero]
 repeat (go_big_quiet_step (fail))
 refine wpQuiet_nil ?_
 rintro _ ⟨nq, rfl⟩
 go_wp2_with fail
 refine bodyPost_ret (results_cell rfl rfl (run_loadVar_row _ _ _ _ _ _ _ (by exact HRS.out) Tryz.underlying38 rfl (by kernel_rfl))) rfl ⟨rfl, HBF.out.trans ⟨rfl, rfl, rfl, Nat.le_refl _, fun _ _ => rfl⟩⟩
set_option maxHeartbeats 1600000 in
theorem copyOfFtl_raw (z : Int) (a : Option Addr) (n cap : Nat) (qs : List Sq) (am : Option Addr) (m cm : Nat) (ps : List Pl) (op st : Int) (w : World) {lo hi lo' hi' : Nat} (h : Squares lo hi w a n qs) (hhi : hi <= w.heap.size) (hok : chipOk z qs = true) (hp : Places lo' hi' w am m ps) (hhi' : hi' <= w.heap.size) (hm1 : 1 <= m) (hm : m <= 64) :
  Calls Tryz.prog 93 #[.agg #[.int .i64 z, .slice a n cap, .slice am m cm, .int .i64 op, .int .i64 st]] w fun e w' => ∃ v, e = .returned v ∧ FtlAns w ⟨z, qs, ps, op, st⟩ v w' := by
 obtain ⟨wA, hwA⟩ : ∃ wA, wA = (w.alloc (.cells #[.int .i64 z, .slice a n cap, .slice am m cm, .int .i64 op, .int .i64 st] 38)).alloc (.cells #[.int .i64 0, .slice none 0 0, .slice none 0 0, .int .i64 0, .int .i64 0] 38) := ⟨_, rfl⟩
 have hzA : wA.heap.size = w.heap.size + 1 + 1 := by rw [hwA]; simp
 have HBA : Hid (Below w.heap.size w wA) := by rw [hwA]; exact ((Below.refl _ _).alloc (Nat.le_refl _) _).alloc (by simp) _
 have H0 : Hid (wA.heap[w.heap.size]? = some (.cells #[.int .i64 z, .slice a n cap, .slice am m cm, .int .i64 op, .int .i64 st] 38)) := by rw [hwA]; exact heap_old (heap_new _ _)
 have H1 : Hid (wA.heap[w.heap.size + 1]? = some (.cells #[.int .i64 0, .slice none 0 0, .slice none 0 0, .int .i64 0, .int .i64 0] 38)) := by rw [hwA]; exact heap_at (by simp)
 have HSQ := hide (h.later HBA.out hhi)
 have HPL := hide (hp.later HBA.out hhi')
 have HLP := hide hp.1
 have HLQ := hide h.1
 clear h hp
 obtain ⟨c0, c1, c2, c3, c4⟩ := five_cells H0.out
 go_enter Tryz.func93, Tryz.ntmps93
 go_wp2_with fail
 rw [<- hwA]
 clear hwA
 refine (keeperOf_raw z a n cap qs am m cm ps op st wA HSQ.out (by omega) hok HPL.out (by omega) hm1 hm).mono ?_
 rintro e w1 ⟨pk, g, c, gm, cm', A, C, rfl, hK1, b1⟩
 have HK1 := hide hK1
 have K1 := hide (block_on H1.out b1)
 have HB1 := hide (below_here HBA.out b1)
 have hs1 := b1.size
 clear hK1 b1 c0 c1 c2 c3 c4
 go_wp2_with fail
 refine (ftl_raw wA.heap.size pk z st n g c gm cm' A C _ ⟨qs, ps, op, []⟩ w1 HK1.out (by omega)).mono ?_
 rintro e w2 ⟨rfl, b2⟩
 have hle : ps.length = m := HLP.out
 dsimp only
 rw [hle]
 have K2 := hide (block_on K1.out b2)
 have HB2 := hide (below_here HB1.out b2)
 have hs2 := b2.size
 have HO2 := hide (own_of_kp (HK1.out.mem.later b2))
 clear b2
 obtain ⟨p0, p1, p2, p3, p4⟩ := five_cells K2.out
 have f0 := four_frozen K2.out 0
 have f1 := four_frozen K2.out 1
 have f2 := four_frozen K2.out 2
 have f3 := four_frozen K2.out 3
 have f4 := four_frozen K2.out 4
 have HRS := hide (five_set K2.out (.int .i64 z) (.slice (some ⟨g, 0, none⟩) n c) (.slice (some ⟨gm, 0, none⟩) m cm') (.int .i64 op) (.int .i64 st))
 have HAS := hide (five_aside (b := w.heap.size + 1) (Aside.refl (w.heap.size + 1) (w.heap.size + 1 + 1) w2) (Nat.le_refl _) (Nat.lt_succ_self _) (.int .i64 z) (.slice (some ⟨g, 0, none⟩) n c) (.slice (some ⟨gm, 0, none⟩) m cm') (.int .i64 op) (.int .i64 st))
 have HBF := hide (HB2.out.trans (HAS.out.below (B := w.heap.size) (by omega) (by omega)))
 go_wp2_with fail
 refine bodyPost_ret (results_cell rfl rfl (run_loadVar_row _ _ _ _ _ _ _ HRS.out Tryz.underlying38 rfl (by kernel_rfl))) rfl ⟨_, rfl, some ⟨g, 0, none⟩, c, some ⟨gm, 0, none⟩, cm', by unfold fvV; dsimp only; rw [HLQ.out, HLP.out], ?_, HBF.out, pl_cap HK1.out.mem.pl⟩
 exact (HO2.out.aside HAS.out (.inl (by omega))).wide (by omega) HAS.out.size (Nat.le_refl _)
end Go.Proofs.YtokdehlppolnhaaGreatDoor
end

section
namespace Go.Proofs.YtokdehlppolnhaaGreatDoor
open Go.RowKit
set_option linter.unusedVariables false
set_option maxRecDepth 20000
theorem cache_of_ftl {lo hi : Nat} {w : World} {a am : Option Addr} {qs : List Sq} {ps : List Pl} (h : FtlOwn lo hi w a am qs ps) : CacheOwn lo hi w none a am [] qs ps :=
 ⟨h.1, lo, 0, lo, hi, Nat.le_refl _, Nat.zero_le _, Nat.le_refl _, Nat.le_refl _, .inl (Nat.zero_le _), ⟨rfl, Nat.zero_le _, fun h => absurd h (by simp)⟩, h⟩
theorem cache_zero (w : World) (lo : Nat) : CacheOwn lo w.heap.size w none none none [] [] [] := cache_of_ftl ⟨Nat.le_refl _, .inl ⟨rfl, rfl⟩⟩
theorem cache_stored {lo hi b : Nat} {w w5 W : World} {ai a am : Option Addr} {ys : List Hd} {qs : List Sq} {ps : List Pl} (h : CacheOwn lo hi w5 ai a am ys qs ps) (hA : Aside b (b + 1) w5 W) (hb : b + 1 <= lo) (hw : w.heap.size <= lo) : CacheOwn w.heap.size W.heap.size W ai a am ys qs ps :=
 (h.aside hA (.inl hb)).wide hw (Nat.le_trans h.1 hA.size) (Nat.le_refl _)
end Go.Proofs.YtokdehlppolnhaaGreatDoor
end

section
namespace Go.Proofs.YtokdehlppolnhaaGreatDoor
open Go.RowKit
set_option linter.unusedVariables false
set_option maxRecDepth 20000
theorem crd_of {B n g gm cm ni cj : Nat} {w : World} {aj : Option Addr} {A : Nat -> Option Addr} {C : Nat -> Nat} {ys : List Hd} {qs : List Sq} {ps : List Pl} (h1 : HdOwn B w (.slice aj ni cj) ys) (h2 : GrowSqs B w n qs g A C) (h3 : PlOwn B w (.slice (some ⟨gm, 0, none⟩) ps.length cm) ps) : CRd B w.heap.size w aj (some ⟨g, 0, none⟩) (some ⟨gm, 0, none⟩) ys qs ps :=
 ⟨(hd_own h1).helds, by have h9 := h2.ownS.squares; rw [h2.len]; exact h9, pl_places h3, Nat.le_refl _⟩
set_option maxHeartbeats 6400000 in
theorem specKeep_any (rm : Int) (ai : Option Addr) (ni ci : Nat) (ys : List Hd) (z : Int) (a : Option Addr) (n cap : Nat) (qs : List Sq) (am : Option Addr) (m cm : Nat) (ps : List Pl) (op st : Int) (at_ : Int) (tx : ByteArray) (w : World) {l1 r1 lo hi lo' hi' : Nat} (hy : Helds l1 r1 w ai ni ys) (hr1 : r1 <= w.heap.size) (hni : ni <= 1048576) (hfy : ∀ x ∈ ys, hdFits x) (h : Squares lo hi w a n qs) (hhi : hi <= w.heap.size) (hn : n <= 1048576) (hf : ∀ x ∈ qs, sqFits x) (hp : Places lo' hi' w am m ps) (hhi' : hi' <= w.heap.size) (hm : m <= 1048576) (hx : tx.size <= 1048576) :
  Calls Tryz.prog 12 #[.agg #[.int .i64 rm, .slice ai ni ci, .int .i64 z, .slice a n cap, .slice am m cm, .int .i64 op, .int .i64 st], .int .i64 at_, .string tx] w fun e w' => ∃ v, e = .returned (.tuple #[v, .bool (keepB ⟨rm, ys, ⟨z, qs, ps, op, st⟩⟩ at_ tx)]) ∧ CacheRd w (keepF ⟨rm, ys, ⟨z, qs, ps, op, st⟩⟩ at_ tx) v w' := by
 obtain ⟨cv, hcv⟩ : ∃ cv, cv = keepF ⟨rm, ys, ⟨z, qs, ps, op, st⟩⟩ at_ tx := ⟨_, rfl⟩
 obtain ⟨bv, hbv⟩ : ∃ bv, bv = keepB ⟨rm, ys, ⟨z, qs, ps, op, st⟩⟩ at_ tx := ⟨_, rfl⟩
 have HCV := hide hcv
 have HBV := hide hbv
 rw [<- hcv, <- hbv]
 clear hcv hbv
 obtain ⟨wA, hwA⟩ : ∃ wA, wA = (w.alloc (.cells #[.int .i64 rm, .slice ai ni ci, .int .i64 z, .slice a n cap, .slice am m cm, .int .i64 op, .int .i64 st] 40)).alloc (.cells #[.int .i64 0, .slice none 0 0, .int .i64 0, .slice none 0 0, .slice none 0 0, .int .i64 0, .int .i64 0] 40) := ⟨_, rfl⟩
 have hzA : wA.heap.size = w.heap.size + 1 + 1 := by rw [hwA]; simp
 have HBA : Hid (Below w.heap.size w wA) := by rw [hwA]; exact ((Below.refl _ _).alloc (Nat.le_refl _) _).alloc (by simp) _
 have H0 : Hid (wA.heap[w.heap.size]? = some (.cells #[.int .i64 rm, .slice ai ni ci, .int .i64 z, .slice a n cap, .slice am m cm, .int .i64 op, .int .i64 st] 40)) := by rw [hwA]; exact heap_old (heap_new _ _)
 have H1 : Hid (wA.heap[w.heap.size + 1]? = some (.cells #[.int .i64 0, .slice none 0 0, .int .i64 0, .slice none 0 0, .slice none 0 0, .int .i64 0, .int .i64 0] 40)) := by rw [hwA]; exact heap_at (by simp)
 have HYA := hide (hy.later HBA.out hr1)
 have HSA := hide (h.later HBA.out hhi)
 have HPA := hide (hp.later HBA.out hhi')
 have HF := hide hf
 have HFY := hide hfy
 have HLY := hide hy.1
 have HLQ := hide h.1
 have HLP := hide hp.1
 clear h hp hf hy hfy
 obtain ⟨c0, c1, c2, c3, c4, c5, c6⟩ := seven_cells H0.out
 go_enter Tryz.func12, Tryz.ntmps12
 go_wp2_with fail
 rw [<- hwA]
 clear hwA
 refine (specCacheOk_any rm ai ni ci ys z a n cap qs am m cm ps op st wA HYA.out (by omega) hni HFY.out HSA.out (by omega) hn HF.out HPA.out (by omega) hm).mono ?_
 rintro e w2 ⟨rfl, b2⟩
 have K0 := hide (block_on H0.out b2)
 have K1 := hide (block_on H1.out b2)
 have HB2 := hide (below_here HBA.out b2)
 have HY2 := hide (HYA.out.later b2 (by omega))
 have HS2 := hide (HSA.out.later b2 (by omega))
 have HP2 := hide (HPA.out.later b2 (by omega))
 have hs2 := b2.size
 clear b2 c0 c1 c2 c3 c4 c5 c6
 obtain ⟨c0, c1, c2, c3, c4, c5, c6⟩ := seven_cells K0.out
 cases hco : cacheOk ⟨rm, ys, ⟨z, qs, ps, op, st⟩⟩ with
 | false =>
  have HCE : Hid (cv = zeroC) := by show _ = _; rw [HCV.out]; unfold keepF; rw [hco]; rfl
  have HBE : Hid (bv = false) := by show _ = _; rw [HBV.out]; unfold keepB; rw [hco]; rfl
  obtain ⟨d0, d1, d2, d3, d4, d5, d6⟩ := seven_cells K1.out
  have f0 := four_frozen K1.out 0
  have f1 := four_frozen K1.out 1
  have f2 := four_frozen K1.out 2
  have f3 := four_frozen K1.out 3
  have f4 := four_frozen K1.out 4
  have f5 := four_frozen K1.out 5
  have f6 := four_frozen K1.out 6
  have HRS := hide (seven_set K1.out (.int .i64 0) (.slice none 0 0) (.int .i64 0) (.slice none 0 0) (.slice none 0 0) (.int .i64 0) (.int .i64 0))
  have HAS := hide (seven_aside (b := w.heap.size + 1) (Aside.refl (w.heap.size + 1) (w.heap.size + 1 + 1) w2) (Nat.le_refl _) (Nat.lt_succ_self _) (.int .i64 0) (.slice none 0 0) (.int .i64 0) (.slice none 0 0) (.slice none 0 0) (.int .i64 0) (.int .i64 0))
  have HBF := hide (HB2.out.trans (HAS.out.below (B := w.heap.size) (by omega) (HB2.out.size)))
  go_wp2_with fail
  refine bodyPost_ret (results_ct rfl rfl (run_loadVar_row _ _ _ _ _ _ _ HRS.out Tryz.underlying40 rfl (by kernel_rfl))) rfl ⟨_, by rw [HBE.out]; rfl, ?_⟩
  rw [HCE.out]
  exact CacheAns.toRd ⟨none, 0, none, 0, none, 0, rfl, cache_zero _ _, HBF.out, Nat.le_refl _⟩
 | true =>
  have hC := cacheOk_iff.1 hco
  have hfo : ftlOk z qs ps op st = true := hC.ftl
  obtain ⟨hmo, _, _, _, _, _, _⟩ := ftlOk_parts hfo
  have hm64 : m <= 64 := by have := (mapOk_len hmo).2; rw [HLP.out] at this; exact this
  have hm1 : 1 <= m := by have := (mapOk_len hmo).1; rw [HLP.out] at this; exact this
  have h16 : ni <= 16 := by have := hC.len; have := hC.r1; have := HLY.out; dsimp only at *; omega
  have HCK := hide (mapOk_chip hmo)
  have HC := hide hC
  have HCO : Hid (cv = (keepO ⟨rm, ys, ⟨z, qs, ps, op, st⟩⟩ at_ tx).getD ⟨rm, ys, ⟨z, qs, ps, op, st⟩⟩) := by show _ = _; rw [HCV.out]; unfold keepF; rw [hco]; rfl
  have HBO : Hid (bv = (keepO ⟨rm, ys, ⟨z, qs, ps, op, st⟩⟩ at_ tx).isSome) := by show _ = _; rw [HBV.out]; unfold keepB; rw [hco]; rfl
  have HMH : Hid (mayH ⟨rm, ys, ⟨z, qs, ps, op, st⟩⟩ at_ tx = (inB at_ 0 ((m : Int) - 1) && decide (tx.size <= 24))) := by show _ = _; unfold mayH; dsimp only; rw [HLP.out]
  have HCC : ∀ W, Hid (Below w2.heap.size w2 W -> Calls Tryz.prog 63 #[.agg #[.int .i64 rm, .slice ai ni ci, .int .i64 z, .slice a n cap, .slice am m cm, .int .i64 op, .int .i64 st]] W fun e w' => ∃ aj cj g c' gm cm' A C, e = .returned (.agg #[.int .i64 rm, .slice aj ni cj, .int .i64 z, .slice (some ⟨g, 0, none⟩) n c', .slice (some ⟨gm, 0, none⟩) m cm', .int .i64 op, .int .i64 st]) ∧ HdOwn W.heap.size w' (.slice aj ni cj) ys ∧ GrowSqs W.heap.size w' n qs g A C ∧ PlOwn W.heap.size w' (.slice (some ⟨gm, 0, none⟩) ps.length cm') ps ∧ gm ≠ g ∧ (Value.slice aj ni cj).ownBlock ≠ some g ∧ Below W.heap.size W w') := fun W hb =>
   l12Copy_any rm ai ni ci ys z a n cap qs am m cm ps op st W (HY2.out.later hb (by omega)) (by have := hb.size; omega) (by omega) (HS2.out.later hb (by omega)) (by have := hb.size; omega) HCK.out (HP2.out.later hb (by omega)) (by have := hb.size; omega) hm1 hm64
  -- the refusal: a copy of what came in
  have HNO : ∀ (W : World), Hid (cv = ⟨rm, ys, ⟨z, qs, ps, op, st⟩⟩ -> bv = false -> True) := fun _ _ _ => trivial
  clear hmo hco hC hfo HNO
  go_wp2_with fail
  refine ((HCC _).out (Below.refl _ _)).mono ?_
  rintro e w3 ⟨aj, cj, g, c', gm, cm', A, C, rfl, ho3, hG3, hP3, hne3, hng3, b3⟩
  obtain ⟨wO, hwO⟩ : ∃ wO, wO = w3.alloc (.cells #[.int .i64 rm, .slice aj ni cj, .int .i64 z, .slice (some ⟨g, 0, none⟩) n c', .slice (some ⟨gm, 0, none⟩) m cm', .int .i64 op, .int .i64 st] 40) := ⟨_, rfl⟩
  have hzO : wO.heap.size = w3.heap.size + 1 := by rw [hwO]; simp
  have HBO3 : Hid (Below w3.heap.size w3 wO) := by rw [hwO]; exact (Below.refl _ _).alloc (Nat.le_refl _) _
  have HO3 : Hid (wO.heap[w3.heap.size]? = some (.cells #[.int .i64 rm, .slice aj ni cj, .int .i64 z, .slice (some ⟨g, 0, none⟩) n c', .slice (some ⟨gm, 0, none⟩) m cm', .int .i64 op, .int .i64 st] 40)) := by rw [hwO]; exact heap_new _ _
  have hs3 := b3.size
  have hg3 : g < w3.heap.size := by have := hG3.row.1; omega
  have HCA : Hid (CacheAt w2.heap.size wO w3.heap.size ⟨rm, ys, ⟨z, qs, ps, op, st⟩⟩ aj cj n g c' gm cm' A C) := by
   have h9 : HdOwn w2.heap.size wO (.slice aj ni cj) ys := HdOwn_on2 ho3 HBO3.out
   refine ⟨⟨hG3.later HBO3.out, own_keepBy hP3 (grown_below HBO3.out none) (fun k e => by cases e), ?_, hne3, by omega, by omega⟩, ?_, ?_⟩
   ·dsimp only; rw [HLY.out, HLP.out]; exact HO3.out
   ·dsimp only; rw [HLY.out]; exact h9
   ·dsimp only; rw [HLY.out]; exact hng3
  have HB3 := hide (below_here b3 HBO3.out)
  have L0 := hide (block_on K0.out HB3.out)
  have L1 := hide (block_on K1.out HB3.out)
  have HBW := hide (below_here HB2.out HB3.out)
  clear ho3 hG3 hP3 hne3 hng3 b3 c0 c1 c2 c3 c4 c5 c6 HO3
  have HZO := hide hzO
  clear hzO
  -- where it is refused
  have HREF : ∀ (W : World) (tmps : Unit), Hid True := fun _ _ => trivial
  clear HREF
  obtain ⟨c0, c1, c2, c3, c4, c5, c6⟩ := seven_cells L0.out
  go_upto_region 4 with fail
  rw [<- hwO]
  clear hwO
  go_wp2_with fail
  refine (l1In_any at_ 0 ((m : Int) - 1) wO).mono ?_
  rintro e w4 ⟨rfl, rfl⟩
  cases hin : inB at_ 0 ((m : Int) - 1) with
  | false =>
   have HKN : Hid (keepO ⟨rm, ys, ⟨z, qs, ps, op, st⟩⟩ at_ tx = none) := by show _ = _; unfold keepO; rw [HMH.out, hin]; rfl
   have HCE : Hid (cv = ⟨rm, ys, ⟨z, qs, ps, op, st⟩⟩) := by show _ = _; rw [HCO.out, HKN.out]; rfl
   have HBE : Hid (bv = false) := by show _ = _; rw [HBO.out, HKN.out]; rfl
   go_wp2_with fail
   refine ((HCC _).out HB3.out).mono ?_
   rintro e w7 ⟨a7, c7, g7, d7, m7, e7, A7, C7, rfl, ho7, hG7, hP7, hne7, hng7, b7⟩
   have N1 := hide (block_on L1.out b7)
   have HB7 := hide (below_here HBW.out b7)
   have hs7 := b7.size
   have HR7 := hide (crd_of ho7 hG7 hP7)
   have hsW := (HBW.out).size
   clear ho7 hG7 hP7 hne7 hng7 b7 c0 c1 c2 c3 c4 c5 c6
   obtain ⟨d0, d1, d2, d3, d4, d5, d6⟩ := seven_cells N1.out
   have f0 := four_frozen N1.out 0
   have f1 := four_frozen N1.out 1
   have f2 := four_frozen N1.out 2
   have f3 := four_frozen N1.out 3
   have f4 := four_frozen N1.out 4
   have f5 := four_frozen N1.out 5
   have f6 := four_frozen N1.out 6
   have HRS := hide (seven_set N1.out (.int .i64 rm) (.slice a7 ni c7) (.int .i64 z) (.slice (some ⟨g7, 0, none⟩) n d7) (.slice (some ⟨m7, 0, none⟩) m e7) (.int .i64 op) (.int .i64 st))
   have HAS := hide (seven_aside (b := w.heap.size + 1) (Aside.refl (w.heap.size + 1) (w.heap.size + 1 + 1) w7) (Nat.le_refl _) (Nat.lt_succ_self _) (.int .i64 rm) (.slice a7 ni c7) (.int .i64 z) (.slice (some ⟨g7, 0, none⟩) n d7) (.slice (some ⟨m7, 0, none⟩) m e7) (.int .i64 op) (.int .i64 st))
   have HBF := hide (HB7.out.trans (HAS.out.below (B := w.heap.size) (by omega) (HB7.out.size)))
   go_wp2_with fail
   refine bodyPost_ret (results_ct rfl rfl (run_loadVar_row _ _ _ _ _ _ _ HRS.out Tryz.underlying40 rfl (by kernel_rfl))) rfl ⟨_, by rw [HBE.out]; rfl, ?_⟩
   rw [HCE.out]
   refine ⟨a7, c7, some ⟨g7, 0, none⟩, d7, some ⟨m7, 0, none⟩, e7, ?_, (HR7.out.aside HAS.out (.inl (by have := HZO.out; omega))).wide (by have := HZO.out; omega) HAS.out.size (Nat.le_refl _), HBF.out⟩
   unfold cvV
   dsimp only
   rw [HLY.out, HLQ.out, HLP.out]
  | true =>
   by_cases h24 : tx.size <= 24
   ·have g24 : decide ((tx.size : Int) > 24) = false := by simp; omega
    have HKS : Hid (keepO ⟨rm, ys, ⟨z, qs, ps, op, st⟩⟩ at_ tx = usedF ⟨rm, ys, ⟨z, qs, ps, op, st⟩⟩ (at_, tx, true)) := by show _ = _; unfold keepO; rw [HMH.out, hin, decide_eq_true h24]; rfl
    rw [HKS.out] at HCO HBO
    have HFT := hide (l12Front_any w2.heap.size w3.heap.size ⟨rm, ys, ⟨z, qs, ps, op, st⟩⟩ HC.out aj cj n g c' gm cm' A C at_ tx true wO HCA.out (by have := HZO.out; omega))
    go_wp2_with fail
    refine HFT.out.mono ?_
    rintro e w6 ⟨rfl, bw6, hk6⟩
    have HK6 := hide hk6
    have HB6 := hide bw6
    have hs6 := bw6.size
    have M0 : Hid (w6.heap[w.heap.size]? = some (.cells #[.int .i64 rm, .slice ai ni ci, .int .i64 z, .slice a n cap, .slice am m cm, .int .i64 op, .int .i64 st] 40)) := (bw6.block _ (by omega)).trans L0.out
    have M1 : Hid (w6.heap[w.heap.size + 1]? = some (.cells #[.int .i64 0, .slice none 0 0, .int .i64 0, .slice none 0 0, .slice none 0 0, .int .i64 0, .int .i64 0] 40)) := (bw6.block _ (by omega)).trans L1.out
    have HBW6 := hide (HBW.out.trans (bw6.mono (show w.heap.size <= w2.heap.size by omega)))
    have HB26 := hide (HB3.out.trans bw6)
    clear bw6 hk6 HFT HKS c0 c1 c2 c3 c4 c5 c6
    cases hu : usedF ⟨rm, ys, ⟨z, qs, ps, op, st⟩⟩ (at_, tx, true) with
    | none =>
     have HKN : Hid (usedF ⟨rm, ys, ⟨z, qs, ps, op, st⟩⟩ (at_, tx, true) = none) := hu
     rw [Option.isSome_none]
     clear hu
     obtain ⟨c0, c1, c2, c3, c4, c5, c6⟩ := seven_cells M0.out
     have HCE : Hid (cv = ⟨rm, ys, ⟨z, qs, ps, op, st⟩⟩) := by show _ = _; rw [HCO.out, HKN.out]; rfl
     have HBE : Hid (bv = false) := by show _ = _; rw [HBO.out, HKN.out]; rfl
     go_wp2_with fail
     refine ((HCC _).out HB26.out).mono ?_
     rintro e w7 ⟨a7, c7, g7, d7, m7, e7, A7, C7, rfl, ho7, hG7, hP7, hne7, hng7, b7⟩
     have N1 := hide (block_on M1.out b7)
     have HB7 := hide (below_here HBW6.out b7)
     have hs7 := b7.size
     have HR7 := hide (crd_of ho7 hG7 hP7)
     have hsW := (HBW6.out).size
     clear ho7 hG7 hP7 hne7 hng7 b7 c0 c1 c2 c3 c4 c5 c6
     obtain ⟨d0, d1, d2, d3, d4, d5, d6⟩ := seven_cells N1.out
     have f0 := four_frozen N1.out 0
     have f1 := four_frozen N1.out 1
     have f2 := four_frozen N1.out 2
     have f3 := four_frozen N1.out 3
     have f4 := four_frozen N1.out 4
     have f5 := four_frozen N1.out 5
     have f6 := four_frozen N1.out 6
     have HRS := hide (seven_set N1.out (.int .i64 rm) (.slice a7 ni c7) (.int .i64 z) (.slice (some ⟨g7, 0, none⟩) n d7) (.slice (some ⟨m7, 0, none⟩) m e7) (.int .i64 op) (.int .i64 st))
     have HAS := hide (seven_aside (b := w.heap.size + 1) (Aside.refl (w.heap.size + 1) (w.heap.size + 1 + 1) w7) (Nat.le_refl _) (Nat.lt_succ_self _) (.int .i64 rm) (.slice a7 ni c7) (.int .i64 z) (.slice (some ⟨g7, 0, none⟩) n d7) (.slice (some ⟨m7, 0, none⟩) m e7) (.int .i64 op) (.int .i64 st))
     have HBF := hide (HB7.out.trans (HAS.out.below (B := w.heap.size) (by omega) (HB7.out.size)))
     go_wp2_with fail
     refine bodyPost_ret (results_ct rfl rfl (run_loadVar_row _ _ _ _ _ _ _ HRS.out Tryz.underlying40 rfl (by kernel_rfl))) rfl ⟨_, by rw [HBE.out]; rfl, ?_⟩
     rw [HCE.out]
     refine ⟨a7, c7, some ⟨g7, 0, none⟩, d7, some ⟨m7, 0, none⟩, e7, ?_, (HR7.out.aside HAS.out (.inl (by have := HZO.out; omega))).wide (by have := HZO.out; omega) HAS.out.size (Nat.le_refl _), HBF.out⟩
     unfold cvV
     dsimp only
     rw [HLY.out, HLQ.out, HLP.out]
    | some cu =>
     rw [hu] at HCO HBO
     have hBE : bv = true := HBO.out
     have hCE : cv = cu := HCO.out
     have HBE := hide hBE
     have HCE := hide hCE
     obtain ⟨ak, ck, A6, C6, hCA6⟩ := HK6.out cu hu
     have HM6 := hide hCA6.mem
     have HI6 := hide hCA6.items
     rw [Option.isSome_some]
     clear hu hBE hCE hCA6 HK6 HCO HBO HCV HBV
     obtain ⟨RM, YS, ⟨Z, Q, PS, OP, ST⟩⟩ := cu
     dsimp only at HM6 HI6
     have hql := HM6.out.sq.len
     have HQL := hide hql
     obtain ⟨y0, y1, y2, y3, y4, y5, y6⟩ := seven_cells HM6.out.box
     clear hql
     obtain ⟨d0, d1, d2, d3, d4, d5, d6⟩ := seven_cells M1.out
     have f0 := four_frozen M1.out 0
     have f1 := four_frozen M1.out 1
     have f2 := four_frozen M1.out 2
     have f3 := four_frozen M1.out 3
     have f4 := four_frozen M1.out 4
     have f5 := four_frozen M1.out 5
     have f6 := four_frozen M1.out 6
     have HRS := hide (seven_set M1.out (.int .i64 RM) (.slice ak YS.length ck) (.int .i64 Z) (.slice (some ⟨g, 0, none⟩) n c') (.slice (some ⟨gm, 0, none⟩) PS.length cm') (.int .i64 OP) (.int .i64 ST))
     have HAS := hide (seven_aside (b := w.heap.size + 1) (Aside.refl (w.heap.size + 1) (w.heap.size + 1 + 1) w6) (Nat.le_refl _) (Nat.lt_succ_self _) (.int .i64 RM) (.slice ak YS.length ck) (.int .i64 Z) (.slice (some ⟨g, 0, none⟩) n c') (.slice (some ⟨gm, 0, none⟩) PS.length cm') (.int .i64 OP) (.int .i64 ST))
     have HBF := hide (HBW6.out.trans (HAS.out.below (B := w.heap.size) (by omega) (HBW6.out.size)))
     go_wp2_with fail
     refine bodyPost_ret (results_ct rfl rfl (run_loadVar_row _ _ _ _ _ _ _ HRS.out Tryz.underlying40 rfl (by kernel_rfl))) rfl ⟨_, by rw [HBE.out]; rfl, ?_⟩
     rw [HCE.out]
     refine ⟨ak, ck, some ⟨g, 0, none⟩, c', some ⟨gm, 0, none⟩, cm', ?_, ((crd_of HI6.out HM6.out.sq HM6.out.pl).aside HAS.out (.inl (by omega))).wide (by omega) HAS.out.size (Nat.le_refl _), HBF.out⟩
     unfold cvV
     dsimp only
     rw [HQL.out]
   ·have g24 : decide ((tx.size : Int) > 24) = true := by simp; omega
    have HKN : Hid (keepO ⟨rm, ys, ⟨z, qs, ps, op, st⟩⟩ at_ tx = none) := by show _ = _; unfold keepO; rw [HMH.out, hin, decide_eq_false h24]; rfl
    have HCE : Hid (cv = ⟨rm, ys, ⟨z, qs, ps, op, st⟩⟩) := by show _ = _; rw [HCO.out, HKN.out]; rfl
    have HBE : Hid (bv = false) := by show _ = _; rw [HBO.out, HKN.out]; rfl
    go_wp2_with fail
    refine ((HCC _).out HB3.out).mono ?_
    rintro e w7 ⟨a7, c7, g7, d7, m7, e7, A7, C7, rfl, ho7, hG7, hP7, hne7, hng7, b7⟩
    have N1 := hide (block_on L1.out b7)
    have HB7 := hide (below_here HBW.out b7)
    have hs7 := b7.size
    have HR7 := hide (crd_of ho7 hG7 hP7)
    have hsW := (HBW.out).size
    clear ho7 hG7 hP7 hne7 hng7 b7 c0 c1 c2 c3 c4 c5 c6
    obtain ⟨d0, d1, d2, d3, d4, d5, d6⟩ := seven_cells N1.out
    have f0 := four_frozen N1.out 0
    have f1 := four_frozen N1.out 1
    have f2 := four_frozen N1.out 2
    have f3 := four_frozen N1.out 3
    have f4 := four_frozen N1.out 4
    have f5 := four_frozen N1.out 5
    have f6 := four_frozen N1.out 6
    have HRS := hide (seven_set N1.out (.int .i64 rm) (.slice a7 ni c7) (.int .i64 z) (.slice (some ⟨g7, 0, none⟩) n d7) (.slice (some ⟨m7, 0, none⟩) m e7) (.int .i64 op) (.int .i64 st))
    have HAS := hide (seven_aside (b := w.heap.size + 1) (Aside.refl (w.heap.size + 1) (w.heap.size + 1 + 1) w7) (Nat.le_refl _) (Nat.lt_succ_self _) (.int .i64 rm) (.slice a7 ni c7) (.int .i64 z) (.slice (some ⟨g7, 0, none⟩) n d7) (.slice (some ⟨m7, 0, none⟩) m e7) (.int .i64 op) (.int .i64 st))
    have HBF := hide (HB7.out.trans (HAS.out.below (B := w.heap.size) (by omega) (HB7.out.size)))
    go_wp2_with fail
    refine bodyPost_ret (results_ct rfl rfl (run_loadVar_row _ _ _ _ _ _ _ HRS.out Tryz.underlying40 rfl (by kernel_rfl))) rfl ⟨_, by rw [HBE.out]; rfl, ?_⟩
    rw [HCE.out]
    refine ⟨a7, c7, some ⟨g7, 0, none⟩, d7, some ⟨m7, 0, none⟩, e7, ?_, (HR7.out.aside HAS.out (.inl (by have := HZO.out; omega))).wide (by have := HZO.out; omega) HAS.out.size (Nat.le_refl _), HBF.out⟩
    unfold cvV
    dsimp only
    rw [HLY.out, HLQ.out, HLP.out]
end Go.Proofs.YtokdehlppolnhaaGreatDoor
end

section
namespace Go.Proofs.YtokdehlppolnhaaGreatDoor
open Go.RowKit
set_option linter.unusedVariables false
set_option maxRecDepth 20000
theorem hdL_snoc (ys : List Hd) (x : Hd) : hdL ys ++ [.int .i64 x.1, .string x.2.1, .bool x.2.2] = hdL (ys ++ [x]) := by rw [hdL_append]; rfl
theorem hd_take_snoc {ys : List Hd} {k : Nat} (h : k < ys.length) : ys.take k ++ [hdAt ys k] = ys.take (k + 1) := by
 rw [List.take_succ_eq_append_getElem h, hdAt_get h]
theorem hd_new (w : World) (x y z : Value) (t : TypeId) : ∀ j u, [x, y, z][j]? = some u -> (w.alloc (.cells #[x, y, z] t)).cell? ((⟨w.heap.size, 0, none⟩ : Addr).add j) = some u := cell_three_new w x y z t
def CacheAns2 (w : World) (c : Cv) (v : Value) (w' : World) : Prop := ∃ ai ci a cp am cm, v = cvV c ai ci a cp am cm ∧ CacheOwn w.heap.size w'.heap.size w' ai a am c.ys c.f.qs c.f.ps ∧ Below w.heap.size w w' ∧ c.f.ps.length <= cm ∧ c.ys.length <= ci
theorem CacheAns2.one {w w' : World} {c : Cv} {v : Value} (h : CacheAns2 w c v w') : CacheAns w c v w' := by
 obtain ⟨ai, ci, a, cp, am, cm, h1, h2, h3, h4, _⟩ := h
 exact ⟨ai, ci, a, cp, am, cm, h1, h2, h3, h4⟩
set_option maxHeartbeats 6400000 in
theorem copyOfCache_any (rm : Int) (ai : Option Addr) (ni ci : Nat) (ys : List Hd) (z : Int) (a : Option Addr) (n cap : Nat) (qs : List Sq) (am : Option Addr) (m cm : Nat) (ps : List Pl) (op st : Int) (w : World) {l1 r1 lo hi lo' hi' : Nat} (hy : Helds l1 r1 w ai ni ys) (hr1 : r1 <= w.heap.size) (hni : ni <= 1000) (hfy : ∀ i, i < ni -> (hdAt ys i).2.1.size <= 1048576) (h : Squares lo hi w a n qs) (hhi : hi <= w.heap.size) (hok : chipOk z qs = true) (hp : Places lo' hi' w am m ps) (hhi' : hi' <= w.heap.size) (hm1 : 1 <= m) (hm : m <= 64) :
  Calls Tryz.prog 69 #[.agg #[.int .i64 rm, .slice ai ni ci, .int .i64 z, .slice a n cap, .slice am m cm, .int .i64 op, .int .i64 st]] w fun e w' => ∃ v, e = .returned v ∧ CacheAns2 w ⟨rm, ys, ⟨z, qs, ps, op, st⟩⟩ v w' := by
 obtain ⟨wA, hwA⟩ : ∃ wA, wA = (w.alloc (.cells #[.int .i64 rm, .slice ai ni ci, .int .i64 z, .slice a n cap, .slice am m cm, .int .i64 op, .int .i64 st] 40)).alloc (.cells #[.int .i64 0, .slice none 0 0, .int .i64 0, .slice none 0 0, .slice none 0 0, .int .i64 0, .int .i64 0] 40) := ⟨_, rfl⟩
 have hzA : wA.heap.size = w.heap.size + 1 + 1 := by rw [hwA]; simp
 have HBA : Hid (Below w.heap.size w wA) := by rw [hwA]; exact ((Below.refl _ _).alloc (Nat.le_refl _) _).alloc (by simp) _
 have H0 : Hid (wA.heap[w.heap.size]? = some (.cells #[.int .i64 rm, .slice ai ni ci, .int .i64 z, .slice a n cap, .slice am m cm, .int .i64 op, .int .i64 st] 40)) := by rw [hwA]; exact heap_old (heap_new _ _)
 have H1 : Hid (wA.heap[w.heap.size + 1]? = some (.cells #[.int .i64 0, .slice none 0 0, .int .i64 0, .slice none 0 0, .slice none 0 0, .int .i64 0, .int .i64 0] 40)) := by rw [hwA]; exact heap_at (by simp)
 have HYA := hide (hy.later HBA.out hr1)
 have HSA := hide (h.later HBA.out hhi)
 have HPA := hide (hp.later HBA.out hhi')
 have HFY := hide hfy
 have hly := hy.1
 have hlq := h.1
 have hlp := hp.1
 obtain ⟨i0, hi0, hzz0, hzz1, hzz2⟩ := info_parts Tryz.infoHeld
 have HCF : ∀ W, Hid (Below wA.heap.size wA W -> Calls Tryz.prog 93 #[.agg #[.int .i64 z, .slice a n cap, .slice am m cm, .int .i64 op, .int .i64 st]] W fun e w' => ∃ v, e = .returned v ∧ FtlAns W ⟨z, qs, ps, op, st⟩ v w') := fun W hb =>
  copyOfFtl_raw z a n cap qs am m cm ps op st W (HSA.out.later hb (by omega)) (by have := hb.size; omega) hok (HPA.out.later hb (by omega)) (by have := hb.size; omega) hm1 hm
 clear h hp hy hfy
 obtain ⟨c0, c1, c2, c3, c4, c5, c6⟩ := seven_cells H0.out
 go_enter Tryz.func69, Tryz.ntmps69
 go_upto_region 1 with fail
 rw [<- hwA]
 clear hwA
 go_cut [3] (fun v wx => ∃ (P : Nat) (a' : Option Addr) (c' : Nat) (am' : Option Addr) (cm' : Nat), v = .pointer (some ⟨P, 0, none⟩) ∧ wx.heap[P]? = some (.cells #[.int .i64 rm, .slice none 0 0, .int .i64 z, .slice a' n c', .slice am' m cm', .int .i64 op, .int .i64 st] 40) ∧ (∃ lF hF, FtlOwn lF hF wx a' am' qs ps ∧ wA.heap.size <= lF ∧ hF <= wx.heap.size ∧ (P + 1 <= lF ∨ hF <= P)) ∧ Below wA.heap.size wA wx ∧ ps.length <= cm' ∧ wA.heap.size <= P)
 case first =>
  obtain ⟨wZ, hwZ⟩ : ∃ wZ, wZ = wA.alloc (.cells #[.int .i64 0, .slice none 0 0, .int .i64 0, .slice none 0 0, .slice none 0 0, .int .i64 0, .int .i64 0] 40) := ⟨_, rfl⟩
  have hzZ : wZ.heap.size = wA.heap.size + 1 := by rw [hwZ]; simp
  have HBZ : Hid (Below wA.heap.size wA wZ) := by rw [hwZ]; exact (Below.refl _ _).alloc (Nat.le_refl _) _
  have HZ : Hid (wZ.heap[wA.heap.size]? = some (.cells #[.int .i64 0, .slice none 0 0, .int .i64 0, .slice none 0 0, .slice none 0 0, .int .i64 0, .int .i64 0] 40)) := by rw [hwZ]; exact heap_new _ _
  have HZ0 := hide (block_on H0.out HBZ.out)
  have HBD : Hid (Below wA.heap.size wA wZ.drew) := HBZ.out.drew
  rw [hwZ] at HBD
  have cz := seven_cells HZ0.out
  rw [hwZ] at cz
  obtain ⟨e0, e1, e2, e3, e4, e5, e6⟩ := cz
  have HZA := hide hzA
  have HZZ := hide hzZ
  clear hzA hzZ
  go_region_with (first
   | (go_at_call 93; refine ((HCF _).out (by exact (Below.refl wA.heap.size wA).drew)).mono ?_; rintro e w5 ⟨v, rfl, a', c', am', cm', rfl, ho5, b5, hcap5⟩; unfold fvV; dsimp only; rw [hlq, hlp]; have HO5 := hide ho5; have HC5 := hide hcap5; have M0 := hide (block_on (w := wA.drew) H0.out b5); have HB5 : Hid (Below wA.heap.size wA w5) := below_here (Below.refl wA.heap.size wA).drew b5; have hs5 : wA.heap.size <= w5.heap.size := b5.size; have HWAY : Hid (True ∧ wA = wA) := ⟨trivial, rfl⟩; clear ho5 b5 hcap5; obtain ⟨y0, y1, y2, y3, y4, y5, y6⟩ := seven_cells M0.out; have M2 := hide (heap_old (o := .cells #[.int .i64 0, .slice none 0 0, .int .i64 0, .slice none 0 0, .slice none 0 0, .int .i64 0, .int .i64 0] 40) M0.out); obtain ⟨v0, v1, v2, v3, v4, v5, v6⟩ := seven_cells M2.out; have NZ := hide (heap_new w5 (.cells #[.int .i64 0, .slice none 0 0, .int .i64 0, .slice none 0 0, .slice none 0 0, .int .i64 0, .int .i64 0] 40)); obtain ⟨d0, d1, d2, d3, d4, d5, d6⟩ := seven_cells NZ.out; have f0 := four_frozen NZ.out 0; have f1 := four_frozen NZ.out 1; have f2 := four_frozen NZ.out 2; have f3 := four_frozen NZ.out 3; have f4 := four_frozen NZ.out 4; have f5 := four_frozen NZ.out 5; have f6 := four_frozen NZ.out 6)
   | (go_at_call 93; refine ((HCF _).out (by exact HBD.out)).mono ?_; rintro e w5 ⟨v, rfl, a', c', am', cm', rfl, ho5, b5, hcap5⟩; unfold fvV; dsimp only; rw [hlq, hlp]; rw [<- hwZ] at ho5 b5; have HO5 := hide ho5; have HC5 := hide hcap5; have M0 := hide (block_on (w := wZ.drew) HZ0.out b5); have M1 := hide (block_on (w := wZ.drew) HZ.out b5); have HB5 : Hid (Below wA.heap.size wA w5) := (show Below wA.heap.size wA wZ.drew from HBZ.out.drew).trans (b5.mono HBZ.out.size); have hs5 : wZ.heap.size <= w5.heap.size := b5.size; clear ho5 b5 hcap5; obtain ⟨y0, y1, y2, y3, y4, y5, y6⟩ := seven_cells M0.out; obtain ⟨d0, d1, d2, d3, d4, d5, d6⟩ := seven_cells M1.out; have f0 := four_frozen M1.out 0; have f1 := four_frozen M1.out 1; have f2 := four_frozen M1.out 2; have f3 := four_frozen M1.out 3; have f4 := four_frozen M1.out 4; have f5 := four_frozen M1.out 5; have f6 := four_frozen M1.out 6))
  all_goals first
   | (have HBF := hide (HB5.out.alloc (o := .cells #[.int .i64 rm, .slice none 0 0, .int .i64 z, .slice a' n c', .slice am' m cm', .int .i64 op, .int .i64 st] 40) hs5)
      have HOF := hide (HO5.out.later ((Below.refl w5.heap.size w5).alloc (o := .cells #[.int .i64 rm, .slice none 0 0, .int .i64 z, .slice a' n c', .slice am' m cm', .int .i64 op, .int .i64 st] 40) (Nat.le_refl _)) (Nat.le_refl _))
      have HUSE := HWAY
      go_wp2_with fail
      go_meet
      exact ⟨w5.heap.size, a', c', am', cm', rfl, heap_new _ _, ⟨wA.heap.size, w5.heap.size, HOF.out, Nat.le_refl _, by simp, .inr (Nat.le_refl _)⟩, HBF.out, HC5.out, hs5⟩)
   | (have HRS := hide (seven_set M1.out (.int .i64 rm) (.slice none 0 0) (.int .i64 z) (.slice a' n c') (.slice am' m cm') (.int .i64 op) (.int .i64 st))
      have HAS := hide (seven_aside (b := wA.heap.size) (Aside.refl wA.heap.size (wA.heap.size + 1) w5) (Nat.le_refl _) (Nat.lt_succ_self _) (.int .i64 rm) (.slice none 0 0) (.int .i64 z) (.slice a' n c') (.slice am' m cm') (.int .i64 op) (.int .i64 st))
      have HBF := hide (HB5.out.trans (HAS.out.below (B := wA.heap.size) (Nat.le_refl _) (by have := HZZ.out; omega)))
      have HOF := hide (HO5.out.aside HAS.out (.inl (by show wA.heap.size + 1 <= wZ.heap.size; have := HZZ.out; omega)))
      go_wp2_with fail
      go_meet
      exact ⟨wA.heap.size, a', c', am', cm', rfl, HRS.out, ⟨wZ.heap.size, w5.heap.size, HOF.out, HBZ.out.size, HAS.out.size, .inl (by have := HZZ.out; omega)⟩, HBF.out, HC5.out, Nat.le_refl _⟩)
 case rest =>
  obtain ⟨P, a', c', am', cm', rfl, hP, hown, hbel, hcap, hPA⟩ := hcut
  obtain ⟨wS, hwS⟩ : ∃ wS, wS = wc := ⟨_, rfl⟩
  subst hwS
  have HP := hide hP
  obtain ⟨lF, hF, hown, hlF, hhF, hapF⟩ := hown
  have HOW := hide hown
  have HBS := hide hbel
  have HCP := hide hcap
  have hPl : P < wS.heap.size := (Array.getElem?_eq_some_iff.1 hP).1
  have K0 := hide (block_on H0.out hbel)
  have K1 := hide (block_on H1.out hbel)
  have HY := hide (HYA.out.later hbel (by omega))
  clear hP hown hbel hcap HCF c0 c1 c2 c3 c4 c5 c6 H0 H1
  obtain ⟨c0, c1, c2, c3, c4, c5, c6⟩ := seven_cells K0.out
  go_wp2_with fail
  clear c0 c1 c2 c3 c4 c5 c6
  go_loopw [15] (fun i wr => ∃ (k : Nat) (V : Value), k <= ni ∧ i = .int .i64 (k : Int) ∧ wr.heap[P]? = some (.cells #[.int .i64 rm, V, .int .i64 z, .slice a' n c', .slice am' m cm', .int .i64 op, .int .i64 st] 40) ∧ wr.ownsRow wS.heap.size 67 3 V k (hdL (ys.take k)) ∧ wS.heap.size <= wr.heap.size ∧ Aside P (P + 1) wS wr) (fun i _ => ni - (intOf i).toNat)
  case atStart => exact ⟨0, .slice none 0 0, Nat.zero_le _, rfl, HP.out, World.ownsRow_nil _ _ _ _, Nat.le_refl _, Aside.refl _ _ _⟩
  case round =>
   obtain ⟨k, V, hk, rfl, hb0, hrow, hsz, hbel⟩ := hrel
   have KP := hide hb0
   have HRW := hide hrow
   have HBB := hide hbel
   clear hb0 hrow
   have hV : ∀ m, V.ownBlock = some m -> wS.heap.size <= m := fun m hm => (HRW.out.lt m hm).1
   by_cases hlt : k < ni
   ·obtain ⟨b, off, rfl, hb1, hb2, x0, x1, x2⟩ := hd_read (HY.out.aside hbel (.inl (by omega))) hlt
    have hx9 := HFY.out k hlt
    have HTK := hide (hd_take_snoc (ys := ys) (k := k) (by omega))
    have hkn : (k : Int) < (ni : Int) := by omega
    clear hbel
    generalize hdAt ys k = x at *
    obtain ⟨xa, xt, xd⟩ := x
    dsimp only at x0 x1 x2 hx9
    obtain ⟨wI, hwI⟩ : ∃ wI, wI = wr.alloc (.cells #[.int .i64 xa, .string xt, .bool xd] 67) := ⟨_, rfl⟩
    have hzI : wI.heap.size = wr.heap.size + 1 := by rw [hwI]; simp
    have HBI : Hid (Below wr.heap.size wr wI) := by rw [hwI]; exact (Below.refl _ _).alloc (Nat.le_refl _) _
    have HI : Hid (wI.heap[wr.heap.size]? = some (.cells #[.int .i64 xa, .string xt, .bool xd] 67)) := by rw [hwI]; exact heap_new _ _
    have KI := hide (block_on KP.out HBI.out)
    have HRI : Hid (wI.ownsRow wS.heap.size 67 3 V k (hdL (ys.take k))) := own_keepBy HRW.out (grown_below HBI.out none) (fun k e => by cases e)
    have HWI := hide (HBB.out.trans (aside_new HBI.out))
    obtain ⟨i1, i2, i3⟩ := three_cells HI.out
    obtain ⟨q0, q1, q2, q3, q4, q5, q6⟩ := seven_cells KI.out
    have HCL : ∀ w9, Hid (Calls Tryz.prog 145 #[.agg #[.int .i64 xa, .string xt, .bool xd]] w9 fun e w' => e = .returned (.agg #[.int .i64 xa, .string xt, .bool xd]) ∧ Below w9.heap.size w9 w') := fun w9 => copyOfHeld_any xa xt xd w9 hx9
    go_upto_region 5 with fail
    rw [<- hwI]
    clear hwI x0 x1 x2
    go_region_law (first
     | (refine step_append_lies _ (by rfl) _ _ _ (by rfl) wS.heap.size 67 i0 (.agg #[.int .i64 0, .string ByteArray.empty, .bool false]) 3 32 Tryz.underlying32 hi0 hzz0 hzz1 hzz2 rfl (by decide) V k (hdL (ys.take k)) (by rfl) HO9.out ⟨w9.heap.size, 0, none⟩ 1 1 [.int .i64 xa, .string xt, .bool xd] (by rfl) rfl (hd_new _ _ _ _ _) (hdV_one (xa, xt, xd)) (by omega) (by unfold maxLen; omega) (by omega) (by simp; omega) (w9.heap.size + 1) (by simp) ?_; intro g' c'' w5 hown5 hgr5 hat5 hlt5; have K5 : Hid (w5.heap[P]? = some (.cells #[.int .i64 rm, V, .int .i64 z, .slice a' n c', .slice am' m cm', .int .i64 op, .int .i64 st] 40)) := (hgr5.block _ (by simp; omega) (fun e => by have := hV _ e.symm; omega)).trans KA.out; obtain ⟨r0, r1, r2, r3, r4, r5, r6⟩ := seven_cells K5.out; have rf := four_frozen K5.out 1; have HO5 := hide hown5; have HR5 := hide hgr5; clear hown5 hgr5 hat5)
     | (go_simp; go_at_call 145; refine (HCL _).out.mono ?_; rintro e w9 ⟨rfl, b9⟩; have K9 := hide (block_on (w := wI.drew) KI.out b9); have hs9 : wI.heap.size <= w9.heap.size := b9.size; have KA := hide (heap_old (o := .cells #[.int .i64 xa, .string xt, .bool xd] 67) K9.out); have HO9 := hide ((HRI.out.drew.kept (grown_below b9 none) (by cases hv : V.ownBlock with | none => exact .inl rfl | some q => exact .inr (by simp))).alloc (.cells #[.int .i64 xa, .string xt, .bool xd] 67)); obtain ⟨s0, s1, s2, s3, s4, s5, s6⟩ := seven_cells K9.out; obtain ⟨t0, t1, t2, t3, t4, t5, t6⟩ := seven_cells KA.out; have B9 := hide ((Below.refl wI.heap.size wI).drew.trans b9); clear b9; dsimp only))
    all_goals
     have hs5 := HR5.out.size
     have hzz : (w9.alloc (.cells #[.int .i64 xa, .string xt, .bool xd] 67)).heap.size = w9.heap.size + 1 := by simp
     have HRL : Hid (w5.ownsRow wS.heap.size 67 3 (.slice (some ⟨g', 0, none⟩) (k + 1) c'') (k + 1) (hdL (ys.take (k + 1)))) := by have := HO5.out; rw [<- HTK.out, <- hdL_snoc]; exact this
     have HBA2 := hide ((HWI.out.trans (aside_new B9.out)).trans (aside_new ((Below.refl w9.heap.size w9).alloc (Nat.le_refl _) (.cells #[.int .i64 xa, .string xt, .bool xd] 67))))
     have HK0F := hide (set_block K5.out 1 (.slice (some ⟨g', 0, none⟩) (k + 1) c'') (by simp))
     have HOF := hide (ownsRow_setCell_below HRL.out (a := ⟨P, 1, none⟩) (by show P < _; omega) (.slice (some ⟨g', 0, none⟩) (k + 1) c''))
     have HA5 : Hid (Aside P (P + 1) wS w5) := ⟨HR5.out.os.trans HBA2.out.os, HR5.out.tape.trans HBA2.out.tape, HR5.out.output.trans HBA2.out.output, Nat.le_trans HBA2.out.size hs5, fun q hq h' => (HR5.out.block q (by omega) (fun e => by have := hV q e.symm; omega)).trans (HBA2.out.block q hq h')⟩
     have HBF := hide (HA5.out.setCell (p := ⟨P, 1, none⟩) (Nat.le_refl _) (Nat.lt_succ_self _) (.slice (some ⟨g', 0, none⟩) (k + 1) c''))
     have hsF : wS.heap.size <= (w5.setCell ⟨P, 1, none⟩ (.slice (some ⟨g', 0, none⟩) (k + 1) c'')).heap.size := by rw [Go.Deep.nblk_setCell]; omega
     go_wp2_with fail
     exact ⟨⟨k + 1, .slice (some ⟨g', 0, none⟩) (k + 1) c'', by omega, by go_num, HK0F.out, HOF.out, hsF, HBF.out⟩, by simp [intOf]; omega⟩
   ·obtain rfl : k = ni := by omega
    have HTK : Hid (ys.take k = ys) := by show _ = _; rw [<- hly]; exact List.take_length
    have hrw := HRW.out
    rw [HTK.out] at hrw
    obtain ⟨ai', ci', rfl⟩ : ∃ ai' ci', V = .slice ai' k ci' := by
     rcases Go.Joins.ownsRow_forms hrw with ⟨rfl, h0⟩ | ⟨g', c', rfl⟩
     ·exact ⟨none, 0, by rw [h0]⟩
     ·exact ⟨_, c', rfl⟩
    have hrw' : HdOwn wS.heap.size wr (.slice ai' k ci') ys := by show World.ownsRow _ _ _ _ _ ys.length _; rw [hly]; exact hrw
    have HOI := hide (hd_own hrw')
    have HCI : Hid (ys.length <= ci') := by
     obtain ⟨a9, c9, e9, h9⟩ := hd_form hrw'
     simp only [Value.slice.injEq] at e9
     show _ <= _
     omega
    have KZ : Hid (wr.heap[w.heap.size + 1]? = some (.cells #[.int .i64 0, .slice none 0 0, .int .i64 0, .slice none 0 0, .slice none 0 0, .int .i64 0, .int .i64 0] 40)) := (hbel.block _ (by omega) (.inl (by omega))).trans K1.out
    have HFT := hide (HOW.out.aside hbel hapF)
    clear hrw hrw' hbel
    obtain ⟨q0, q1, q2, q3, q4, q5, q6⟩ := seven_cells KP.out
    obtain ⟨p0, p1, p2, p3, p4, p5, p6⟩ := seven_cells KZ.out
    have f0 := four_frozen KZ.out 0
    have f1 := four_frozen KZ.out 1
    have f2 := four_frozen KZ.out 2
    have f3 := four_frozen KZ.out 3
    have f4 := four_frozen KZ.out 4
    have f5 := four_frozen KZ.out 5
    have f6 := four_frozen KZ.out 6
    have HRS := hide (seven_set KZ.out (.int .i64 rm) (.slice ai' k ci') (.int .i64 z) (.slice a' n c') (.slice am' m cm') (.int .i64 op) (.int .i64 st))
    have HAS := hide (seven_aside (b := w.heap.size + 1) (Aside.refl (w.heap.size + 1) (w.heap.size + 1 + 1) wr) (Nat.le_refl _) (Nat.lt_succ_self _) (.int .i64 rm) (.slice ai' k ci') (.int .i64 z) (.slice a' n c') (.slice am' m cm') (.int .i64 op) (.int .i64 st))
    have HBF := hide ((below_here HBA.out HBS.out).trans ((HBB.out.below (B := w.heap.size) (by omega) (by omega)).trans (HAS.out.below (B := w.heap.size) (by omega) (by omega))))
    have HCO : Hid (CacheOwn wA.heap.size wr.heap.size wr ai' a' am' ys qs ps) := ⟨Nat.le_refl _, wS.heap.size, wr.heap.size, lF, hF, by omega, Nat.le_refl _, hlF, by omega, .inr (by omega), HOI.out, HFT.out⟩
    go_wp2_with fail
    refine bodyPost_ret (results_cell rfl rfl (run_loadVar_row _ _ _ _ _ _ _ HRS.out Tryz.underlying40 rfl (by kernel_rfl))) rfl ⟨_, rfl, ai', ci', a', c', am', cm', ?_, ?_, HBF.out, HCP.out, HCI.out⟩
    ·unfold cvV; dsimp only; rw [hly, hlq, hlp]
    ·exact cache_stored HCO.out HAS.out (by omega) (by omega)
end Go.Proofs.YtokdehlppolnhaaGreatDoor
end

