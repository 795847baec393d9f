/- Several texts in one: FtlImplH, CopyRaw, CacheNew. -/
import Derived.Test.YtfabojbkhicpmaaGreatDoorXFtlImplG
import Derived.Test.YtfabojbkhicpmaaGreatDoorXChipGrow
import Derived.Test.YtfabojbkhicpmaaGreatDoorXChipAns
import Derived.Test.YtfabojbkhicpmaaGreatDoorXFtlOwnP
import Derived.Test.YtfabojbkhicpmaaGreatDoorXFtlImplA
import Derived.Test.YtfabojbkhicpmaaGreatDoorXPageBase
import Derived.Test.YtfabojbkhicpmaaGreatDoorXFtlMath
section
namespace Go.Proofs.YtfabojbkhicpmaaGreatDoor
open Go.RowKit
set_option linter.unusedVariables false
set_option maxRecDepth 20000

set_option maxHeartbeats 1600000 in
theorem clonePl_any (b off m cm : Nat) (ps : List Pl) (w : World) {lo hi : Nat} (hp : Places lo hi w (some ⟨b, off, none⟩) m ps) (hhi : hi ≤ w.heap.size) (hm1 : 1 ≤ m) (hm : m ≤ 64) :
    Calls Tryz.prog 157 #[.slice (some ⟨b, off, none⟩) m cm] w fun e w' => ∃ gm cm', e = .returned (.slice (some ⟨gm, 0, none⟩) m cm') ∧ PlOwn w.heap.size w' (.slice (some ⟨gm, 0, none⟩) ps.length cm') ps ∧ Below w.heap.size w w' := by
  obtain ⟨wC, hwC⟩ : ∃ wC, wC = w.alloc (.cells #[] 48) := ⟨_, rfl⟩
  have hzC : wC.heap.size = w.heap.size + 1 := by rw [hwC]; simp
  have HBC : Hid (Below w.heap.size w wC) := by rw [hwC]; exact (Below.refl _ _).alloc (Nat.le_refl _) _
  have HMD : Hid (PlOwn w.heap.size wC (.slice (some ⟨w.heap.size, 0, none⟩) 0 0) []) := by rw [hwC]; exact pl_made0 w
  obtain ⟨gm, cm', w2, hap, hpo, hgr, hat⟩ := append_places (P := Tryz.prog) Tryz.infoPl9 Tryz.underlying27 HMD.out (by omega) (c := cm) (hp.later HBC.out hhi) hm1 (by omega)
  have HAP := hide hap
  have HPO := hide hpo
  have HB2 : Hid (Below w.heap.size w w2) := HBC.out.grown hgr (by omega) (fun k e => by simp only [Option.some.injEq] at e; omega)
  clear hap hpo hgr hat HMD hp hzC
  have hq : ∀ w, (binOp BinOp.eql 27 (.slice (some ⟨b, off, none⟩) m cm) (.slice none 0 0)).run Tryz.prog w = .ok (.bool false) w := fun w => by kernel_rfl
  go_enter Tryz.func157, Tryz.ntmps157
  go_wp2_with (at_builtin; rw [← hwC]; refine wpList_append_eq rfl (.tmp 5) (.tmp 6) 27 rfl _ _ _ w2 rfl rfl HAP.out ?_)
  go_ret
  exact ⟨gm, cm', rfl, HPO.out, HB2.out⟩

end Go.Proofs.YtfabojbkhicpmaaGreatDoor
end

section
namespace Go.Proofs.YtfabojbkhicpmaaGreatDoor
open Go.RowKit
set_option linter.unusedVariables false
set_option maxRecDepth 20000

structure KeeperRaw (B : Nat) (w : World) (pk : Nat) (z st : Int) (n g c gm cm : Nat) (A : Nat → Option Addr) (C : Nat → Nat) (V : Value) (s : Kp) : Prop where
  mem : KpMem B w n g gm cm A C V s
  box : w.heap[pk]? = some (.cells #[.int .i64 z, .slice (some ⟨g, 0, none⟩) n c, .slice (some ⟨gm, 0, none⟩) s.ps.length cm, .int .i64 s.op, .int .i64 st, V] 189)
  nk : pk ≠ g
  bk : B ≤ pk
theorem KeeperRaw.later {B pk n g c gm cm : Nat} {w w' : World} {z st : Int} {A : Nat → Option Addr} {C : Nat → Nat} {V : Value} {s : Kp} (h : KeeperRaw B w pk z st n g c gm cm A C V s) (hb : Below w.heap.size w w') : KeeperRaw B w' pk z st n g c gm cm A C V s :=
  ⟨h.mem.later hb, block_on h.box hb, h.nk, h.bk⟩

set_option maxHeartbeats 3200000 in
theorem keeperOf_raw (z : Int) (a : Option Addr) (n cap : Nat) (qs : List Sq) (am : Option Addr) (m cm : Nat) (ps : List Pl) (op st : Int) (w : World) {lo hi lo' hi' : Nat} (h : Squares lo hi w a n qs) (hhi : hi ≤ w.heap.size) (hok : chipOk z qs = true) (hp : Places lo' hi' w am m ps) (hhi' : hi' ≤ w.heap.size) (hm1 : 1 ≤ m) (hm : m ≤ 64) :
    Calls Tryz.prog 76 #[.agg #[.int .i64 z, .slice a n cap, .slice am m cm, .int .i64 op, .int .i64 st]] w fun e w' => ∃ pk g c gm cm' A C, e = .returned (.pointer (some ⟨pk, 0, none⟩)) ∧ KeeperRaw w.heap.size w' pk z st n g c gm cm' A C (.slice none 0 0) ⟨qs, ps, op, []⟩ ∧ Below w.heap.size w w' := by
  obtain ⟨wA, hwA⟩ : ∃ wA, wA = w.alloc (.cells #[.int .i64 z, .slice a n cap, .slice am m cm, .int .i64 op, .int .i64 st] 29) := ⟨_, rfl⟩
  have hzA : wA.heap.size = w.heap.size + 1 := by rw [hwA]; simp
  have HBA : Hid (Below w.heap.size w wA) := by rw [hwA]; exact (Below.refl _ _).alloc (Nat.le_refl _) _
  have H0 : Hid (wA.heap[w.heap.size]? = some (.cells #[.int .i64 z, .slice a n cap, .slice am m cm, .int .i64 op, .int .i64 st] 29)) := by rw [hwA]; exact heap_new _ _
  have HSQ := hide (h.later HBA.out hhi)
  have HPL := hide (hp.later HBA.out hhi')
  have HLP := hide hp.1
  obtain ⟨b, off, rfl, _, hb, _⟩ := hp.2.2 (by omega)
  clear h hp
  obtain ⟨c0, c1, c2, c3, c4⟩ := five_cells H0.out
  have HSK : ∀ W, Hid (Below wA.heap.size wA W → W.cell? ⟨w.heap.size, 0, none⟩ = some (.int .i64 z) ∧ W.cell? ⟨w.heap.size, 1, none⟩ = some (.slice a n cap) ∧ W.cell? ⟨w.heap.size, 2, none⟩ = some (.slice (some ⟨b, off, none⟩) m cm) ∧ W.cell? ⟨w.heap.size, 3, none⟩ = some (.int .i64 op) ∧ W.cell? ⟨w.heap.size, 4, none⟩ = some (.int .i64 st)) := fun W hb => ⟨(hb.cell (p := ⟨_, _, none⟩) (by show w.heap.size < _; omega)).trans c0, (hb.cell (p := ⟨_, _, none⟩) (by show w.heap.size < _; omega)).trans c1, (hb.cell (p := ⟨_, _, none⟩) (by show w.heap.size < _; omega)).trans c2, (hb.cell (p := ⟨_, _, none⟩) (by show w.heap.size < _; omega)).trans c3, (hb.cell (p := ⟨_, _, none⟩) (by show w.heap.size < _; omega)).trans c4⟩
  have HCC : ∀ W, Hid (Below wA.heap.size wA W → Calls Tryz.prog 111 #[.agg #[.int .i64 z, .slice a n cap]] W fun e w' => ∃ g c A C, e = .returned (.agg #[.int .i64 z, .slice (some ⟨g, 0, none⟩) n c]) ∧ GrowSqs W.heap.size w' n qs g A C ∧ Below W.heap.size W w') := fun W hb => copyOfChip_any z a n cap qs W (HSQ.out.later hb (by omega)) (by have := hb.size; omega) hok
  have HCP : ∀ W, Hid (Below wA.heap.size wA W → Calls Tryz.prog 157 #[.slice (some ⟨b, off, none⟩) m cm] W fun e w' => ∃ gm cm', e = .returned (.slice (some ⟨gm, 0, none⟩) m cm') ∧ PlOwn W.heap.size w' (.slice (some ⟨gm, 0, none⟩) ps.length cm') ps ∧ Below W.heap.size W w') := fun W hb => clonePl_any b off m cm ps W (HPL.out.later hb (by omega)) (by have := hb.size; omega) hm1 hm
  have HB0 : Hid (Below wA.heap.size wA wA.drew) := (Below.refl wA.heap.size wA).drew
  go_enter Tryz.func76, Tryz.ntmps76
  go_upto_region 1 with fail
  rw [← hwA]
  clear hwA
  have HZA := hide hzA
  clear hzA
  go_region_held3 (fun W => W.cell? ⟨w.heap.size, 0, none⟩ = some (.int .i64 z) ∧ W.cell? ⟨w.heap.size, 1, none⟩ = some (.slice a n cap) ∧ W.cell? ⟨w.heap.size, 2, none⟩ = some (.slice (some ⟨b, off, none⟩) m cm) ∧ W.cell? ⟨w.heap.size, 3, none⟩ = some (.int .i64 op) ∧ W.cell? ⟨w.heap.size, 4, none⟩ = some (.int .i64 st))
    (first | exact (HSK _).out HB0.out | exact (HSK _).out HB5.out | exact (HSK _).out HB6.out | exact (HSK _).out HB7.out | fail)
    (first
      | (go_at_call 111; refine ((HCC _).out HB0.out).mono ?_; rintro e w5 ⟨g, c, A, C, rfl, hG5, b5⟩; have HB5 := hide (below_here HB0.out b5); have HG5 := hide hG5; have hs5 : wA.heap.size ≤ w5.heap.size := HB5.out.size; clear hG5 b5)
      | (go_at_call 157; refine ((HCP _).out HB5.out).mono ?_; rintro e w6 ⟨gm, cm', rfl, hP6, b6⟩; have HB6 := hide (below_here HB5.out b6); have HG6 := hide (HG5.out.later b6); have HP6 := hide hP6; have hs6 : w5.heap.size ≤ w6.heap.size := b6.size; have HB7 := hide (HB6.out.alloc HB6.out.size (.cells #[.int .i64 z, .slice (some ⟨g, 0, none⟩) n c, .slice (some ⟨gm, 0, none⟩) m cm', .int .i64 op, .int .i64 st, .slice none 0 0] 189)); clear hP6 b6)
      | fail)
  all_goals
    have hzA := HZA.out
    have hg1 := HG6.out.atG
    have hg2 : g < w5.heap.size := by have := HG5.out.row.1; omega
    have hgm1 : w5.heap.size ≤ gm := (World.ownsRow.lt HP6.out gm rfl).1
    have HBX := hide ((Below.refl w6.heap.size w6).alloc (Nat.le_refl _) (.cells #[.int .i64 z, .slice (some ⟨g, 0, none⟩) n c, .slice (some ⟨gm, 0, none⟩) m cm', .int .i64 op, .int .i64 st, .slice none 0 0] 189))
    have HBW := hide (below_here HBA.out HB7.out)
    have hle : ps.length = m := HLP.out
    have HKA : Hid (KeeperRaw w.heap.size (w6.alloc (.cells #[.int .i64 z, .slice (some ⟨g, 0, none⟩) n c, .slice (some ⟨gm, 0, none⟩) m cm', .int .i64 op, .int .i64 st, .slice none 0 0] 189)) w6.heap.size z st n g c gm cm' A C (.slice none 0 0) ⟨qs, ps, op, []⟩) :=
      ⟨⟨(HG6.out.mono (show w.heap.size ≤ wA.heap.size by omega)).later HBX.out, own_keepBy (HP6.out.mono (by omega)) (grown_below HBX.out none) (fun k e => by cases e), World.ownsRow_nil _ _ _ _, by omega, fun e => by cases e⟩, by dsimp only; rw [hle]; exact heap_new _ _, by omega, by omega⟩
    go_wp2_with fail
    go_ret
    exact ⟨_, g, c, gm, cm', A, C, rfl, HKA.out, HBW.out⟩

set_option maxHeartbeats 1600000 in
theorem ftl_raw (B pk : Nat) (z st : Int) (n g c gm cm : Nat) (A : Nat → Option Addr) (C : Nat → Nat) (V : Value) (s : Kp) (w : World) (h : KeeperRaw B w pk z st n g c gm cm A C V s) (hB : B ≤ w.heap.size) :
    Calls Tryz.prog 78 #[.pointer (some ⟨pk, 0, none⟩)] w fun e w' => e = .returned (.agg #[.int .i64 z, .slice (some ⟨g, 0, none⟩) n c, .slice (some ⟨gm, 0, none⟩) s.ps.length cm, .int .i64 s.op, .int .i64 st]) ∧ Below w.heap.size w w' := by
  obtain ⟨wA, hwA⟩ : ∃ wA, wA = w.alloc (.cells #[.int .i64 0, .slice none 0 0, .slice none 0 0, .int .i64 0, .int .i64 0] 29) := ⟨_, rfl⟩
  have hzA : wA.heap.size = w.heap.size + 1 := by rw [hwA]; simp
  have HBA : Hid (Below w.heap.size w wA) := by rw [hwA]; exact (Below.refl _ _).alloc (Nat.le_refl _) _
  have H0 : Hid (wA.heap[w.heap.size]? = some (.cells #[.int .i64 0, .slice none 0 0, .slice none 0 0, .int .i64 0, .int .i64 0] 29)) := by rw [hwA]; exact heap_new _ _
  obtain ⟨x0, x1, x2, x3, x4, x5⟩ := six_cells (h.later HBA.out).box
  clear h
  obtain ⟨p0, p1, p2, p3, p4⟩ := five_cells H0.out
  have f0 := four_frozen H0.out 0
  have f1 := four_frozen H0.out 1
  have f2 := four_frozen H0.out 2
  have f3 := four_frozen H0.out 3
  have f4 := four_frozen H0.out 4
  have HAS := hide (five_aside (b := w.heap.size) (Aside.refl w.heap.size (w.heap.size + 1) wA) (Nat.le_refl _) (Nat.lt_succ_self _) (.int .i64 z) (.slice (some ⟨g, 0, none⟩) n c) (.slice (some ⟨gm, 0, none⟩) s.ps.length cm) (.int .i64 s.op) (.int .i64 st))
  have HBF := hide (HBA.out.trans (HAS.out.below (B := w.heap.size) (Nat.le_refl _) (by omega)))
  have HRS := hide (five_set H0.out (.int .i64 z) (.slice (some ⟨g, 0, none⟩) n c) (.slice (some ⟨gm, 0, none⟩) s.ps.length cm) (.int .i64 s.op) (.int .i64 st))
  go_enter Tryz.func78, Tryz.ntmps78
  go_upto_region 1 with fail
  rw [← hwA]
  clear hwA
  refine wp_region_quiet_tail 17 (by kernel_rfl) (by kernel_rfl) ?_
  simp only [List.take_succ_cons, List.take_zero, List.drop_succ_cons, List.drop_zero]
  repeat (go_big_quiet_step (fail))
  refine wpQuiet_nil ?_
  rintro _ ⟨nq, rfl⟩
  go_wp2_with fail
  refine bodyPost_ret (results_cell rfl rfl (run_loadVar_row _ _ _ _ _ _ _ (by exact HRS.out) Tryz.underlying29 rfl (by kernel_rfl))) rfl ⟨rfl, HBF.out.trans ⟨rfl, rfl, rfl, Nat.le_refl _, fun _ _ => rfl⟩⟩

set_option maxHeartbeats 1600000 in
theorem copyOfFtl_raw (z : Int) (a : Option Addr) (n cap : Nat) (qs : List Sq) (am : Option Addr) (m cm : Nat) (ps : List Pl) (op st : Int) (w : World) {lo hi lo' hi' : Nat} (h : Squares lo hi w a n qs) (hhi : hi ≤ w.heap.size) (hok : chipOk z qs = true) (hp : Places lo' hi' w am m ps) (hhi' : hi' ≤ w.heap.size) (hm1 : 1 ≤ m) (hm : m ≤ 64) :
    Calls Tryz.prog 74 #[.agg #[.int .i64 z, .slice a n cap, .slice am m cm, .int .i64 op, .int .i64 st]] w fun e w' => ∃ v, e = .returned v ∧ FtlAns w ⟨z, qs, ps, op, st⟩ v w' := by
  obtain ⟨wA, hwA⟩ : ∃ wA, wA = (w.alloc (.cells #[.int .i64 z, .slice a n cap, .slice am m cm, .int .i64 op, .int .i64 st] 29)).alloc (.cells #[.int .i64 0, .slice none 0 0, .slice none 0 0, .int .i64 0, .int .i64 0] 29) := ⟨_, rfl⟩
  have hzA : wA.heap.size = w.heap.size + 1 + 1 := by rw [hwA]; simp
  have HBA : Hid (Below w.heap.size w wA) := by rw [hwA]; exact ((Below.refl _ _).alloc (Nat.le_refl _) _).alloc (by simp) _
  have H0 : Hid (wA.heap[w.heap.size]? = some (.cells #[.int .i64 z, .slice a n cap, .slice am m cm, .int .i64 op, .int .i64 st] 29)) := by rw [hwA]; exact heap_old (heap_new _ _)
  have H1 : Hid (wA.heap[w.heap.size + 1]? = some (.cells #[.int .i64 0, .slice none 0 0, .slice none 0 0, .int .i64 0, .int .i64 0] 29)) := by rw [hwA]; exact heap_at (by simp)
  have HSQ := hide (h.later HBA.out hhi)
  have HPL := hide (hp.later HBA.out hhi')
  have HLP := hide hp.1
  have HLQ := hide h.1
  clear h hp
  obtain ⟨c0, c1, c2, c3, c4⟩ := five_cells H0.out
  go_enter Tryz.func74, Tryz.ntmps74
  go_wp2_with fail
  rw [← hwA]
  clear hwA
  refine (keeperOf_raw z a n cap qs am m cm ps op st wA HSQ.out (by omega) hok HPL.out (by omega) hm1 hm).mono ?_
  rintro e w1 ⟨pk, g, c, gm, cm', A, C, rfl, hK1, b1⟩
  have HK1 := hide hK1
  have K1 := hide (block_on H1.out b1)
  have HB1 := hide (below_here HBA.out b1)
  have hs1 := b1.size
  clear hK1 b1 c0 c1 c2 c3 c4
  go_wp2_with fail
  refine (ftl_raw wA.heap.size pk z st n g c gm cm' A C _ ⟨qs, ps, op, []⟩ w1 HK1.out (by omega)).mono ?_
  rintro e w2 ⟨rfl, b2⟩
  have hle : ps.length = m := HLP.out
  dsimp only
  rw [hle]
  have K2 := hide (block_on K1.out b2)
  have HB2 := hide (below_here HB1.out b2)
  have hs2 := b2.size
  have HO2 := hide (own_of_kp (HK1.out.mem.later b2))
  clear b2
  obtain ⟨p0, p1, p2, p3, p4⟩ := five_cells K2.out
  have f0 := four_frozen K2.out 0
  have f1 := four_frozen K2.out 1
  have f2 := four_frozen K2.out 2
  have f3 := four_frozen K2.out 3
  have f4 := four_frozen K2.out 4
  have HRS := hide (five_set K2.out (.int .i64 z) (.slice (some ⟨g, 0, none⟩) n c) (.slice (some ⟨gm, 0, none⟩) m cm') (.int .i64 op) (.int .i64 st))
  have HAS := hide (five_aside (b := w.heap.size + 1) (Aside.refl (w.heap.size + 1) (w.heap.size + 1 + 1) w2) (Nat.le_refl _) (Nat.lt_succ_self _) (.int .i64 z) (.slice (some ⟨g, 0, none⟩) n c) (.slice (some ⟨gm, 0, none⟩) m cm') (.int .i64 op) (.int .i64 st))
  have HBF := hide (HB2.out.trans (HAS.out.below (B := w.heap.size) (by omega) (by omega)))
  go_wp2_with fail
  refine bodyPost_ret (results_cell rfl rfl (run_loadVar_row _ _ _ _ _ _ _ HRS.out Tryz.underlying29 rfl (by kernel_rfl))) rfl ⟨_, rfl, some ⟨g, 0, none⟩, c, some ⟨gm, 0, none⟩, cm', by unfold fvV; dsimp only; rw [HLQ.out, HLP.out], ?_, HBF.out, pl_cap HK1.out.mem.pl⟩
  exact (HO2.out.aside HAS.out (.inl (by omega))).wide (by omega) HAS.out.size (Nat.le_refl _)
end Go.Proofs.YtfabojbkhicpmaaGreatDoor
end

section
namespace Go.Proofs.YtfabojbkhicpmaaGreatDoor
open Go.RowKit
set_option linter.unusedVariables false
set_option maxRecDepth 20000

theorem cache_of_ftl {lo hi : Nat} {w : World} {a am : Option Addr} {qs : List Sq} {ps : List Pl} (h : FtlOwn lo hi w a am qs ps) : CacheOwn lo hi w none a am [] qs ps :=
  ⟨h.1, lo, 0, lo, hi, Nat.le_refl _, Nat.zero_le _, Nat.le_refl _, Nat.le_refl _, .inl (Nat.zero_le _), ⟨rfl, Nat.zero_le _, fun h => absurd h (by simp)⟩, h⟩
theorem cache_zero (w : World) (lo : Nat) : CacheOwn lo w.heap.size w none none none [] [] [] := cache_of_ftl ⟨Nat.le_refl _, .inl ⟨rfl, rfl⟩⟩
/-- The memory behind a Cache that was stored into a variable. -/
theorem cache_stored {lo hi b : Nat} {w w5 W : World} {ai a am : Option Addr} {ys : List Hd} {qs : List Sq} {ps : List Pl} (h : CacheOwn lo hi w5 ai a am ys qs ps) (hA : Aside b (b + 1) w5 W) (hb : b + 1 ≤ lo) (hw : w.heap.size ≤ lo) : CacheOwn w.heap.size W.heap.size W ai a am ys qs ps :=
  (h.aside hA (.inl hb)).wide hw (Nat.le_trans h.1 hA.size) (Nat.le_refl _)
def newCB (f : Fv) (rm : Int) : Bool := ftlOkF f && inB rm 1 16
def newCF (f : Fv) (rm : Int) : Cv := if newCB f rm then ⟨rm, [], f⟩ else zeroC
theorem newCF_fit (f : Fv) (rm : Int) : CFit (newCF f rm) := by
  unfold newCF
  split
  · rename_i h
    unfold newCB at h
    rw [Bool.and_eq_true] at h
    exact fit_of (c := ⟨rm, [], f⟩) h.1 (by simp)
  · exact zeroC_fit

set_option maxHeartbeats 1600000 in
theorem specNewCache_any (z : Int) (a : Option Addr) (n cap : Nat) (qs : List Sq) (am : Option Addr) (m cm : Nat) (ps : List Pl) (op st rm : Int) (w : World) {lo hi lo' hi' : Nat} (h : Squares lo hi w a n qs) (hhi : hi ≤ w.heap.size) (hn : n ≤ 1048576) (hf : ∀ x ∈ qs, sqFits x) (hp : Places lo' hi' w am m ps) (hhi' : hi' ≤ w.heap.size) (hm : m ≤ 1048576) :
    Calls Tryz.prog 62 #[.agg #[.int .i64 z, .slice a n cap, .slice am m cm, .int .i64 op, .int .i64 st], .int .i64 rm] w fun e w' => ∃ v, e = .returned (.tuple #[v, .bool (newCB ⟨z, qs, ps, op, st⟩ rm)]) ∧ CacheAns w (newCF ⟨z, qs, ps, op, st⟩ rm) v w' := by
  obtain ⟨cv, hcv⟩ : ∃ cv, cv = newCF ⟨z, qs, ps, op, st⟩ rm := ⟨_, rfl⟩
  obtain ⟨bv, hbv⟩ : ∃ bv, bv = newCB ⟨z, qs, ps, op, st⟩ rm := ⟨_, rfl⟩
  have HCV := hide hcv
  have HBV := hide hbv
  rw [← hcv, ← hbv]
  clear hcv hbv
  obtain ⟨wA, hwA⟩ : ∃ wA, wA = (w.alloc (.cells #[.int .i64 z, .slice a n cap, .slice am m cm, .int .i64 op, .int .i64 st] 29)).alloc (.cells #[.int .i64 0, .slice none 0 0, .int .i64 0, .slice none 0 0, .slice none 0 0, .int .i64 0, .int .i64 0] 69) := ⟨_, rfl⟩
  have hzA : wA.heap.size = w.heap.size + 1 + 1 := by rw [hwA]; simp
  have HBA : Hid (Below w.heap.size w wA) := by rw [hwA]; exact ((Below.refl _ _).alloc (Nat.le_refl _) _).alloc (by simp) _
  have H0 : Hid (wA.heap[w.heap.size]? = some (.cells #[.int .i64 z, .slice a n cap, .slice am m cm, .int .i64 op, .int .i64 st] 29)) := by rw [hwA]; exact heap_old (heap_new _ _)
  have H1 : Hid (wA.heap[w.heap.size + 1]? = some (.cells #[.int .i64 0, .slice none 0 0, .int .i64 0, .slice none 0 0, .slice none 0 0, .int .i64 0, .int .i64 0] 69)) := by rw [hwA]; exact heap_at (by simp)
  have HSA := hide (h.later HBA.out hhi)
  have HPA := hide (hp.later HBA.out hhi')
  have HF := hide hf
  have hlq := h.1
  have hlp := hp.1
  clear h hp hf
  obtain ⟨c0, c1, c2, c3, c4⟩ := five_cells H0.out
  have HNOT : Hid (bv = false → ∀ W, W.heap[w.heap.size + 1]? = some (.cells #[.int .i64 0, .slice none 0 0, .int .i64 0, .slice none 0 0, .slice none 0 0, .int .i64 0, .int .i64 0] 69) → Below w.heap.size w W → CacheAns w cv (.agg #[.int .i64 0, .slice none 0 0, .int .i64 0, .slice none 0 0, .slice none 0 0, .int .i64 0, .int .i64 0]) W) := fun hb W hW hB => by
    have e : cv = zeroC := by rw [HCV.out]; unfold newCF; rw [← HBV.out, hb]; rfl
    rw [e]
    exact ⟨none, 0, none, 0, none, 0, rfl, cache_zero W _, hB, Nat.le_refl _⟩
  go_enter Tryz.func62, Tryz.ntmps62
  go_wp2_with fail
  rw [← hwA]
  clear hwA
  refine (specFtlOk_any z a n cap qs am m cm ps op st wA HSA.out (by omega) hn HF.out HPA.out (by omega) hm).mono ?_
  rintro e w2 ⟨rfl, b2⟩
  have K0 := hide (block_on H0.out b2)
  have K1 := hide (block_on H1.out b2)
  have HB2 := hide (below_here HBA.out b2)
  have HS2 := hide (HSA.out.later b2 (by omega))
  have HP2 := hide (HPA.out.later b2 (by omega))
  have hs2 := b2.size
  clear b2 c0 c1 c2 c3 c4
  obtain ⟨c0, c1, c2, c3, c4⟩ := five_cells K0.out
  cases hfo : ftlOk z qs ps op st with
  | false =>
    have HE : Hid (bv = false) := by show _ = _; rw [HBV.out]; unfold newCB ftlOkF; dsimp only; simp [hfo]
    obtain ⟨d0, d1, d2, d3, d4, d5, d6⟩ := seven_cells K1.out
    have f0 := four_frozen K1.out 0
    have f1 := four_frozen K1.out 1
    have f2 := four_frozen K1.out 2
    have f3 := four_frozen K1.out 3
    have f4 := four_frozen K1.out 4
    have f5 := four_frozen K1.out 5
    have f6 := four_frozen K1.out 6
    have HRS := hide (seven_set K1.out (.int .i64 0) (.slice none 0 0) (.int .i64 0) (.slice none 0 0) (.slice none 0 0) (.int .i64 0) (.int .i64 0))
    have HAS := hide (seven_aside (b := w.heap.size + 1) (Aside.refl (w.heap.size + 1) (w.heap.size + 1 + 1) w2) (Nat.le_refl _) (Nat.lt_succ_self _) (.int .i64 0) (.slice none 0 0) (.int .i64 0) (.slice none 0 0) (.slice none 0 0) (.int .i64 0) (.int .i64 0))
    have HBF := hide (HB2.out.trans (HAS.out.below (B := w.heap.size) (by omega) (by omega)))
    go_wp2_with fail
    refine bodyPost_ret (results_ct rfl rfl (run_loadVar_row _ _ _ _ _ _ _ HRS.out Tryz.underlying69 rfl (by kernel_rfl))) rfl ⟨_, by rw [HE.out]; rfl, HNOT.out HE.out _ HRS.out HBF.out⟩
  | true =>
    go_wp2_with fail
    refine (l1In_any rm 1 16 w2).mono ?_
    rintro e w3 ⟨rfl, rfl⟩
    cases hin : inB rm 1 16 with
    | false =>
      have HE : Hid (bv = false) := by show _ = _; rw [HBV.out]; unfold newCB ftlOkF; dsimp only; simp [hin]
      obtain ⟨d0, d1, d2, d3, d4, d5, d6⟩ := seven_cells K1.out
      have f0 := four_frozen K1.out 0
      have f1 := four_frozen K1.out 1
      have f2 := four_frozen K1.out 2
      have f3 := four_frozen K1.out 3
      have f4 := four_frozen K1.out 4
      have f5 := four_frozen K1.out 5
      have f6 := four_frozen K1.out 6
      have HRS := hide (seven_set K1.out (.int .i64 0) (.slice none 0 0) (.int .i64 0) (.slice none 0 0) (.slice none 0 0) (.int .i64 0) (.int .i64 0))
      have HAS := hide (seven_aside (b := w.heap.size + 1) (Aside.refl (w.heap.size + 1) (w.heap.size + 1 + 1) w2) (Nat.le_refl _) (Nat.lt_succ_self _) (.int .i64 0) (.slice none 0 0) (.int .i64 0) (.slice none 0 0) (.slice none 0 0) (.int .i64 0) (.int .i64 0))
      have HBF := hide (HB2.out.trans (HAS.out.below (B := w.heap.size) (by omega) (by omega)))
      go_wp2_with fail
      refine bodyPost_ret (results_ct rfl rfl (run_loadVar_row _ _ _ _ _ _ _ HRS.out Tryz.underlying69 rfl (by kernel_rfl))) rfl ⟨_, by rw [HE.out]; rfl, HNOT.out HE.out _ HRS.out HBF.out⟩
    | true =>
      have HE : Hid (bv = true) := by show _ = _; rw [HBV.out]; unfold newCB ftlOkF; dsimp only; rw [hfo, hin]; rfl
      have HCE : Hid (cv = ⟨rm, [], ⟨z, qs, ps, op, st⟩⟩) := by show _ = _; rw [HCV.out]; unfold newCF; rw [← HBV.out, HE.out]; rfl
      obtain ⟨hmo, _, _, _, _, _, _⟩ := ftlOk_parts hfo
      have hm64 : m ≤ 64 := by have := (mapOk_len hmo).2; rw [hlp] at this; exact this
      have hm1 : 1 ≤ m := by have := (mapOk_len hmo).1; rw [hlp] at this; exact this
      have HCK := hide (mapOk_chip hmo)
      clear hmo
      go_wp2_with fail
      refine (l10Copy_any z a n cap qs am m cm ps op st w2 HS2.out (by omega) HCK.out HP2.out (by omega) hm1 hm64).mono ?_
      rintro e w5 ⟨g, c', gm, cm', A, C, rfl, hG5, hP5, hne5, b5⟩
      have ho5 := own_of_parts hG5 hP5 hne5
      have hcap5 : ps.length ≤ cm' := pl_cap hP5
      obtain ⟨a', ha'⟩ : ∃ a' : Option Addr, a' = some ⟨g, 0, none⟩ := ⟨_, rfl⟩
      obtain ⟨am', ham'⟩ : ∃ am' : Option Addr, am' = some ⟨gm, 0, none⟩ := ⟨_, rfl⟩
      rw [← ha', ← ham'] at ho5
      rw [← ha', ← ham']
      clear ha' ham' hG5 hP5
      have HO5 := hide (cache_of_ftl ho5)
      have HC5 := hide hcap5
      have M1 := hide (block_on K1.out b5)
      have HB5 := hide (below_here HB2.out b5)
      have hs5 := b5.size
      clear ho5 b5 hcap5 c0 c1 c2 c3 c4
      obtain ⟨d0, d1, d2, d3, d4, d5, d6⟩ := seven_cells M1.out
      have f0 := four_frozen M1.out 0
      have f1 := four_frozen M1.out 1
      have f2 := four_frozen M1.out 2
      have f3 := four_frozen M1.out 3
      have f4 := four_frozen M1.out 4
      have f5 := four_frozen M1.out 5
      have f6 := four_frozen M1.out 6
      have HRS := hide (seven_set M1.out (.int .i64 rm) (.slice none 0 0) (.int .i64 z) (.slice a' n c') (.slice am' m cm') (.int .i64 op) (.int .i64 st))
      have HAS := hide (seven_aside (b := w.heap.size + 1) (Aside.refl (w.heap.size + 1) (w.heap.size + 1 + 1) w5) (Nat.le_refl _) (Nat.lt_succ_self _) (.int .i64 rm) (.slice none 0 0) (.int .i64 z) (.slice a' n c') (.slice am' m cm') (.int .i64 op) (.int .i64 st))
      have HBF := hide (HB5.out.trans (HAS.out.below (B := w.heap.size) (by omega) (by omega)))
      go_wp2_with fail
      refine bodyPost_ret (results_ct rfl rfl (run_loadVar_row _ _ _ _ _ _ _ HRS.out Tryz.underlying69 rfl (by kernel_rfl))) rfl ⟨_, by rw [HE.out]; rfl, none, 0, a', c', am', cm', ?_, ?_, HBF.out, by rw [HCE.out]; exact HC5.out⟩
      · rw [HCE.out]; unfold cvV; dsimp only; rw [hlq, hlp]; rfl
      · rw [HCE.out]; exact cache_stored HO5.out HAS.out (by omega) (by omega)

set_option maxHeartbeats 1600000 in
theorem implNewCache_any (z : Int) (a : Option Addr) (n cap : Nat) (qs : List Sq) (am : Option Addr) (m cm : Nat) (ps : List Pl) (op st rm : Int) (w : World) {lo hi lo' hi' : Nat} (h : Squares lo hi w a n qs) (hhi : hi ≤ w.heap.size) (hn : n ≤ 1048576) (hf : ∀ x ∈ qs, sqFits x) (hp : Places lo' hi' w am m ps) (hhi' : hi' ≤ w.heap.size) (hm : m ≤ 1048576) (hcl : m ≤ cm) (hT : Tab w) {aB aL aS aC aF : Addr} (E : Errs w aB aL aS aC aF) :
    Calls Tryz.prog 53 #[.agg #[.int .i64 z, .slice a n cap, .slice am m cm, .int .i64 op, .int .i64 st], .int .i64 rm] w fun e w' => ∃ v, e = .returned (.tuple #[v, .bool (newCB ⟨z, qs, ps, op, st⟩ rm)]) ∧ CacheAns w (newCF ⟨z, qs, ps, op, st⟩ rm) v w' := by
  obtain ⟨cv, hcv⟩ : ∃ cv, cv = newCF ⟨z, qs, ps, op, st⟩ rm := ⟨_, rfl⟩
  obtain ⟨bv, hbv⟩ : ∃ bv, bv = newCB ⟨z, qs, ps, op, st⟩ rm := ⟨_, rfl⟩
  have HCV := hide hcv
  have HBV := hide hbv
  rw [← hcv, ← hbv]
  clear hcv hbv
  obtain ⟨wA, hwA⟩ : ∃ wA, wA = (w.alloc (.cells #[.int .i64 z, .slice a n cap, .slice am m cm, .int .i64 op, .int .i64 st] 29)).alloc (.cells #[.int .i64 0, .slice none 0 0, .int .i64 0, .slice none 0 0, .slice none 0 0, .int .i64 0, .int .i64 0] 69) := ⟨_, rfl⟩
  have hzA : wA.heap.size = w.heap.size + 1 + 1 := by rw [hwA]; simp
  have HBA : Hid (Below w.heap.size w wA) := by rw [hwA]; exact ((Below.refl _ _).alloc (Nat.le_refl _) _).alloc (by simp) _
  have H0 : Hid (wA.heap[w.heap.size]? = some (.cells #[.int .i64 z, .slice a n cap, .slice am m cm, .int .i64 op, .int .i64 st] 29)) := by rw [hwA]; exact heap_old (heap_new _ _)
  have H1 : Hid (wA.heap[w.heap.size + 1]? = some (.cells #[.int .i64 0, .slice none 0 0, .int .i64 0, .slice none 0 0, .slice none 0 0, .int .i64 0, .int .i64 0] 69)) := by rw [hwA]; exact heap_at (by simp)
  have HSA := hide (h.later HBA.out hhi)
  have HPA := hide (hp.later HBA.out hhi')
  have HF := hide hf
  have hlq := h.1
  have hlp := hp.1
  have HTA := hide (hT.here HBA.out)
  have HEA := hide (E.here HBA.out)
  clear hT E
  clear h hp hf
  obtain ⟨c0, c1, c2, c3, c4⟩ := five_cells H0.out
  have HNOT : Hid (bv = false → ∀ W, W.heap[w.heap.size + 1]? = some (.cells #[.int .i64 0, .slice none 0 0, .int .i64 0, .slice none 0 0, .slice none 0 0, .int .i64 0, .int .i64 0] 69) → Below w.heap.size w W → CacheAns w cv (.agg #[.int .i64 0, .slice none 0 0, .int .i64 0, .slice none 0 0, .slice none 0 0, .int .i64 0, .int .i64 0]) W) := fun hb W hW hB => by
    have e : cv = zeroC := by rw [HCV.out]; unfold newCF; rw [← HBV.out, hb]; rfl
    rw [e]
    exact ⟨none, 0, none, 0, none, 0, rfl, cache_zero W _, hB, Nat.le_refl _⟩
  go_enter Tryz.func53, Tryz.ntmps53
  go_wp2_with fail
  rw [← hwA]
  clear hwA
  refine (isCacheRoom_any rm wA).mono ?_
  rintro e w1 ⟨rfl, rfl⟩
  cases hin : inB rm 1 16 with
  | false =>
    have HE : Hid (bv = false) := by show _ = _; rw [HBV.out]; unfold newCB ftlOkF; dsimp only; simp [hin]
    obtain ⟨d0, d1, d2, d3, d4, d5, d6⟩ := seven_cells H1.out
    have f0 := four_frozen H1.out 0
    have f1 := four_frozen H1.out 1
    have f2 := four_frozen H1.out 2
    have f3 := four_frozen H1.out 3
    have f4 := four_frozen H1.out 4
    have f5 := four_frozen H1.out 5
    have f6 := four_frozen H1.out 6
    have HRS := hide (seven_set H1.out (.int .i64 0) (.slice none 0 0) (.int .i64 0) (.slice none 0 0) (.slice none 0 0) (.int .i64 0) (.int .i64 0))
    have HAS := hide (seven_aside (b := w.heap.size + 1) (Aside.refl (w.heap.size + 1) (w.heap.size + 1 + 1) wA) (Nat.le_refl _) (Nat.lt_succ_self _) (.int .i64 0) (.slice none 0 0) (.int .i64 0) (.slice none 0 0) (.slice none 0 0) (.int .i64 0) (.int .i64 0))
    have HBF := hide (HBA.out.trans (HAS.out.below (B := w.heap.size) (by omega) (by omega)))
    go_wp2_with fail
    refine bodyPost_ret (results_ct rfl rfl (run_loadVar_row _ _ _ _ _ _ _ HRS.out Tryz.underlying69 rfl (by kernel_rfl))) rfl ⟨_, by rw [HE.out]; rfl, HNOT.out HE.out _ HRS.out HBF.out⟩
  | true =>
    go_wp2_with fail
    refine (implFtlOk_any z a n cap qs am m cm ps op st wA HSA.out (by omega) hn HF.out HPA.out (by omega) hm hcl HTA.out HEA.out).mono ?_
    rintro e w2 ⟨rfl, b2⟩
    have K0 := hide (block_on H0.out b2)
    have K1 := hide (block_on H1.out b2)
    have HB2 := hide (below_here HBA.out b2)
    have HS2 := hide (HSA.out.later b2 (by omega))
    have HP2 := hide (HPA.out.later b2 (by omega))
    have hs2 := b2.size
    clear b2 c0 c1 c2 c3 c4
    obtain ⟨c0, c1, c2, c3, c4⟩ := five_cells K0.out
    cases hfo : ftlOk z qs ps op st with
    | false =>
      have HE : Hid (bv = false) := by show _ = _; rw [HBV.out]; unfold newCB ftlOkF; dsimp only; simp [hfo]
      obtain ⟨d0, d1, d2, d3, d4, d5, d6⟩ := seven_cells K1.out
      have f0 := four_frozen K1.out 0
      have f1 := four_frozen K1.out 1
      have f2 := four_frozen K1.out 2
      have f3 := four_frozen K1.out 3
      have f4 := four_frozen K1.out 4
      have f5 := four_frozen K1.out 5
      have f6 := four_frozen K1.out 6
      have HRS := hide (seven_set K1.out (.int .i64 0) (.slice none 0 0) (.int .i64 0) (.slice none 0 0) (.slice none 0 0) (.int .i64 0) (.int .i64 0))
      have HAS := hide (seven_aside (b := w.heap.size + 1) (Aside.refl (w.heap.size + 1) (w.heap.size + 1 + 1) w2) (Nat.le_refl _) (Nat.lt_succ_self _) (.int .i64 0) (.slice none 0 0) (.int .i64 0) (.slice none 0 0) (.slice none 0 0) (.int .i64 0) (.int .i64 0))
      have HBF := hide (HB2.out.trans (HAS.out.below (B := w.heap.size) (by omega) (by omega)))
      go_wp2_with fail
      refine bodyPost_ret (results_ct rfl rfl (run_loadVar_row _ _ _ _ _ _ _ HRS.out Tryz.underlying69 rfl (by kernel_rfl))) rfl ⟨_, by rw [HE.out]; rfl, HNOT.out HE.out _ HRS.out HBF.out⟩
    | true =>
      have HE : Hid (bv = true) := by show _ = _; rw [HBV.out]; unfold newCB ftlOkF; dsimp only; rw [hfo, hin]; rfl
      have HCE : Hid (cv = ⟨rm, [], ⟨z, qs, ps, op, st⟩⟩) := by show _ = _; rw [HCV.out]; unfold newCF; rw [← HBV.out, HE.out]; rfl
      obtain ⟨hmo, _, _, _, _, _, _⟩ := ftlOk_parts hfo
      have hm64 : m ≤ 64 := by have := (mapOk_len hmo).2; rw [hlp] at this; exact this
      have hm1 : 1 ≤ m := by have := (mapOk_len hmo).1; rw [hlp] at this; exact this
      have HCK := hide (mapOk_chip hmo)
      clear hmo
      go_wp2_with fail
      refine (copyOfFtl_raw z a n cap qs am m cm ps op st w2 HS2.out (by omega) HCK.out HP2.out (by omega) hm1 hm64).mono ?_
      rintro e w5 ⟨v, rfl, a', c', am', cm', rfl, ho5, b5, hcap5⟩
      unfold fvV
      dsimp only
      rw [hlq, hlp]
      have HO5 := hide (cache_of_ftl ho5)
      have HC5 := hide hcap5
      have M1 := hide (block_on K1.out b5)
      have HB5 := hide (below_here HB2.out b5)
      have hs5 := b5.size
      clear ho5 b5 hcap5 c0 c1 c2 c3 c4
      obtain ⟨d0, d1, d2, d3, d4, d5, d6⟩ := seven_cells M1.out
      have f0 := four_frozen M1.out 0
      have f1 := four_frozen M1.out 1
      have f2 := four_frozen M1.out 2
      have f3 := four_frozen M1.out 3
      have f4 := four_frozen M1.out 4
      have f5 := four_frozen M1.out 5
      have f6 := four_frozen M1.out 6
      have HRS := hide (seven_set M1.out (.int .i64 rm) (.slice none 0 0) (.int .i64 z) (.slice a' n c') (.slice am' m cm') (.int .i64 op) (.int .i64 st))
      have HAS := hide (seven_aside (b := w.heap.size + 1) (Aside.refl (w.heap.size + 1) (w.heap.size + 1 + 1) w5) (Nat.le_refl _) (Nat.lt_succ_self _) (.int .i64 rm) (.slice none 0 0) (.int .i64 z) (.slice a' n c') (.slice am' m cm') (.int .i64 op) (.int .i64 st))
      have HBF := hide (HB5.out.trans (HAS.out.below (B := w.heap.size) (by omega) (by omega)))
      go_wp2_with fail
      refine bodyPost_ret (results_ct rfl rfl (run_loadVar_row _ _ _ _ _ _ _ HRS.out Tryz.underlying69 rfl (by kernel_rfl))) rfl ⟨_, by rw [HE.out]; rfl, none, 0, a', c', am', cm', ?_, ?_, HBF.out, by rw [HCE.out]; exact HC5.out⟩
      · rw [HCE.out]; unfold cvV; dsimp only; rw [hlq, hlp]; rfl
      · rw [HCE.out]; exact cache_stored HO5.out HAS.out (by omega) (by omega)
end Go.Proofs.YtfabojbkhicpmaaGreatDoor
end

