/- Several texts in one: Draw10d, EnteredW. -/
import Derived.Test.YtfabojbkhicpmaaGreatDoorEDraw10c
import Derived.Test.YtfabojbkhicpmaaGreatDoorEDraw9b
import Derived.Test.YtfabojbkhicpmaaGreatDoorEMountSpec2
import Derived.Test.YtfabojbkhicpmaaGreatDoorEChipCutS
import Derived.Test.YtfabojbkhicpmaaGreatDoorEChipAns
import Derived.Test.YtfabojbkhicpmaaGreatDoorEFtlImplI
import Derived.Test.YtfabojbkhicpmaaGreatDoorEFtlImplA
import Derived.Test.YtfabojbkhicpmaaGreatDoorEFtlSpecH
import Derived.Test.YtfabojbkhicpmaaGreatDoorEFtlMath
import Derived.Test.YtfabojbkhicpmaaGreatDoorELawBase
import Derived.Deep.RegionHeld3
section
namespace Go.Proofs.YtfabojbkhicpmaaGreatDoor
open Go.RowKit
set_option linter.unusedVariables false
set_option linter.unusedSimpArgs false
set_option maxRecDepth 20000
structure FtlIn (B : Nat) (w : World) (f : Fv) (a : Option Addr) (n c : Nat) (am : Option Addr) (m cm : Nat) : Prop where
 n13 : n <= 13
 fits : ∀ x ∈ f.qs, sqFits x
 sq : Squares B w.heap.size w a n f.qs
 pl : Places B w.heap.size w am m f.ps
 m200 : m <= 200
 mc : m <= cm
section
variable {B : Nat} {w w' : World} {f : Fv} {a : Option Addr} {n c : Nat} {am : Option Addr} {m cm : Nat}
theorem FtlIn.set (h : FtlIn B w f a n c am m cm) {l r B' : Nat} (hb : Aside l r w w') (hr : r <= B) (h1 : B' <= B) : FtlIn B' w' f a n c am m cm :=
 ⟨h.n13, h.fits, (h.sq.aside hb (.inr hr)).wideLo h1 hb.size, (h.pl.asideP hb (.inr hr)).wide2 h1 hb.size, h.m200, h.mc⟩
theorem FtlIn.later (h : FtlIn B w f a n c am m cm) (hb : Below w.heap.size w w') : FtlIn B w' f a n c am m cm :=
 ⟨h.n13, h.fits, (h.sq.later hb (Nat.le_refl _)).wideLo (Nat.le_refl _) hb.size, (h.pl.later hb (Nat.le_refl _)).wide2 (Nat.le_refl _) hb.size, h.m200, h.mc⟩
end
def GetOf (w : World) (e : Ending) (w' : World) : Prop := ∃ (f : Fv) (a : Option Addr) (n c : Nat) (am : Option Addr) (m cm : Nat) (x : Int), e = .returned (.tuple #[.agg #[.int .i64 f.z, .slice a n c, .slice am m cm, .int .i64 f.op, .int .i64 f.st], .int .i64 x]) ∧ FtlIn w.heap.size w' f a n c am m cm ∧ -1 <= x ∧ x <= 201 ∧ Below w.heap.size w w'
set_option maxHeartbeats 3200000 in
theorem drawGet_any (hd : JobDraws) (a : Option Addr) (n cap : Nat) (l : List UInt8) (w : World) {lo hi : Nat} (hB : Bytes lo hi w a n l) (hhi : hi <= w.heap.size) (hn : n <= 4096) :
  Calls Tryz.prog 18 #[.slice a n cap] w (GetOf w) := by
 obtain ⟨wA, hwA⟩ : ∃ wA, wA = w.alloc zF := ⟨_, rfl⟩
 have hzA : wA.heap.size = w.heap.size + 1 := by rw [hwA]; simp
 have HBA : Hid (Below w.heap.size w wA) := by rw [hwA]; exact (Below.refl _ _).alloc (Nat.le_refl _) _
 have H1 : Hid (wA.heap[w.heap.size]? = some zF) := by rw [hwA]; exact heap_new _ _
 have HB := hide (hB.later HBA.out hhi)
 clear hB
 go_enter Tryz.func18, Tryz.ntmps18
 go_wp2_with fail
 rw [<- hwA]
 clear hwA
 refine (l1New_any a n cap l wA HB.out hn).mono ?_
 rintro e w1 ⟨p, rfl, hp, c1, b1⟩
 have h1 := hide (block_on H1.out b1)
 have HB1 := hide (below_here HBA.out b1)
 have hs1 := b1.size
 have hpl := c1.lt
 clear b1 H1 HBA HB
 go_wp2_with fail
 refine (l10DrawAny_any hd p w1 c1).mono ?_
 rintro e w2 ⟨z, qs, ps, op, st, a2, n2, c2, am, m, cm, rfl, hn2, hf, hsq, hpp, hm2, hmc, hcu, has⟩
 have hs2 := has.size
 have h2 := hide ((has.block w.heap.size (by omega) (.inl (by omega))).trans h1.out)
 have HB2 := hide (HB1.out.trans (has.below (B := w.heap.size) (by omega) (by omega)))
 have HD2 : Hid (FtlIn (w1.heap.size + 1) w2 ⟨z, qs, ps, op, st⟩ a2 n2 c2 am m cm) := ⟨hn2, hf, hsq, hpp, hm2, hmc⟩
 obtain ⟨wB, hwB⟩ : ∃ wB, wB = w2.alloc (.cells #[.int .i64 z, .slice a2 n2 c2, .slice am m cm, .int .i64 op, .int .i64 st] 29) := ⟨_, rfl⟩
 have hzB : wB.heap.size = w2.heap.size + 1 := by rw [hwB]; simp
 have HDB : Hid (FtlIn (w1.heap.size + 1) wB ⟨z, qs, ps, op, st⟩ a2 n2 c2 am m cm) := by rw [hwB]; exact HD2.out.later ((Below.refl _ _).alloc (Nat.le_refl _) _)
 have HKB : Hid (wB.heap[w2.heap.size]? = some (.cells #[.int .i64 z, .slice a2 n2 c2, .slice am m cm, .int .i64 op, .int .i64 st] 29)) := by rw [hwB]; exact heap_new _ _
 have HRB : Hid (wB.heap[w.heap.size]? = some zF) := by rw [hwB]; exact heap_old h2.out
 have HCB : Hid (Cur wB p) := by rw [hwB]; exact hcu.alloc _
 have HBB : Hid (Below w.heap.size w wB) := by rw [hwB]; exact HB2.out.alloc (by omega) _
 clear has hcu hsq hpp h1 h2 HB1 HB2 c1 hf HD2
 obtain ⟨k0, k1, k2, k3, k4⟩ := five_cells HKB.out
 go_upto_region 3 with fail
 rw [<- hwB]
 clear hwB
 have HCd : Hid (Cur wB.drew p) := HCB.out
 have HSd : Hid (wB.drew.cell? ⟨w2.heap.size, 0, none⟩ = some (.int .i64 z) ∧ wB.drew.cell? ⟨w2.heap.size, 1, none⟩ = some (.slice a2 n2 c2) ∧ wB.drew.cell? ⟨w2.heap.size, 2, none⟩ = some (.slice am m cm) ∧ wB.drew.cell? ⟨w2.heap.size, 3, none⟩ = some (.int .i64 op) ∧ wB.drew.cell? ⟨w2.heap.size, 4, none⟩ = some (.int .i64 st)) := five_cells HKB.out
 clear k0 k1 k2 k3 k4
 have hwr : IntKind.i64.wrap ((m : Int) + 1) = (m : Int) + 1 := by rw [IntKind.wrap_i64]; omega
 have cF : Hid (Calls Tryz.prog 81 #[.pointer (some ⟨p, 0, none⟩), .int .i64 (-1), .int .i64 (IntKind.i64.wrap ((m : Int) + 1))] wB.drew fun e w' => ∃ x : Int, e = .returned (.int .i64 x) ∧ -1 <= x ∧ x <= (m : Int) + 1 ∧ Cur w' p ∧ Aside p (p + 1) wB.drew w') := by
  rw [hwr]
  exact l1From_any p (-1) ((m : Int) + 1) _ (by exact HCd.out) (by omega) (by omega) (by omega) (by omega)
 clear hwr
 go_region_held3 (fun w' => w'.cell? ⟨w2.heap.size, 0, none⟩ = some (.int .i64 z) ∧ w'.cell? ⟨w2.heap.size, 1, none⟩ = some (.slice a2 n2 c2) ∧ w'.cell? ⟨w2.heap.size, 2, none⟩ = some (.slice am m cm) ∧ w'.cell? ⟨w2.heap.size, 3, none⟩ = some (.int .i64 op) ∧ w'.cell? ⟨w2.heap.size, 4, none⟩ = some (.int .i64 st))
  (with_reducible (first | exact HSd.out | exact HK9.out | exact HKS.out | fail))
  (first | (go_at_call 81; refine cF.out.mono ?_; rintro e w8 ⟨x, rfl, x0, x1, hc8, s8⟩; have s9 : Aside p (p + 1) wB w8 := ⟨s8.os, s8.tape, s8.output, s8.size, s8.block⟩; have HK8 := hide (aside_block s9 HKB.out (by omega)); have HK9 := hide (five_cells HK8.out); have HR8 := hide ((s9.block w.heap.size (by omega) (.inl (by omega))).trans HRB.out); have hs8 := s9.size; have HD8 := hide (HDB.out.set s9 (by omega) (show w.heap.size + 1 <= w1.heap.size + 1 by omega)); have HB8 := hide (HBB.out.trans (s9.below (B := w.heap.size) (by omega) (by omega))); clear s8 s9 hc8; obtain ⟨z0, z1, z2, z3, z4⟩ := five_cells HR8.out; have f0 := four_frozen HR8.out 0; have f1 := four_frozen HR8.out 1; have f2 := four_frozen HR8.out 2; have f3 := four_frozen HR8.out 3; have f4 := four_frozen HR8.out 4; have HS9 := hide (five_set HR8.out (.int .i64 z) (.slice a2 n2 c2) (.slice am m cm) (.int .i64 op) (.int .i64 st)); have HA9 := hide (five_aside (b := w.heap.size) (Aside.refl w.heap.size (w.heap.size + 1) w8) (Nat.le_refl _) (Nat.lt_succ_self _) (.int .i64 z) (.slice a2 n2 c2) (.slice am m cm) (.int .i64 op) (.int .i64 st)); have HKS := hide (five_cells (aside_block HA9.out HK8.out (by omega)))))
 all_goals
  go_wp2_with fail
  refine bodyPost_ret (results_ct rfl rfl (run_loadVar_row _ _ _ _ _ _ _ HS9.out Tryz.underlying29 rfl (by kernel_rfl))) rfl ⟨⟨z, qs, ps, op, st⟩, a2, n2, c2, am, m, cm, x, rfl, HD8.out.set HA9.out (Nat.le_refl _) (by omega), x0, by omega, HB8.out.trans (HA9.out.below (Nat.le_refl _) (by omega))⟩
theorem four_asideP {lo hi b : Nat} {a w : World} (h : Aside lo hi a w) (h1 : lo <= b) (h2 : b < hi) (v0 v1 v2 v3 : Value) : Aside lo hi a ((((w.setCell ⟨b, 0, none⟩ v0).setCell ⟨b, 1, none⟩ v1).setCell ⟨b, 2, none⟩ v2).setCell ⟨b, 3, none⟩ v3) := (((h.setCell (p := ⟨b, 0, none⟩) h1 h2 v0).setCell (p := ⟨b, 1, none⟩) h1 h2 v1).setCell (p := ⟨b, 2, none⟩) h1 h2 v2).setCell (p := ⟨b, 3, none⟩) h1 h2 v3
theorem pageSet_other {w : World} {k b : Nat} {o : Obj} (h : w.heap[k]? = some o) (hne : b ≠ k) (v0 v1 v2 v3 : Value) : ((((w.setCell ⟨b, 0, none⟩ v0).setCell ⟨b, 1, none⟩ v1).setCell ⟨b, 2, none⟩ v2).setCell ⟨b, 3, none⟩ v3).heap[k]? = some o := by
 rw [Go.Deep.blk_setCell_other _ _ _ _ (by exact fun e => hne (by simpa using e.symm)), Go.Deep.blk_setCell_other _ _ _ _ (by exact fun e => hne (by simpa using e.symm)), Go.Deep.blk_setCell_other _ _ _ _ (by exact fun e => hne (by simpa using e.symm)), Go.Deep.blk_setCell_other _ _ _ _ (by exact fun e => hne (by simpa using e.symm))]
 exact h
abbrev zPg : Obj := .cells #[.int .i64 0, .int .i64 0, .int .i64 0, .string ⟨#[]⟩] 31
def PlanOf (w : World) (e : Ending) (w' : World) : Prop := ∃ (f : Fv) (a : Option Addr) (n c : Nat) (am : Option Addr) (m cm : Nat) (kd at_ sp : Int) (tx : ByteArray), e = .returned (.tuple #[.agg #[.int .i64 f.z, .slice a n c, .slice am m cm, .int .i64 f.op, .int .i64 f.st], .agg #[.int .i64 kd, .int .i64 at_, .int .i64 sp, .string tx]]) ∧ FtlIn w.heap.size w' f a n c am m cm ∧ Below w.heap.size w w'
theorem planOf_end {w w8 : World} {z op st : Int} {qs : List Sq} {ps : List Pl} {a am : Option Addr} {n c m cm : Nat} {kd at_ sp : Int} {tx : ByteArray} (hR : w8.heap[w.heap.size]? = some zF) (hP : w8.heap[w.heap.size + 1]? = some zPg) (hD : FtlIn (w.heap.size + 2) w8 ⟨z, qs, ps, op, st⟩ a n c am m cm) (hB : Below w.heap.size w w8) {w5 w9 : World}
  (h5 : w5 = ((((w8.setCell ⟨w.heap.size, 0, none⟩ (.int .i64 z)).setCell ⟨w.heap.size, 1, none⟩ (.slice a n c)).setCell ⟨w.heap.size, 2, none⟩ (.slice am m cm)).setCell ⟨w.heap.size, 3, none⟩ (.int .i64 op)).setCell ⟨w.heap.size, 4, none⟩ (.int .i64 st))
  (h9 : w9 = (((w5.setCell ⟨w.heap.size + 1, 0, none⟩ (.int .i64 kd)).setCell ⟨w.heap.size + 1, 1, none⟩ (.int .i64 at_)).setCell ⟨w.heap.size + 1, 2, none⟩ (.int .i64 sp)).setCell ⟨w.heap.size + 1, 3, none⟩ (.string tx)) :
  w5.heap[w.heap.size + 1]? = some zPg ∧ w9.heap[w.heap.size]? = some (.cells #[.int .i64 z, .slice a n c, .slice am m cm, .int .i64 op, .int .i64 st] 29) ∧ w9.heap[w.heap.size + 1]? = some (.cells #[.int .i64 kd, .int .i64 at_, .int .i64 sp, .string tx] 31) ∧
   PlanOf w (.returned (.tuple #[.agg #[.int .i64 z, .slice a n c, .slice am m cm, .int .i64 op, .int .i64 st], .agg #[.int .i64 kd, .int .i64 at_, .int .i64 sp, .string tx]])) w9 := by
 have hlt : w.heap.size < w8.heap.size := (Array.getElem?_eq_some_iff.1 hR).1
 have hlt2 : w.heap.size + 1 < w8.heap.size := (Array.getElem?_eq_some_iff.1 hP).1
 have s5 : Aside w.heap.size (w.heap.size + 1) w8 w5 := by rw [h5]; exact five_aside (b := w.heap.size) (Aside.refl _ _ w8) (Nat.le_refl _) (Nat.lt_succ_self _) _ _ _ _ _
 have r5 : w5.heap[w.heap.size]? = some (.cells #[.int .i64 z, .slice a n c, .slice am m cm, .int .i64 op, .int .i64 st] 29) := by rw [h5]; exact five_set hR _ _ _ _ _
 have p5 : w5.heap[w.heap.size + 1]? = some zPg := aside_block s5 hP (by omega)
 have s9 : Aside (w.heap.size + 1) (w.heap.size + 2) w5 w9 := by rw [h9]; exact four_asideP (b := w.heap.size + 1) (Aside.refl _ _ w5) (Nat.le_refl _) (Nat.lt_succ_self _) _ _ _ _
 have p9 : w9.heap[w.heap.size + 1]? = some (.cells #[.int .i64 kd, .int .i64 at_, .int .i64 sp, .string tx] 31) := by rw [h9]; exact four_set p5 _ _ _ _
 have r9 : w9.heap[w.heap.size]? = some (.cells #[.int .i64 z, .slice a n c, .slice am m cm, .int .i64 op, .int .i64 st] 29) := aside_block s9 r5 (by omega)
 have hs5 := s5.size
 exact ⟨p5, r9, p9, ⟨z, qs, ps, op, st⟩, a, n, c, am, m, cm, kd, at_, sp, tx, rfl, ((hD.set s5 (by omega) (Nat.le_refl _)).set s9 (Nat.le_refl _) (by omega)), (hB.trans (s5.below (B := w.heap.size) (Nat.le_refl _) (by omega))).trans (s9.below (B := w.heap.size) (by omega) (by omega))⟩
set_option maxHeartbeats 3200000 in
theorem drawPlan_any (hd : JobDraws) (a : Option Addr) (n cap : Nat) (l : List UInt8) (w : World) {lo hi : Nat} (hB : Bytes lo hi w a n l) (hhi : hi <= w.heap.size) (hn : n <= 4096) :
  Calls Tryz.prog 72 #[.slice a n cap] w (PlanOf w) := by
 obtain ⟨wA, hwA⟩ : ∃ wA, wA = (w.alloc zF).alloc zPg := ⟨_, rfl⟩
 have hzA : wA.heap.size = w.heap.size + 1 + 1 := by rw [hwA]; simp
 have HBA : Hid (Below w.heap.size w wA) := by rw [hwA]; exact ((Below.refl _ _).alloc (Nat.le_refl _) _).alloc (by simp) _
 have H1 : Hid (wA.heap[w.heap.size]? = some zF) := by rw [hwA]; exact heap_old (heap_new _ _)
 have H2 : Hid (wA.heap[w.heap.size + 1]? = some zPg) := by rw [hwA]; exact heap_at (by simp)
 have HB := hide (hB.later HBA.out hhi)
 clear hB
 go_enter Tryz.func72, Tryz.ntmps72
 go_wp2_with fail
 rw [<- hwA]
 clear hwA
 refine (l1New_any a n cap l wA HB.out hn).mono ?_
 rintro e w1 ⟨p, rfl, hp, c1, b1⟩
 have h1 := hide (block_on H1.out b1)
 have h1' := hide (block_on H2.out b1)
 have HB1 := hide (below_here HBA.out b1)
 have hs1 := b1.size
 have hpl := c1.lt
 clear b1 H1 H2 HBA HB
 go_wp2_with fail
 refine (l10DrawAny_any hd p w1 c1).mono ?_
 rintro e w2 ⟨z, qs, ps, op, st, a2, n2, c2, am, m, cm, rfl, hn2, hf, hsq, hpp, hm2, hmc, hcu, has⟩
 have hs2 := has.size
 have h2 := hide (aside_block has h1.out (by omega))
 have h2' := hide (aside_block has h1'.out (by omega))
 have HB2 := hide (HB1.out.trans (has.below (B := w.heap.size) (by omega) (by omega)))
 have HD2 : Hid (FtlIn (w1.heap.size + 1) w2 ⟨z, qs, ps, op, st⟩ a2 n2 c2 am m cm) := ⟨hn2, hf, hsq, hpp, hm2, hmc⟩
 obtain ⟨wB, hwB⟩ : ∃ wB, wB = w2.alloc (.cells #[.int .i64 z, .slice a2 n2 c2, .slice am m cm, .int .i64 op, .int .i64 st] 29) := ⟨_, rfl⟩
 have hzB : wB.heap.size = w2.heap.size + 1 := by rw [hwB]; simp
 have HDB : Hid (FtlIn (w1.heap.size + 1) wB ⟨z, qs, ps, op, st⟩ a2 n2 c2 am m cm) := by rw [hwB]; exact HD2.out.later ((Below.refl _ _).alloc (Nat.le_refl _) _)
 have HKB : Hid (wB.heap[w2.heap.size]? = some (.cells #[.int .i64 z, .slice a2 n2 c2, .slice am m cm, .int .i64 op, .int .i64 st] 29)) := by rw [hwB]; exact heap_new _ _
 have HRB : Hid (wB.heap[w.heap.size]? = some zF) := by rw [hwB]; exact heap_old h2.out
 have HPB : Hid (wB.heap[w.heap.size + 1]? = some zPg) := by rw [hwB]; exact heap_old h2'.out
 have HCB : Hid (Cur wB p) := by rw [hwB]; exact hcu.alloc _
 have HBB : Hid (Below w.heap.size w wB) := by rw [hwB]; exact HB2.out.alloc (by omega) _
 clear has hcu hsq hpp h1 h2 h1' h2' HB1 HB2 c1 hf HD2
 go_upto_region 3 with fail
 rw [<- hwB]
 clear hwB
 go_wp2_with fail
 refine (l1Once_any p 12 wB HCB.out (by omega)).mono ?_
 rintro e wC ⟨b3, rfl, c3, s3⟩
 have hs3 := s3.size
 have HKC := hide (aside_block s3 HKB.out (by omega))
 have HRC := hide (aside_block s3 HRB.out (by omega))
 have HPC := hide (aside_block s3 HPB.out (by omega))
 have HDC := hide (HDB.out.set s3 (by omega) (Nat.le_refl _))
 have HBC := hide (HBB.out.trans (s3.below (B := w.heap.size) (by omega) (by omega)))
 have HCd : Hid (Cur wC.drew p) := c3
 clear s3 c3 HKB HRB HPB HDB HBB HCB
 have HSd : Hid (wC.drew.cell? ⟨w2.heap.size, 0, none⟩ = some (.int .i64 z) ∧ wC.drew.cell? ⟨w2.heap.size, 1, none⟩ = some (.slice a2 n2 c2) ∧ wC.drew.cell? ⟨w2.heap.size, 2, none⟩ = some (.slice am m cm) ∧ wC.drew.cell? ⟨w2.heap.size, 3, none⟩ = some (.int .i64 op) ∧ wC.drew.cell? ⟨w2.heap.size, 4, none⟩ = some (.int .i64 st)) := five_cells HKC.out
 cases b3 with
 | true =>
  go_upto_region 4 with fail
  go_region_held3 (fun w' => w'.cell? ⟨w2.heap.size, 0, none⟩ = some (.int .i64 z) ∧ w'.cell? ⟨w2.heap.size, 1, none⟩ = some (.slice a2 n2 c2) ∧ w'.cell? ⟨w2.heap.size, 2, none⟩ = some (.slice am m cm) ∧ w'.cell? ⟨w2.heap.size, 3, none⟩ = some (.int .i64 op) ∧ w'.cell? ⟨w2.heap.size, 4, none⟩ = some (.int .i64 st))
   (with_reducible (first | exact HSd.out | exact HK9.out | exact HK5.out | exact HKS.out | fail))
   (first | (go_at_call 154; refine (l7DrawAny_any p _ (by exact HCd.out)).mono ?_; rintro e w8 ⟨kd, at_, sp, tx, rfl, hc8, s8⟩; have s9 : Aside p (p + 1) wC w8 := ⟨s8.os, s8.tape, s8.output, s8.size, s8.block⟩; have HK8 := hide (aside_block s9 HKC.out (by omega)); have HK9 := hide (five_cells HK8.out); have HR8 := hide (aside_block s9 HRC.out (by omega)); have HP8 := hide (aside_block s9 HPC.out (by omega)); have hs8 := s9.size; have HD8 := hide (HDC.out.set s9 (by omega) (show w.heap.size + 2 <= w1.heap.size + 1 by omega)); have HB8 := hide (HBC.out.trans (s9.below (B := w.heap.size) (by omega) (by omega))); clear s8 s9 hc8; obtain ⟨z0, z1, z2, z3, z4⟩ := five_cells HR8.out; have f0 := four_frozen HR8.out 0; have f1 := four_frozen HR8.out 1; have f2 := four_frozen HR8.out 2; have f3 := four_frozen HR8.out 3; have f4 := four_frozen HR8.out 4; have HEN := hide (planOf_end (kd := kd) (at_ := at_) (sp := sp) (tx := tx) HR8.out HP8.out HD8.out HB8.out rfl rfl); have HA5 := hide (five_aside (b := w.heap.size) (Aside.refl w.heap.size (w.heap.size + 1) w8) (Nat.le_refl _) (Nat.lt_succ_self _) (.int .i64 z) (.slice a2 n2 c2) (.slice am m cm) (.int .i64 op) (.int .i64 st)); have HK5 := hide (five_cells (aside_block HA5.out HK8.out (by omega))); have HK6 := hide (aside_block HA5.out HK8.out (by omega)); have HKS := hide (five_cells (pageSet_other HK6.out (show w.heap.size + 1 ≠ w2.heap.size by omega) (.int .i64 kd) (.int .i64 at_) (.int .i64 sp) (.string tx))); obtain ⟨y0, y1, y2, y3⟩ := four_cells HEN.out.1; have g0 := four_frozen HEN.out.1 0; have g1 := four_frozen HEN.out.1 1; have g2 := four_frozen HEN.out.1 2; have g3 := four_frozen HEN.out.1 3))
  all_goals
   go_wp2_with fail
   exact bodyPost_ret (results_cc rfl rfl rfl (run_loadVar_row _ _ _ _ _ _ _ HEN.out.2.1 Tryz.underlying29 rfl (by kernel_rfl)) (run_loadVar_row _ _ _ _ _ _ _ HEN.out.2.2.1 Tryz.underlying31 rfl (by kernel_rfl))) rfl HEN.out.2.2.2
 | false =>
  have cM : ∀ w9, Hid (Calls Tryz.prog 103 #[.int .i64 1, .int .i64 (m : Int)] w9 fun e w' => e = .returned (.int .i64 (if (m : Int) < 1 then 1 else (m : Int))) ∧ w9 = w') := fun w9 => l1Max_any _ _ w9
  have hMx : (if (m : Int) < 1 then 1 else (m : Int)) <= 4294967296 := by split <;> omega
  generalize (if (m : Int) < 1 then 1 else (m : Int)) = mx at cM hMx
  go_upto_region 5 with fail
  go_region_held3 (fun w' => w'.cell? ⟨w2.heap.size, 0, none⟩ = some (.int .i64 z) ∧ w'.cell? ⟨w2.heap.size, 1, none⟩ = some (.slice a2 n2 c2) ∧ w'.cell? ⟨w2.heap.size, 2, none⟩ = some (.slice am m cm) ∧ w'.cell? ⟨w2.heap.size, 3, none⟩ = some (.int .i64 op) ∧ w'.cell? ⟨w2.heap.size, 4, none⟩ = some (.int .i64 st))
   (with_reducible (first | exact HSd.out | exact HK9.out | exact HK5.out | exact HKS.out | fail))
   (first
    | (go_at_call 103; refine ((cM _).out).mono ?_; rintro e w7 ⟨rfl, rfl⟩)
    | (go_at_call 155; refine (l10DrawPage_any p mx _ (by exact HCd.out) hMx).mono ?_; rintro e w8 ⟨kd, at_, sp, tx, rfl, hc8, s8⟩; have s9 : Aside p (p + 1) wC w8 := ⟨s8.os, s8.tape, s8.output, s8.size, s8.block⟩; have HK8 := hide (aside_block s9 HKC.out (by omega)); have HK9 := hide (five_cells HK8.out); have HR8 := hide (aside_block s9 HRC.out (by omega)); have HP8 := hide (aside_block s9 HPC.out (by omega)); have hs8 := s9.size; have HD8 := hide (HDC.out.set s9 (by omega) (show w.heap.size + 2 <= w1.heap.size + 1 by omega)); have HB8 := hide (HBC.out.trans (s9.below (B := w.heap.size) (by omega) (by omega))); clear s8 s9 hc8; obtain ⟨z0, z1, z2, z3, z4⟩ := five_cells HR8.out; have f0 := four_frozen HR8.out 0; have f1 := four_frozen HR8.out 1; have f2 := four_frozen HR8.out 2; have f3 := four_frozen HR8.out 3; have f4 := four_frozen HR8.out 4; have HEN := hide (planOf_end (kd := kd) (at_ := at_) (sp := sp) (tx := tx) HR8.out HP8.out HD8.out HB8.out rfl rfl); have HA5 := hide (five_aside (b := w.heap.size) (Aside.refl w.heap.size (w.heap.size + 1) w8) (Nat.le_refl _) (Nat.lt_succ_self _) (.int .i64 z) (.slice a2 n2 c2) (.slice am m cm) (.int .i64 op) (.int .i64 st)); have HK5 := hide (five_cells (aside_block HA5.out HK8.out (by omega))); have HK6 := hide (aside_block HA5.out HK8.out (by omega)); have HKS := hide (five_cells (pageSet_other HK6.out (show w.heap.size + 1 ≠ w2.heap.size by omega) (.int .i64 kd) (.int .i64 at_) (.int .i64 sp) (.string tx))); obtain ⟨y0, y1, y2, y3⟩ := four_cells HEN.out.1; have g0 := four_frozen HEN.out.1 0; have g1 := four_frozen HEN.out.1 1; have g2 := four_frozen HEN.out.1 2; have g3 := four_frozen HEN.out.1 3))
  all_goals
   go_wp2_with fail
   exact bodyPost_ret (results_cc rfl rfl rfl (run_loadVar_row _ _ _ _ _ _ _ HEN.out.2.1 Tryz.underlying29 rfl (by kernel_rfl)) (run_loadVar_row _ _ _ _ _ _ _ HEN.out.2.2.1 Tryz.underlying31 rfl (by kernel_rfl))) rfl HEN.out.2.2.2
set_option maxHeartbeats 1600000 in
theorem drawEnter_any (hd : JobDraws) (a : Option Addr) (n cap : Nat) (l : List UInt8) (w : World) {lo hi : Nat} (hB : Bytes lo hi w a n l) (hhi : hi <= w.heap.size) (hn : n <= 4096) :
  Calls Tryz.prog 16 #[.slice a n cap] w (PlanOf w) := by
 obtain ⟨wA, hwA⟩ : ∃ wA, wA = (w.alloc zF).alloc zPg := ⟨_, rfl⟩
 have hzA : wA.heap.size = w.heap.size + 1 + 1 := by rw [hwA]; simp
 have HBA : Hid (Below w.heap.size w wA) := by rw [hwA]; exact ((Below.refl _ _).alloc (Nat.le_refl _) _).alloc (by simp) _
 have H1 : Hid (wA.heap[w.heap.size]? = some zF) := by rw [hwA]; exact heap_old (heap_new _ _)
 have H2 : Hid (wA.heap[w.heap.size + 1]? = some zPg) := by rw [hwA]; exact heap_at (by simp)
 have HB := hide (hB.later HBA.out hhi)
 clear hB
 go_enter Tryz.func16, Tryz.ntmps16
 go_wp2_with fail
 rw [<- hwA]
 clear hwA
 refine (drawPlan_any hd a n cap l wA HB.out (by omega) hn).mono ?_
 rintro e w8 ⟨⟨z, qs, ps, op, st⟩, a2, n2, c2, am, m, cm, kd, at_, sp, tx, rfl, hD, b8⟩
 dsimp only
 have HR8 := hide (block_on H1.out b8)
 have HP8 := hide (block_on H2.out b8)
 have HB8 := hide (below_here HBA.out b8)
 have HD8 : Hid (FtlIn (w.heap.size + 2) w8 ⟨z, qs, ps, op, st⟩ a2 n2 c2 am m cm) := by rw [show w.heap.size + 2 = wA.heap.size by omega]; exact hD
 clear hD b8 H1 H2 HBA HB
 obtain ⟨z0, z1, z2, z3, z4⟩ := five_cells HR8.out
 have f0 := four_frozen HR8.out 0
 have f1 := four_frozen HR8.out 1
 have f2 := four_frozen HR8.out 2
 have f3 := four_frozen HR8.out 3
 have f4 := four_frozen HR8.out 4
 have HEN := hide (planOf_end (kd := kd) (at_ := at_) (sp := sp) (tx := tx) HR8.out HP8.out HD8.out HB8.out rfl rfl)
 obtain ⟨y0, y1, y2, y3⟩ := four_cells HEN.out.1
 have g0 := four_frozen HEN.out.1 0
 have g1 := four_frozen HEN.out.1 1
 have g2 := four_frozen HEN.out.1 2
 have g3 := four_frozen HEN.out.1 3
 go_wp2_with fail
 exact bodyPost_ret (results_cc rfl rfl rfl (run_loadVar_row _ _ _ _ _ _ _ HEN.out.2.1 Tryz.underlying29 rfl (by kernel_rfl)) (run_loadVar_row _ _ _ _ _ _ _ HEN.out.2.2.1 Tryz.underlying31 rfl (by kernel_rfl))) rfl HEN.out.2.2.2
end Go.Proofs.YtfabojbkhicpmaaGreatDoor
end

section
namespace Go.Proofs.YtfabojbkhicpmaaGreatDoor
open Go.RowKit
set_option linter.unusedVariables false
set_option linter.unusedSimpArgs false
set_option maxRecDepth 20000
theorem cell_ltE {w : World} {b o : Nat} {v : Value} (h : w.cell? ⟨b, o, none⟩ = some v) : b < w.heap.size := by
 rcases Nat.lt_or_ge b w.heap.size with hc | hc
 ·exact hc
 ·unfold World.cell? at h
  have : w.heap[b]? = none := Array.getElem?_eq_none_iff.2 (by omega)
  simp [this] at h
structure FSt (b : Nat) (f : Fv) (a : Option Addr) (n c : Nat) (am : Option Addr) (m cm : Nat) (w : World) : Prop where
 k : w.heap[b]? = some (.cells #[.int .i64 f.z, .slice a n c, .slice am m cm, .int .i64 f.op, .int .i64 f.st] 29)
 n1 : n <= 1048576
 fits : ∀ y ∈ f.qs, sqFits y
 sq : Squares 0 w.heap.size w a n f.qs
 pl : Places 0 w.heap.size w am m f.ps
 m1 : m <= 1048576
 mc : m <= cm
section
variable {b : Nat} {f : Fv} {a : Option Addr} {n c : Nat} {am : Option Addr} {m cm : Nat} {w w' : World}
theorem FSt.on (h : FSt b f a n c am m cm w) (hb : Below w.heap.size w w') : FSt b f a n c am m cm w' :=
 ⟨block_on h.k hb, h.n1, h.fits, (h.sq.later hb (Nat.le_refl _)).wideLo (Nat.le_refl _) hb.size, (h.pl.later hb (Nat.le_refl _)).wide2 (Nat.le_refl _) hb.size, h.m1, h.mc⟩
theorem fst_in {B : Nat} (h : FtlIn B w f a n c am m cm) (hb : Below w.heap.size w w') (hk : w'.heap[b]? = some (.cells #[.int .i64 f.z, .slice a n c, .slice am m cm, .int .i64 f.op, .int .i64 f.st] 29)) : FSt b f a n c am m cm w' :=
 ⟨hk, by have := h.n13; omega, h.fits, (h.sq.later hb (Nat.le_refl _)).wideLo (Nat.zero_le _) hb.size, (h.pl.later hb (Nat.le_refl _)).wide2 (Nat.zero_le _) hb.size, by have := h.m200; omega, h.mc⟩
theorem fst_own {lo hi : Nat} (h : FtlOwn lo hi w a am f.qs f.ps) (hf : ∀ y ∈ f.qs, sqFits y) (hq : f.qs.length <= 1048576) (hp : f.ps.length <= 1048576) (hc : f.ps.length <= cm) (hb : Below w.heap.size w w') (hk : w'.heap[b]? = some (.cells #[.int .i64 f.z, .slice a f.qs.length c, .slice am f.ps.length cm, .int .i64 f.op, .int .i64 f.st] 29)) : FSt b f a f.qs.length c am f.ps.length cm w' :=
 ⟨hk, hq, hf, (h.squares.later hb h.1).wideLo (Nat.zero_le _) (Nat.le_trans h.1 hb.size), (h.places.later hb h.1).wide2 (Nat.zero_le _) (Nat.le_trans h.1 hb.size), hp, hc⟩
end
theorem zero_squares (w : World) : Squares 0 w.heap.size w none 0 [] := ⟨rfl, fun _ => none, fun _ => 0, ⟨Nat.le_refl _, fun h => absurd h (by omega)⟩, fun i hi => absurd hi (by omega)⟩
theorem zero_places (w : World) : Places 0 w.heap.size w none 0 [] := ⟨rfl, ⟨Nat.le_refl _, fun h => absurd h (by omega)⟩⟩
set_option maxHeartbeats 8000000 in
set_option maxRecDepth 100000 in
theorem fnEntered_any (hd : JobDraws) (a0 : Option Addr) (len0 cap0 : Nat) (l : List UInt8) (w : World) (hA : Bytes 0 w.heap.size w a0 len0 l) (hlen : len0 <= 9223372036854775807) (hT : Tab w) {aB aL aS aC aF aN : Addr} (E : Errs w aB aL aS aC aF) (hN : w.cell? ⟨1, 0, none⟩ = some (noRoomV aN)) :
  Calls Tryz.prog 3 #[.slice a0 len0 cap0] w fun e w' => e = .returned (.bool true) ∧ Below w.heap.size w w' := by
 by_cases hbig : 4096 < len0
 case pos =>
  have hb' : decide (4096 < len0) = true := by simpa using hbig
  go_enter Tryz.func3, Tryz.ntmps3
  go_wp2_with fail
  refine (big_any a0 len0 cap0 w hlen).mono ?_
  rintro e w1 ⟨rfl, rfl⟩
  go_wp2_with fail
  go_ret
  exact ⟨rfl, Below.refl _ _⟩
 have hb' : decide (4096 < len0) = false := by simpa using hbig
 have hn4 : len0 <= 4096 := by omega
 clear hbig
 have HA := hide hA
 have HT := hide hT
 have HE := hide E
 have hgN : 1 < w.heap.size := cell_ltE hN
 have HN0 : ∀ w9, Hid (Below w.heap.size w w9 -> w9.cell? ⟨1, 0, none⟩ = some (noRoomV aN)) := fun w9 h9 => (h9.cell (p := ⟨1, 0, none⟩) hgN).trans hN
 have HJD := hide hd
 clear hA hT E hN hgN hd
 go_enter Tryz.func3, Tryz.ntmps3
 go_wp2_with fail
 refine (big_any a0 len0 cap0 w hlen).mono ?_
 rintro e w1 ⟨rfl, rfl⟩
 go_wp2_with fail
 refine (drawEnter_any HJD.out a0 len0 cap0 l w HA.out (Nat.le_refl _) hn4).mono ?_
 rintro e w1 ⟨f, a, n, c, am, m, cm, kd, at_, sp, tx, rfl, hD, b1⟩
 obtain ⟨wX, hwX⟩ : ∃ wX, wX = (w1.alloc (.cells #[.int .i64 f.z, .slice a n c, .slice am m cm, .int .i64 f.op, .int .i64 f.st] 29)).alloc (.cells #[.int .i64 kd, .int .i64 at_, .int .i64 sp, .string tx] 31) := ⟨_, rfl⟩
 have HBX : Hid (Below w1.heap.size w1 wX) := by rw [hwX]; exact ((Below.refl _ _).alloc (Nat.le_refl _) _).alloc (by simp) _
 have HFX : Hid (FSt w1.heap.size f a n c am m cm wX) := fst_in hD HBX.out (by rw [hwX]; exact heap_old (heap_new _ _))
 have HPX : Hid (wX.heap[w1.heap.size + 1]? = some (.cells #[.int .i64 kd, .int .i64 at_, .int .i64 sp, .string tx] 31)) := by rw [hwX]; exact heap_at (by simp)
 have HB1 := hide (below_here b1 HBX.out)
 have hm : f.ps.length = m := hD.pl.1
 have HM := hide hm
 clear hD b1 HBX hm
 go_wp2_with fail
 rw [<- hwX]
 clear hwX
 have HEX := hide (entX_of f kd at_ tx)
 have HCE := hide (implEnter_any f.z a n c f.qs am m cm f.ps f.op f.st kd at_ sp tx wX HFX.out.sq (Nat.le_refl _) HFX.out.n1 HFX.out.fits HFX.out.pl (Nat.le_refl _) HFX.out.m1 HFX.out.mc (HT.out.here HB1.out) (HE.out.here HB1.out) ((HN0 _).out HB1.out))
 have HCS : ∀ w9, Hid (FSt w1.heap.size f a n c am m cm w9 -> Calls Tryz.prog 20 #[.agg #[.int .i64 f.z, .slice a n c, .slice am m cm, .int .i64 f.op, .int .i64 f.st], .agg #[.int .i64 kd, .int .i64 at_, .int .i64 sp, .string tx]] w9 fun e w' => ∃ v, e = .returned (.tuple #[v, .bool (planR f.z f.qs f.ps f.op f.st kd at_ tx).isSome]) ∧ FtlAns w9 (entF f.z f.qs f.ps f.op f.st kd at_ tx) v w') := fun w9 h9 =>
  specEnter_any f.z a n c f.qs am m cm f.ps f.op f.st kd at_ sp tx w9 h9.sq (Nat.le_refl _) h9.n1 h9.fits h9.pl (Nat.le_refl _) h9.m1
 generalize entF f.z f.qs f.ps f.op f.st kd at_ tx = x at HEX HCE HCS
 generalize (planR f.z f.qs f.ps f.op f.st kd at_ tx).isSome = b at HEX HCE HCS
 refine HCE.out.mono ?_
 rintro e w2 ⟨v, rfl, ax, cx, amx, cmx, rfl, hO, b2, hcm⟩
 unfold fvV
 clear HCE
 obtain ⟨wY, hwY⟩ : ∃ wY, wY = w2.alloc (.cells #[.int .i64 x.z, .slice ax x.qs.length cx, .slice amx x.ps.length cmx, .int .i64 x.op, .int .i64 x.st] 29) := ⟨_, rfl⟩
 have HBY : Hid (Below w2.heap.size w2 wY) := by rw [hwY]; exact (Below.refl _ _).alloc (Nat.le_refl _) _
 have HXY : Hid (FSt w2.heap.size x ax x.qs.length cx amx x.ps.length cmx wY) := fst_own hO HEX.out.fits HEX.out.squares HEX.out.places hcm HBY.out (by rw [hwY]; exact heap_new _ _)
 have HFY := hide ((HFX.out.on b2).on HBY.out)
 have HPY := hide (block_on (block_on HPX.out b2) HBY.out)
 have HB2 := hide (below_here (below_here HB1.out b2) HBY.out)
 clear hO b2 hcm HBY HFX HPX HB1
 go_wp2_with fail
 rw [<- hwY]
 clear hwY
 refine (drawGet_any HJD.out a0 len0 cap0 l wY (HA.out.later HB2.out (Nat.le_refl _)) HB2.out.size hn4).mono ?_
 rintro e w3 ⟨g, ag, ng, cg, amg, mg, cmg, y, rfl, hG, _, _, b3⟩
 obtain ⟨wZ, hwZ⟩ : ∃ wZ, wZ = w3.alloc (.cells #[.int .i64 g.z, .slice ag ng cg, .slice amg mg cmg, .int .i64 g.op, .int .i64 g.st] 29) := ⟨_, rfl⟩
 have HBZ : Hid (Below w3.heap.size w3 wZ) := by rw [hwZ]; exact (Below.refl _ _).alloc (Nat.le_refl _) _
 have HGZ : Hid (FSt w3.heap.size g ag ng cg amg mg cmg wZ) := fst_in hG HBZ.out (by rw [hwZ]; exact heap_new _ _)
 have HFZ := hide ((HFY.out.on b3).on HBZ.out)
 have HXZ := hide ((HXY.out.on b3).on HBZ.out)
 have HPZ := hide (block_on (block_on HPY.out b3) HBZ.out)
 have HB3 := hide (below_here (below_here HB2.out b3) HBZ.out)
 clear hG b3 HBZ HFY HXY HPY HB2
 go_wp2_with fail
 rw [<- hwZ]
 clear hwZ
 have HSG : ∀ w9, Hid (FSt w3.heap.size g ag ng cg amg mg cmg w9 -> Calls Tryz.prog 24 #[.agg #[.int .i64 g.z, .slice ag ng cg, .slice amg mg cmg, .int .i64 g.op, .int .i64 g.st], .int .i64 y] w9 fun e w' => e = .returned (.tuple #[.string (ftlGet g.z g.qs g.ps g.op g.st y).1, .bool (ftlGet g.z g.qs g.ps g.op g.st y).2]) ∧ Below w9.heap.size w9 w') := fun w9 h9 =>
  specGet_any g.z ag ng cg g.qs amg mg cmg g.ps g.op g.st y w9 h9.sq (Nat.le_refl _) h9.n1 h9.fits h9.pl (Nat.le_refl _) h9.m1
 have HIG := hide (implGet_any g.z ag ng cg g.qs amg mg cmg g.ps g.op g.st y wZ HGZ.out.sq (Nat.le_refl _) HGZ.out.n1 HGZ.out.fits HGZ.out.pl (Nat.le_refl _) HGZ.out.m1 HGZ.out.mc (HT.out.here HB3.out) (HE.out.here HB3.out))
 generalize ftlGet g.z g.qs g.ps g.op g.st y = gg at HSG HIG
 obtain ⟨gs, gb⟩ := gg
 refine HIG.out.mono ?_
 rintro e w4 ⟨rfl, b4⟩
 dsimp only
 have HG4 := hide (HGZ.out.on b4)
 have HF4 := hide (HFZ.out.on b4)
 have HX4 := hide (HXZ.out.on b4)
 have HP4 := hide (block_on HPZ.out b4)
 have HB4 := hide (below_here HB3.out b4)
 clear b4 HGZ HFZ HXZ HPZ HB3 HIG
 obtain ⟨f0, f1, f2, f3, f4⟩ := five_cells HF4.out.k
 obtain ⟨p0, p1, p2, p3⟩ := four_cells HP4.out
 go_wp2_with fail
 refine ((HCS _).out HF4.out).mono ?_
 rintro e w5 ⟨v, rfl, ay, cy, amy, cmy, rfl, hO, b5, hcm⟩
 unfold fvV
 clear f0 f1 f2 f3 f4 p0 p1 p2 p3 HCS
 obtain ⟨wV, hwV⟩ : ∃ wV, wV = w5.alloc (.cells #[.int .i64 x.z, .slice ay x.qs.length cy, .slice amy x.ps.length cmy, .int .i64 x.op, .int .i64 x.st] 29) := ⟨_, rfl⟩
 have HBV : Hid (Below w5.heap.size w5 wV) := by rw [hwV]; exact (Below.refl _ _).alloc (Nat.le_refl _) _
 have HYV : Hid (FSt w5.heap.size x ay x.qs.length cy amy x.ps.length cmy wV) := fst_own hO HEX.out.fits HEX.out.squares HEX.out.places hcm HBV.out (by rw [hwV]; exact heap_new _ _)
 have HGV := hide ((HG4.out.on b5).on HBV.out)
 have HFV := hide ((HF4.out.on b5).on HBV.out)
 have HXV := hide ((HX4.out.on b5).on HBV.out)
 have HPV := hide (block_on (block_on HP4.out b5) HBV.out)
 have HBB := hide (below_here (below_here HB4.out b5) HBV.out)
 clear hO b5 hcm HBV HG4 HF4 HX4 HP4 HB4
 go_upto_region 8 with fail
 rw [<- hwV]
 clear hwV
 have ebb : (b != b) = false := by cases b <;> rfl
 have eb2 : (b == b) = true := by cases b <;> rfl
 obtain ⟨x0, x1, x2, x3, x4⟩ := five_cells HXV.out.k
 obtain ⟨y0, y1, y2, y3, y4⟩ := five_cells HYV.out.k
 obtain ⟨f0, f1, f2, f3, f4⟩ := five_cells HFV.out.k
 have X0 := cell_regrown x0
 have X1 := cell_regrown x1
 have X2 := cell_regrown x2
 have X3 := cell_regrown x3
 have X4 := cell_regrown x4
 have Y0 := cell_regrown y0
 have Y1 := cell_regrown y1
 have Y2 := cell_regrown y2
 have Y3 := cell_regrown y3
 have Y4 := cell_regrown y4
 have F0 := cell_regrown f0
 have F1 := cell_regrown f1
 have F2 := cell_regrown f2
 have F3 := cell_regrown f3
 have F4 := cell_regrown f4
 clear x0 x1 x2 x3 x4 y0 y1 y2 y3 y4 f0 f1 f2 f3 f4
 have cK : ∀ d os, Calls Tryz.prog 21 #[.agg #[.int .i64 x.z, .slice ax x.qs.length cx, .slice amx x.ps.length cmx, .int .i64 x.op, .int .i64 x.st], .agg #[.int .i64 x.z, .slice ay x.qs.length cy, .slice amy x.ps.length cmy, .int .i64 x.op, .int .i64 x.st]] (Go.Sort.grow (redrawn wV d) os) fun e w'' => e = .returned (.bool true) ∧ ∃ p : Regrown, w'' = Go.Sort.grow (redrawn wV p.d) p.os := fun d os => Calls.regrown_of (by
  have h1 := HXV.out.on (below_regrown wV d os)
  have h2 := HYV.out.on (below_regrown wV d os)
  have h9 := likeFtl_any x x ax ay _ cx _ cy amx amy _ cmx _ cmy _ h1.sq h2.sq (Nat.le_refl _) (Nat.le_refl _) h1.n1 h2.n1 h1.fits h2.fits h1.pl h2.pl (Nat.le_refl _) (Nat.le_refl _) h1.m1 h2.m1
  rw [likeF_same] at h9
  exact h9)
 obtain ⟨ok, hok⟩ : ∃ ok, ok = ftlOk f.z f.qs f.ps f.op f.st := ⟨_, rfl⟩
 have cI : ∀ d os, Calls Tryz.prog 22 #[.agg #[.int .i64 f.z, .slice a n c, .slice am m cm, .int .i64 f.op, .int .i64 f.st]] (Go.Sort.grow (redrawn wV d) os) fun e w'' => e = .returned (.bool ok) ∧ ∃ p : Regrown, w'' = Go.Sort.grow (redrawn wV p.d) p.os := fun d os => Calls.regrown_of (by
  have h1 := HFV.out.on (below_regrown wV d os)
  have hb := below_here HBB.out (below_regrown wV d os)
  rw [hok]
  exact implFtlOk_any f.z a n c f.qs am m cm f.ps f.op f.st _ h1.sq (Nat.le_refl _) h1.n1 h1.fits h1.pl (Nat.le_refl _) h1.m1 h1.mc (HT.out.here hb) (HE.out.here hb))
 have cS : ∀ d os, Calls Tryz.prog 23 #[.agg #[.int .i64 f.z, .slice a n c, .slice am m cm, .int .i64 f.op, .int .i64 f.st]] (Go.Sort.grow (redrawn wV d) os) fun e w'' => e = .returned (.bool ok) ∧ ∃ p : Regrown, w'' = Go.Sort.grow (redrawn wV p.d) p.os := fun d os => Calls.regrown_of (by
  have h1 := HFV.out.on (below_regrown wV d os)
  rw [hok]
  exact specFtlOk_any f.z a n c f.qs am m cm f.ps f.op f.st _ h1.sq (Nat.le_refl _) h1.n1 h1.fits h1.pl (Nat.le_refl _) h1.m1)
 have eok : (ok != ok) = false := by cases ok <;> rfl
 have eo2 : (ok == ok) = true := by cases ok <;> rfl
 clear hok
 refine wp_region_quiet_below (by kernel_rfl) (by kernel_rfl) ?_
 repeat (go_big_quiet_step (first | (go_at_call 21; exact cK _ _) | (go_at_call 22; exact cI _ _) | (go_at_call 23; exact cS _ _)))
 refine wpQuiet_nil ?_
 intro _ hw'
 obtain ⟨⟨dq, osq⟩, hw''⟩ := hw'
 subst hw''
 have hbq := below_regrown wV dq osq
 generalize Go.Sort.grow (redrawn wV dq) osq = wq at *
 have HGQ := hide (HGV.out.on hbq)
 have HFQ := hide (HFV.out.on hbq)
 have HXQ := hide (HXV.out.on hbq)
 have HPQ := hide (block_on HPV.out hbq)
 have HBQ := hide (below_here HBB.out hbq)
 clear hbq HGV HFV HXV HYV HPV HBB X0 X1 X2 X3 X4 Y0 Y1 Y2 Y3 Y4 F0 F1 F2 F3 F4 cK cI cS
 obtain ⟨g0, g1, g2, g3, g4⟩ := five_cells HGQ.out.k
 go_wp2_with fail
 refine ((HSG _).out HGQ.out).mono ?_
 rintro e w6 ⟨rfl, b6⟩
 dsimp only
 have HF6 := hide (HFQ.out.on b6)
 have HX6 := hide (HXQ.out.on b6)
 have HP6 := hide (block_on HPQ.out b6)
 have HB6 := hide (below_here HBQ.out b6)
 clear b6 HFQ HXQ HPQ HBQ HGQ g0 g1 g2 g3 g4 HSG
 have egb : (gb != gb) = false := by cases gb <;> rfl
 have eg2 : (gb == gb) = true := by cases gb <;> rfl
 have egs := text_same gs
 obtain ⟨x0, x1, x2, x3, x4⟩ := five_cells HX6.out.k
 obtain ⟨f0, f1, f2, f3, f4⟩ := five_cells HF6.out.k
 clear ebb eb2 eok eo2
 cases b with
 | false =>
  go_wp2_with fail
  refine (likeFtl_any x f ax a _ cx n c amx am _ cmx m cm w6 HX6.out.sq HF6.out.sq (Nat.le_refl _) (Nat.le_refl _) HX6.out.n1 HF6.out.n1 HX6.out.fits HF6.out.fits HX6.out.pl HF6.out.pl (Nat.le_refl _) (Nat.le_refl _) HX6.out.m1 HF6.out.m1).mono ?_
  rintro e w7 ⟨rfl, b7⟩
  have HX7 := hide (HX6.out.on b7)
  have HB7 := hide (below_here HB6.out b7)
  clear b7 x0 x1 x2 x3 x4 f0 f1 f2 f3 f4
  obtain ⟨x0, x1, x2, x3, x4⟩ := five_cells HX7.out.k
  cases hlk : likeF x f with
  | true =>
   go_wp2_with fail
   go_ret
   exact ⟨rfl, HB7.out⟩
  | false =>
   go_wp2_with fail
   refine (likeFtl_any x ⟨0, [], [], 0, 0⟩ ax none _ cx 0 0 amx none _ cmx 0 0 w7 HX7.out.sq (zero_squares w7) (Nat.le_refl _) (Nat.le_refl _) HX7.out.n1 (by omega) HX7.out.fits (fun y hy => by simp at hy) HX7.out.pl (zero_places w7) (Nat.le_refl _) (Nat.le_refl _) HX7.out.m1 (by omega)).mono ?_
   rintro e w8 ⟨rfl, b8⟩
   have e9 : likeF x ⟨0, [], [], 0, 0⟩ = true := by
    rcases HEX.out.no rfl with h | h
    ·rw [h, likeF_same] at hlk; cases hlk
    ·rw [h, likeF_same]
   rw [e9]
   have HB8 := hide (below_here HB7.out b8)
   clear b8
   go_wp2_with fail
   go_ret
   exact ⟨rfl, HB8.out⟩
 | true =>
  have HOK := hide (HEX.out.ok rfl)
  have HST := hide (HEX.out.stamp rfl)
  have HGT := hide (HEX.out.got rfl)
  go_wp2_with fail
  refine (implFtlOk_any x.z ax _ cx x.qs amx _ cmx x.ps x.op x.st w6 HX6.out.sq (Nat.le_refl _) HX6.out.n1 HX6.out.fits HX6.out.pl (Nat.le_refl _) HX6.out.m1 HX6.out.mc (HT.out.here HB6.out) (HE.out.here HB6.out)).mono ?_
  rintro e w7 ⟨rfl, b7⟩
  rw [HOK.out]
  have HF7 := hide (HF6.out.on b7)
  have HX7 := hide (HX6.out.on b7)
  have HP7 := hide (block_on HP6.out b7)
  have HB7 := hide (below_here HB6.out b7)
  clear b7 x0 x1 x2 x3 x4 f0 f1 f2 f3 f4 HF6 HX6 HP6 HB6
  obtain ⟨x0, x1, x2, x3, x4⟩ := five_cells HX7.out.k
  obtain ⟨f0, f1, f2, f3, f4⟩ := five_cells HF7.out.k
  obtain ⟨s1, hs1⟩ : ∃ s1, s1 = f.st + 1 := ⟨_, rfl⟩
  have hwr : IntKind.i64.wrap (f.st + 1) = s1 := by have := HST.out.2; rw [IntKind.wrap_i64]; omega
  rw [HST.out.1, <- hs1] at x4
  clear hs1
  go_wp2_with fail
  clear x0 x1 x2 x3 x4 f0 f1 f2 f3 f4 hwr
  go_loopw [15, 16, 17, 18, 19] (fun i _ _ _ _ wr => ∃ k : Nat, k <= m ∧ i = .int .i64 k ∧ Below w7.heap.size w7 wr) (fun i _ _ _ _ _ => m - (intOf i).toNat)
  case atStart => exact ⟨0, Nat.zero_le _, rfl, Below.refl _ _⟩
  case round =>
   obtain ⟨k, hk, rfl, hbel⟩ := hrel
   have HFR := hide (HF7.out.on hbel)
   have HXR := hide (HX7.out.on hbel)
   have HPR := hide (block_on HP7.out hbel)
   have HBR := hide (below_here HB7.out hbel)
   have HBL := hide hbel
   have hm1 := HF7.out.m1
   clear hbel
   obtain ⟨f0, f1, f2, f3, f4⟩ := five_cells HFR.out.k
   by_cases hlt : k < m
   ·have hlt2 : (k : Int) < (m : Int) := by omega
    go_wp2_with fail
    have HGK := hide (HGT.out k (by rw [HM.out]; exact hlt))
    have HSK := hide (specGet_any f.z a n c f.qs am m cm f.ps f.op f.st (k : Int) wr HFR.out.sq (Nat.le_refl _) HFR.out.n1 HFR.out.fits HFR.out.pl (Nat.le_refl _) HFR.out.m1)
    have HIK : ∀ w9, Hid (FSt w2.heap.size x ax x.qs.length cx amx x.ps.length cmx w9 -> Below w.heap.size w w9 -> Calls Tryz.prog 19 #[.agg #[.int .i64 x.z, .slice ax x.qs.length cx, .slice amx x.ps.length cmx, .int .i64 x.op, .int .i64 x.st], .int .i64 (k : Int)] w9 fun e w' => e = .returned (.tuple #[.string (ftlGet x.z x.qs x.ps x.op x.st (k : Int)).1, .bool (ftlGet x.z x.qs x.ps x.op x.st (k : Int)).2]) ∧ Below w9.heap.size w9 w') := fun w9 h9 hb9 =>
     implGet_any x.z ax _ cx x.qs amx _ cmx x.ps x.op x.st (k : Int) w9 h9.sq (Nat.le_refl _) h9.n1 h9.fits h9.pl (Nat.le_refl _) h9.m1 h9.mc (HT.out.here hb9) (HE.out.here hb9)
    rw [HGK.out] at HIK
    clear HGK
    generalize ftlGet f.z f.qs f.ps f.op f.st (k : Int) = gk at HSK HIK
    obtain ⟨ks, kb⟩ := gk
    refine HSK.out.mono ?_
    rintro e w8 ⟨rfl, b8⟩
    dsimp only
    have HX8 := hide (HXR.out.on b8)
    have HP8 := hide (block_on HPR.out b8)
    have HB8 := hide (below_here HBR.out b8)
    have HL8 := hide (below_here HBL.out b8)
    clear b8 f0 f1 f2 f3 f4 HSK HFR HXR HPR HBR HBL
    obtain ⟨x0, x1, x2, x3, x4⟩ := five_cells HX8.out.k
    go_wp2_with fail
    refine ((HIK _).out HX8.out HB8.out).mono ?_
    rintro e w9 ⟨rfl, b9⟩
    have HP9 := hide (block_on HP8.out b9)
    have HL9 := hide (below_here HL8.out b9)
    have HB9 := hide (below_here HB8.out b9)
    clear b9 x0 x1 x2 x3 x4 HX8 HP8 HB8 HL8 HIK
    obtain ⟨p0, p1, p2, p3⟩ := four_cells HP9.out
    by_cases hka : (k : Int) = at_
    ·rw [if_pos hka]
     dsimp only
     have etx := text_same tx
     have eka : ((k : Int) == at_) = true := by simp [hka]
     obtain ⟨kk, hkk⟩ : ∃ kk, kk = (kd == 1) := ⟨_, rfl⟩
     rw [<- hkk]
     have ekk : (kk != kk) = false := by cases kk <;> rfl
     have ek2 : (kk == kk) = true := by cases kk <;> rfl
     have hk3 := hkk.symm
     clear hka hkk
     go_wp2_with fail
     exact ⟨⟨k + 1, by omega, by go_num, HL9.out⟩, by simp [intOf]; omega⟩
    ·rw [if_neg hka]
     dsimp only
     have etx := text_same ks
     have eka : ((k : Int) == at_) = false := by simp [hka]
     have ekk : (kb != kb) = false := by cases kb <;> rfl
     have ek2 : (kb == kb) = true := by cases kb <;> rfl
     go_wp2_with fail
     exact ⟨⟨k + 1, by omega, by go_num, HL9.out⟩, by simp [intOf]; omega⟩
   ·go_wp2_with fail
    go_ret
    exact ⟨rfl, HBR.out⟩
end Go.Proofs.YtfabojbkhicpmaaGreatDoor
end

