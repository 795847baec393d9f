/- Several texts in one: FtlImplA, FtlImplB. -/
import Derived.Test.YtoocbagnfkgbfaaGreatDoorMFtlMath
import Derived.Test.YtoocbagnfkgbfaaGreatDoorMChipOwn2
import Derived.Test.YtoocbagnfkgbfaaGreatDoorMLyImplD
import Derived.Test.YtoocbagnfkgbfaaGreatDoorMChipAns
import Derived.Deep.RegionHeld3
import Derived.Deep.DeepCutAuto
import Derived.BigQuiet
section
namespace Go.Proofs.YtoocbagnfkgbfaaGreatDoor
open Go.RowKit
set_option linter.unusedVariables false
set_option maxRecDepth 20000

def pgV4 (r : Int × Int × Int × ByteArray × Int) : Value := .agg #[.int .i64 r.1, .int .i64 r.2.1, .int .i64 r.2.2.1, .string r.2.2.2.1]
set_option maxHeartbeats 3200000 in
theorem pageLying_any (z : Int) (a : Option Addr) (n cap : Nat) (qs : List Sq) (s k : Nat) (w : World) {lo hi : Nat} (h : Squares lo hi w a n qs) (hhi : hi ≤ w.heap.size) (hs : s < n) (hk : k < (sqAt qs s).1.length) (hl8 : (sqAt qs s).1.length ≤ 8) (hn : n ≤ 1048576) (hz : (txAt qs s k).size ≤ 1048576) (hT : Tab w) {aB aL aS aC aF : Addr} (E : Errs w aB aL aS aC aF) :
    Calls Tryz.prog 76 #[.agg #[.int .i64 z, .slice a n cap], .agg #[.int .i64 (s : Int), .int .i64 (k : Int)]] w fun e w' => e = .returned (.tuple #[pgV4 (lyP (txAt qs s k)), .bool (lyWell (lyP (txAt qs s k)).2.2.2.2)]) ∧ Below w.heap.size w w' := by
  obtain ⟨wA, hwA⟩ : ∃ wA, wA = ((w.alloc (.cells #[.int .i64 z, .slice a n cap] 26)).alloc (.cells #[.int .i64 (s : Int), .int .i64 (k : Int)] 48)).alloc (.cells #[.int .i64 0, .int .i64 0, .int .i64 0, .string ⟨#[]⟩] 31) := ⟨_, rfl⟩
  have hzA : wA.heap.size = w.heap.size + 1 + 1 + 1 := by rw [hwA]; simp
  have HBA : Hid (Below w.heap.size w wA) := by rw [hwA]; exact ((((Below.refl _ _).alloc (Nat.le_refl _) _).alloc (by simp) _).alloc (by simp; omega) _)
  have H0 : Hid (wA.heap[w.heap.size]? = some (.cells #[.int .i64 z, .slice a n cap] 26)) := by rw [hwA]; exact heap_old (heap_old (heap_new _ _))
  have H1 : Hid (wA.heap[w.heap.size + 1]? = some (.cells #[.int .i64 (s : Int), .int .i64 (k : Int)] 48)) := by rw [hwA]; exact heap_old (heap_at (by simp))
  have H2 : Hid (wA.heap[w.heap.size + 1 + 1]? = some (.cells #[.int .i64 0, .int .i64 0, .int .i64 0, .string ⟨#[]⟩] 31)) := by rw [hwA]; exact heap_at (by simp)
  have HTA := hide (hT.here HBA.out)
  have HEA := hide (E.here HBA.out)
  obtain ⟨_, A, C, hx, ht⟩ := h.later HBA.out hhi
  obtain ⟨b, off, rfl, _, hb, hc⟩ := hx.2 (by omega)
  have hbA : b < wA.heap.size := by have := hx.1; omega
  obtain ⟨y0, _, _⟩ := sq_cells hc (Below.refl wA.heap.size wA) hbA hs
  obtain ⟨_, _, hpx⟩ := ht s hs
  obtain ⟨pb, po, hAs, _, hpb, hpc⟩ := hpx (by omega)
  have ytx := hpc k hk
  have hpA : pb < wA.heap.size := by have := hx.1; omega
  rw [hAs] at y0
  have etx : cellT (sqAt qs s).1 k = .string (txAt qs s k) := rfl
  rw [etx] at ytx
  obtain ⟨tx, htx⟩ : ∃ tx, tx = txAt qs s k := ⟨_, rfl⟩
  rw [← htx] at ytx hz
  rw [← htx]
  have hs2 : (s : Int) < (n : Int) := by omega
  obtain ⟨L, hL⟩ : ∃ L, L = (sqAt qs s).1.length := ⟨_, rfl⟩
  rw [← hL] at y0 hk hl8
  have hk2 : (k : Int) < (L : Int) := by omega
  obtain ⟨r, hr⟩ : ∃ r, r = lyP tx := ⟨_, rfl⟩
  have HCL : ∀ w', Hid (Below wA.heap.size wA w' → Calls Tryz.prog 110 #[.string tx] w' fun e w'' => e = .returned (lyV r) ∧ Below w'.heap.size w' w'') := fun w' hb' => by
    rw [hr]
    exact implLying_any tx w' (HTA.out.here hb') (HEA.out.here hb') hz
  rw [← hr]
  clear h hc hx ht hpx hpc hT E htx hL hr etx hAs
  obtain ⟨r0, r1, r2, r3, r4⟩ := r
  unfold lyV at HCL
  unfold pgV4
  dsimp only at HCL ⊢
  obtain ⟨c0, c1⟩ := two_cells H0.out
  obtain ⟨d0, d1⟩ := two_cells H1.out
  have HK : ∀ w', Hid (Below wA.heap.size wA w' → w'.cell? ⟨w.heap.size, 1, none⟩ = some (.slice (some ⟨b, off, none⟩) n cap) ∧ w'.cell? ⟨w.heap.size + 1, 0, none⟩ = some (.int .i64 (s : Int)) ∧ w'.cell? ⟨w.heap.size + 1, 1, none⟩ = some (.int .i64 (k : Int)) ∧ w'.cell? ⟨b, off + s * 3, none⟩ = some (.slice (some ⟨pb, po, none⟩) L (C s)) ∧ w'.cell? ⟨pb, po + k, none⟩ = some (.string tx)) := fun w' hb' => ⟨(hb'.cell (p := ⟨_, _, none⟩) (by show w.heap.size < _; omega)).trans c1, (hb'.cell (p := ⟨_, _, none⟩) (by show w.heap.size + 1 < _; omega)).trans d0, (hb'.cell (p := ⟨_, _, none⟩) (by show w.heap.size + 1 < _; omega)).trans d1, (hb'.cell (p := ⟨_, _, none⟩) hbA).trans y0, (hb'.cell (p := ⟨_, _, none⟩) hpA).trans ytx⟩
  go_enter Tryz.func76, Tryz.ntmps76
  go_upto_region 1 with fail
  rw [← hwA]
  clear hwA
  have HZA := hide hzA
  clear hzA
  go_cut [6, 7] (fun v q wx => ∃ g, v = .pointer (some ⟨g, 0, none⟩) ∧ q = .int .i64 r4 ∧ wA.heap.size ≤ g ∧ wx.heap[g]? = some (.cells #[.int .i64 r0, .int .i64 r1, .int .i64 r2, .string r3] 31) ∧ Below wA.heap.size wA wx)
  case first =>
    have HB0 : Hid (Below wA.heap.size wA wA.drew) := (Below.refl wA.heap.size wA).drew
    have HBa : Hid (Below wA.heap.size wA (wA.alloc (.cells #[.int .i64 0, .int .i64 0, .int .i64 0, .string ⟨#[]⟩] 31)).drew) := ((Below.refl wA.heap.size wA).alloc (Nat.le_refl _) _).drew
    have HEa : Hid ((wA.alloc (.cells #[.int .i64 0, .int .i64 0, .int .i64 0, .string ⟨#[]⟩] 31)).drew.heap[wA.heap.size]? = some (.cells #[.int .i64 0, .int .i64 0, .int .i64 0, .string ⟨#[]⟩] 31)) := heap_new wA _
    go_region_held3 (fun w' => w'.cell? ⟨w.heap.size, 1, none⟩ = some (.slice (some ⟨b, off, none⟩) n cap) ∧ w'.cell? ⟨w.heap.size + 1, 0, none⟩ = some (.int .i64 (s : Int)) ∧ w'.cell? ⟨w.heap.size + 1, 1, none⟩ = some (.int .i64 (k : Int)) ∧ w'.cell? ⟨b, off + s * 3, none⟩ = some (.slice (some ⟨pb, po, none⟩) L (C s)) ∧ w'.cell? ⟨pb, po + k, none⟩ = some (.string tx))
      (first | exact (HK _).out HB0.out | exact (HK _).out HBa.out | exact (HK _).out HB5.out | exact (HK _).out HBS.out | exact (HK _).out HB6.out | exact ⟨c1, d0, d1, y0, ytx⟩ | fail)
      (first
        | (go_at_call 110; refine ((HCL _).out HB0.out).mono ?_; rintro e w5 ⟨rfl, b5⟩; have HB5 := hide (below_here HB0.out b5); have hs5 := b5.size; have HB6 := hide (HB5.out.alloc HB5.out.size (.cells #[.int .i64 0, .int .i64 0, .int .i64 0, .string ⟨#[]⟩] 31)); have HBS := hide (HB5.out.alloc HB5.out.size (.cells #[.int .i64 r0, .int .i64 r1, .int .i64 r2, .string r3] 31)); have HRS := hide (heap_new w5 (.cells #[.int .i64 r0, .int .i64 r1, .int .i64 r2, .string r3] 31)))
        | (go_at_call 110; refine ((HCL _).out HBa.out).mono ?_; rintro e w5 ⟨rfl, b5⟩; have HB5 := hide (below_here HBa.out b5); have hs5 := b5.size; have E5 := hide (block_on HEa.out b5); obtain ⟨e0, e1, e2, e3⟩ := four_cells E5.out; have f0 := four_frozen E5.out 0; have f1 := four_frozen E5.out 1; have f2 := four_frozen E5.out 2; have f3 := four_frozen E5.out 3; have HRS := hide (four_set E5.out (.int .i64 r0) (.int .i64 r1) (.int .i64 r2) (.string r3)); have HBS := hide (four_below (b := wA.heap.size) HB5.out (Nat.le_refl _) (.int .i64 r0) (.int .i64 r1) (.int .i64 r2) (.string r3))))
    all_goals
      have HG5 := hide HB5.out.size
      clear HB0 HBa HEa HK HCL c0 c1 d0 d1 y0 ytx b5 HB5 hs5
      go_wp2_with fail
      go_meet
      exact ⟨_, rfl, rfl, by first | exact HG5.out | exact Nat.le_refl _, HRS.out, HBS.out⟩
  case rest =>
    obtain ⟨g, rfl, rfl, hgl, hrs, hb5⟩ := hcut
    obtain ⟨w5, hw5⟩ : ∃ w5, w5 = wc := ⟨_, rfl⟩
    subst hw5
    have HB5 := hide (below_here HBA.out hb5)
    have K2 := hide (block_on H2.out hb5)
    have hzA := HZA.out
    have hs5 := hb5.size
    clear hb5 HK HCL c0 c1 d0 d1 y0 ytx
    obtain ⟨e0, e1, e2, e3⟩ := four_cells hrs
    obtain ⟨p0, p1, p2, p3⟩ := four_cells K2.out
    have f0 := four_frozen K2.out 0
    have f1 := four_frozen K2.out 1
    have f2 := four_frozen K2.out 2
    have f3 := four_frozen K2.out 3
    have HRS := hide (four_set K2.out (.int .i64 r0) (.int .i64 r1) (.int .i64 r2) (.string r3))
    have HBS := hide (four_below (b := w.heap.size + 1 + 1) HB5.out (by omega) (.int .i64 r0) (.int .i64 r1) (.int .i64 r2) (.string r3))
    have HLW : Hid (lyWell r4 = ((r4 == 1) || (r4 == 2))) := rfl
    by_cases h1 : r4 = 1
    · subst h1
      go_wp2_with fail
      refine bodyPost_ret (results_ct rfl rfl (run_loadVar_row _ _ _ _ _ _ _ HRS.out Tryz.underlying31 rfl (by kernel_rfl))) rfl ⟨rfl, HBS.out⟩
    · have g1 : (r4 == 1) = false := by simpa using h1
      rw [g1] at HLW
      go_wp2_with fail
      refine bodyPost_ret (results_ct rfl rfl (run_loadVar_row _ _ _ _ _ _ _ HRS.out Tryz.underlying31 rfl (by kernel_rfl))) rfl ⟨by rw [HLW.out]; rfl, HBS.out⟩
end Go.Proofs.YtoocbagnfkgbfaaGreatDoor
end

section
namespace Go.Proofs.YtoocbagnfkgbfaaGreatDoor
open Go.RowKit
set_option linter.unusedVariables false
set_option maxRecDepth 20000

end Go.Proofs.YtoocbagnfkgbfaaGreatDoor
end

