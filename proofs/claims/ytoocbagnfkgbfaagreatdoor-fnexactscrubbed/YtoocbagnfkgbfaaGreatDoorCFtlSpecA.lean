/- Several texts in one: FtlSpecA, FtlSpecB, FtlSpecC, FtlSpecD. -/
import Derived.Test.YtoocbagnfkgbfaaGreatDoorCFtlMath
import Derived.Test.YtoocbagnfkgbfaaGreatDoorCChipOwn2
import Derived.Test.YtoocbagnfkgbfaaGreatDoorCPageMath
import Derived.Test.YtoocbagnfkgbfaaGreatDoorCWearSpecE
import Derived.Deep.RegionHeld3
import Derived.Deep.DeepCutAuto
import Derived.Deep.RegionWith
section
namespace Go.Proofs.YtoocbagnfkgbfaaGreatDoor
open Go.RowKit
set_option linter.unusedVariables false
set_option maxRecDepth 20000

set_option maxHeartbeats 400000 in
theorem l7Well_any (k : Int) (w : World) : Calls Tryz.prog 81 #[.int .i64 k] w fun e w' => e = .returned (.bool (lyWell k)) ∧ w = w' := by
  by_cases h : k = 1
  · subst h
    go_enter Tryz.func81, Tryz.ntmps81
    go_wp2_with fail
    go_ret
    exact ⟨rfl, rfl⟩
  · have g : (k == 1) = false := by simpa using h
    go_enter Tryz.func81, Tryz.ntmps81
    go_wp2_with fail
    go_ret
    exact ⟨ret_bool (by unfold lyWell; rw [g]; rfl), rfl⟩

set_option maxHeartbeats 1600000 in
theorem l10Page_any (z : Int) (a : Option Addr) (n cap : Nat) (qs : List Sq) (p q : Int) (w : World) {lo hi : Nat} (h : Squares lo hi w a n qs) (hhi : hi ≤ w.heap.size) (hn : n ≤ 1048576) (hf : ∀ x ∈ qs, sqFits x) (hok : chipOk z qs = true) :
    Calls Tryz.prog 80 #[.agg #[.int .i64 z, .slice a n cap], .agg #[.int .i64 p, .int .i64 q]] w fun e w' => e = .returned (lyV (pgOf z qs (p, q))) ∧ Below w.heap.size w w' := by
  obtain ⟨wA, hwA⟩ : ∃ wA, wA = ((w.alloc (.cells #[.int .i64 z, .slice a n cap] 26)).alloc (.cells #[.int .i64 p, .int .i64 q] 48)).alloc (.cells #[.int .i64 0, .int .i64 0, .int .i64 0, .string ⟨#[]⟩] 31) := ⟨_, rfl⟩
  have hzA : wA.heap.size = w.heap.size + 1 + 1 + 1 := by rw [hwA]; simp
  have HBA : Hid (Below w.heap.size w wA) := by rw [hwA]; exact ((((Below.refl _ _).alloc (Nat.le_refl _) _).alloc (by simp) _).alloc (by simp; omega) _)
  have H0 : Hid (wA.heap[w.heap.size]? = some (.cells #[.int .i64 z, .slice a n cap] 26)) := by rw [hwA]; exact heap_old (heap_old (heap_new _ _))
  have H1 : Hid (wA.heap[w.heap.size + 1]? = some (.cells #[.int .i64 p, .int .i64 q] 48)) := by rw [hwA]; exact heap_old (heap_at (by simp))
  have H2 : Hid (wA.heap[w.heap.size + 1 + 1]? = some (.cells #[.int .i64 0, .int .i64 0, .int .i64 0, .string ⟨#[]⟩] 31)) := by rw [hwA]; exact heap_at (by simp)
  have HS := hide (h.later HBA.out hhi)
  have HF := hide hf
  have hpz := pageAt_size (s := p) (p := q) hok
  have HE : Hid (pgOf z qs (p, q) = lyP (pageAt z qs p q)) := rfl
  clear h hf
  obtain ⟨c0, c1⟩ := two_cells H0.out
  obtain ⟨d0, d1⟩ := two_cells H1.out
  go_enter Tryz.func80, Tryz.ntmps80
  go_wp2_with fail
  rw [← hwA]
  clear hwA
  refine (specPageAt_any z a n cap qs p q wA HS.out (by omega) hn HF.out).mono ?_
  rintro e w1 ⟨rfl, b1⟩
  have K2 := hide (block_on H2.out b1)
  have HB1 := hide (below_here HBA.out b1)
  have hs1 := b1.size
  clear b1 c0 c1 d0 d1
  go_wp2_with fail
  refine (specLying_any (pageAt z qs p q) w1 (by omega)).mono ?_
  rintro e w2 ⟨rfl, b2⟩
  have E2 := hide (block_on K2.out b2)
  have HB2 := hide (below_here HB1.out b2)
  have hs2 := b2.size
  rw [← HE.out]
  clear b2
  obtain ⟨r, hr⟩ : ∃ r, r = pgOf z qs (p, q) := ⟨_, rfl⟩
  have HR := hide hr
  rw [← hr]
  clear hr
  obtain ⟨r0, r1, r2, r3, r4⟩ := r
  obtain ⟨e0, e1, e2, e3⟩ := four_cells E2.out
  have f0 := four_frozen E2.out 0
  have f1 := four_frozen E2.out 1
  have f2 := four_frozen E2.out 2
  have f3 := four_frozen E2.out 3
  have HRS := hide (four_set E2.out (.int .i64 r0) (.int .i64 r1) (.int .i64 r2) (.string r3))
  have HBS := hide (four_below (b := w.heap.size + 1 + 1) HB2.out (by omega) (.int .i64 r0) (.int .i64 r1) (.int .i64 r2) (.string r3))
  unfold lyV
  go_wp2_with fail
  refine bodyPost_ret (results_ct rfl rfl (run_loadVar_row _ _ _ _ _ _ _ HRS.out Tryz.underlying31 rfl (by kernel_rfl))) rfl ⟨by rw [← HR.out]; rfl, HBS.out⟩

set_option maxHeartbeats 3200000 in
theorem specFtlOk_any (z : Int) (a : Option Addr) (n cap : Nat) (qs : List Sq) (am : Option Addr) (m cm : Nat) (ps : List Pl) (op st : Int) (w : World) {lo hi lo' hi' : Nat} (h : Squares lo hi w a n qs) (hhi : hi ≤ w.heap.size) (hn : n ≤ 1048576) (hf : ∀ x ∈ qs, sqFits x) (hp : Places lo' hi' w am m ps) (hhi' : hi' ≤ w.heap.size) (hm : m ≤ 1048576) :
    Calls Tryz.prog 21 #[.agg #[.int .i64 z, .slice a n cap, .slice am m cm, .int .i64 op, .int .i64 st]] w fun e w' => e = .returned (.bool (ftlOk z qs ps op st)) ∧ Below w.heap.size w w' := by
  obtain ⟨wA, hwA⟩ : ∃ wA, wA = w.alloc (.cells #[.int .i64 z, .slice a n cap, .slice am m cm, .int .i64 op, .int .i64 st] 29) := ⟨_, rfl⟩
  have hzA : wA.heap.size = w.heap.size + 1 := by rw [hwA]; simp
  have HBA : Hid (Below w.heap.size w wA) := by rw [hwA]; exact (Below.refl _ _).alloc (Nat.le_refl _) _
  have H1 : Hid (wA.heap[w.heap.size]? = some (.cells #[.int .i64 z, .slice a n cap, .slice am m cm, .int .i64 op, .int .i64 st] 29)) := by rw [hwA]; exact heap_new _ _
  have HSQ := hide (h.later HBA.out hhi)
  have HPL := hide (hp.later HBA.out hhi')
  have HL := hide h.1
  have HLP := hide hp.1
  have HF := hide hf
  clear h hf hp
  obtain ⟨c0, c1, c2, c3, c4⟩ := five_cells H1.out
  go_enter Tryz.func21, Tryz.ntmps21
  go_wp2_with fail
  rw [← hwA]
  clear hwA
  refine (specMapOk_any z a n cap qs am m cm ps wA HSQ.out (by omega) hn HF.out HPL.out (by omega) hm).mono ?_
  rintro e w1 ⟨rfl, b1⟩
  have K1 := hide (block_on H1.out b1)
  have HS1 := hide (HSQ.out.later b1 (by omega))
  have HP1 := hide (HPL.out.later b1 (by omega))
  have HB1 := hide (below_here HBA.out b1)
  have hs1 := b1.size
  clear b1 H1 HSQ HPL HBA c0 c1 c2 c3 c4
  obtain ⟨c0, c1, c2, c3, c4⟩ := five_cells K1.out
  cases hok : mapOk z qs ps with
  | false =>
    have HE : Hid (ftlOk z qs ps op st = false) := by show _ = _; unfold ftlOk; rw [hok]; rfl
    go_wp2_with fail
    go_ret
    exact ⟨ret_bool HE.out.symm, HB1.out⟩
  | true =>
    have HCK := hide (mapOk_chip hok)
    have hn12 : n ≤ 12 := by have := (chipOk_parts (mapOk_chip hok)).2.2.2.1; rw [HL.out] at this; exact this
    have hm64 : m ≤ 64 := by have := (mapOk_len hok).2; rw [HLP.out] at this; exact this
    go_wp2_with fail
    refine (l1In_any op (-1) ((n : Int) - 1) w1).mono ?_
    rintro e w2 ⟨rfl, rfl⟩
    cases hin : inB op (-1) ((n : Int) - 1) with
    | false =>
      have HE : Hid (ftlOk z qs ps op st = false) := by show _ = _; unfold ftlOk; rw [HL.out, hin]; simp
      go_wp2_with fail
      go_ret
      exact ⟨ret_bool HE.out.symm, HB1.out⟩
    | true =>
      go_wp2_with fail
      refine (l1In_any st 0 1000000 w1).mono ?_
      rintro e w2 ⟨rfl, rfl⟩
      cases hst : inB st 0 1000000 with
      | false =>
        have HE : Hid (ftlOk z qs ps op st = false) := by show _ = _; unfold ftlOk; rw [hst]; simp
        go_wp2_with fail
        go_ret
        exact ⟨ret_bool HE.out.symm, HB1.out⟩
      | true =>
        have hin2 := hin
        unfold inB at hin2
        simp only [Bool.and_eq_true, decide_eq_true_eq] at hin2
        have HFT : Hid (ftlOk z qs ps op st = (opOk qs op && (List.range ps.length).all (fpOk z qs ps st))) := by show _ = _; unfold ftlOk; rw [hok, HL.out, hin, hst]; rfl
        clear hok hst hin
        go_upto_region 3 with fail
        go_cut [41] (fun c wx => c = .bool (!(opOk qs op)) ∧ Below w1.heap.size w1 wx)
        case first =>
          by_cases h0 : 0 ≤ op
          · obtain ⟨i, rfl⟩ : ∃ i : Nat, op = (i : Int) := ⟨op.toNat, by omega⟩
            have hlt : i < n := by omega
            have hlt2 : (i : Int) < (n : Int) := by omega
            obtain ⟨_, A, C, hx, ht⟩ := HS1.out
            obtain ⟨b, off, rfl, _, hb, hc⟩ := hx.2 (by omega)
            obtain ⟨y0, y1, y2⟩ := sq_cells hc (Below.refl w1.heap.size w1) (show b < w1.heap.size by have := hx.1; omega) hlt
            have HO : Hid ((!(opOk qs (i : Int))) = (sqAt qs i).2.2) := by show _ = _; unfold opOk; simp
            have g0 : decide ((i : Int) ≥ 0) = true := by simp
            generalize (sqAt qs i).2.2 = bd at *
            clear hc hx ht
            go_wp2_with fail
            go_meet
            exact ⟨by rw [HO.out], Below.refl _ _⟩
          · have g0 : decide (op ≥ 0) = false := by simpa using h0
            have HO : Hid ((!(opOk qs op)) = false) := by show _ = _; unfold opOk; rw [g0]; rfl
            go_wp2_with fail
            go_meet
            exact ⟨by rw [HO.out], Below.refl _ _⟩
        case rest =>
          obtain ⟨rfl, hb3⟩ := hcut
          obtain ⟨w3, hw3⟩ : ∃ w3, w3 = wc := ⟨_, rfl⟩
          subst hw3
          have K3 := hide (block_on K1.out hb3)
          have HS3 := hide (HS1.out.later hb3 (by omega))
          have HP3 := hide (HP1.out.later hb3 (by omega))
          have HB3 := hide (below_here HB1.out hb3)
          have hs3 := hb3.size
          clear hb3 K1 HS1 HP1 HB1 c0 c1 c2 c3 c4
          cases hop : opOk qs op with
          | false =>
            have HE : Hid (ftlOk z qs ps op st = false) := by show _ = _; rw [HFT.out, hop]; rfl
            go_wp2_with fail
            go_ret
            exact ⟨ret_bool HE.out.symm, HB3.out⟩
          | true =>
            have HE : Hid (ftlOk z qs ps op st = (List.range ps.length).all (fpOk z qs ps st)) := by show _ = _; rw [HFT.out, hop]; rfl
            simp only [Bool.not_true]
            go_wp2_with fail
            go_loopw [3] (fun i wr => ∃ k : Nat, k ≤ m ∧ i = .int .i64 (k : Int) ∧ (List.range k).all (fpOk z qs ps st) = true ∧ Below w3.heap.size w3 wr) (fun i _ => m - (intOf i).toNat)
            case atStart => exact ⟨0, Nat.zero_le _, rfl, rfl, Below.refl _ _⟩
            case round =>
              obtain ⟨k, hk, rfl, hall, hbel⟩ := hrel
              have HAL := hide hall
              have HBB := hide hbel
              clear hall
              have KR := hide (block_on K3.out hbel)
              obtain ⟨a0, a1, a2, a3, a4⟩ := five_cells KR.out
              by_cases hlt : k < m
              · have hpl : k < ps.length := by rw [HLP.out]; exact hlt
                obtain ⟨b, off, rfl, _, hb, hc⟩ := HP3.out.2.2 (by omega)
                have hbs : b < w3.heap.size := by have := HP3.out.2.1; omega
                obtain ⟨c0, c1⟩ := pl_cells hc hbel hbs hlt
                have HFA : Hid (fpOk z qs ps st k = false → ftlOk z qs ps op st = false) := fun hh => ftlOk_fall hpl hh
                have HST : Hid (fpOk z qs ps st k = true → (List.range (k + 1)).all (fpOk z qs ps st) = true) := fun hh => all_range_step HAL.out hh
                have HPO : Hid (fpOk z qs ps st k = ((((plAt ps k).1 == -1) && ((plAt ps k).2 == 0)) || (lyWell (pgOf z qs (plAt ps k)).2.2.2.2 && (((pgOf z qs (plAt ps k)).2.1 == (k : Int)) && !(decide ((pgOf z qs (plAt ps k)).2.2.1 > st)))))) := by
                  show _ = _
                  unfold fpOk
                  rw [pl_eq]
                have HC := hide hc
                clear hc
                have hszr := hbel.size
                clear hbel
                obtain ⟨y, hy⟩ : ∃ y, y = plAt ps k := ⟨_, rfl⟩
                have HY := hide hy
                rw [← hy] at c0 c1 HPO
                clear hy
                obtain ⟨p, q⟩ := y
                dsimp only at c0 c1 HPO
                have cN : ∀ d os, Calls Tryz.prog 79 #[] (Go.Sort.grow (redrawn wr d) os) fun e w'' => e = .returned (.agg #[.int .i64 (-1), .int .i64 0]) ∧ ∃ p : Regrown, w'' = Go.Sort.grow (redrawn wr p.d) p.os := fun d os => Calls.regrown_of (l9None_any _)
                have k0 := cell_regrown c0
                have k1 := cell_regrown c1
                have k2 := cell_regrown a2
                have q1 := Tryz.eqPl p q (-1) 0
                have q2 := Tryz.guardPl
                go_upto_region 8 with fail
                go_cut [55] (fun c wx => c = .bool ((p == -1) && (q == 0)) ∧ Below wr.heap.size wr wx)
                case first =>
                  refine wp_region_quiet_below (by kernel_rfl) (by kernel_rfl) ?_
                  repeat (go_big_quiet_step ((go_at_call 79; exact cN _ _)))
                  refine wpQuiet_nil ?_
                  intro _ hw'
                  obtain ⟨⟨dq, osq⟩, hw''⟩ := hw'
                  subst hw''
                  have HBQ := hide (below_regrown wr dq osq)
                  go_wp2_with fail
                  go_meet
                  exact ⟨rfl, HBQ.out⟩
                case rest =>
                  obtain ⟨rfl, hb2⟩ := hcut
                  obtain ⟨w4, hw4⟩ : ∃ w4, w4 = wc := ⟨_, rfl⟩
                  subst hw4
                  have HB4 := hide (below_here HBB.out hb2)
                  have K4 := hide (block_on KR.out hb2)
                  clear hb2 k0 k1 k2 cN q1 c0 c1 a0 a1 a2 a3 a4 KR
                  cases hnone : ((p == -1) && (q == 0)) with
                  | true =>
                    have HOK := hide (HST.out (by rw [HPO.out, hnone]; rfl))
                    go_wp2_with fail
                    exact ⟨⟨k + 1, by omega, by go_num, HOK.out, HB4.out⟩, by simp [intOf]; omega⟩
                  | false =>
                    obtain ⟨r, hr⟩ : ∃ r, r = pgOf z qs (p, q) := ⟨_, rfl⟩
                    have hs4 := HB4.out.size
                    have HCL : ∀ w', Hid (Below w4.heap.size w4 w' → Calls Tryz.prog 80 #[.agg #[.int .i64 z, .slice a n cap], .agg #[.int .i64 p, .int .i64 q]] w' fun e w'' => e = .returned (lyV r) ∧ Below w'.heap.size w' w'') := fun w' hb' => by
                      rw [hr]
                      have hs' := hb'.size
                      exact l10Page_any z a n cap qs p q w' (HS3.out.later (below_here HB4.out hb') (by omega)) (by omega) hn HF.out HCK.out
                    have HPO2 : Hid (fpOk z qs ps st k = (lyWell r.2.2.2.2 && ((r.2.1 == (k : Int)) && !(decide (r.2.2.1 > st))))) := by show _ = _; rw [HPO.out, hnone, hr]; rfl
                    clear hr hnone HPO
                    obtain ⟨r0, r1, r2, r3, r4⟩ := r
                    unfold lyV at HCL
                    dsimp only at HCL HPO2
                    obtain ⟨a0, a1, a2, a3, a4⟩ := five_cells K4.out
                    obtain ⟨c0, c1⟩ := pl_cells HC.out HB4.out hbs hlt
                    rw [← HY.out] at c0 c1
                    dsimp only at c0 c1
                    have hwz : w.heap.size < w4.heap.size := by omega
                    have HK : ∀ w', Hid (Below w4.heap.size w4 w' → w'.cell? ⟨w.heap.size, 0, none⟩ = some (.int .i64 z) ∧ w'.cell? ⟨w.heap.size, 1, none⟩ = some (.slice a n cap) ∧ w'.cell? ⟨w.heap.size, 2, none⟩ = some (.slice (some ⟨b, off, none⟩) m cm) ∧ w'.cell? ⟨b, off + k * 2, none⟩ = some (.int .i64 p) ∧ w'.cell? ⟨b, off + k * 2 + 1, none⟩ = some (.int .i64 q)) := fun w' hb' => ⟨(hb'.cell (p := ⟨_, _, none⟩) hwz).trans a0, (hb'.cell (p := ⟨_, _, none⟩) hwz).trans a1, (hb'.cell (p := ⟨_, _, none⟩) hwz).trans a2, (hb'.cell (p := ⟨_, _, none⟩) (by show b < _; omega)).trans c0, (hb'.cell (p := ⟨_, _, none⟩) (by show b < _; omega)).trans c1⟩
                    go_upto_region 9 with fail
                    have HB0 : Hid (Below w4.heap.size w4 w4.drew) := (Below.refl w4.heap.size w4).drew
                    have HBa : Hid (Below w4.heap.size w4 (w4.alloc (.cells #[.int .i64 0, .int .i64 0, .int .i64 0, .string ⟨#[]⟩] 31)).drew) := ((Below.refl w4.heap.size w4).alloc (Nat.le_refl _) _).drew
                    have HEa : Hid ((w4.alloc (.cells #[.int .i64 0, .int .i64 0, .int .i64 0, .string ⟨#[]⟩] 31)).drew.heap[w4.heap.size]? = some (.cells #[.int .i64 0, .int .i64 0, .int .i64 0, .string ⟨#[]⟩] 31)) := heap_new w4 _
                    go_region_held3 (fun w' => w'.cell? ⟨w.heap.size, 0, none⟩ = some (.int .i64 z) ∧ w'.cell? ⟨w.heap.size, 1, none⟩ = some (.slice a n cap) ∧ w'.cell? ⟨w.heap.size, 2, none⟩ = some (.slice (some ⟨b, off, none⟩) m cm) ∧ w'.cell? ⟨b, off + k * 2, none⟩ = some (.int .i64 p) ∧ w'.cell? ⟨b, off + k * 2 + 1, none⟩ = some (.int .i64 q))
                      (first | exact (HK _).out HB0.out | exact (HK _).out HBa.out | exact (HK _).out HB5.out | exact (HK _).out HBS.out | exact (HK _).out HB6.out | exact ⟨a0, a1, a2, c0, c1⟩ | fail)
                      (first
                        | (go_at_call 80; refine ((HCL _).out HB0.out).mono ?_; rintro e w5 ⟨rfl, b5⟩; have HB5 := hide (below_here HB0.out b5); have hs5 := b5.size; have HB6 := hide (HB5.out.alloc HB5.out.size (.cells #[.int .i64 0, .int .i64 0, .int .i64 0, .string ⟨#[]⟩] 31)); have HBS := hide (HB5.out.alloc HB5.out.size (.cells #[.int .i64 r0, .int .i64 r1, .int .i64 r2, .string r3] 31)); have HRS := hide (heap_new w5 (.cells #[.int .i64 r0, .int .i64 r1, .int .i64 r2, .string r3] 31)))
                        | (go_at_call 80; refine ((HCL _).out HBa.out).mono ?_; rintro e w5 ⟨rfl, b5⟩; have HB5 := hide (below_here HBa.out b5); have hs5 := b5.size; have E5 := hide (block_on HEa.out b5); obtain ⟨e0, e1, e2, e3⟩ := four_cells E5.out; have f0 := four_frozen E5.out 0; have f1 := four_frozen E5.out 1; have f2 := four_frozen E5.out 2; have f3 := four_frozen E5.out 3; have HRS := hide (four_set E5.out (.int .i64 r0) (.int .i64 r1) (.int .i64 r2) (.string r3)); have HBS := hide (four_below (b := w4.heap.size) HB5.out (Nat.le_refl _) (.int .i64 r0) (.int .i64 r1) (.int .i64 r2) (.string r3))))
                    all_goals
                      clear HB0 HBa HEa HK HCL a0 a1 a2 a3 a4 c0 c1 b5 HB5 hs5
                      have HB7 := hide (below_here HB4.out HBS.out)
                      have HB8 := hide (below_here HB3.out HB7.out)
                      obtain ⟨d0, d1, d2, d3⟩ := four_cells HRS.out
                      obtain ⟨a0, a1, a2, a3, a4⟩ := five_cells (block_on K4.out HBS.out)
                      go_wp2_with fail
                      refine (l7Well_any r4 _).mono ?_
                      rintro e wx ⟨rfl, rfl⟩
                      cases hw : lyWell r4 with
                      | false =>
                        have HNO := hide (HFA.out (by rw [HPO2.out, hw]; rfl))
                        go_wp2_with fail
                        go_ret
                        exact ⟨ret_bool HNO.out.symm, HB8.out⟩
                      | true =>
                        by_cases h1 : r1 = (k : Int)
                        · have g1 : (r1 != (k : Int)) = false := by simpa using h1
                          have g3 : (r1 == (k : Int)) = true := by simpa using h1
                          cases h2 : decide (r2 > st) with
                          | true =>
                            have HNO := hide (HFA.out (by rw [HPO2.out, hw, g3, h2]; rfl))
                            clear h1 g3
                            go_wp2_with fail
                            go_ret
                            exact ⟨ret_bool HNO.out.symm, HB8.out⟩
                          | false =>
                            have HOK := hide (HST.out (by rw [HPO2.out, hw, g3, h2]; rfl))
                            clear h1 g3
                            go_wp2_with fail
                            exact ⟨⟨k + 1, by omega, by go_num, HOK.out, HB7.out⟩, by simp [intOf]; omega⟩
                        · have g1 : (r1 != (k : Int)) = true := by simpa using h1
                          have g3 : (r1 == (k : Int)) = false := by simpa using h1
                          have HNO := hide (HFA.out (by rw [HPO2.out, hw, g3]; rfl))
                          clear h1 g3
                          go_wp2_with fail
                          go_ret
                          exact ⟨ret_bool HNO.out.symm, HB8.out⟩
              · obtain rfl : k = m := by omega
                have HYE : Hid (ftlOk z qs ps op st = true) := by show _ = _; rw [HE.out, HLP.out]; exact HAL.out
                have HB8 := hide (below_here HB3.out HBB.out)
                go_wp2_with fail
                go_ret
                exact ⟨ret_bool HYE.out.symm, HB8.out⟩
end Go.Proofs.YtoocbagnfkgbfaaGreatDoor
end

section
namespace Go.Proofs.YtoocbagnfkgbfaaGreatDoor
open Go.RowKit
set_option linter.unusedVariables false
set_option maxRecDepth 20000

end Go.Proofs.YtoocbagnfkgbfaaGreatDoor
end

section
namespace Go.Proofs.YtoocbagnfkgbfaaGreatDoor
open Go.RowKit
set_option linter.unusedVariables false
set_option maxRecDepth 20000

set_option maxHeartbeats 1600000 in
theorem l10Copy_any (z : Int) (a : Option Addr) (n cap : Nat) (qs : List Sq) (am : Option Addr) (m cm : Nat) (ps : List Pl) (op st : Int) (w : World) {lo hi lo' hi' : Nat} (h : Squares lo hi w a n qs) (hhi : hi ≤ w.heap.size) (hok : chipOk z qs = true) (hp : Places lo' hi' w am m ps) (hhi' : hi' ≤ w.heap.size) (hm1 : 1 ≤ m) (hm : m ≤ 64) :
    Calls Tryz.prog 71 #[.agg #[.int .i64 z, .slice a n cap, .slice am m cm, .int .i64 op, .int .i64 st]] w fun e w' => ∃ g c gm cm' A C, e = .returned (.agg #[.int .i64 z, .slice (some ⟨g, 0, none⟩) n c, .slice (some ⟨gm, 0, none⟩) m cm', .int .i64 op, .int .i64 st]) ∧ GrowSqs w.heap.size w' n qs g A C ∧ PlOwn w.heap.size w' (.slice (some ⟨gm, 0, none⟩) ps.length cm') ps ∧ gm ≠ g ∧ Below w.heap.size w w' := by
  obtain ⟨wA, hwA⟩ : ∃ wA, wA = (w.alloc (.cells #[.int .i64 z, .slice a n cap, .slice am m cm, .int .i64 op, .int .i64 st] 29)).alloc (.cells #[.int .i64 0, .slice none 0 0, .slice none 0 0, .int .i64 0, .int .i64 0] 29) := ⟨_, rfl⟩
  have hzA : wA.heap.size = w.heap.size + 1 + 1 := by rw [hwA]; simp
  have HBA : Hid (Below w.heap.size w wA) := by rw [hwA]; exact ((Below.refl _ _).alloc (Nat.le_refl _) _).alloc (by simp) _
  have H0 : Hid (wA.heap[w.heap.size]? = some (.cells #[.int .i64 z, .slice a n cap, .slice am m cm, .int .i64 op, .int .i64 st] 29)) := by rw [hwA]; exact heap_old (heap_new _ _)
  have H1 : Hid (wA.heap[w.heap.size + 1]? = some (.cells #[.int .i64 0, .slice none 0 0, .slice none 0 0, .int .i64 0, .int .i64 0] 29)) := by rw [hwA]; exact heap_at (by simp)
  have HSQ := hide (h.later HBA.out hhi)
  have HPL := hide (hp.later HBA.out hhi')
  clear h hp
  obtain ⟨c0, c1, c2, c3, c4⟩ := five_cells H0.out
  go_enter Tryz.func71, Tryz.ntmps71
  go_wp2_with fail
  rw [← hwA]
  clear hwA
  refine (l8Copy_any z a n cap qs wA HSQ.out (by omega) hok).mono ?_
  rintro e w1 ⟨g, c, A, C, rfl, hG, b1⟩
  have K0 := hide (block_on H0.out b1)
  have K1 := hide (block_on H1.out b1)
  have hs1 := b1.size
  have hG1 := hG.atG
  have hG2 : g < w1.heap.size := by have := hG.row.1; omega
  have HP1 := hide (HPL.out.later b1 (by omega))
  have HB1 := hide (below_here HBA.out b1)
  have HG1 := hide hG
  clear hG b1 H0 H1 HSQ HPL c0 c1 c2 c3 c4
  obtain ⟨wB, hwB⟩ : ∃ wB, wB = (w1.setCell ⟨w.heap.size, 0, none⟩ (.int .i64 z)).setCell ⟨w.heap.size, 1, none⟩ (.slice (some ⟨g, 0, none⟩) n c) := ⟨_, rfl⟩
  have HAB : Hid (Aside w.heap.size (w.heap.size + 1) w1 wB) := by rw [hwB]; exact two_aside (Aside.refl _ _ w1) (Nat.le_refl _) (Nat.lt_succ_self _) _ _
  have hzB : wB.heap.size = w1.heap.size := by rw [hwB, Go.Deep.nblk_setCell, Go.Deep.nblk_setCell]
  have B0 : Hid (wB.heap[w.heap.size]? = some (.cells #[.int .i64 z, .slice (some ⟨g, 0, none⟩) n c, .slice am m cm, .int .i64 op, .int .i64 st] 29)) := by rw [hwB]; exact set_block (set_block K0.out 0 (.int .i64 z) (by simp)) 1 (.slice (some ⟨g, 0, none⟩) n c) (by simp)
  have B1 : Hid (wB.heap[w.heap.size + 1]? = some (.cells #[.int .i64 0, .slice none 0 0, .slice none 0 0, .int .i64 0, .int .i64 0] 29)) := (HAB.out.block _ (by omega) (.inr (by omega))).trans K1.out
  have HPB := hide (Places.mk_of HP1.out HAB.out (.inl (by omega)))
  have HGB := hide (HG1.out.aside HAB.out (.inl (by omega)))
  have HBB := hide (HB1.out.trans (HAB.out.below (B := w.heap.size) (by omega) (by omega)))
  obtain ⟨wC, hwC⟩ : ∃ wC, wC = wB.alloc (.cells #[] 48) := ⟨_, rfl⟩
  have hzC : wC.heap.size = w1.heap.size + 1 := by rw [hwC]; simp; omega
  have HBC : Hid (Below wB.heap.size wB wC) := by rw [hwC]; exact (Below.refl _ _).alloc (Nat.le_refl _) _
  have C0 := hide (block_on B0.out HBC.out)
  have C1 := hide (block_on B1.out HBC.out)
  have HMD : Hid (PlOwn wB.heap.size wC (.slice (some ⟨wB.heap.size, 0, none⟩) 0 0) []) := by rw [hwC]; exact pl_made0 wB
  obtain ⟨gm, cm', w2, hap, hpo, hgr, hat⟩ := append_places (P := Tryz.prog) Tryz.infoPl9 Tryz.underlying27 HMD.out (by omega) (c := cm) (HPB.out.later HBC.out (by omega)) hm1 (by omega)
  have HAP := hide hap
  have hgm : w1.heap.size ≤ gm := by omega
  have hs2 := hgr.size
  have HGR : Hid (Below w1.heap.size wC w2) := ⟨hgr.os, hgr.tape, hgr.output, hgr.size, fun k hk => hgr.block k (by omega) (fun e => by simp only [Option.some.injEq] at e; omega)⟩
  have HG2 := hide ((HGB.out.later HBC.out).keep hgr (fun e => by simp only [Option.some.injEq] at e; omega) (fun k e => by simp only [Option.some.injEq] at e; subst e; exact ⟨_, _, _, (by rw [hwC]; exact heap_new _ _), by decide⟩))
  have E0 : Hid (w2.heap[w.heap.size]? = some (.cells #[.int .i64 z, .slice (some ⟨g, 0, none⟩) n c, .slice am m cm, .int .i64 op, .int .i64 st] 29)) := (HGR.out.block _ (by omega)).trans C0.out
  have E1 : Hid (w2.heap[w.heap.size + 1]? = some (.cells #[.int .i64 0, .slice none 0 0, .slice none 0 0, .int .i64 0, .int .i64 0] 29)) := (HGR.out.block _ (by omega)).trans C1.out
  have HPO := hide hpo
  have HB2 := hide ((below_here HBB.out HBC.out).trans (HGR.out.mono (by omega)))
  clear hap hpo hgr hat HMD
  obtain ⟨d0, d1, d2, d3, d4⟩ := five_cells K0.out
  have f0 := four_frozen K0.out 0
  have f1 := four_frozen K0.out 1
  obtain ⟨c0, c1, c2, c3, c4⟩ := five_cells C0.out
  obtain ⟨e0, e1, e2, e3, e4⟩ := five_cells E0.out
  have g2 := four_frozen E0.out 2
  obtain ⟨r0, r1, r2, r3, r4⟩ := five_cells E1.out
  have q0 := four_frozen E1.out 0
  have q1 := four_frozen E1.out 1
  have q2 := four_frozen E1.out 2
  have q3 := four_frozen E1.out 3
  have q4 := four_frozen E1.out 4
  have HA1 := hide ((Aside.refl w.heap.size (w.heap.size + 2) w2).setCell (p := ⟨w.heap.size, 2, none⟩) (Nat.le_refl _) (by simp) (.slice (some ⟨gm, 0, none⟩) m cm'))
  have HAS := hide (five_aside (b := w.heap.size + 1) HA1.out (by omega) (by omega) (.int .i64 z) (.slice (some ⟨g, 0, none⟩) n c) (.slice (some ⟨gm, 0, none⟩) m cm') (.int .i64 op) (.int .i64 st))
  have HRS := hide (five_set (set_other (o := 2) E1.out (show w.heap.size ≠ w.heap.size + 1 by omega) (.slice (some ⟨gm, 0, none⟩) m cm')) (.int .i64 z) (.slice (some ⟨g, 0, none⟩) n c) (.slice (some ⟨gm, 0, none⟩) m cm') (.int .i64 op) (.int .i64 st))
  clear c0 c1 c2 c3 c4 d2 d3 d4
  obtain ⟨c0, c1, c2, c3, c4⟩ := five_cells B0.out
  go_upto_region 2 with fail
  rw [← hwB]
  have HZB := hide hzB
  have HZC := hide hzC
  clear hwB d0 d1 f0 f1 hzB hzC
  have c2' := c2
  clear c2
  have c2 : (wB.alloc (.cells #[] 48)).cell? ⟨w.heap.size, 2, none⟩ = some (.slice am m cm) := by rw [← hwC]; exact (five_cells C0.out).2.2.1
  go_wp2_with (at_builtin; rw [← hwC]; refine wpList_append_eq rfl (.tmp 7) (.tmp 9) 27 rfl _ _ _ w2 rfl rfl HAP.out ?_)
  have hzB := HZB.out
  have hzC := HZC.out
  refine bodyPost_ret (results_cell rfl rfl (run_loadVar_row _ _ _ _ _ _ _ HRS.out Tryz.underlying29 rfl (by kernel_rfl))) rfl ⟨g, c, gm, cm', A, C, rfl, (HG2.out.aside HAS.out (.inl (by omega))).mono (by omega), ?_, by omega, HB2.out.trans (HAS.out.below (by omega) (by omega))⟩
  exact own_aside2 (HPO.out.mono (show w.heap.size + 2 ≤ wB.heap.size by omega)) HAS.out (Nat.le_refl _) |>.mono (by omega)
end Go.Proofs.YtoocbagnfkgbfaaGreatDoor
end

section
namespace Go.Proofs.YtoocbagnfkgbfaaGreatDoor
open Go.RowKit
set_option linter.unusedVariables false
set_option maxRecDepth 20000

theorem Tryz.infoJob : (Tryz.prog.info? 119).map (fun i => (i.zero, i.size, i.bytes)) = some (some (.agg #[.int .i64 0, .int .i64 0, .string ByteArray.empty]), 3, 32) := by kernel_rfl
/-- An Ftl that is worked on, and the Jobs that were done, behind two pointers. -/
structure FtlAt (B : Nat) (w : World) (px pj : Nat) (z st : Int) (n g c gm cm : Nat) (A : Nat → Option Addr) (C : Nat → Nat) (V : Value) (s : Kp) : Prop where
  mem : KpMem B w n g gm cm A C V s
  ftl : w.heap[px]? = some (.cells #[.int .i64 z, .slice (some ⟨g, 0, none⟩) n c, .slice (some ⟨gm, 0, none⟩) s.ps.length cm, .int .i64 s.op, .int .i64 st] 29)
  jobs : w.heap[pj]? = some (.cells #[V] 99)
  nx : px ≠ g
  nj : pj ≠ g
  bx : B ≤ px
  bj : B ≤ pj
theorem FtlAt.later {B px pj n g c gm cm : Nat} {w w' : World} {z st : Int} {A : Nat → Option Addr} {C : Nat → Nat} {V : Value} {s : Kp} (h : FtlAt B w px pj z st n g c gm cm A C V s) (hb : Below w.heap.size w w') : FtlAt B w' px pj z st n g c gm cm A C V s :=
  ⟨h.mem.later hb, block_on h.ftl hb, block_on h.jobs hb, h.nx, h.nj, h.bx, h.bj⟩
/-- A Job is put down behind the others. -/
theorem noted_at {B px pj n g c gm cm g' c' : Nat} {w w' : World} {z st kd sq : Int} {tx : ByteArray} {A : Nat → Option Addr} {C : Nat → Nat} {aj : Option Addr} {cj : Nat} {s : Kp} (h : KpMem B w n g gm cm A C (.slice aj s.js.length cj) s)
    (hx : w.heap[px]? = some (.cells #[.int .i64 z, .slice (some ⟨g, 0, none⟩) n c, .slice (some ⟨gm, 0, none⟩) s.ps.length cm, .int .i64 s.op, .int .i64 st] 29)) (hp : w.heap[pj]? = some (.cells #[.slice aj s.js.length cj] 99))
    (hr : w.grownBy w' (Value.slice aj s.js.length cj).ownBlock) (ho : w'.ownsRow B 119 3 (.slice (some ⟨g', 0, none⟩) (s.js.length + 1) c') (s.js.length + 1) (jbL s.js ++ [.int .i64 kd, .int .i64 sq, .string tx]))
    (hat : (Value.slice aj s.js.length cj).ownBlock = some g' ∨ w.heap.size ≤ g') (hnx : px ≠ g) (hnj : pj ≠ g) (hbx : B ≤ px) (hbj : B ≤ pj) :
    FtlAt B (w'.setCell ⟨pj, 0, none⟩ (.slice (some ⟨g', 0, none⟩) (s.js.length + 1) c')) px pj z st n g c gm cm A C (.slice (some ⟨g', 0, none⟩) (s.js.length + 1) c') ⟨s.qs, s.ps, s.op, s.js ++ [(kd, sq, tx)]⟩ := by
  have hk : ∀ (p : Nat) (cs : Array Value) (T : TypeId) (fr : Nat × Nat), w.heap[p]? = some (.cells cs T fr) → T ≠ 119 → w'.heap[p]? = some (.cells cs T fr) := fun p cs T fr h1 h2 => by
    rw [hr.block p (Array.getElem?_eq_some_iff.1 h1).1 (fun e => ?_)]
    · exact h1
    · obtain ⟨cs', fz, h3⟩ := Go.Lib.ownsRow_kind h.jb p e.symm
      rw [h1] at h3
      simp only [Option.some.injEq, Obj.cells.injEq] at h3
      exact h2 h3.2.1
  have hxj : pj ≠ px := fun e => by
    rw [e, hx] at hp
    simp only [Option.some.injEq, Obj.cells.injEq] at hp
    exact absurd hp.2.1 (by decide)
  have e : s.js.length + 1 = (s.js ++ [(kd, sq, tx)]).length := by simp
  have ho' : JbOwn B w' (.slice (some ⟨g', 0, none⟩) (s.js.length + 1) c') (s.js ++ [(kd, sq, tx)]) := by
    show World.ownsRow _ _ _ _ _ (s.js ++ [(kd, sq, tx)]).length (jbL (s.js ++ [(kd, sq, tx)]))
    rw [← e, ← jbL_snoc]
    exact ho
  have hm := h.noted (j := (kd, sq, tx)) hr ho' (hat.imp (fun e => e.symm) (fun e => ⟨g', rfl, e⟩))
  have hp' := hk pj _ _ _ hp (by decide)
  exact ⟨hm.set _ hnj hp' (by decide) (by decide) (by decide), set_other (hk px _ _ _ hx (by decide)) hxj _, set_block hp' 0 _ (by simp), hnx, hnj, hbx, hbj⟩
/-- How such a call ends. -/
def FPost (r : Option Kp) (B px pj : Nat) (z st : Int) (n g c gm cm : Nat) (w : World) (e : Ending) (w' : World) : Prop :=
  e = .returned (.bool r.isSome) ∧ Frame B [g, px, pj, gm] w w' ∧ ∀ s', r = some s' → ∃ A C V, FtlAt B w' px pj z st n g c gm cm A C V s'

set_option maxHeartbeats 1600000 in
theorem l10Do_any (B px pj : Nat) (z st : Int) (n g c gm cm : Nat) (A : Nat → Option Addr) (C : Nat → Nat) (V : Value) (s : Kp) (kd sq : Int) (tx : ByteArray) (w : World) (h : FtlAt B w px pj z st n g c gm cm A C V s) (hB : B ≤ w.heap.size) (hok : chipOk z s.qs = true) (htx : tx.size ≤ maxLen) (hjs : s.js.length ≤ 1048576) :
    Calls Tryz.prog 133 #[.pointer (some ⟨px, 0, none⟩), .pointer (some ⟨pj, 0, none⟩), .agg #[.int .i64 kd, .int .i64 sq, .string tx]] w fun e w' => FPost (doK z s (kd, sq, tx)) B px pj z st n g c gm cm w e w' := by
  obtain ⟨wA, hwA⟩ : ∃ wA, wA = w.alloc (.cells #[.int .i64 kd, .int .i64 sq, .string tx] 119) := ⟨_, rfl⟩
  have hzA : wA.heap.size = w.heap.size + 1 := by rw [hwA]; simp
  have HBA : Hid (Below w.heap.size w wA) := by rw [hwA]; exact (Below.refl _ _).alloc (Nat.le_refl _) _
  have HJ : Hid (wA.heap[w.heap.size]? = some (.cells #[.int .i64 kd, .int .i64 sq, .string tx] 119)) := by rw [hwA]; exact heap_new _ _
  have HA := hide (h.later HBA.out)
  have hxl : px < w.heap.size := (Array.getElem?_eq_some_iff.1 h.ftl).1
  have hjl : pj < w.heap.size := (Array.getElem?_eq_some_iff.1 h.jobs).1
  have hgl : g < w.heap.size := by have := h.mem.sq.row.1; omega
  obtain ⟨aj, cj, rfl, hcj⟩ := jb_form h.mem.jb
  have HDO : Hid (doK z s (kd, sq, tx) = if canJ z s.qs (kd, sq, tx) then some ⟨doJ z s.qs (kd, sq, tx), s.ps, s.op, s.js ++ [(kd, sq, tx)]⟩ else none) := rfl
  have HC : ∀ w9, Hid (Below wA.heap.size wA w9 → Calls Tryz.prog 92 #[.pointer (some ⟨px, 0, none⟩), .agg #[.int .i64 kd, .int .i64 sq, .string tx]] w9 fun e w' => e = .returned (.bool (canJ z s.qs (kd, sq, tx))) ∧ ∃ A' C', GrowSqs B w' n (doJ z s.qs (kd, sq, tx)) g A' C' ∧ Only B g wA w') := fun w9 h9 =>
    (l8Do_at px c B z n s.qs g A C kd sq tx w9 ((HA.out.later h9).mem.sq) (by have := h9.size; omega) (HA.out.later h9).ftl rfl rfl h.nx hok htx).mono (fun e w' hh => ⟨hh.1, by obtain ⟨_, A', C', h2, h3⟩ := hh; exact ⟨A', C', h2, (only_of_below h9 (by omega)).trans h3⟩⟩)
  have HNX := hide h.nx
  have HNJ := hide h.nj
  have HBX := hide h.bx
  have HBJ := hide h.bj
  clear h hok
  obtain ⟨b0, b1, b2⟩ := three_cells HJ.out
  go_enter Tryz.func133, Tryz.ntmps133
  go_upto_region 1 with fail
  rw [← hwA]
  clear hwA
  go_cut [12] (fun d wx => d = .bool (!canJ z s.qs (kd, sq, tx)) ∧ ∃ A' C', GrowSqs B wx n (doJ z s.qs (kd, sq, tx)) g A' C' ∧ Only B g wA wx)
  case first =>
    go_region_with (go_at_call 92; refine ((HC _).out (by exact (Below.refl _ wA).drew)).mono ?_; rintro e w1 ⟨rfl, A', C', hG1, hO1⟩; have HG1 := hide hG1; have HO1 := hide hO1; clear hG1 hO1)
    all_goals
      go_wp2_with fail
      go_meet
      exact ⟨rfl, _, _, HG1.out, HO1.out⟩
  case rest =>
    obtain ⟨rfl, A', C', hG1, hO1⟩ := hcut
    obtain ⟨w1, hw1⟩ : ∃ w1, w1 = wc := ⟨_, rfl⟩
    subst hw1
    have HB1 := hide ((frame_of_below (L := [g, px, pj, gm]) HBA.out hB).trans (frame_of_only hO1 (by simp)))
    have hs1 := hO1.below.size
    have HM1 := hide (HA.out.mem.did hG1 hO1 (by omega))
    have HX1 := hide (hO1.other px _ _ _ HNX.out (by decide) HA.out.ftl)
    have HP1 := hide (hO1.other pj _ _ _ HNJ.out (by decide) HA.out.jobs)
    have HJ1 := hide (hO1.other w.heap.size _ _ _ (by omega) (by decide) HJ.out)
    clear hG1 hO1 HC HA HJ b0 b1 b2
    cases hcan : canJ z s.qs (kd, sq, tx) with
    | false =>
      have HE : Hid (doK z s (kd, sq, tx) = none) := by show _ = _; rw [HDO.out, hcan]; rfl
      go_wp2_with fail
      go_ret
      exact ⟨by rw [HE.out]; rfl, HB1.out, fun s' hs' => by rw [HE.out] at hs'; cases hs'⟩
    | true =>
      have HE : Hid (doK z s (kd, sq, tx) = some ⟨doJ z s.qs (kd, sq, tx), s.ps, s.op, s.js ++ [(kd, sq, tx)]⟩) := by show _ = _; rw [HDO.out, hcan]; rfl
      clear hcan HDO
      obtain ⟨j0, j1, j2⟩ := three_cells HJ1.out
      have p0 : w1.cell? ⟨pj, 0, none⟩ = some (.slice aj s.js.length cj) := by simp [World.cell?, HP1.out]
      obtain ⟨i0, hi0, hzz0, hzz1, hzz2⟩ := info_parts Tryz.infoJob
      have HBB := hide ((Below.refl w1.heap.size w1).alloc (Nat.le_refl _) (.cells #[.int .i64 kd, .int .i64 sq, .string tx] 119))
      have HMB := hide (HM1.out.later HBB.out)
      have HPB := hide (block_on HP1.out HBB.out)
      have HXB := hide (block_on HX1.out HBB.out)
      have HOD : Hid (World.ownsRow (w1.alloc (.cells #[.int .i64 kd, .int .i64 sq, .string tx] 119)).drew B 119 3 (.slice aj s.js.length cj) s.js.length (jbL s.js)) := World.ownsRow.drew HMB.out.jb
      have hzB : (w1.alloc (.cells #[.int .i64 kd, .int .i64 sq, .string tx] 119)).heap.size = w1.heap.size + 1 := by simp
      have HZB := hide hzB
      clear hzB
      have p1 : (w1.alloc (.cells #[.int .i64 kd, .int .i64 sq, .string tx] 119)).cell? ⟨pj, 0, none⟩ = some (.slice aj s.js.length cj) := by simp [World.cell?, HPB.out]
      have f1 := four_frozen HPB.out 0
      have HNE : Hid (some pj ≠ (Value.slice aj s.js.length cj).ownBlock) := fun e => by
        obtain ⟨cs, fz, h2⟩ := Go.Lib.ownsRow_kind HMB.out.jb pj e.symm
        rw [HPB.out] at h2
        simp only [Option.some.injEq, Obj.cells.injEq] at h2
        exact absurd h2.2.1 (by decide)
      have hpl1 : pj < w1.heap.size := by omega
      go_upto_region 3 with fail
      go_region_law (refine step_append_lies _ (by rfl) _ _ _ (by rfl) B 119 i0 (.agg #[.int .i64 0, .int .i64 0, .string ByteArray.empty]) 3 32 Tryz.underlying99 hi0 hzz0 hzz1 hzz2 rfl (by decide) (.slice aj s.js.length cj) s.js.length (jbL s.js) (by rfl) HOD.out ⟨w1.heap.size, 0, none⟩ 1 1 [.int .i64 kd, .int .i64 sq, .string tx] (by rfl) rfl (cell_three_new _ _ _ _ _) (job_one _ _ _) (by omega) (by unfold maxLen; omega) (by omega) (by simp; omega) (w1.heap.size + 1) (by simp) ?_; intro g' c' w5 hown5 hgr5 hat5 hlt5; have c5 := (hgr5.cell_far ⟨pj, 0, none⟩ (by simp; omega) HNE.out).trans p1; have f5 := (hgr5.frozen_far ⟨pj, 0, none⟩ (by simp; omega) HNE.out).trans f1; have HO5 := hide hown5; have HR5 := hide hgr5; have HA5 := hide hat5; clear hown5 hgr5 hat5)
      all_goals
        have hzB := HZB.out
        have HR6 : Hid ((w1.alloc (.cells #[.int .i64 kd, .int .i64 sq, .string tx] 119)).grownBy w5 (Value.slice aj s.js.length cj).ownBlock) := ⟨HR5.out.os, HR5.out.tape, HR5.out.output, HR5.out.size, fun k hk hne => HR5.out.block k hk hne⟩
        have HF := hide (noted_at (s := ⟨doJ z s.qs (kd, sq, tx), s.ps, s.op, s.js⟩) HMB.out HXB.out HPB.out HR6.out HO5.out (HA5.out.imp id (fun e => by omega)) HNX.out HNJ.out HBX.out HBJ.out)
        have HBF := hide (((HB1.out.on HBB.out (by omega)).noted HMB.out.jb HR6.out (by omega)).set (p := pj) (by simp) HBJ.out 0 (.slice (some ⟨g', 0, none⟩) (s.js.length + 1) c'))
        go_wp2_with fail
        go_ret
        exact ⟨by rw [HE.out]; rfl, HBF.out, fun s' hs' => by rw [HE.out] at hs'; simp only [Option.some.injEq] at hs'; subst hs'; exact ⟨_, _, _, HF.out⟩⟩
end Go.Proofs.YtoocbagnfkgbfaaGreatDoor
end

