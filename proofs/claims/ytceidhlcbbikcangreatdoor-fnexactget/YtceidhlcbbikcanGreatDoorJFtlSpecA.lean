/- Several texts in one: FtlSpecA, FtlSpecB. -/
import Derived.Test.YtceidhlcbbikcanGreatDoorJFtlMath
import Derived.Test.YtceidhlcbbikcanGreatDoorJChipOwn2
import Derived.Test.YtceidhlcbbikcanGreatDoorJLySpecB2
import Derived.Test.YtceidhlcbbikcanGreatDoorJWearSpecC
import Derived.Deep.RegionHeld3
import Derived.Deep.DeepCutAuto
import Derived.Test.YtceidhlcbbikcanGreatDoorJChipCopyS
section
namespace Go.Proofs.YtceidhlcbbikcanGreatDoor
open Go.RowKit
set_option linter.unusedVariables false
set_option maxRecDepth 20000

set_option maxHeartbeats 400000 in
theorem l7Well_any (k : Int) (w : World) : Calls Tryz.prog 27 #[.int .i64 k] w fun e w' => e = .returned (.bool (lyWell k)) ∧ w = w' := by
  by_cases h : k = 1
  · subst h
    go_enter Tryz.func27, Tryz.ntmps27
    go_wp2_with fail
    go_ret
    exact ⟨rfl, rfl⟩
  · have g : (k == 1) = false := by simpa using h
    go_enter Tryz.func27, Tryz.ntmps27
    go_wp2_with fail
    go_ret
    exact ⟨ret_bool (by unfold lyWell; rw [g]; rfl), rfl⟩

set_option maxHeartbeats 1600000 in
theorem l10Page_any (z : Int) (a : Option Addr) (n cap : Nat) (qs : List Sq) (p q : Int) (w : World) {lo hi : Nat} (h : Squares lo hi w a n qs) (hhi : hi ≤ w.heap.size) (hn : n ≤ 1048576) (hf : ∀ x ∈ qs, sqFits x) (hok : chipOk z qs = true) :
    Calls Tryz.prog 26 #[.agg #[.int .i64 z, .slice a n cap], .agg #[.int .i64 p, .int .i64 q]] w fun e w' => e = .returned (lyV (pgOf z qs (p, q))) ∧ Below w.heap.size w w' := by
  obtain ⟨wA, hwA⟩ : ∃ wA, wA = ((w.alloc (.cells #[.int .i64 z, .slice a n cap] 32)).alloc (.cells #[.int .i64 p, .int .i64 q] 62)).alloc (.cells #[.int .i64 0, .int .i64 0, .int .i64 0, .string ⟨#[]⟩] 48) := ⟨_, rfl⟩
  have hzA : wA.heap.size = w.heap.size + 1 + 1 + 1 := by rw [hwA]; simp
  have HBA : Hid (Below w.heap.size w wA) := by rw [hwA]; exact ((((Below.refl _ _).alloc (Nat.le_refl _) _).alloc (by simp) _).alloc (by simp; omega) _)
  have H0 : Hid (wA.heap[w.heap.size]? = some (.cells #[.int .i64 z, .slice a n cap] 32)) := by rw [hwA]; exact heap_old (heap_old (heap_new _ _))
  have H1 : Hid (wA.heap[w.heap.size + 1]? = some (.cells #[.int .i64 p, .int .i64 q] 62)) := by rw [hwA]; exact heap_old (heap_at (by simp))
  have H2 : Hid (wA.heap[w.heap.size + 1 + 1]? = some (.cells #[.int .i64 0, .int .i64 0, .int .i64 0, .string ⟨#[]⟩] 48)) := by rw [hwA]; exact heap_at (by simp)
  have HS := hide (h.later HBA.out hhi)
  have HF := hide hf
  have hpz := pageAt_size (s := p) (p := q) hok
  have HE : Hid (pgOf z qs (p, q) = lyP (pageAt z qs p q)) := rfl
  clear h hf
  obtain ⟨c0, c1⟩ := two_cells H0.out
  obtain ⟨d0, d1⟩ := two_cells H1.out
  go_enter Tryz.func26, Tryz.ntmps26
  go_wp2_with fail
  rw [← hwA]
  clear hwA
  refine (specPageAt_any z a n cap qs p q wA HS.out (by omega) hn HF.out).mono ?_
  rintro e w1 ⟨rfl, b1⟩
  have K2 := hide (block_on H2.out b1)
  have HB1 := hide (below_here HBA.out b1)
  have hs1 := b1.size
  clear b1 c0 c1 d0 d1
  go_wp2_with fail
  refine (specLying_any (pageAt z qs p q) w1 (by omega)).mono ?_
  rintro e w2 ⟨rfl, b2⟩
  have E2 := hide (block_on K2.out b2)
  have HB2 := hide (below_here HB1.out b2)
  have hs2 := b2.size
  rw [← HE.out]
  clear b2
  obtain ⟨r, hr⟩ : ∃ r, r = pgOf z qs (p, q) := ⟨_, rfl⟩
  have HR := hide hr
  rw [← hr]
  clear hr
  obtain ⟨r0, r1, r2, r3, r4⟩ := r
  obtain ⟨e0, e1, e2, e3⟩ := four_cells E2.out
  have f0 := four_frozen E2.out 0
  have f1 := four_frozen E2.out 1
  have f2 := four_frozen E2.out 2
  have f3 := four_frozen E2.out 3
  have HRS := hide (four_set E2.out (.int .i64 r0) (.int .i64 r1) (.int .i64 r2) (.string r3))
  have HBS := hide (four_below (b := w.heap.size + 1 + 1) HB2.out (by omega) (.int .i64 r0) (.int .i64 r1) (.int .i64 r2) (.string r3))
  unfold lyV
  go_wp2_with fail
  refine bodyPost_ret (results_ct rfl rfl (run_loadVar_row _ _ _ _ _ _ _ HRS.out Tryz.underlying48 rfl (by kernel_rfl))) rfl ⟨by rw [← HR.out]; rfl, HBS.out⟩

set_option maxHeartbeats 3200000 in
theorem specFtlOk_any (z : Int) (a : Option Addr) (n cap : Nat) (qs : List Sq) (am : Option Addr) (m cm : Nat) (ps : List Pl) (op st : Int) (w : World) {lo hi lo' hi' : Nat} (h : Squares lo hi w a n qs) (hhi : hi ≤ w.heap.size) (hn : n ≤ 1048576) (hf : ∀ x ∈ qs, sqFits x) (hp : Places lo' hi' w am m ps) (hhi' : hi' ≤ w.heap.size) (hm : m ≤ 1048576) :
    Calls Tryz.prog 7 #[.agg #[.int .i64 z, .slice a n cap, .slice am m cm, .int .i64 op, .int .i64 st]] w fun e w' => e = .returned (.bool (ftlOk z qs ps op st)) ∧ Below w.heap.size w w' := by
  obtain ⟨wA, hwA⟩ : ∃ wA, wA = w.alloc (.cells #[.int .i64 z, .slice a n cap, .slice am m cm, .int .i64 op, .int .i64 st] 35) := ⟨_, rfl⟩
  have hzA : wA.heap.size = w.heap.size + 1 := by rw [hwA]; simp
  have HBA : Hid (Below w.heap.size w wA) := by rw [hwA]; exact (Below.refl _ _).alloc (Nat.le_refl _) _
  have H1 : Hid (wA.heap[w.heap.size]? = some (.cells #[.int .i64 z, .slice a n cap, .slice am m cm, .int .i64 op, .int .i64 st] 35)) := by rw [hwA]; exact heap_new _ _
  have HSQ := hide (h.later HBA.out hhi)
  have HPL := hide (hp.later HBA.out hhi')
  have HL := hide h.1
  have HLP := hide hp.1
  have HF := hide hf
  clear h hf hp
  obtain ⟨c0, c1, c2, c3, c4⟩ := five_cells H1.out
  go_enter Tryz.func7, Tryz.ntmps7
  go_wp2_with fail
  rw [← hwA]
  clear hwA
  refine (specMapOk_any z a n cap qs am m cm ps wA HSQ.out (by omega) hn HF.out HPL.out (by omega) hm).mono ?_
  rintro e w1 ⟨rfl, b1⟩
  have K1 := hide (block_on H1.out b1)
  have HS1 := hide (HSQ.out.later b1 (by omega))
  have HP1 := hide (HPL.out.later b1 (by omega))
  have HB1 := hide (below_here HBA.out b1)
  have hs1 := b1.size
  clear b1 H1 HSQ HPL HBA c0 c1 c2 c3 c4
  obtain ⟨c0, c1, c2, c3, c4⟩ := five_cells K1.out
  cases hok : mapOk z qs ps with
  | false =>
    have HE : Hid (ftlOk z qs ps op st = false) := by show _ = _; unfold ftlOk; rw [hok]; rfl
    go_wp2_with fail
    go_ret
    exact ⟨ret_bool HE.out.symm, HB1.out⟩
  | true =>
    have HCK := hide (mapOk_chip hok)
    have hn12 : n ≤ 12 := by have := (chipOk_parts (mapOk_chip hok)).2.2.2.1; rw [HL.out] at this; exact this
    have hm64 : m ≤ 64 := by have := (mapOk_len hok).2; rw [HLP.out] at this; exact this
    go_wp2_with fail
    refine (l1In_any op (-1) ((n : Int) - 1) w1).mono ?_
    rintro e w2 ⟨rfl, rfl⟩
    cases hin : inB op (-1) ((n : Int) - 1) with
    | false =>
      have HE : Hid (ftlOk z qs ps op st = false) := by show _ = _; unfold ftlOk; rw [HL.out, hin]; simp
      go_wp2_with fail
      go_ret
      exact ⟨ret_bool HE.out.symm, HB1.out⟩
    | true =>
      go_wp2_with fail
      refine (l1In_any st 0 1000000 w1).mono ?_
      rintro e w2 ⟨rfl, rfl⟩
      cases hst : inB st 0 1000000 with
      | false =>
        have HE : Hid (ftlOk z qs ps op st = false) := by show _ = _; unfold ftlOk; rw [hst]; simp
        go_wp2_with fail
        go_ret
        exact ⟨ret_bool HE.out.symm, HB1.out⟩
      | true =>
        have hin2 := hin
        unfold inB at hin2
        simp only [Bool.and_eq_true, decide_eq_true_eq] at hin2
        have HFT : Hid (ftlOk z qs ps op st = (opOk qs op && (List.range ps.length).all (fpOk z qs ps st))) := by show _ = _; unfold ftlOk; rw [hok, HL.out, hin, hst]; rfl
        clear hok hst hin
        go_upto_region 3 with fail
        go_cut [41] (fun c wx => c = .bool (!(opOk qs op)) ∧ Below w1.heap.size w1 wx)
        case first =>
          by_cases h0 : 0 ≤ op
          · obtain ⟨i, rfl⟩ : ∃ i : Nat, op = (i : Int) := ⟨op.toNat, by omega⟩
            have hlt : i < n := by omega
            have hlt2 : (i : Int) < (n : Int) := by omega
            obtain ⟨_, A, C, hx, ht⟩ := HS1.out
            obtain ⟨b, off, rfl, _, hb, hc⟩ := hx.2 (by omega)
            obtain ⟨y0, y1, y2⟩ := sq_cells hc (Below.refl w1.heap.size w1) (show b < w1.heap.size by have := hx.1; omega) hlt
            have HO : Hid ((!(opOk qs (i : Int))) = (sqAt qs i).2.2) := by show _ = _; unfold opOk; simp
            have g0 : decide ((i : Int) ≥ 0) = true := by simp
            generalize (sqAt qs i).2.2 = bd at *
            clear hc hx ht
            go_wp2_with fail
            go_meet
            exact ⟨by rw [HO.out], Below.refl _ _⟩
          · have g0 : decide (op ≥ 0) = false := by simpa using h0
            have HO : Hid ((!(opOk qs op)) = false) := by show _ = _; unfold opOk; rw [g0]; rfl
            go_wp2_with fail
            go_meet
            exact ⟨by rw [HO.out], Below.refl _ _⟩
        case rest =>
          obtain ⟨rfl, hb3⟩ := hcut
          obtain ⟨w3, hw3⟩ : ∃ w3, w3 = wc := ⟨_, rfl⟩
          subst hw3
          have K3 := hide (block_on K1.out hb3)
          have HS3 := hide (HS1.out.later hb3 (by omega))
          have HP3 := hide (HP1.out.later hb3 (by omega))
          have HB3 := hide (below_here HB1.out hb3)
          have hs3 := hb3.size
          clear hb3 K1 HS1 HP1 HB1 c0 c1 c2 c3 c4
          cases hop : opOk qs op with
          | false =>
            have HE : Hid (ftlOk z qs ps op st = false) := by show _ = _; rw [HFT.out, hop]; rfl
            go_wp2_with fail
            go_ret
            exact ⟨ret_bool HE.out.symm, HB3.out⟩
          | true =>
            have HE : Hid (ftlOk z qs ps op st = (List.range ps.length).all (fpOk z qs ps st)) := by show _ = _; rw [HFT.out, hop]; rfl
            simp only [Bool.not_true]
            go_wp2_with fail
            go_loopw [3] (fun i wr => ∃ k : Nat, k ≤ m ∧ i = .int .i64 (k : Int) ∧ (List.range k).all (fpOk z qs ps st) = true ∧ Below w3.heap.size w3 wr) (fun i _ => m - (intOf i).toNat)
            case atStart => exact ⟨0, Nat.zero_le _, rfl, rfl, Below.refl _ _⟩
            case round =>
              obtain ⟨k, hk, rfl, hall, hbel⟩ := hrel
              have HAL := hide hall
              have HBB := hide hbel
              clear hall
              have KR := hide (block_on K3.out hbel)
              obtain ⟨a0, a1, a2, a3, a4⟩ := five_cells KR.out
              by_cases hlt : k < m
              · have hpl : k < ps.length := by rw [HLP.out]; exact hlt
                obtain ⟨b, off, rfl, _, hb, hc⟩ := HP3.out.2.2 (by omega)
                have hbs : b < w3.heap.size := by have := HP3.out.2.1; omega
                obtain ⟨c0, c1⟩ := pl_cells hc hbel hbs hlt
                have HFA : Hid (fpOk z qs ps st k = false → ftlOk z qs ps op st = false) := fun hh => ftlOk_fall hpl hh
                have HST : Hid (fpOk z qs ps st k = true → (List.range (k + 1)).all (fpOk z qs ps st) = true) := fun hh => all_range_step HAL.out hh
                have HPO : Hid (fpOk z qs ps st k = ((((plAt ps k).1 == -1) && ((plAt ps k).2 == 0)) || (lyWell (pgOf z qs (plAt ps k)).2.2.2.2 && (((pgOf z qs (plAt ps k)).2.1 == (k : Int)) && !(decide ((pgOf z qs (plAt ps k)).2.2.1 > st)))))) := by
                  show _ = _
                  unfold fpOk
                  rw [pl_eq]
                have HC := hide hc
                clear hc
                have hszr := hbel.size
                clear hbel
                obtain ⟨y, hy⟩ : ∃ y, y = plAt ps k := ⟨_, rfl⟩
                have HY := hide hy
                rw [← hy] at c0 c1 HPO
                clear hy
                obtain ⟨p, q⟩ := y
                dsimp only at c0 c1 HPO
                have cN : ∀ d os, Calls Tryz.prog 25 #[] (Go.Sort.grow (redrawn wr d) os) fun e w'' => e = .returned (.agg #[.int .i64 (-1), .int .i64 0]) ∧ ∃ p : Regrown, w'' = Go.Sort.grow (redrawn wr p.d) p.os := fun d os => Calls.regrown_of (l9None_any _)
                have k0 := cell_regrown c0
                have k1 := cell_regrown c1
                have k2 := cell_regrown a2
                have q1 := Tryz.eqPl p q (-1) 0
                have q2 := Tryz.guardPl
                go_upto_region 8 with fail
                go_cut [55] (fun c wx => c = .bool ((p == -1) && (q == 0)) ∧ Below wr.heap.size wr wx)
                case first =>
                  refine wp_region_quiet_below (by kernel_rfl) (by kernel_rfl) ?_
                  repeat (go_big_quiet_step ((go_at_call 25; exact cN _ _)))
                  refine wpQuiet_nil ?_
                  intro _ hw'
                  obtain ⟨⟨dq, osq⟩, hw''⟩ := hw'
                  subst hw''
                  have HBQ := hide (below_regrown wr dq osq)
                  go_wp2_with fail
                  go_meet
                  exact ⟨rfl, HBQ.out⟩
                case rest =>
                  obtain ⟨rfl, hb2⟩ := hcut
                  obtain ⟨w4, hw4⟩ : ∃ w4, w4 = wc := ⟨_, rfl⟩
                  subst hw4
                  have HB4 := hide (below_here HBB.out hb2)
                  have K4 := hide (block_on KR.out hb2)
                  clear hb2 k0 k1 k2 cN q1 c0 c1 a0 a1 a2 a3 a4 KR
                  cases hnone : ((p == -1) && (q == 0)) with
                  | true =>
                    have HOK := hide (HST.out (by rw [HPO.out, hnone]; rfl))
                    go_wp2_with fail
                    exact ⟨⟨k + 1, by omega, by go_num, HOK.out, HB4.out⟩, by simp [intOf]; omega⟩
                  | false =>
                    obtain ⟨r, hr⟩ : ∃ r, r = pgOf z qs (p, q) := ⟨_, rfl⟩
                    have hs4 := HB4.out.size
                    have HCL : ∀ w', Hid (Below w4.heap.size w4 w' → Calls Tryz.prog 26 #[.agg #[.int .i64 z, .slice a n cap], .agg #[.int .i64 p, .int .i64 q]] w' fun e w'' => e = .returned (lyV r) ∧ Below w'.heap.size w' w'') := fun w' hb' => by
                      rw [hr]
                      have hs' := hb'.size
                      exact l10Page_any z a n cap qs p q w' (HS3.out.later (below_here HB4.out hb') (by omega)) (by omega) hn HF.out HCK.out
                    have HPO2 : Hid (fpOk z qs ps st k = (lyWell r.2.2.2.2 && ((r.2.1 == (k : Int)) && !(decide (r.2.2.1 > st))))) := by show _ = _; rw [HPO.out, hnone, hr]; rfl
                    clear hr hnone HPO
                    obtain ⟨r0, r1, r2, r3, r4⟩ := r
                    unfold lyV at HCL
                    dsimp only at HCL HPO2
                    obtain ⟨a0, a1, a2, a3, a4⟩ := five_cells K4.out
                    obtain ⟨c0, c1⟩ := pl_cells HC.out HB4.out hbs hlt
                    rw [← HY.out] at c0 c1
                    dsimp only at c0 c1
                    have hwz : w.heap.size < w4.heap.size := by omega
                    have HK : ∀ w', Hid (Below w4.heap.size w4 w' → w'.cell? ⟨w.heap.size, 0, none⟩ = some (.int .i64 z) ∧ w'.cell? ⟨w.heap.size, 1, none⟩ = some (.slice a n cap) ∧ w'.cell? ⟨w.heap.size, 2, none⟩ = some (.slice (some ⟨b, off, none⟩) m cm) ∧ w'.cell? ⟨b, off + k * 2, none⟩ = some (.int .i64 p) ∧ w'.cell? ⟨b, off + k * 2 + 1, none⟩ = some (.int .i64 q)) := fun w' hb' => ⟨(hb'.cell (p := ⟨_, _, none⟩) hwz).trans a0, (hb'.cell (p := ⟨_, _, none⟩) hwz).trans a1, (hb'.cell (p := ⟨_, _, none⟩) hwz).trans a2, (hb'.cell (p := ⟨_, _, none⟩) (by show b < _; omega)).trans c0, (hb'.cell (p := ⟨_, _, none⟩) (by show b < _; omega)).trans c1⟩
                    go_upto_region 9 with fail
                    have HB0 : Hid (Below w4.heap.size w4 w4.drew) := (Below.refl w4.heap.size w4).drew
                    have HBa : Hid (Below w4.heap.size w4 (w4.alloc (.cells #[.int .i64 0, .int .i64 0, .int .i64 0, .string ⟨#[]⟩] 48)).drew) := ((Below.refl w4.heap.size w4).alloc (Nat.le_refl _) _).drew
                    have HEa : Hid ((w4.alloc (.cells #[.int .i64 0, .int .i64 0, .int .i64 0, .string ⟨#[]⟩] 48)).drew.heap[w4.heap.size]? = some (.cells #[.int .i64 0, .int .i64 0, .int .i64 0, .string ⟨#[]⟩] 48)) := heap_new w4 _
                    go_region_held3 (fun w' => w'.cell? ⟨w.heap.size, 0, none⟩ = some (.int .i64 z) ∧ w'.cell? ⟨w.heap.size, 1, none⟩ = some (.slice a n cap) ∧ w'.cell? ⟨w.heap.size, 2, none⟩ = some (.slice (some ⟨b, off, none⟩) m cm) ∧ w'.cell? ⟨b, off + k * 2, none⟩ = some (.int .i64 p) ∧ w'.cell? ⟨b, off + k * 2 + 1, none⟩ = some (.int .i64 q))
                      (first | exact (HK _).out HB0.out | exact (HK _).out HBa.out | exact (HK _).out HB5.out | exact (HK _).out HBS.out | exact (HK _).out HB6.out | exact ⟨a0, a1, a2, c0, c1⟩ | fail)
                      (first
                        | (go_at_call 26; refine ((HCL _).out HB0.out).mono ?_; rintro e w5 ⟨rfl, b5⟩; have HB5 := hide (below_here HB0.out b5); have hs5 := b5.size; have HB6 := hide (HB5.out.alloc HB5.out.size (.cells #[.int .i64 0, .int .i64 0, .int .i64 0, .string ⟨#[]⟩] 48)); have HBS := hide (HB5.out.alloc HB5.out.size (.cells #[.int .i64 r0, .int .i64 r1, .int .i64 r2, .string r3] 48)); have HRS := hide (heap_new w5 (.cells #[.int .i64 r0, .int .i64 r1, .int .i64 r2, .string r3] 48)))
                        | (go_at_call 26; refine ((HCL _).out HBa.out).mono ?_; rintro e w5 ⟨rfl, b5⟩; have HB5 := hide (below_here HBa.out b5); have hs5 := b5.size; have E5 := hide (block_on HEa.out b5); obtain ⟨e0, e1, e2, e3⟩ := four_cells E5.out; have f0 := four_frozen E5.out 0; have f1 := four_frozen E5.out 1; have f2 := four_frozen E5.out 2; have f3 := four_frozen E5.out 3; have HRS := hide (four_set E5.out (.int .i64 r0) (.int .i64 r1) (.int .i64 r2) (.string r3)); have HBS := hide (four_below (b := w4.heap.size) HB5.out (Nat.le_refl _) (.int .i64 r0) (.int .i64 r1) (.int .i64 r2) (.string r3))))
                    all_goals
                      clear HB0 HBa HEa HK HCL a0 a1 a2 a3 a4 c0 c1 b5 HB5 hs5
                      have HB7 := hide (below_here HB4.out HBS.out)
                      have HB8 := hide (below_here HB3.out HB7.out)
                      obtain ⟨d0, d1, d2, d3⟩ := four_cells HRS.out
                      obtain ⟨a0, a1, a2, a3, a4⟩ := five_cells (block_on K4.out HBS.out)
                      go_wp2_with fail
                      refine (l7Well_any r4 _).mono ?_
                      rintro e wx ⟨rfl, rfl⟩
                      cases hw : lyWell r4 with
                      | false =>
                        have HNO := hide (HFA.out (by rw [HPO2.out, hw]; rfl))
                        go_wp2_with fail
                        go_ret
                        exact ⟨ret_bool HNO.out.symm, HB8.out⟩
                      | true =>
                        by_cases h1 : r1 = (k : Int)
                        · have g1 : (r1 != (k : Int)) = false := by simpa using h1
                          have g3 : (r1 == (k : Int)) = true := by simpa using h1
                          cases h2 : decide (r2 > st) with
                          | true =>
                            have HNO := hide (HFA.out (by rw [HPO2.out, hw, g3, h2]; rfl))
                            clear h1 g3
                            go_wp2_with fail
                            go_ret
                            exact ⟨ret_bool HNO.out.symm, HB8.out⟩
                          | false =>
                            have HOK := hide (HST.out (by rw [HPO2.out, hw, g3, h2]; rfl))
                            clear h1 g3
                            go_wp2_with fail
                            exact ⟨⟨k + 1, by omega, by go_num, HOK.out, HB7.out⟩, by simp [intOf]; omega⟩
                        · have g1 : (r1 != (k : Int)) = true := by simpa using h1
                          have g3 : (r1 == (k : Int)) = false := by simpa using h1
                          have HNO := hide (HFA.out (by rw [HPO2.out, hw, g3]; rfl))
                          clear h1 g3
                          go_wp2_with fail
                          go_ret
                          exact ⟨ret_bool HNO.out.symm, HB8.out⟩
              · obtain rfl : k = m := by omega
                have HYE : Hid (ftlOk z qs ps op st = true) := by show _ = _; rw [HE.out, HLP.out]; exact HAL.out
                have HB8 := hide (below_here HB3.out HBB.out)
                go_wp2_with fail
                go_ret
                exact ⟨ret_bool HYE.out.symm, HB8.out⟩
end Go.Proofs.YtceidhlcbbikcanGreatDoor
end

section
namespace Go.Proofs.YtceidhlcbbikcanGreatDoor
open Go.RowKit
set_option linter.unusedVariables false
set_option maxRecDepth 20000

theorem leastK_in {z : Int} {qs : List Sq} (h : chipOk z qs = true) : ∀ k, k ≤ qs.length → -1 ≤ leastK qs k ∧ leastK qs k ≤ 1000000
  | 0, _ => by simp [leastK]
  | k + 1, hk => by
    have h1 := leastK_in h k (by omega)
    have h2 := sqOk_parts (chipOk_at h (show k < qs.length by omega))
    unfold leastK
    split
    · exact h1
    · split
      · omega
      · exact h1
theorem mostK_in {z : Int} {qs : List Sq} (h : chipOk z qs = true) : ∀ k, k ≤ qs.length → -1 ≤ mostK qs k ∧ mostK qs k ≤ 1000000
  | 0, _ => by simp [mostK]
  | k + 1, hk => by
    have h1 := mostK_in h k (by omega)
    have h2 := sqOk_parts (chipOk_at h (show k < qs.length by omega))
    unfold mostK
    split
    · exact h1
    · split
      · exact h1
      · omega
theorem worn_in {z : Int} {qs : List Sq} (h : chipOk z qs = true) : (-1 ≤ (worn z qs).1 ∧ (worn z qs).1 ≤ 1000000) ∧ (-1 ≤ (worn z qs).2 ∧ (worn z qs).2 ≤ 1000000) := by
  unfold worn
  rw [if_pos h]
  exact ⟨leastK_in h _ (Nat.le_refl _), mostK_in h _ (Nat.le_refl _)⟩

set_option maxHeartbeats 3200000 in
theorem l10Get_any (z : Int) (a : Option Addr) (n cap : Nat) (qs : List Sq) (am : Option Addr) (m cm : Nat) (ps : List Pl) (op st : Int) (k : Nat) (w : World) {lo hi lo' hi' : Nat} (h : Squares lo hi w a n qs) (hhi : hi ≤ w.heap.size) (hn : n ≤ 1048576) (hf : ∀ x ∈ qs, sqFits x) (hp : Places lo' hi' w am m ps) (hhi' : hi' ≤ w.heap.size) (hm : m ≤ 64) (hlt : k < m) (hok : chipOk z qs = true) :
    Calls Tryz.prog 36 #[.agg #[.int .i64 z, .slice a n cap, .slice am m cm, .int .i64 op, .int .i64 st], .int .i64 (k : Int)] w fun e w' => e = .returned (.tuple #[.string (if plAt ps k == (-1, 0) then ByteArray.empty else (pgOf z qs (plAt ps k)).2.2.2.1), .bool (!(plAt ps k == (-1, 0)) && ((pgOf z qs (plAt ps k)).1 == 1))]) ∧ Below w.heap.size w w' := by
  obtain ⟨wr, hwA⟩ : ∃ wA, wA = w.alloc (.cells #[.int .i64 z, .slice a n cap, .slice am m cm, .int .i64 op, .int .i64 st] 35) := ⟨_, rfl⟩
  have hzA : wr.heap.size = w.heap.size + 1 := by rw [hwA]; simp
  have HBA : Hid (Below w.heap.size w wr) := by rw [hwA]; exact (Below.refl _ _).alloc (Nat.le_refl _) _
  have KR : Hid (wr.heap[w.heap.size]? = some (.cells #[.int .i64 z, .slice a n cap, .slice am m cm, .int .i64 op, .int .i64 st] 35)) := by rw [hwA]; exact heap_new _ _
  have HS3 := hide (h.later HBA.out hhi)
  have HP3 := hide (hp.later HBA.out hhi')
  have HF := hide hf
  have HCK := hide hok
  clear h hf hp hok
  obtain ⟨a0, a1, a2, a3, a4⟩ := five_cells KR.out
  obtain ⟨b, off, rfl, _, hb, hc⟩ := HP3.out.2.2 (by omega)
  have hbs : b < wr.heap.size := by have := HP3.out.2.1; omega
  obtain ⟨c0, c1⟩ := pl_cells hc (Below.refl wr.heap.size wr) hbs hlt
  have HC := hide hc
  clear hc
  obtain ⟨y, hy⟩ : ∃ y, y = plAt ps k := ⟨_, rfl⟩
  have HY := hide hy
  rw [← hy] at c0 c1
  rw [← hy, pl_eq]
  clear hy
  obtain ⟨p, q⟩ := y
  dsimp only at c0 c1
  dsimp only
  obtain ⟨tx, htx⟩ : ∃ t, t = (if (p == -1 && q == 0) = true then ByteArray.empty else (pgOf z qs (p, q)).2.2.2.1) := ⟨_, rfl⟩
  obtain ⟨bx, hbx⟩ : ∃ t, t = (!(p == -1 && q == 0) && (pgOf z qs (p, q)).1 == 1) := ⟨_, rfl⟩
  rw [← htx, ← hbx]
  have HTX := hide htx
  have HBX := hide hbx
  clear htx hbx
  go_enter Tryz.func36, Tryz.ntmps36
  go_upto_region 1 with fail
  rw [← hwA]
  clear hwA
  have cN : ∀ d os, Calls Tryz.prog 25 #[] (Go.Sort.grow (redrawn wr d) os) fun e w'' => e = .returned (.agg #[.int .i64 (-1), .int .i64 0]) ∧ ∃ p : Regrown, w'' = Go.Sort.grow (redrawn wr p.d) p.os := fun d os => Calls.regrown_of (l9None_any _)
  have k0 := cell_regrown c0
  have k1 := cell_regrown c1
  have k2 := cell_regrown a2
  have q1 := Tryz.eqPl p q (-1) 0
  have q2 := Tryz.guardPl
  go_cut [14] (fun c wx => c = .bool ((p == -1) && (q == 0)) ∧ Below wr.heap.size wr wx)
  case first =>
    refine wp_region_quiet_below (by kernel_rfl) (by kernel_rfl) ?_
    repeat (go_big_quiet_step ((go_at_call 25; exact cN _ _)))
    refine wpQuiet_nil ?_
    intro _ hw'
    obtain ⟨⟨dq, osq⟩, hw''⟩ := hw'
    subst hw''
    have HBQ := hide (below_regrown wr dq osq)
    go_wp2_with fail
    go_meet
    exact ⟨rfl, HBQ.out⟩
  case rest =>
    obtain ⟨rfl, hb2⟩ := hcut
    obtain ⟨w4, hw4⟩ : ∃ w4, w4 = wc := ⟨_, rfl⟩
    subst hw4
    have HB4 := hide hb2
    have K4 := hide (block_on KR.out hb2)
    clear hb2 k0 k1 k2 cN q1 c0 c1 a0 a1 a2 a3 a4 KR
    cases hnone : ((p == -1) && (q == 0)) with
    | true =>
      have HB5 := hide (below_here HBA.out HB4.out)
      go_wp2_with fail
      have HT2 : Hid (tx = ByteArray.empty) := by show _ = _; rw [HTX.out, hnone]; rfl
      have HX2 : Hid (bx = false) := by show _ = _; rw [HBX.out, hnone]; rfl
      go_ret2
      exact ⟨by rw [HT2.out, HX2.out]; rfl, HB5.out⟩
    | false =>
      obtain ⟨r, hr⟩ : ∃ r, r = pgOf z qs (p, q) := ⟨_, rfl⟩
      have hs4 := HB4.out.size
      have HCL : ∀ w', Hid (Below w4.heap.size w4 w' → Calls Tryz.prog 26 #[.agg #[.int .i64 z, .slice a n cap], .agg #[.int .i64 p, .int .i64 q]] w' fun e w'' => e = .returned (lyV r) ∧ Below w'.heap.size w' w'') := fun w' hb' => by
        rw [hr]
        have hs' := hb'.size
        exact l10Page_any z a n cap qs p q w' (HS3.out.later (below_here HB4.out hb') (by omega)) (by omega) hn HF.out HCK.out
      have HR := hide hr
      have HT2 : Hid (tx = r.2.2.2.1) := by show _ = _; rw [HTX.out, hnone, hr]; rfl
      have HX2 : Hid (bx = (r.1 == 1)) := by show _ = _; rw [HBX.out, hnone, hr]; rfl
      clear hr hnone HTX HBX
      obtain ⟨r0, r1, r2, r3, r4⟩ := r
      unfold lyV at HCL
      dsimp only at HCL
      obtain ⟨a0, a1, a2, a3, a4⟩ := five_cells K4.out
      obtain ⟨c0, c1⟩ := pl_cells HC.out HB4.out hbs hlt
      rw [← HY.out] at c0 c1
      dsimp only at c0 c1
      have hwz : w.heap.size < w4.heap.size := by omega
      have HK : ∀ w', Hid (Below w4.heap.size w4 w' → w'.cell? ⟨w.heap.size, 0, none⟩ = some (.int .i64 z) ∧ w'.cell? ⟨w.heap.size, 1, none⟩ = some (.slice a n cap) ∧ w'.cell? ⟨w.heap.size, 2, none⟩ = some (.slice (some ⟨b, off, none⟩) m cm) ∧ w'.cell? ⟨b, off + k * 2, none⟩ = some (.int .i64 p) ∧ w'.cell? ⟨b, off + k * 2 + 1, none⟩ = some (.int .i64 q)) := fun w' hb' => ⟨(hb'.cell (p := ⟨_, _, none⟩) hwz).trans a0, (hb'.cell (p := ⟨_, _, none⟩) hwz).trans a1, (hb'.cell (p := ⟨_, _, none⟩) hwz).trans a2, (hb'.cell (p := ⟨_, _, none⟩) (by show b < _; omega)).trans c0, (hb'.cell (p := ⟨_, _, none⟩) (by show b < _; omega)).trans c1⟩
      go_upto_region 3 with fail
      go_cut [6] (fun v wx => ∃ g, v = .pointer (some ⟨g, 0, none⟩) ∧ wx.heap[g]? = some (.cells #[.int .i64 r0, .int .i64 r1, .int .i64 r2, .string r3] 48) ∧ Below w4.heap.size w4 wx)
      case first =>
        have HB0 : Hid (Below w4.heap.size w4 w4.drew) := (Below.refl w4.heap.size w4).drew
        have HBa : Hid (Below w4.heap.size w4 (w4.alloc (.cells #[.int .i64 0, .int .i64 0, .int .i64 0, .string ⟨#[]⟩] 48)).drew) := ((Below.refl w4.heap.size w4).alloc (Nat.le_refl _) _).drew
        have HEa : Hid ((w4.alloc (.cells #[.int .i64 0, .int .i64 0, .int .i64 0, .string ⟨#[]⟩] 48)).drew.heap[w4.heap.size]? = some (.cells #[.int .i64 0, .int .i64 0, .int .i64 0, .string ⟨#[]⟩] 48)) := heap_new w4 _
        go_region_held3 (fun w' => w'.cell? ⟨w.heap.size, 0, none⟩ = some (.int .i64 z) ∧ w'.cell? ⟨w.heap.size, 1, none⟩ = some (.slice a n cap) ∧ w'.cell? ⟨w.heap.size, 2, none⟩ = some (.slice (some ⟨b, off, none⟩) m cm) ∧ w'.cell? ⟨b, off + k * 2, none⟩ = some (.int .i64 p) ∧ w'.cell? ⟨b, off + k * 2 + 1, none⟩ = some (.int .i64 q))
          (first | exact (HK _).out HB0.out | exact (HK _).out HBa.out | exact (HK _).out HB5.out | exact (HK _).out HBS.out | exact (HK _).out HB6.out | exact ⟨a0, a1, a2, c0, c1⟩ | fail)
          (first
            | (go_at_call 26; refine ((HCL _).out HB0.out).mono ?_; rintro e w5 ⟨rfl, b5⟩; have HB5 := hide (below_here HB0.out b5); have hs5 := b5.size; have HB6 := hide (HB5.out.alloc HB5.out.size (.cells #[.int .i64 0, .int .i64 0, .int .i64 0, .string ⟨#[]⟩] 48)); have HBS := hide (HB5.out.alloc HB5.out.size (.cells #[.int .i64 r0, .int .i64 r1, .int .i64 r2, .string r3] 48)); have HRS := hide (heap_new w5 (.cells #[.int .i64 r0, .int .i64 r1, .int .i64 r2, .string r3] 48)))
            | (go_at_call 26; refine ((HCL _).out HBa.out).mono ?_; rintro e w5 ⟨rfl, b5⟩; have HB5 := hide (below_here HBa.out b5); have hs5 := b5.size; have E5 := hide (block_on HEa.out b5); obtain ⟨e0, e1, e2, e3⟩ := four_cells E5.out; have f0 := four_frozen E5.out 0; have f1 := four_frozen E5.out 1; have f2 := four_frozen E5.out 2; have f3 := four_frozen E5.out 3; have HRS := hide (four_set E5.out (.int .i64 r0) (.int .i64 r1) (.int .i64 r2) (.string r3)); have HBS := hide (four_below (b := w4.heap.size) HB5.out (Nat.le_refl _) (.int .i64 r0) (.int .i64 r1) (.int .i64 r2) (.string r3))))

        all_goals
          clear HB0 HBa HEa HK HCL a0 a1 a2 a3 a4 c0 c1 b5 HB5 hs5
          go_wp2_with fail
          go_meet
          exact ⟨_, rfl, HRS.out, HBS.out⟩
      case rest =>
        obtain ⟨g, rfl, hrs, hb5⟩ := hcut
        obtain ⟨w5, hw5⟩ : ∃ w5, w5 = wc := ⟨_, rfl⟩
        subst hw5
        have HB7 := hide (below_here HB4.out hb5)
        have HB8 := hide (below_here HBA.out HB7.out)
        clear hb5 HK HCL a0 a1 a2 a3 a4 c0 c1
        obtain ⟨d0, d1, d2, d3⟩ := four_cells hrs
        go_wp2_with fail
        have HB9 : Hid (Below w.heap.size w w5.drew) := HB8.out.drew
        go_region_held3 (fun w' => w'.cell? ⟨g, 0, none⟩ = some (.int .i64 r0) ∧ w'.cell? ⟨g, 3, none⟩ = some (.string r3)) (exact ⟨d0, d3⟩) (fail)
        all_goals
          go_wp2_with fail
          go_ret2
          exact ⟨by rw [HT2.out, HX2.out]; rfl, HB9.out⟩

set_option maxHeartbeats 1600000 in
theorem specGet_any (z : Int) (a : Option Addr) (n cap : Nat) (qs : List Sq) (am : Option Addr) (m cm : Nat) (ps : List Pl) (op st at_ : Int) (w : World) {lo hi lo' hi' : Nat} (h : Squares lo hi w a n qs) (hhi : hi ≤ w.heap.size) (hn : n ≤ 1048576) (hf : ∀ x ∈ qs, sqFits x) (hp : Places lo' hi' w am m ps) (hhi' : hi' ≤ w.heap.size) (hm : m ≤ 1048576) :
    Calls Tryz.prog 11 #[.agg #[.int .i64 z, .slice a n cap, .slice am m cm, .int .i64 op, .int .i64 st], .int .i64 at_] w fun e w' => e = .returned (.tuple #[.string (ftlGet z qs ps op st at_).1, .bool (ftlGet z qs ps op st at_).2]) ∧ Below w.heap.size w w' := by
  obtain ⟨gg, hgg⟩ : ∃ g, g = ftlGet z qs ps op st at_ := ⟨_, rfl⟩
  have HG := hide hgg
  rw [← hgg]
  clear hgg
  obtain ⟨wA, hwA⟩ : ∃ wA, wA = w.alloc (.cells #[.int .i64 z, .slice a n cap, .slice am m cm, .int .i64 op, .int .i64 st] 35) := ⟨_, rfl⟩
  have hzA : wA.heap.size = w.heap.size + 1 := by rw [hwA]; simp
  have HBA : Hid (Below w.heap.size w wA) := by rw [hwA]; exact (Below.refl _ _).alloc (Nat.le_refl _) _
  have H1 : Hid (wA.heap[w.heap.size]? = some (.cells #[.int .i64 z, .slice a n cap, .slice am m cm, .int .i64 op, .int .i64 st] 35)) := by rw [hwA]; exact heap_new _ _
  have HSQ := hide (h.later HBA.out hhi)
  have HPL := hide (hp.later HBA.out hhi')
  have HLP := hide hp.1
  have HF := hide hf
  clear h hf hp
  obtain ⟨c0, c1, c2, c3, c4⟩ := five_cells H1.out
  go_enter Tryz.func11, Tryz.ntmps11
  go_wp2_with fail
  rw [← hwA]
  clear hwA
  refine (specFtlOk_any z a n cap qs am m cm ps op st wA HSQ.out (by omega) hn HF.out HPL.out (by omega) hm).mono ?_
  rintro e w1 ⟨rfl, b1⟩
  have K1 := hide (block_on H1.out b1)
  have HS1 := hide (HSQ.out.later b1 (by omega))
  have HP1 := hide (HPL.out.later b1 (by omega))
  have HB1 := hide (below_here HBA.out b1)
  have hs1 := b1.size
  clear b1 H1 HSQ HPL HBA c0 c1 c2 c3 c4
  obtain ⟨c0, c1, c2, c3, c4⟩ := five_cells K1.out
  cases hok : ftlOk z qs ps op st with
  | false =>
    have HE : Hid (gg = (ByteArray.empty, false)) := by show _ = _; rw [HG.out]; unfold ftlGet; rw [hok]; rfl
    go_wp2_with fail
    go_ret2
    exact ⟨by rw [HE.out]; rfl, HB1.out⟩
  | true =>
    have HCK := hide (mapOk_chip (ftlOk_map hok))
    have hm64 : m ≤ 64 := by have := (mapOk_len (ftlOk_map hok)).2; rw [HLP.out] at this; exact this
    go_wp2_with fail
    refine (l1In_any at_ 0 ((m : Int) - 1) w1).mono ?_
    rintro e w2 ⟨rfl, rfl⟩
    cases hin : inB at_ 0 ((m : Int) - 1) with
    | false =>
      have HE : Hid (gg = (ByteArray.empty, false)) := by show _ = _; rw [HG.out]; unfold ftlGet; rw [HLP.out, hin]; simp
      go_wp2_with fail
      go_ret2
      exact ⟨by rw [HE.out]; rfl, HB1.out⟩
    | true =>
      have hin2 := hin
      unfold inB at hin2
      simp only [Bool.and_eq_true, decide_eq_true_eq] at hin2
      obtain ⟨k, rfl⟩ : ∃ k : Nat, at_ = (k : Int) := ⟨at_.toNat, by omega⟩
      have hlt : k < m := by omega
      have HE : Hid (gg = (if plAt ps k == (-1, 0) then ByteArray.empty else (pgOf z qs (plAt ps k)).2.2.2.1, !(plAt ps k == (-1, 0)) && ((pgOf z qs (plAt ps k)).1 == 1))) := by
        show _ = _
        rw [HG.out]
        unfold ftlGet
        rw [hok, HLP.out, hin, Int.toNat_natCast]
        cases plAt ps k == (-1, 0) <;> simp
      clear hok hin HG
      go_wp2_with fail
      refine (l10Get_any z a n cap qs am m cm ps op st k w1 HS1.out (by omega) hn HF.out HP1.out (by omega) hm64 hlt HCK.out).mono ?_
      rintro e w2 ⟨rfl, b2⟩
      have HB2 := hide (below_here HB1.out b2)
      clear b2
      obtain ⟨t, ht⟩ : ∃ t, t = (if plAt ps k == (-1, 0) then ByteArray.empty else (pgOf z qs (plAt ps k)).2.2.2.1) := ⟨_, rfl⟩
      obtain ⟨u, hu⟩ : ∃ u, u = (!(plAt ps k == (-1, 0)) && ((pgOf z qs (plAt ps k)).1 == 1)) := ⟨_, rfl⟩
      rw [← ht, ← hu] at HE
      rw [← ht, ← hu]
      clear ht hu
      go_wp2_with fail
      go_ret2
      exact ⟨by rw [HE.out]; rfl, HB2.out⟩
end Go.Proofs.YtceidhlcbbikcanGreatDoor
end

