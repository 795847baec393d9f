/- Several texts in one: FtlMath, FtlSpecA, FtlSpecB, FtlPlan. -/
import Derived.Test.YtoocbagnfkgbfaaGreatDoorSChipOkS
import Derived.Test.YtoocbagnfkgbfaaGreatDoorSChipGrow
import Derived.Test.YtoocbagnfkgbfaaGreatDoorSPageMath
import Derived.Test.YtoocbagnfkgbfaaGreatDoorSChipOwn2
import Derived.Deep.RegionHeld3
import Derived.Deep.DeepCutAuto
section
namespace Go.Proofs.YtoocbagnfkgbfaaGreatDoor
open Go.RowKit
set_option linter.unusedVariables false

/-- The page that lies at a place: its Kind, At, Stamp, Text, and how it lies. -/
def pgOf (z : Int) (qs : List Sq) (p : Pl) : Int × Int × Int × ByteArray × Int := lyP (pageAt z qs p.1 p.2)
def lyWell (k : Int) : Bool := (k == 1) || (k == 2)
/-- Does number i lie as it should? -/
def fpOk (z : Int) (qs : List Sq) (ps : List Pl) (st : Int) (i : Nat) : Bool :=
  (plAt ps i == (-1, 0)) || (lyWell (pgOf z qs (plAt ps i)).2.2.2.2 && (((pgOf z qs (plAt ps i)).2.1 == (i : Int)) && !(decide ((pgOf z qs (plAt ps i)).2.2.1 > st))))
def opOk (qs : List Sq) (op : Int) : Bool := !(decide (op ≥ 0) && (sqAt qs op.toNat).2.2)
def ftlOk (z : Int) (qs : List Sq) (ps : List Pl) (op st : Int) : Bool :=
  mapOk z qs ps && (inB op (-1) ((qs.length : Int) - 1) && (inB st 0 1000000 && (opOk qs op && (List.range ps.length).all (fpOk z qs ps st))))
theorem ftlOk_map {z : Int} {qs : List Sq} {ps : List Pl} {op st : Int} (h : ftlOk z qs ps op st = true) : mapOk z qs ps = true := by
  unfold ftlOk at h; simp only [Bool.and_eq_true] at h; exact h.1
theorem ftlOk_fall {z : Int} {qs : List Sq} {ps : List Pl} {op st : Int} {i : Nat} (h : i < ps.length) (hf : fpOk z qs ps st i = false) : ftlOk z qs ps op st = false := by
  unfold ftlOk; rw [all_range_fall h hf]; simp
/-- What is got of a number. -/
def ftlGet (z : Int) (qs : List Sq) (ps : List Pl) (op st at_ : Int) : ByteArray × Bool :=
  if ftlOk z qs ps op st && (inB at_ 0 ((ps.length : Int) - 1) && !(plAt ps at_.toNat == (-1, 0))) then ((pgOf z qs (plAt ps at_.toNat)).2.2.2.1, (pgOf z qs (plAt ps at_.toNat)).1 == 1) else (ByteArray.empty, false)
/-- A page that is there is small. -/
theorem pageAt_size {z : Int} {qs : List Sq} {s p : Int} (h : chipOk z qs = true) : (pageAt z qs s p).size ≤ 200 := by
  unfold pageAt
  split
  · rename_i hc
    simp only [Bool.and_eq_true] at hc
    have h1 := hc.2.1
    have h2 := hc.2.2
    unfold inB at h1 h2
    simp only [Bool.and_eq_true, decide_eq_true_eq] at h1 h2
    have hq : s.toNat < qs.length := by omega
    have hp : p.toNat < (sqAt qs s.toNat).1.length := by omega
    have h3 := (sqOk_parts (chipOk_at h hq)).2.2.2
    have h4 := h3 ((sqAt qs s.toNat).1.getD p.toNat ByteArray.empty) (by rw [List.getD_eq_getElem?_getD, List.getElem?_eq_getElem hp]; exact List.getElem_mem hp)
    exact h4.2
  · exact Nat.zero_le _
end Go.Proofs.YtoocbagnfkgbfaaGreatDoor
end

section
namespace Go.Proofs.YtoocbagnfkgbfaaGreatDoor
open Go.RowKit
set_option linter.unusedVariables false
set_option maxRecDepth 20000

set_option maxHeartbeats 400000 in
theorem l7Well_any (k : Int) (w : World) : Calls Tryz.prog 81 #[.int .i64 k] w fun e w' => e = .returned (.bool (lyWell k)) ∧ w = w' := by
  by_cases h : k = 1
  · subst h
    go_enter Tryz.func81, Tryz.ntmps81
    go_wp2_with fail
    go_ret
    exact ⟨rfl, rfl⟩
  · have g : (k == 1) = false := by simpa using h
    go_enter Tryz.func81, Tryz.ntmps81
    go_wp2_with fail
    go_ret
    exact ⟨ret_bool (by unfold lyWell; rw [g]; rfl), rfl⟩

set_option maxHeartbeats 1600000 in
theorem l10Page_any (z : Int) (a : Option Addr) (n cap : Nat) (qs : List Sq) (p q : Int) (w : World) {lo hi : Nat} (h : Squares lo hi w a n qs) (hhi : hi ≤ w.heap.size) (hn : n ≤ 1048576) (hf : ∀ x ∈ qs, sqFits x) (hok : chipOk z qs = true) :
    Calls Tryz.prog 80 #[.agg #[.int .i64 z, .slice a n cap], .agg #[.int .i64 p, .int .i64 q]] w fun e w' => e = .returned (lyV (pgOf z qs (p, q))) ∧ Below w.heap.size w w' := by
  obtain ⟨wA, hwA⟩ : ∃ wA, wA = ((w.alloc (.cells #[.int .i64 z, .slice a n cap] 26)).alloc (.cells #[.int .i64 p, .int .i64 q] 48)).alloc (.cells #[.int .i64 0, .int .i64 0, .int .i64 0, .string ⟨#[]⟩] 31) := ⟨_, rfl⟩
  have hzA : wA.heap.size = w.heap.size + 1 + 1 + 1 := by rw [hwA]; simp
  have HBA : Hid (Below w.heap.size w wA) := by rw [hwA]; exact ((((Below.refl _ _).alloc (Nat.le_refl _) _).alloc (by simp) _).alloc (by simp; omega) _)
  have H0 : Hid (wA.heap[w.heap.size]? = some (.cells #[.int .i64 z, .slice a n cap] 26)) := by rw [hwA]; exact heap_old (heap_old (heap_new _ _))
  have H1 : Hid (wA.heap[w.heap.size + 1]? = some (.cells #[.int .i64 p, .int .i64 q] 48)) := by rw [hwA]; exact heap_old (heap_at (by simp))
  have H2 : Hid (wA.heap[w.heap.size + 1 + 1]? = some (.cells #[.int .i64 0, .int .i64 0, .int .i64 0, .string ⟨#[]⟩] 31)) := by rw [hwA]; exact heap_at (by simp)
  have HS := hide (h.later HBA.out hhi)
  have HF := hide hf
  have hpz := pageAt_size (s := p) (p := q) hok
  have HE : Hid (pgOf z qs (p, q) = lyP (pageAt z qs p q)) := rfl
  clear h hf
  obtain ⟨c0, c1⟩ := two_cells H0.out
  obtain ⟨d0, d1⟩ := two_cells H1.out
  go_enter Tryz.func80, Tryz.ntmps80
  go_wp2_with fail
  rw [← hwA]
  clear hwA
  refine (specPageAt_any z a n cap qs p q wA HS.out (by omega) hn HF.out).mono ?_
  rintro e w1 ⟨rfl, b1⟩
  have K2 := hide (block_on H2.out b1)
  have HB1 := hide (below_here HBA.out b1)
  have hs1 := b1.size
  clear b1 c0 c1 d0 d1
  go_wp2_with fail
  refine (specLying_any (pageAt z qs p q) w1 (by omega)).mono ?_
  rintro e w2 ⟨rfl, b2⟩
  have E2 := hide (block_on K2.out b2)
  have HB2 := hide (below_here HB1.out b2)
  have hs2 := b2.size
  rw [← HE.out]
  clear b2
  obtain ⟨r, hr⟩ : ∃ r, r = pgOf z qs (p, q) := ⟨_, rfl⟩
  have HR := hide hr
  rw [← hr]
  clear hr
  obtain ⟨r0, r1, r2, r3, r4⟩ := r
  obtain ⟨e0, e1, e2, e3⟩ := four_cells E2.out
  have f0 := four_frozen E2.out 0
  have f1 := four_frozen E2.out 1
  have f2 := four_frozen E2.out 2
  have f3 := four_frozen E2.out 3
  have HRS := hide (four_set E2.out (.int .i64 r0) (.int .i64 r1) (.int .i64 r2) (.string r3))
  have HBS := hide (four_below (b := w.heap.size + 1 + 1) HB2.out (by omega) (.int .i64 r0) (.int .i64 r1) (.int .i64 r2) (.string r3))
  unfold lyV
  go_wp2_with fail
  refine bodyPost_ret (results_ct rfl rfl (run_loadVar_row _ _ _ _ _ _ _ HRS.out Tryz.underlying31 rfl (by kernel_rfl))) rfl ⟨by rw [← HR.out]; rfl, HBS.out⟩

set_option maxHeartbeats 3200000 in
theorem specFtlOk_any (z : Int) (a : Option Addr) (n cap : Nat) (qs : List Sq) (am : Option Addr) (m cm : Nat) (ps : List Pl) (op st : Int) (w : World) {lo hi lo' hi' : Nat} (h : Squares lo hi w a n qs) (hhi : hi ≤ w.heap.size) (hn : n ≤ 1048576) (hf : ∀ x ∈ qs, sqFits x) (hp : Places lo' hi' w am m ps) (hhi' : hi' ≤ w.heap.size) (hm : m ≤ 1048576) :
    Calls Tryz.prog 21 #[.agg #[.int .i64 z, .slice a n cap, .slice am m cm, .int .i64 op, .int .i64 st]] w fun e w' => e = .returned (.bool (ftlOk z qs ps op st)) ∧ Below w.heap.size w w' := by
  obtain ⟨wA, hwA⟩ : ∃ wA, wA = w.alloc (.cells #[.int .i64 z, .slice a n cap, .slice am m cm, .int .i64 op, .int .i64 st] 29) := ⟨_, rfl⟩
  have hzA : wA.heap.size = w.heap.size + 1 := by rw [hwA]; simp
  have HBA : Hid (Below w.heap.size w wA) := by rw [hwA]; exact (Below.refl _ _).alloc (Nat.le_refl _) _
  have H1 : Hid (wA.heap[w.heap.size]? = some (.cells #[.int .i64 z, .slice a n cap, .slice am m cm, .int .i64 op, .int .i64 st] 29)) := by rw [hwA]; exact heap_new _ _
  have HSQ := hide (h.later HBA.out hhi)
  have HPL := hide (hp.later HBA.out hhi')
  have HL := hide h.1
  have HLP := hide hp.1
  have HF := hide hf
  clear h hf hp
  obtain ⟨c0, c1, c2, c3, c4⟩ := five_cells H1.out
  go_enter Tryz.func21, Tryz.ntmps21
  go_wp2_with fail
  rw [← hwA]
  clear hwA
  refine (specMapOk_any z a n cap qs am m cm ps wA HSQ.out (by omega) hn HF.out HPL.out (by omega) hm).mono ?_
  rintro e w1 ⟨rfl, b1⟩
  have K1 := hide (block_on H1.out b1)
  have HS1 := hide (HSQ.out.later b1 (by omega))
  have HP1 := hide (HPL.out.later b1 (by omega))
  have HB1 := hide (below_here HBA.out b1)
  have hs1 := b1.size
  clear b1 H1 HSQ HPL HBA c0 c1 c2 c3 c4
  obtain ⟨c0, c1, c2, c3, c4⟩ := five_cells K1.out
  cases hok : mapOk z qs ps with
  | false =>
    have HE : Hid (ftlOk z qs ps op st = false) := by show _ = _; unfold ftlOk; rw [hok]; rfl
    go_wp2_with fail
    go_ret
    exact ⟨ret_bool HE.out.symm, HB1.out⟩
  | true =>
    have HCK := hide (mapOk_chip hok)
    have hn12 : n ≤ 12 := by have := (chipOk_parts (mapOk_chip hok)).2.2.2.1; rw [HL.out] at this; exact this
    have hm64 : m ≤ 64 := by have := (mapOk_len hok).2; rw [HLP.out] at this; exact this
    go_wp2_with fail
    refine (l1In_any op (-1) ((n : Int) - 1) w1).mono ?_
    rintro e w2 ⟨rfl, rfl⟩
    cases hin : inB op (-1) ((n : Int) - 1) with
    | false =>
      have HE : Hid (ftlOk z qs ps op st = false) := by show _ = _; unfold ftlOk; rw [HL.out, hin]; simp
      go_wp2_with fail
      go_ret
      exact ⟨ret_bool HE.out.symm, HB1.out⟩
    | true =>
      go_wp2_with fail
      refine (l1In_any st 0 1000000 w1).mono ?_
      rintro e w2 ⟨rfl, rfl⟩
      cases hst : inB st 0 1000000 with
      | false =>
        have HE : Hid (ftlOk z qs ps op st = false) := by show _ = _; unfold ftlOk; rw [hst]; simp
        go_wp2_with fail
        go_ret
        exact ⟨ret_bool HE.out.symm, HB1.out⟩
      | true =>
        have hin2 := hin
        unfold inB at hin2
        simp only [Bool.and_eq_true, decide_eq_true_eq] at hin2
        have HFT : Hid (ftlOk z qs ps op st = (opOk qs op && (List.range ps.length).all (fpOk z qs ps st))) := by show _ = _; unfold ftlOk; rw [hok, HL.out, hin, hst]; rfl
        clear hok hst hin
        go_upto_region 3 with fail
        go_cut [41] (fun c wx => c = .bool (!(opOk qs op)) ∧ Below w1.heap.size w1 wx)
        case first =>
          by_cases h0 : 0 ≤ op
          · obtain ⟨i, rfl⟩ : ∃ i : Nat, op = (i : Int) := ⟨op.toNat, by omega⟩
            have hlt : i < n := by omega
            have hlt2 : (i : Int) < (n : Int) := by omega
            obtain ⟨_, A, C, hx, ht⟩ := HS1.out
            obtain ⟨b, off, rfl, _, hb, hc⟩ := hx.2 (by omega)
            obtain ⟨y0, y1, y2⟩ := sq_cells hc (Below.refl w1.heap.size w1) (show b < w1.heap.size by have := hx.1; omega) hlt
            have HO : Hid ((!(opOk qs (i : Int))) = (sqAt qs i).2.2) := by show _ = _; unfold opOk; simp
            have g0 : decide ((i : Int) ≥ 0) = true := by simp
            generalize (sqAt qs i).2.2 = bd at *
            clear hc hx ht
            go_wp2_with fail
            go_meet
            exact ⟨by rw [HO.out], Below.refl _ _⟩
          · have g0 : decide (op ≥ 0) = false := by simpa using h0
            have HO : Hid ((!(opOk qs op)) = false) := by show _ = _; unfold opOk; rw [g0]; rfl
            go_wp2_with fail
            go_meet
            exact ⟨by rw [HO.out], Below.refl _ _⟩
        case rest =>
          obtain ⟨rfl, hb3⟩ := hcut
          obtain ⟨w3, hw3⟩ : ∃ w3, w3 = wc := ⟨_, rfl⟩
          subst hw3
          have K3 := hide (block_on K1.out hb3)
          have HS3 := hide (HS1.out.later hb3 (by omega))
          have HP3 := hide (HP1.out.later hb3 (by omega))
          have HB3 := hide (below_here HB1.out hb3)
          have hs3 := hb3.size
          clear hb3 K1 HS1 HP1 HB1 c0 c1 c2 c3 c4
          cases hop : opOk qs op with
          | false =>
            have HE : Hid (ftlOk z qs ps op st = false) := by show _ = _; rw [HFT.out, hop]; rfl
            go_wp2_with fail
            go_ret
            exact ⟨ret_bool HE.out.symm, HB3.out⟩
          | true =>
            have HE : Hid (ftlOk z qs ps op st = (List.range ps.length).all (fpOk z qs ps st)) := by show _ = _; rw [HFT.out, hop]; rfl
            simp only [Bool.not_true]
            go_wp2_with fail
            go_loopw [3] (fun i wr => ∃ k : Nat, k ≤ m ∧ i = .int .i64 (k : Int) ∧ (List.range k).all (fpOk z qs ps st) = true ∧ Below w3.heap.size w3 wr) (fun i _ => m - (intOf i).toNat)
            case atStart => exact ⟨0, Nat.zero_le _, rfl, rfl, Below.refl _ _⟩
            case round =>
              obtain ⟨k, hk, rfl, hall, hbel⟩ := hrel
              have HAL := hide hall
              have HBB := hide hbel
              clear hall
              have KR := hide (block_on K3.out hbel)
              obtain ⟨a0, a1, a2, a3, a4⟩ := five_cells KR.out
              by_cases hlt : k < m
              · have hpl : k < ps.length := by rw [HLP.out]; exact hlt
                obtain ⟨b, off, rfl, _, hb, hc⟩ := HP3.out.2.2 (by omega)
                have hbs : b < w3.heap.size := by have := HP3.out.2.1; omega
                obtain ⟨c0, c1⟩ := pl_cells hc hbel hbs hlt
                have HFA : Hid (fpOk z qs ps st k = false → ftlOk z qs ps op st = false) := fun hh => ftlOk_fall hpl hh
                have HST : Hid (fpOk z qs ps st k = true → (List.range (k + 1)).all (fpOk z qs ps st) = true) := fun hh => all_range_step HAL.out hh
                have HPO : Hid (fpOk z qs ps st k = ((((plAt ps k).1 == -1) && ((plAt ps k).2 == 0)) || (lyWell (pgOf z qs (plAt ps k)).2.2.2.2 && (((pgOf z qs (plAt ps k)).2.1 == (k : Int)) && !(decide ((pgOf z qs (plAt ps k)).2.2.1 > st)))))) := by
                  show _ = _
                  unfold fpOk
                  rw [pl_eq]
                have HC := hide hc
                clear hc
                have hszr := hbel.size
                clear hbel
                obtain ⟨y, hy⟩ : ∃ y, y = plAt ps k := ⟨_, rfl⟩
                have HY := hide hy
                rw [← hy] at c0 c1 HPO
                clear hy
                obtain ⟨p, q⟩ := y
                dsimp only at c0 c1 HPO
                have cN : ∀ d os, Calls Tryz.prog 79 #[] (Go.Sort.grow (redrawn wr d) os) fun e w'' => e = .returned (.agg #[.int .i64 (-1), .int .i64 0]) ∧ ∃ p : Regrown, w'' = Go.Sort.grow (redrawn wr p.d) p.os := fun d os => Calls.regrown_of (l9None_any _)
                have k0 := cell_regrown c0
                have k1 := cell_regrown c1
                have k2 := cell_regrown a2
                have q1 := Tryz.eqPl p q (-1) 0
                have q2 := Tryz.guardPl
                go_upto_region 8 with fail
                go_cut [55] (fun c wx => c = .bool ((p == -1) && (q == 0)) ∧ Below wr.heap.size wr wx)
                case first =>
                  refine wp_region_quiet_below (by kernel_rfl) (by kernel_rfl) ?_
                  repeat (go_big_quiet_step ((go_at_call 79; exact cN _ _)))
                  refine wpQuiet_nil ?_
                  intro _ hw'
                  obtain ⟨⟨dq, osq⟩, hw''⟩ := hw'
                  subst hw''
                  have HBQ := hide (below_regrown wr dq osq)
                  go_wp2_with fail
                  go_meet
                  exact ⟨rfl, HBQ.out⟩
                case rest =>
                  obtain ⟨rfl, hb2⟩ := hcut
                  obtain ⟨w4, hw4⟩ : ∃ w4, w4 = wc := ⟨_, rfl⟩
                  subst hw4
                  have HB4 := hide (below_here HBB.out hb2)
                  have K4 := hide (block_on KR.out hb2)
                  clear hb2 k0 k1 k2 cN q1 c0 c1 a0 a1 a2 a3 a4 KR
                  cases hnone : ((p == -1) && (q == 0)) with
                  | true =>
                    have HOK := hide (HST.out (by rw [HPO.out, hnone]; rfl))
                    go_wp2_with fail
                    exact ⟨⟨k + 1, by omega, by go_num, HOK.out, HB4.out⟩, by simp [intOf]; omega⟩
                  | false =>
                    obtain ⟨r, hr⟩ : ∃ r, r = pgOf z qs (p, q) := ⟨_, rfl⟩
                    have hs4 := HB4.out.size
                    have HCL : ∀ w', Hid (Below w4.heap.size w4 w' → Calls Tryz.prog 80 #[.agg #[.int .i64 z, .slice a n cap], .agg #[.int .i64 p, .int .i64 q]] w' fun e w'' => e = .returned (lyV r) ∧ Below w'.heap.size w' w'') := fun w' hb' => by
                      rw [hr]
                      have hs' := hb'.size
                      exact l10Page_any z a n cap qs p q w' (HS3.out.later (below_here HB4.out hb') (by omega)) (by omega) hn HF.out HCK.out
                    have HPO2 : Hid (fpOk z qs ps st k = (lyWell r.2.2.2.2 && ((r.2.1 == (k : Int)) && !(decide (r.2.2.1 > st))))) := by show _ = _; rw [HPO.out, hnone, hr]; rfl
                    clear hr hnone HPO
                    obtain ⟨r0, r1, r2, r3, r4⟩ := r
                    unfold lyV at HCL
                    dsimp only at HCL HPO2
                    obtain ⟨a0, a1, a2, a3, a4⟩ := five_cells K4.out
                    obtain ⟨c0, c1⟩ := pl_cells HC.out HB4.out hbs hlt
                    rw [← HY.out] at c0 c1
                    dsimp only at c0 c1
                    have hwz : w.heap.size < w4.heap.size := by omega
                    have HK : ∀ w', Hid (Below w4.heap.size w4 w' → w'.cell? ⟨w.heap.size, 0, none⟩ = some (.int .i64 z) ∧ w'.cell? ⟨w.heap.size, 1, none⟩ = some (.slice a n cap) ∧ w'.cell? ⟨w.heap.size, 2, none⟩ = some (.slice (some ⟨b, off, none⟩) m cm) ∧ w'.cell? ⟨b, off + k * 2, none⟩ = some (.int .i64 p) ∧ w'.cell? ⟨b, off + k * 2 + 1, none⟩ = some (.int .i64 q)) := fun w' hb' => ⟨(hb'.cell (p := ⟨_, _, none⟩) hwz).trans a0, (hb'.cell (p := ⟨_, _, none⟩) hwz).trans a1, (hb'.cell (p := ⟨_, _, none⟩) hwz).trans a2, (hb'.cell (p := ⟨_, _, none⟩) (by show b < _; omega)).trans c0, (hb'.cell (p := ⟨_, _, none⟩) (by show b < _; omega)).trans c1⟩
                    go_upto_region 9 with fail
                    have HB0 : Hid (Below w4.heap.size w4 w4.drew) := (Below.refl w4.heap.size w4).drew
                    have HBa : Hid (Below w4.heap.size w4 (w4.alloc (.cells #[.int .i64 0, .int .i64 0, .int .i64 0, .string ⟨#[]⟩] 31)).drew) := ((Below.refl w4.heap.size w4).alloc (Nat.le_refl _) _).drew
                    have HEa : Hid ((w4.alloc (.cells #[.int .i64 0, .int .i64 0, .int .i64 0, .string ⟨#[]⟩] 31)).drew.heap[w4.heap.size]? = some (.cells #[.int .i64 0, .int .i64 0, .int .i64 0, .string ⟨#[]⟩] 31)) := heap_new w4 _
                    go_region_held3 (fun w' => w'.cell? ⟨w.heap.size, 0, none⟩ = some (.int .i64 z) ∧ w'.cell? ⟨w.heap.size, 1, none⟩ = some (.slice a n cap) ∧ w'.cell? ⟨w.heap.size, 2, none⟩ = some (.slice (some ⟨b, off, none⟩) m cm) ∧ w'.cell? ⟨b, off + k * 2, none⟩ = some (.int .i64 p) ∧ w'.cell? ⟨b, off + k * 2 + 1, none⟩ = some (.int .i64 q))
                      (first | exact (HK _).out HB0.out | exact (HK _).out HBa.out | exact (HK _).out HB5.out | exact (HK _).out HBS.out | exact (HK _).out HB6.out | exact ⟨a0, a1, a2, c0, c1⟩ | fail)
                      (first
                        | (go_at_call 80; refine ((HCL _).out HB0.out).mono ?_; rintro e w5 ⟨rfl, b5⟩; have HB5 := hide (below_here HB0.out b5); have hs5 := b5.size; have HB6 := hide (HB5.out.alloc HB5.out.size (.cells #[.int .i64 0, .int .i64 0, .int .i64 0, .string ⟨#[]⟩] 31)); have HBS := hide (HB5.out.alloc HB5.out.size (.cells #[.int .i64 r0, .int .i64 r1, .int .i64 r2, .string r3] 31)); have HRS := hide (heap_new w5 (.cells #[.int .i64 r0, .int .i64 r1, .int .i64 r2, .string r3] 31)))
                        | (go_at_call 80; refine ((HCL _).out HBa.out).mono ?_; rintro e w5 ⟨rfl, b5⟩; have HB5 := hide (below_here HBa.out b5); have hs5 := b5.size; have E5 := hide (block_on HEa.out b5); obtain ⟨e0, e1, e2, e3⟩ := four_cells E5.out; have f0 := four_frozen E5.out 0; have f1 := four_frozen E5.out 1; have f2 := four_frozen E5.out 2; have f3 := four_frozen E5.out 3; have HRS := hide (four_set E5.out (.int .i64 r0) (.int .i64 r1) (.int .i64 r2) (.string r3)); have HBS := hide (four_below (b := w4.heap.size) HB5.out (Nat.le_refl _) (.int .i64 r0) (.int .i64 r1) (.int .i64 r2) (.string r3))))
                    all_goals
                      clear HB0 HBa HEa HK HCL a0 a1 a2 a3 a4 c0 c1 b5 HB5 hs5
                      have HB7 := hide (below_here HB4.out HBS.out)
                      have HB8 := hide (below_here HB3.out HB7.out)
                      obtain ⟨d0, d1, d2, d3⟩ := four_cells HRS.out
                      obtain ⟨a0, a1, a2, a3, a4⟩ := five_cells (block_on K4.out HBS.out)
                      go_wp2_with fail
                      refine (l7Well_any r4 _).mono ?_
                      rintro e wx ⟨rfl, rfl⟩
                      cases hw : lyWell r4 with
                      | false =>
                        have HNO := hide (HFA.out (by rw [HPO2.out, hw]; rfl))
                        go_wp2_with fail
                        go_ret
                        exact ⟨ret_bool HNO.out.symm, HB8.out⟩
                      | true =>
                        by_cases h1 : r1 = (k : Int)
                        · have g1 : (r1 != (k : Int)) = false := by simpa using h1
                          have g3 : (r1 == (k : Int)) = true := by simpa using h1
                          cases h2 : decide (r2 > st) with
                          | true =>
                            have HNO := hide (HFA.out (by rw [HPO2.out, hw, g3, h2]; rfl))
                            clear h1 g3
                            go_wp2_with fail
                            go_ret
                            exact ⟨ret_bool HNO.out.symm, HB8.out⟩
                          | false =>
                            have HOK := hide (HST.out (by rw [HPO2.out, hw, g3, h2]; rfl))
                            clear h1 g3
                            go_wp2_with fail
                            exact ⟨⟨k + 1, by omega, by go_num, HOK.out, HB7.out⟩, by simp [intOf]; omega⟩
                        · have g1 : (r1 != (k : Int)) = true := by simpa using h1
                          have g3 : (r1 == (k : Int)) = false := by simpa using h1
                          have HNO := hide (HFA.out (by rw [HPO2.out, hw, g3]; rfl))
                          clear h1 g3
                          go_wp2_with fail
                          go_ret
                          exact ⟨ret_bool HNO.out.symm, HB8.out⟩
              · obtain rfl : k = m := by omega
                have HYE : Hid (ftlOk z qs ps op st = true) := by show _ = _; rw [HE.out, HLP.out]; exact HAL.out
                have HB8 := hide (below_here HB3.out HBB.out)
                go_wp2_with fail
                go_ret
                exact ⟨ret_bool HYE.out.symm, HB8.out⟩
end Go.Proofs.YtoocbagnfkgbfaaGreatDoor
end

section
namespace Go.Proofs.YtoocbagnfkgbfaaGreatDoor
open Go.RowKit
set_option linter.unusedVariables false
set_option maxRecDepth 20000

set_option maxHeartbeats 3200000 in
theorem l10Get_any (z : Int) (a : Option Addr) (n cap : Nat) (qs : List Sq) (am : Option Addr) (m cm : Nat) (ps : List Pl) (op st : Int) (k : Nat) (w : World) {lo hi lo' hi' : Nat} (h : Squares lo hi w a n qs) (hhi : hi ≤ w.heap.size) (hn : n ≤ 1048576) (hf : ∀ x ∈ qs, sqFits x) (hp : Places lo' hi' w am m ps) (hhi' : hi' ≤ w.heap.size) (hm : m ≤ 64) (hlt : k < m) (hok : chipOk z qs = true) :
    Calls Tryz.prog 82 #[.agg #[.int .i64 z, .slice a n cap, .slice am m cm, .int .i64 op, .int .i64 st], .int .i64 (k : Int)] w fun e w' => e = .returned (.tuple #[.string (if plAt ps k == (-1, 0) then ByteArray.empty else (pgOf z qs (plAt ps k)).2.2.2.1), .bool (!(plAt ps k == (-1, 0)) && ((pgOf z qs (plAt ps k)).1 == 1))]) ∧ Below w.heap.size w w' := by
  obtain ⟨wr, hwA⟩ : ∃ wA, wA = w.alloc (.cells #[.int .i64 z, .slice a n cap, .slice am m cm, .int .i64 op, .int .i64 st] 29) := ⟨_, rfl⟩
  have hzA : wr.heap.size = w.heap.size + 1 := by rw [hwA]; simp
  have HBA : Hid (Below w.heap.size w wr) := by rw [hwA]; exact (Below.refl _ _).alloc (Nat.le_refl _) _
  have KR : Hid (wr.heap[w.heap.size]? = some (.cells #[.int .i64 z, .slice a n cap, .slice am m cm, .int .i64 op, .int .i64 st] 29)) := by rw [hwA]; exact heap_new _ _
  have HS3 := hide (h.later HBA.out hhi)
  have HP3 := hide (hp.later HBA.out hhi')
  have HF := hide hf
  have HCK := hide hok
  clear h hf hp hok
  obtain ⟨a0, a1, a2, a3, a4⟩ := five_cells KR.out
  obtain ⟨b, off, rfl, _, hb, hc⟩ := HP3.out.2.2 (by omega)
  have hbs : b < wr.heap.size := by have := HP3.out.2.1; omega
  obtain ⟨c0, c1⟩ := pl_cells hc (Below.refl wr.heap.size wr) hbs hlt
  have HC := hide hc
  clear hc
  obtain ⟨y, hy⟩ : ∃ y, y = plAt ps k := ⟨_, rfl⟩
  have HY := hide hy
  rw [← hy] at c0 c1
  rw [← hy, pl_eq]
  clear hy
  obtain ⟨p, q⟩ := y
  dsimp only at c0 c1
  dsimp only
  obtain ⟨tx, htx⟩ : ∃ t, t = (if (p == -1 && q == 0) = true then ByteArray.empty else (pgOf z qs (p, q)).2.2.2.1) := ⟨_, rfl⟩
  obtain ⟨bx, hbx⟩ : ∃ t, t = (!(p == -1 && q == 0) && (pgOf z qs (p, q)).1 == 1) := ⟨_, rfl⟩
  rw [← htx, ← hbx]
  have HTX := hide htx
  have HBX := hide hbx
  clear htx hbx
  go_enter Tryz.func82, Tryz.ntmps82
  go_upto_region 1 with fail
  rw [← hwA]
  clear hwA
  have cN : ∀ d os, Calls Tryz.prog 79 #[] (Go.Sort.grow (redrawn wr d) os) fun e w'' => e = .returned (.agg #[.int .i64 (-1), .int .i64 0]) ∧ ∃ p : Regrown, w'' = Go.Sort.grow (redrawn wr p.d) p.os := fun d os => Calls.regrown_of (l9None_any _)
  have k0 := cell_regrown c0
  have k1 := cell_regrown c1
  have k2 := cell_regrown a2
  have q1 := Tryz.eqPl p q (-1) 0
  have q2 := Tryz.guardPl
  go_cut [14] (fun c wx => c = .bool ((p == -1) && (q == 0)) ∧ Below wr.heap.size wr wx)
  case first =>
    refine wp_region_quiet_below (by kernel_rfl) (by kernel_rfl) ?_
    repeat (go_big_quiet_step ((go_at_call 79; exact cN _ _)))
    refine wpQuiet_nil ?_
    intro _ hw'
    obtain ⟨⟨dq, osq⟩, hw''⟩ := hw'
    subst hw''
    have HBQ := hide (below_regrown wr dq osq)
    go_wp2_with fail
    go_meet
    exact ⟨rfl, HBQ.out⟩
  case rest =>
    obtain ⟨rfl, hb2⟩ := hcut
    obtain ⟨w4, hw4⟩ : ∃ w4, w4 = wc := ⟨_, rfl⟩
    subst hw4
    have HB4 := hide hb2
    have K4 := hide (block_on KR.out hb2)
    clear hb2 k0 k1 k2 cN q1 c0 c1 a0 a1 a2 a3 a4 KR
    cases hnone : ((p == -1) && (q == 0)) with
    | true =>
      have HB5 := hide (below_here HBA.out HB4.out)
      go_wp2_with fail
      have HT2 : Hid (tx = ByteArray.empty) := by show _ = _; rw [HTX.out, hnone]; rfl
      have HX2 : Hid (bx = false) := by show _ = _; rw [HBX.out, hnone]; rfl
      go_ret2
      exact ⟨by rw [HT2.out, HX2.out]; rfl, HB5.out⟩
    | false =>
      obtain ⟨r, hr⟩ : ∃ r, r = pgOf z qs (p, q) := ⟨_, rfl⟩
      have hs4 := HB4.out.size
      have HCL : ∀ w', Hid (Below w4.heap.size w4 w' → Calls Tryz.prog 80 #[.agg #[.int .i64 z, .slice a n cap], .agg #[.int .i64 p, .int .i64 q]] w' fun e w'' => e = .returned (lyV r) ∧ Below w'.heap.size w' w'') := fun w' hb' => by
        rw [hr]
        have hs' := hb'.size
        exact l10Page_any z a n cap qs p q w' (HS3.out.later (below_here HB4.out hb') (by omega)) (by omega) hn HF.out HCK.out
      have HR := hide hr
      have HT2 : Hid (tx = r.2.2.2.1) := by show _ = _; rw [HTX.out, hnone, hr]; rfl
      have HX2 : Hid (bx = (r.1 == 1)) := by show _ = _; rw [HBX.out, hnone, hr]; rfl
      clear hr hnone HTX HBX
      obtain ⟨r0, r1, r2, r3, r4⟩ := r
      unfold lyV at HCL
      dsimp only at HCL
      obtain ⟨a0, a1, a2, a3, a4⟩ := five_cells K4.out
      obtain ⟨c0, c1⟩ := pl_cells HC.out HB4.out hbs hlt
      rw [← HY.out] at c0 c1
      dsimp only at c0 c1
      have hwz : w.heap.size < w4.heap.size := by omega
      have HK : ∀ w', Hid (Below w4.heap.size w4 w' → w'.cell? ⟨w.heap.size, 0, none⟩ = some (.int .i64 z) ∧ w'.cell? ⟨w.heap.size, 1, none⟩ = some (.slice a n cap) ∧ w'.cell? ⟨w.heap.size, 2, none⟩ = some (.slice (some ⟨b, off, none⟩) m cm) ∧ w'.cell? ⟨b, off + k * 2, none⟩ = some (.int .i64 p) ∧ w'.cell? ⟨b, off + k * 2 + 1, none⟩ = some (.int .i64 q)) := fun w' hb' => ⟨(hb'.cell (p := ⟨_, _, none⟩) hwz).trans a0, (hb'.cell (p := ⟨_, _, none⟩) hwz).trans a1, (hb'.cell (p := ⟨_, _, none⟩) hwz).trans a2, (hb'.cell (p := ⟨_, _, none⟩) (by show b < _; omega)).trans c0, (hb'.cell (p := ⟨_, _, none⟩) (by show b < _; omega)).trans c1⟩
      go_upto_region 3 with fail
      go_cut [6] (fun v wx => ∃ g, v = .pointer (some ⟨g, 0, none⟩) ∧ wx.heap[g]? = some (.cells #[.int .i64 r0, .int .i64 r1, .int .i64 r2, .string r3] 31) ∧ Below w4.heap.size w4 wx)
      case first =>
        have HB0 : Hid (Below w4.heap.size w4 w4.drew) := (Below.refl w4.heap.size w4).drew
        have HBa : Hid (Below w4.heap.size w4 (w4.alloc (.cells #[.int .i64 0, .int .i64 0, .int .i64 0, .string ⟨#[]⟩] 31)).drew) := ((Below.refl w4.heap.size w4).alloc (Nat.le_refl _) _).drew
        have HEa : Hid ((w4.alloc (.cells #[.int .i64 0, .int .i64 0, .int .i64 0, .string ⟨#[]⟩] 31)).drew.heap[w4.heap.size]? = some (.cells #[.int .i64 0, .int .i64 0, .int .i64 0, .string ⟨#[]⟩] 31)) := heap_new w4 _
        go_region_held3 (fun w' => w'.cell? ⟨w.heap.size, 0, none⟩ = some (.int .i64 z) ∧ w'.cell? ⟨w.heap.size, 1, none⟩ = some (.slice a n cap) ∧ w'.cell? ⟨w.heap.size, 2, none⟩ = some (.slice (some ⟨b, off, none⟩) m cm) ∧ w'.cell? ⟨b, off + k * 2, none⟩ = some (.int .i64 p) ∧ w'.cell? ⟨b, off + k * 2 + 1, none⟩ = some (.int .i64 q))
          (first | exact (HK _).out HB0.out | exact (HK _).out HBa.out | exact (HK _).out HB5.out | exact (HK _).out HBS.out | exact (HK _).out HB6.out | exact ⟨a0, a1, a2, c0, c1⟩ | fail)
          (first
            | (go_at_call 80; refine ((HCL _).out HB0.out).mono ?_; rintro e w5 ⟨rfl, b5⟩; have HB5 := hide (below_here HB0.out b5); have hs5 := b5.size; have HB6 := hide (HB5.out.alloc HB5.out.size (.cells #[.int .i64 0, .int .i64 0, .int .i64 0, .string ⟨#[]⟩] 31)); have HBS := hide (HB5.out.alloc HB5.out.size (.cells #[.int .i64 r0, .int .i64 r1, .int .i64 r2, .string r3] 31)); have HRS := hide (heap_new w5 (.cells #[.int .i64 r0, .int .i64 r1, .int .i64 r2, .string r3] 31)))
            | (go_at_call 80; refine ((HCL _).out HBa.out).mono ?_; rintro e w5 ⟨rfl, b5⟩; have HB5 := hide (below_here HBa.out b5); have hs5 := b5.size; have E5 := hide (block_on HEa.out b5); obtain ⟨e0, e1, e2, e3⟩ := four_cells E5.out; have f0 := four_frozen E5.out 0; have f1 := four_frozen E5.out 1; have f2 := four_frozen E5.out 2; have f3 := four_frozen E5.out 3; have HRS := hide (four_set E5.out (.int .i64 r0) (.int .i64 r1) (.int .i64 r2) (.string r3)); have HBS := hide (four_below (b := w4.heap.size) HB5.out (Nat.le_refl _) (.int .i64 r0) (.int .i64 r1) (.int .i64 r2) (.string r3))))

        all_goals
          clear HB0 HBa HEa HK HCL a0 a1 a2 a3 a4 c0 c1 b5 HB5 hs5
          go_wp2_with fail
          go_meet
          exact ⟨_, rfl, HRS.out, HBS.out⟩
      case rest =>
        obtain ⟨g, rfl, hrs, hb5⟩ := hcut
        obtain ⟨w5, hw5⟩ : ∃ w5, w5 = wc := ⟨_, rfl⟩
        subst hw5
        have HB7 := hide (below_here HB4.out hb5)
        have HB8 := hide (below_here HBA.out HB7.out)
        clear hb5 HK HCL a0 a1 a2 a3 a4 c0 c1
        obtain ⟨d0, d1, d2, d3⟩ := four_cells hrs
        go_wp2_with fail
        have HB9 : Hid (Below w.heap.size w w5.drew) := HB8.out.drew
        go_region_held3 (fun w' => w'.cell? ⟨g, 0, none⟩ = some (.int .i64 r0) ∧ w'.cell? ⟨g, 3, none⟩ = some (.string r3)) (exact ⟨d0, d3⟩) (fail)
        all_goals
          go_wp2_with fail
          go_ret2
          exact ⟨by rw [HT2.out, HX2.out]; rfl, HB9.out⟩

set_option maxHeartbeats 1600000 in
theorem specGet_any (z : Int) (a : Option Addr) (n cap : Nat) (qs : List Sq) (am : Option Addr) (m cm : Nat) (ps : List Pl) (op st at_ : Int) (w : World) {lo hi lo' hi' : Nat} (h : Squares lo hi w a n qs) (hhi : hi ≤ w.heap.size) (hn : n ≤ 1048576) (hf : ∀ x ∈ qs, sqFits x) (hp : Places lo' hi' w am m ps) (hhi' : hi' ≤ w.heap.size) (hm : m ≤ 1048576) :
    Calls Tryz.prog 22 #[.agg #[.int .i64 z, .slice a n cap, .slice am m cm, .int .i64 op, .int .i64 st], .int .i64 at_] w fun e w' => e = .returned (.tuple #[.string (ftlGet z qs ps op st at_).1, .bool (ftlGet z qs ps op st at_).2]) ∧ Below w.heap.size w w' := by
  obtain ⟨gg, hgg⟩ : ∃ g, g = ftlGet z qs ps op st at_ := ⟨_, rfl⟩
  have HG := hide hgg
  rw [← hgg]
  clear hgg
  obtain ⟨wA, hwA⟩ : ∃ wA, wA = w.alloc (.cells #[.int .i64 z, .slice a n cap, .slice am m cm, .int .i64 op, .int .i64 st] 29) := ⟨_, rfl⟩
  have hzA : wA.heap.size = w.heap.size + 1 := by rw [hwA]; simp
  have HBA : Hid (Below w.heap.size w wA) := by rw [hwA]; exact (Below.refl _ _).alloc (Nat.le_refl _) _
  have H1 : Hid (wA.heap[w.heap.size]? = some (.cells #[.int .i64 z, .slice a n cap, .slice am m cm, .int .i64 op, .int .i64 st] 29)) := by rw [hwA]; exact heap_new _ _
  have HSQ := hide (h.later HBA.out hhi)
  have HPL := hide (hp.later HBA.out hhi')
  have HLP := hide hp.1
  have HF := hide hf
  clear h hf hp
  obtain ⟨c0, c1, c2, c3, c4⟩ := five_cells H1.out
  go_enter Tryz.func22, Tryz.ntmps22
  go_wp2_with fail
  rw [← hwA]
  clear hwA
  refine (specFtlOk_any z a n cap qs am m cm ps op st wA HSQ.out (by omega) hn HF.out HPL.out (by omega) hm).mono ?_
  rintro e w1 ⟨rfl, b1⟩
  have K1 := hide (block_on H1.out b1)
  have HS1 := hide (HSQ.out.later b1 (by omega))
  have HP1 := hide (HPL.out.later b1 (by omega))
  have HB1 := hide (below_here HBA.out b1)
  have hs1 := b1.size
  clear b1 H1 HSQ HPL HBA c0 c1 c2 c3 c4
  obtain ⟨c0, c1, c2, c3, c4⟩ := five_cells K1.out
  cases hok : ftlOk z qs ps op st with
  | false =>
    have HE : Hid (gg = (ByteArray.empty, false)) := by show _ = _; rw [HG.out]; unfold ftlGet; rw [hok]; rfl
    go_wp2_with fail
    go_ret2
    exact ⟨by rw [HE.out]; rfl, HB1.out⟩
  | true =>
    have HCK := hide (mapOk_chip (ftlOk_map hok))
    have hm64 : m ≤ 64 := by have := (mapOk_len (ftlOk_map hok)).2; rw [HLP.out] at this; exact this
    go_wp2_with fail
    refine (l1In_any at_ 0 ((m : Int) - 1) w1).mono ?_
    rintro e w2 ⟨rfl, rfl⟩
    cases hin : inB at_ 0 ((m : Int) - 1) with
    | false =>
      have HE : Hid (gg = (ByteArray.empty, false)) := by show _ = _; rw [HG.out]; unfold ftlGet; rw [HLP.out, hin]; simp
      go_wp2_with fail
      go_ret2
      exact ⟨by rw [HE.out]; rfl, HB1.out⟩
    | true =>
      have hin2 := hin
      unfold inB at hin2
      simp only [Bool.and_eq_true, decide_eq_true_eq] at hin2
      obtain ⟨k, rfl⟩ : ∃ k : Nat, at_ = (k : Int) := ⟨at_.toNat, by omega⟩
      have hlt : k < m := by omega
      have HE : Hid (gg = (if plAt ps k == (-1, 0) then ByteArray.empty else (pgOf z qs (plAt ps k)).2.2.2.1, !(plAt ps k == (-1, 0)) && ((pgOf z qs (plAt ps k)).1 == 1))) := by
        show _ = _
        rw [HG.out]
        unfold ftlGet
        rw [hok, HLP.out, hin, Int.toNat_natCast]
        cases plAt ps k == (-1, 0) <;> simp
      clear hok hin HG
      go_wp2_with fail
      refine (l10Get_any z a n cap qs am m cm ps op st k w1 HS1.out (by omega) hn HF.out HP1.out (by omega) hm64 hlt HCK.out).mono ?_
      rintro e w2 ⟨rfl, b2⟩
      have HB2 := hide (below_here HB1.out b2)
      clear b2
      obtain ⟨t, ht⟩ : ∃ t, t = (if plAt ps k == (-1, 0) then ByteArray.empty else (pgOf z qs (plAt ps k)).2.2.2.1) := ⟨_, rfl⟩
      obtain ⟨u, hu⟩ : ∃ u, u = (!(plAt ps k == (-1, 0)) && ((pgOf z qs (plAt ps k)).1 == 1)) := ⟨_, rfl⟩
      rw [← ht, ← hu] at HE
      rw [← ht, ← hu]
      clear ht hu
      go_wp2_with fail
      go_ret2
      exact ⟨by rw [HE.out]; rfl, HB2.out⟩
end Go.Proofs.YtoocbagnfkgbfaaGreatDoor
end

section
namespace Go.Proofs.YtoocbagnfkgbfaaGreatDoor
open Go.RowKit
set_option linter.unusedVariables false

/-- What is worked on: the Squares, the map, Open, the Jobs that were done. -/
structure Kp where
  qs : List Sq
  ps : List Pl
  op : Int
  js : List Jb
def doK (z : Int) (s : Kp) (j : Jb) : Option Kp := if canJ z s.qs j then some ⟨doJ z s.qs j, s.ps, s.op, s.js ++ [j]⟩ else none
/-- Where the next page of Open comes. -/
def nextP (s : Kp) : Pl := (s.op, ((sqAt s.qs s.op.toNat).1.length : Int))
/-- A text comes behind the Pages of Open, and number i leads there. -/
def putK (z : Int) (s : Kp) (i : Nat) (tx : ByteArray) : Option Kp := (doK z s (1, s.op, tx)).map fun s' => ⟨s'.qs, s'.ps.set i (nextP s), s'.op, s'.js⟩
def txAt (qs : List Sq) (v p : Nat) : ByteArray := (sqAt qs v).1.getD p ByteArray.empty
/-- Those of the first k numbers that lie at page p of Square v are moved. -/
def moveI (z : Int) (v p : Nat) (s : Kp) : Nat → Option Kp
  | 0 => some s
  | k + 1 => (moveI z v p s k).bind fun s' => if plAt s'.ps k = ((v : Int), (p : Int)) then putK z s' k (txAt s'.qs v p) else some s'
/-- Those that lie at the first k pages of Square v are moved. -/
def moveP (z : Int) (v : Nat) (s : Kp) : Nat → Option Kp
  | 0 => some s
  | k + 1 => (moveP z v s k).bind fun s' => moveI z v k s' s'.ps.length
def moveK (z : Int) (v : Nat) (s : Kp) : Option Kp := moveP z v s (sqAt s.qs v).1.length
def withOp (s : Kp) (o : Int) : Kp := ⟨s.qs, s.ps, o, s.js⟩
/-- One step to room. -/
def stepK (z : Int) (s : Kp) : Option Kp :=
  if 2 ≤ (emptyK s.qs s.qs.length).length then some (withOp s (((emptyK s.qs s.qs.length).getD 0 0 : Nat) : Int))
  else if victimV z s.qs s.ps s.op < 0 then none
  else if 0 < liveN s.ps (victimV z s.qs s.ps s.op) then
    (if (emptyK s.qs s.qs.length).length = 0 then none else (moveK z (victimV z s.qs s.ps s.op).toNat (withOp s (((emptyK s.qs s.qs.length).getD 0 0 : Nat) : Int))).bind fun s' => doK z s' (2, victimV z s.qs s.ps s.op, ByteArray.empty))
  else doK z s (2, victimV z s.qs s.ps s.op, ByteArray.empty)
def roomy (z : Int) (s : Kp) : Bool := decide (0 ≤ s.op) && decide (((sqAt s.qs s.op.toNat).1.length : Int) < z)
/-- Room, in at most k steps. -/
def roomK (z : Int) : Nat → Kp → Option Kp
  | 0, s => if roomy z s then some s else none
  | k + 1, s => if roomy z s then some s else (stepK z s).bind (roomK z k)
def mayEnt (ps : List Pl) (st kd a : Int) (tx : ByteArray) : Bool := pageOk kd a (st + 1) tx && inB a 0 ((ps.length : Int) - 1)
/-- A page is entered. -/
def enterK (z : Int) (s : Kp) (st kd a : Int) (tx : ByteArray) : Option Kp :=
  if mayEnt s.ps st kd a tx then (roomK z 20 s).bind fun s' => putK z s' a.toNat (laid kd a (st + 1) tx) else none

/-! ### A right map, told otherwise -/
theorem plThere_iff {qs : List Sq} {p : Pl} : plThere qs p = true ↔ ∃ s k : Nat, p = ((s : Int), (k : Int)) ∧ s < qs.length ∧ k < (sqAt qs s).1.length := by
  unfold plThere inB
  simp only [Bool.and_eq_true, decide_eq_true_eq]
  constructor
  · rintro ⟨⟨h1, h2⟩, h3, h4⟩
    refine ⟨p.1.toNat, p.2.toNat, ?_, by omega, by omega⟩
    obtain ⟨a, b⟩ := p
    simp only at h1 h3
    simp only [Prod.mk.injEq]
    omega
  · rintro ⟨s, k, rfl, h1, h2⟩
    simp only [Int.toNat_natCast]
    omega
structure MapR (z : Int) (qs : List Sq) (ps : List Pl) : Prop where
  chip : chipOk z qs = true
  one : 1 ≤ ps.length
  few : ps.length ≤ 64
  there : ∀ i, i < ps.length → plAt ps i = (-1, 0) ∨ plThere qs (plAt ps i) = true
  apart : ∀ i j, i < ps.length → j < ps.length → i ≠ j → plAt ps i = plAt ps j → plAt ps i = (-1, 0)
theorem mapR_of {z : Int} {qs : List Sq} {ps : List Pl} (h : mapOk z qs ps = true) : MapR z qs ps := by
  have hp := fun i (hi : i < ps.length) => plOk_at h hi
  have hp' : ∀ i, i < ps.length → plAt ps i = (-1, 0) ∨ (plThere qs (plAt ps i) = true ∧ ∀ k, k < i → plAt ps k ≠ plAt ps i) := fun i hi => by
    have := hp i hi
    unfold plOk at this
    rw [Bool.or_eq_true, Bool.and_eq_true] at this
    rcases this with h1 | ⟨h1, h2⟩
    · exact .inl (by simpa using h1)
    · refine .inr ⟨h1, fun k hk e => ?_⟩
      have := List.all_eq_true.1 h2 k (List.mem_range.2 hk)
      simp [e] at this
  refine ⟨mapOk_chip h, (mapOk_len h).1, (mapOk_len h).2, fun i hi => (hp' i hi).imp id (·.1), fun i j hi hj hne he => ?_⟩
  rcases Nat.lt_or_gt_of_ne hne with hlt | hlt
  · rcases hp' j hj with h1 | h1
    · rw [he]; exact h1
    · exact absurd he (h1.2 i hlt)
  · rcases hp' i hi with h1 | h1
    · exact h1
    · exact absurd he.symm (h1.2 j hlt)
theorem MapR.ok {z : Int} {qs : List Sq} {ps : List Pl} (h : MapR z qs ps) : mapOk z qs ps = true := by
  unfold mapOk
  rw [h.chip, decide_eq_true h.one, decide_eq_true h.few, Bool.true_and, Bool.true_and, Bool.true_and, List.all_eq_true]
  intro i hi
  rw [List.mem_range] at hi
  unfold plOk
  rcases h.there i hi with h1 | h1
  · rw [h1]; rfl
  · by_cases e : plAt ps i = (-1, 0)
    · rw [e]; rfl
    · rw [h1, Bool.true_and, Bool.or_eq_true]
      refine .inr (List.all_eq_true.2 fun k hk => ?_)
      rw [List.mem_range] at hk
      rw [bne_iff_ne]
      exact fun e' => e (h.apart i k hi (by omega) (by omega) e'.symm)
theorem plAt_set (ps : List Pl) {i : Nat} (x : Pl) (h : i < ps.length) (k : Nat) : plAt (ps.set i x) k = if k = i then x else plAt ps k := by
  unfold plAt
  rw [List.getD_eq_getElem?_getD, List.getElem?_set]
  by_cases e : k = i
  · subst e; simp [h]
  · rw [if_neg e, if_neg (Ne.symm e), List.getD_eq_getElem?_getD]

/-! ### What stays -/
def txt (qs : List Sq) (p : Pl) : ByteArray := txAt qs p.1.toNat p.2.toNat
/-- Number i lies nowhere as before, or has the text that it had. -/
def sameAt (qs : List Sq) (ps : List Pl) (qs' : List Sq) (ps' : List Pl) (i : Nat) : Prop :=
  (plAt ps' i = (-1, 0) ↔ plAt ps i = (-1, 0)) ∧ (plAt ps i ≠ (-1, 0) → txt qs' (plAt ps' i) = txt qs (plAt ps i))
theorem sameAt_refl (qs : List Sq) (ps : List Pl) (i : Nat) : sameAt qs ps qs ps i := ⟨Iff.rfl, fun _ => rfl⟩
theorem sameAt_trans {qs qs' qs'' : List Sq} {ps ps' ps'' : List Pl} {i : Nat} (h : sameAt qs ps qs' ps' i) (k : sameAt qs' ps' qs'' ps'' i) : sameAt qs ps qs'' ps'' i :=
  ⟨k.1.trans h.1, fun hn => (k.2 (fun e => hn (h.1.1 e))).trans (h.2 hn)⟩
theorem ne_none {s : Nat} {k : Int} : ((s : Int), k) ≠ ((-1 : Int), (0 : Int)) := by
  intro e; simp only [Prod.mk.injEq] at e; omega
structure KOk (z : Int) (s : Kp) : Prop where
  map : MapR z s.qs s.ps
  lo : -1 ≤ s.op
  hi : s.op < (s.qs.length : Int)
  good : opOk s.qs s.op = true
/-- A page put behind those of Open. -/
theorem putK_parts {z : Int} {s s' : Kp} {i : Nat} {tx : ByteArray} (h : putK z s i tx = some s') :
    ∃ o : Nat, s.op = (o : Int) ∧ o < s.qs.length ∧ (sqAt s.qs o).2.2 = false ∧ ((sqAt s.qs o).1.length : Int) < z ∧ 1 ≤ tx.size ∧ tx.size ≤ 200 ∧ canJ z s.qs (1, (o : Int), tx) = true ∧
      s' = ⟨s.qs.set o ((sqAt s.qs o).1 ++ [tx], (sqAt s.qs o).2.1, (sqAt s.qs o).2.2), s.ps.set i ((o : Int), ((sqAt s.qs o).1.length : Int)), (o : Int), s.js ++ [(1, (o : Int), tx)]⟩ := by
  unfold putK doK at h
  split at h
  · rename_i hc
    obtain ⟨o, ho, hl, hb, hk⟩ := canJ_parts hc
    dsimp only at ho hk
    simp only [Option.map_some, Option.some.injEq] at h
    rw [ho] at hc
    rcases canK_kind hk with ⟨_, k1, k2, k3⟩ | ⟨k1, _⟩ | k1
    · refine ⟨o, ho, hl, hb, k1, k2, k3, hc, ?_⟩
      rw [← h]
      unfold nextP
      simp only [ho, Int.toNat_natCast]
      rw [doJ_yes hc]
      rfl
    · exact absurd k1 (by decide)
    · exact absurd k1 (by decide)
  · simp at h
theorem putK_ok {z : Int} {s s' : Kp} {i : Nat} {tx : ByteArray} (hK : KOk z s) (hi : i < s.ps.length) (h : putK z s i tx = some s') :
    KOk z s' ∧ s'.op = s.op ∧ s'.qs.length = s.qs.length ∧ s'.ps.length = s.ps.length ∧ (∀ q : Nat, (q : Int) ≠ s.op → sqAt s'.qs q = sqAt s.qs q) ∧ (∀ j, j ≠ i → plAt s'.ps j = plAt s.ps j) ∧ (∀ j, j < s.ps.length → j ≠ i → sameAt s.qs s.ps s'.qs s'.ps j) ∧ plAt s'.ps i = nextP s ∧ txt s'.qs (plAt s'.ps i) = tx := by
  obtain ⟨o, ho, hl, hb, hz, t1, t2, hc, rfl⟩ := putK_parts h
  have hm := hK.map
  have hnx : nextP s = ((o : Int), ((sqAt s.qs o).1.length : Int)) := by unfold nextP; rw [ho, Int.toNat_natCast]
  have hsq : ∀ q, sqAt (s.qs.set o ((sqAt s.qs o).1 ++ [tx], (sqAt s.qs o).2.1, (sqAt s.qs o).2.2)) q = if q = o then ((sqAt s.qs o).1 ++ [tx], (sqAt s.qs o).2.1, (sqAt s.qs o).2.2) else sqAt s.qs q := fun q => sqAt_set s.qs _ hl q
  have hpl : ∀ j, plAt (s.ps.set i ((o : Int), ((sqAt s.qs o).1.length : Int))) j = if j = i then ((o : Int), ((sqAt s.qs o).1.length : Int)) else plAt s.ps j := fun j => plAt_set s.ps _ hi j
  have hth : ∀ p, plThere s.qs p = true → plThere (s.qs.set o ((sqAt s.qs o).1 ++ [tx], (sqAt s.qs o).2.1, (sqAt s.qs o).2.2)) p = true ∧ txt (s.qs.set o ((sqAt s.qs o).1 ++ [tx], (sqAt s.qs o).2.1, (sqAt s.qs o).2.2)) p = txt s.qs p ∧ p ≠ ((o : Int), ((sqAt s.qs o).1.length : Int)) := fun p hp => by
    obtain ⟨a, b, rfl, ha, hb'⟩ := plThere_iff.1 hp
    refine ⟨plThere_iff.2 ⟨a, b, rfl, by rw [List.length_set]; exact ha, ?_⟩, ?_, ?_⟩
    · rw [hsq]
      split
      · rename_i e; subst e; simp; omega
      · exact hb'
    · unfold txt txAt
      simp only [Int.toNat_natCast]
      rw [hsq]
      split
      · rename_i e
        subst e
        simp only [List.getD_eq_getElem?_getD]
        rw [List.getElem?_append_left hb']
      · rfl
    · intro e
      simp only [Prod.mk.injEq] at e
      have e1 : a = o := by omega
      subst e1
      omega
  refine ⟨⟨⟨?_, ?_, ?_, fun j hj => ?_, fun j k hj hk hne he => ?_⟩, by show -1 ≤ (o : Int); omega, by show (o : Int) < ((s.qs.set o _).length : Int); rw [List.length_set]; omega, ?_⟩, ho.symm, List.length_set, List.length_set, fun q hq => ?_, fun j hj => ?_, fun j hj hne => ?_, ?_, ?_⟩
  · have := doJ_ok (j := (1, (o : Int), tx)) hm.chip
    rw [doJ_yes hc] at this
    exact this
  · rw [List.length_set]; exact hm.one
  · rw [List.length_set]; exact hm.few
  · dsimp only at hj ⊢
    rw [List.length_set] at hj
    rw [hpl]
    split
    · refine .inr (plThere_iff.2 ⟨o, _, rfl, by rw [List.length_set]; exact hl, ?_⟩)
      rw [hsq, if_pos rfl]
      simp
    · exact (hm.there j hj).imp id (fun h' => (hth _ h').1)
  · dsimp only at hj hk he ⊢
    rw [List.length_set] at hj hk
    rw [hpl, hpl] at he
    rw [hpl]
    by_cases e1 : j = i
    · rw [if_pos e1] at he
      have e2 : k ≠ i := fun e => hne (e1.trans e.symm)
      rw [if_neg e2] at he
      rcases hm.there k hk with h1 | h1
      · rw [h1] at he; exact absurd he ne_none
      · exact absurd he.symm (hth _ h1).2.2
    · rw [if_neg e1] at he ⊢
      by_cases e2 : k = i
      · rw [if_pos e2] at he
        rcases hm.there j hj with h1 | h1
        · exact h1
        · exact absurd he (hth _ h1).2.2
      · rw [if_neg e2] at he
        exact hm.apart j k hj hk hne he
  · unfold opOk
    simp only [Int.toNat_natCast]
    rw [hsq, if_pos rfl, hb]
    simp
  · dsimp only
    rw [hsq, if_neg]
    intro e
    rw [e, ho] at hq
    exact hq rfl
  · dsimp only
    rw [hpl, if_neg hj]
  · dsimp only
    unfold sameAt
    rw [hpl, if_neg hne]
    refine ⟨Iff.rfl, fun hn => ?_⟩
    rcases hm.there j hj with h1 | h1
    · exact absurd h1 hn
    · exact (hth _ h1).2.1
  · dsimp only
    rw [hpl, if_pos rfl, hnx]
  · dsimp only
    rw [hpl, if_pos rfl]
    unfold txt txAt
    simp only [Int.toNat_natCast]
    rw [hsq, if_pos rfl]
    simp
/-- Those of a page: none, or one. -/
theorem moveI_none {z : Int} {v p : Nat} {s : Kp} : ∀ {k : Nat}, (∀ i, i < k → plAt s.ps i ≠ ((v : Int), (p : Int))) → moveI z v p s k = some s
  | 0, _ => rfl
  | k + 1, h => by
    unfold moveI
    rw [moveI_none (fun i hi => h i (by omega)), Option.bind_some, if_neg (h k (by omega))]
theorem moveI_one {z : Int} {v p : Nat} {s : Kp} (hK : KOk z s) {i : Nat} (he : plAt s.ps i = ((v : Int), (p : Int))) : ∀ {k : Nat}, i < k → k ≤ s.ps.length → moveI z v p s k = putK z s i (txAt s.qs v p)
  | 0, h, _ => absurd h (by omega)
  | k + 1, h, hk => by
    have hu : ∀ j, j < s.ps.length → plAt s.ps j = ((v : Int), (p : Int)) → j = i := fun j hj e => by
      by_cases e' : j = i
      · exact e'
      · have := hK.map.apart j i hj (by omega) e' (by rw [e, he])
        rw [e] at this
        exact absurd this ne_none
    unfold moveI
    by_cases e : i = k
    · subst e
      rw [moveI_none (fun j hj e' => by have := hu j (by omega) e'; omega), Option.bind_some, if_pos he]
    · rw [moveI_one hK he (by omega) (by omega)]
      cases hp : putK z s i (txAt s.qs v p) with
      | none => rfl
      | some s' =>
        rw [Option.bind_some, if_neg]
        rw [(putK_ok hK (by omega) hp).2.2.2.2.2.1 k (fun e' => e e'.symm)]
        exact fun e' => e (hu k (by omega) e').symm
structure Moved (z : Int) (v k : Nat) (s s' : Kp) : Prop where
  ok : KOk z s'
  op : s'.op = s.op
  squares : s'.qs.length = s.qs.length
  places : s'.ps.length = s.ps.length
  other : ∀ q : Nat, (q : Int) ≠ s.op → sqAt s'.qs q = sqAt s.qs q
  same : ∀ i, i < s.ps.length → sameAt s.qs s.ps s'.qs s'.ps i
  gone : ∀ i p, p < k → i < s.ps.length → plAt s'.ps i ≠ ((v : Int), (p : Int))
theorem moveI_moved {z : Int} {v k : Nat} {s s' s'' : Kp} (hv : (v : Int) ≠ s.op) (hM : Moved z v k s s') (h : moveI z v k s' s'.ps.length = some s'') : Moved z v (k + 1) s s'' := by
  by_cases hex : ∃ i, i < s'.ps.length ∧ plAt s'.ps i = ((v : Int), (k : Int))
  · obtain ⟨i, hi, he⟩ := hex
    rw [moveI_one hM.ok he hi (Nat.le_refl _)] at h
    obtain ⟨h1, h2, h3, h4, h5, h6, h7, h8, h9⟩ := putK_ok hM.ok hi h
    refine ⟨h1, h2.trans hM.op, h3.trans hM.squares, h4.trans hM.places, fun q hq => (h5 q (by rw [hM.op]; exact hq)).trans (hM.other q hq), fun j hj => ?_, fun j p hp hj => ?_⟩
    · by_cases e : j = i
      · subst e
        refine sameAt_trans (hM.same j hj) ⟨?_, fun _ => ?_⟩
        · rw [h8, he]
          constructor
          · intro e
            have hop := hM.ok
            unfold nextP at e
            simp only [Prod.mk.injEq] at e
            obtain ⟨o, ho, _⟩ := putK_parts h
            omega
          · intro e
            exact absurd e ne_none
        · rw [h9, he]
          rfl
      · exact sameAt_trans (hM.same j hj) (h7 j (by rw [hM.places]; exact hj) e)
    · by_cases e : j = i
      · subst e
        rw [h8]
        unfold nextP
        intro e
        simp only [Prod.mk.injEq] at e
        exact hv (by rw [← hM.op]; exact e.1.symm)
      · rw [h6 j e]
        by_cases e2 : p = k
        · subst e2
          intro e3
          have := hM.ok.map.apart j i (by rw [hM.places]; exact hj) hi e (by rw [e3, he])
          rw [e3] at this
          exact absurd this ne_none
        · exact hM.gone j p (by omega) hj
  · have hno : ∀ i, i < s'.ps.length → plAt s'.ps i ≠ ((v : Int), (k : Int)) := fun i hi e => hex ⟨i, hi, e⟩
    rw [moveI_none hno] at h
    simp only [Option.some.injEq] at h
    subst h
    refine ⟨hM.ok, hM.op, hM.squares, hM.places, hM.other, hM.same, fun i p hp hi => ?_⟩
    by_cases e : p = k
    · subst e; exact hno i (by rw [hM.places]; exact hi)
    · exact hM.gone i p (by omega) hi
theorem moveP_moved {z : Int} {v : Nat} {s : Kp} (hK : KOk z s) (hv : (v : Int) ≠ s.op) : ∀ {k : Nat} {s' : Kp}, moveP z v s k = some s' → Moved z v k s s'
  | 0, s', h => by
    unfold moveP at h
    simp only [Option.some.injEq] at h
    subst h
    exact ⟨hK, rfl, rfl, rfl, fun _ _ => rfl, fun i _ => sameAt_refl _ _ i, fun _ _ hp => absurd hp (by omega)⟩
  | k + 1, s', h => by
    unfold moveP at h
    cases hp : moveP z v s k with
    | none => rw [hp] at h; cases h
    | some t =>
      rw [hp, Option.bind_some] at h
      exact moveI_moved hv (moveP_moved hK hv hp) h
/-- Behind all of them nothing lies there. -/
theorem moveK_gone {z : Int} {v : Nat} {s s' : Kp} (hK : KOk z s) (hv : (v : Int) ≠ s.op) (h : moveK z v s = some s') : ∀ i, i < s'.ps.length → (plAt s'.ps i).1 ≠ (v : Int) := by
  intro i hi e
  have hM := moveP_moved hK hv h
  rcases hM.ok.map.there i hi with h1 | h1
  · rw [h1] at e
    have : (-1 : Int) = (v : Int) := e
    omega
  · obtain ⟨a, b, h2, h3, h4⟩ := plThere_iff.1 h1
    rw [h2] at e
    have ea : a = v := by have : (a : Int) = (v : Int) := e; omega
    subst ea
    rw [hM.other a hv] at h4
    exact hM.gone i b h4 (by rw [← hM.places]; exact hi) h2
theorem liveN_zero {ps : List Pl} {v : Int} : liveN ps v = 0 ↔ ∀ i, i < ps.length → (plAt ps i).1 ≠ v := by
  unfold liveN
  rw [List.length_eq_zero_iff, List.filter_eq_nil_iff]
  constructor
  · intro h i hi e
    refine h (plAt ps i) ?_ (by simp [e])
    unfold plAt
    rw [List.getD_eq_getElem?_getD, List.getElem?_eq_getElem hi]
    exact List.getElem_mem hi
  · intro h p hp hh
    obtain ⟨i, hi, e⟩ := List.getElem_of_mem hp
    refine h i hi ?_
    unfold plAt
    rw [List.getD_eq_getElem?_getD, List.getElem?_eq_getElem hi]
    simp only [Option.getD_some]
    rw [e]
    simpa using hh
/-- A Square is wiped in which nothing lies. -/
theorem wipe_parts {z : Int} {s s' : Kp} {v : Nat} (h : doK z s (2, (v : Int), ByteArray.empty) = some s') :
    v < s.qs.length ∧ (sqAt s.qs v).2.2 = false ∧ (sqAt s.qs v).2.1 < 1000000 ∧ canJ z s.qs (2, (v : Int), ByteArray.empty) = true ∧ s' = ⟨s.qs.set v ([], (sqAt s.qs v).2.1 + 1, (sqAt s.qs v).2.2), s.ps, s.op, s.js ++ [(2, (v : Int), ByteArray.empty)]⟩ := by
  unfold doK at h
  split at h
  · rename_i hc
    obtain ⟨o, ho, hl, hb, hk⟩ := canJ_parts hc
    dsimp only at ho hk
    have e : o = v := by omega
    subst e
    simp only [Option.some.injEq] at h
    rcases canK_kind hk with ⟨k1, _⟩ | ⟨_, k1⟩ | k1
    · exact absurd k1 (by decide)
    · refine ⟨hl, hb, k1, hc, ?_⟩
      rw [← h, doJ_yes hc]
      rfl
    · exact absurd k1 (by decide)
  · simp at h
theorem wipe_ok {z : Int} {s s' : Kp} {v : Nat} (hK : KOk z s) (hv : ∀ i, i < s.ps.length → (plAt s.ps i).1 ≠ (v : Int)) (h : doK z s (2, (v : Int), ByteArray.empty) = some s') :
    KOk z s' ∧ s'.op = s.op ∧ s'.qs.length = s.qs.length ∧ s'.ps = s.ps ∧ (∀ q : Nat, q ≠ v → sqAt s'.qs q = sqAt s.qs q) ∧ (∀ j, j < s.ps.length → sameAt s.qs s.ps s'.qs s'.ps j) := by
  obtain ⟨hl, hb, hw, hc, rfl⟩ := wipe_parts h
  have hm := hK.map
  have hsq : ∀ q, sqAt (s.qs.set v ([], (sqAt s.qs v).2.1 + 1, (sqAt s.qs v).2.2)) q = if q = v then ([], (sqAt s.qs v).2.1 + 1, (sqAt s.qs v).2.2) else sqAt s.qs q := fun q => sqAt_set s.qs _ hl q
  have hne : ∀ i a b : Nat, i < s.ps.length → plAt s.ps i = ((a : Int), (b : Int)) → a ≠ v := fun i a b hi e e' => hv i hi (by rw [e, e'])
  refine ⟨⟨⟨?_, hm.one, hm.few, fun j hj => ?_, hm.apart⟩, hK.lo, by show s.op < ((s.qs.set v _).length : Int); rw [List.length_set]; exact hK.hi, ?_⟩, rfl, List.length_set, rfl, fun q hq => by dsimp only; rw [hsq, if_neg hq], fun j hj => ⟨Iff.rfl, fun hn => ?_⟩⟩
  · have := doJ_ok (j := (2, (v : Int), ByteArray.empty)) hm.chip
    rw [doJ_yes hc] at this
    exact this
  · refine (hm.there j hj).imp id fun h1 => ?_
    obtain ⟨a, b, h2, h3, h4⟩ := plThere_iff.1 h1
    have := hne j a b hj h2
    exact plThere_iff.2 ⟨a, b, h2, by rw [List.length_set]; exact h3, by rw [hsq, if_neg this]; exact h4⟩
  · have := hK.good
    unfold opOk at this ⊢
    dsimp only
    rw [hsq]
    split
    · rename_i e
      rw [hb]; simp
    · exact this
  · rcases hm.there j hj with h1 | h1
    · exact absurd h1 hn
    · obtain ⟨a, b, h2, h3, h4⟩ := plThere_iff.1 h1
      dsimp only
      rw [h2]
      unfold txt txAt
      simp only [Int.toNat_natCast]
      rw [hsq, if_neg (hne j a b hj h2)]
theorem doK_op {z : Int} {s s' : Kp} {j : Jb} (h : doK z s j = some s') : s'.op = s.op ∧ s'.ps = s.ps := by
  unfold doK at h; split at h
  · simp only [Option.some.injEq] at h; rw [← h]; exact ⟨rfl, rfl⟩
  · cases h

/-! ### A step -/
theorem empty_first {qs : List Sq} (h : 0 < (emptyK qs qs.length).length) : (emptyK qs qs.length).getD 0 0 < qs.length ∧ (sqAt qs ((emptyK qs qs.length).getD 0 0)).1.length = 0 ∧ (sqAt qs ((emptyK qs qs.length).getD 0 0)).2.2 = false := by
  have hm : (emptyK qs qs.length).getD 0 0 ∈ emptyK qs qs.length := by
    rw [List.getD_eq_getElem?_getD, List.getElem?_eq_getElem h]; exact List.getElem_mem h
  have := (emptyK_mem qs qs.length _).1 hm
  refine ⟨this.1, ?_⟩
  have h2 := this.2
  unfold isEmpty at h2
  simpa using h2
theorem withOp_ok {z : Int} {s : Kp} (hK : KOk z s) {o : Nat} (ho : o < s.qs.length) (hb : (sqAt s.qs o).2.2 = false) : KOk z (withOp s (o : Int)) :=
  ⟨hK.map, by show -1 ≤ (o : Int); omega, by show (o : Int) < (s.qs.length : Int); omega, by unfold opOk withOp; simp [hb]⟩
theorem victim_parts {z : Int} {qs : List Sq} {ps : List Pl} {op : Int} (hm : MapR z qs ps) (h : ¬ victimV z qs ps op < 0) : ∃ v : Nat, victimV z qs ps op = (v : Int) ∧ v < qs.length ∧ (v : Int) ≠ op ∧ 0 < (sqAt qs v).1.length ∧ (sqAt qs v).2.2 = false ∧ (liveN ps (v : Int) : Int) < z ∧ ∀ i, i < qs.length → (i : Int) ≠ op → 0 < (sqAt qs i).1.length → (sqAt qs i).2.2 = false → liveN ps (v : Int) ≤ liveN ps (i : Int) := by
  have e : victim z qs ps op = victimV z qs ps op := by unfold victim; rw [hm.ok]; rfl
  obtain ⟨b, h1, h2, h3, h4, h5, h6, h7, h8⟩ := victim_at (z := z) (qs := qs) (ps := ps) (op := op) (by rw [e]; omega)
  exact ⟨b, by rw [← e]; exact h1, h3, h4, h6, h7, h5, h8⟩
structure Stepped (z : Int) (s s' : Kp) : Prop where
  ok : KOk z s'
  squares : s'.qs.length = s.qs.length
  places : s'.ps.length = s.ps.length
  same : ∀ i, i < s.ps.length → sameAt s.qs s.ps s'.qs s'.ps i
theorem Stepped.refl {z : Int} {s : Kp} (h : KOk z s) : Stepped z s s := ⟨h, rfl, rfl, fun i _ => sameAt_refl _ _ i⟩
theorem Stepped.trans {z : Int} {s s' s'' : Kp} (h : Stepped z s s') (k : Stepped z s' s'') : Stepped z s s'' :=
  ⟨k.ok, k.squares.trans h.squares, k.places.trans h.places, fun i hi => sameAt_trans (h.same i hi) (k.same i (by rw [h.places]; exact hi))⟩
theorem stepK_ok {z : Int} {s s' : Kp} (hK : KOk z s) (h : stepK z s = some s') : Stepped z s s' := by
  unfold stepK at h
  split at h
  · rename_i h2
    simp only [Option.some.injEq] at h
    obtain ⟨e1, e2, e3⟩ := empty_first (qs := s.qs) (by omega)
    subst h
    exact ⟨withOp_ok hK e1 e3, rfl, rfl, fun i _ => sameAt_refl _ _ i⟩
  · split at h
    · cases h
    · rename_i hv
      obtain ⟨v, ev, hvl, hvo, hvp, hvb, _, _⟩ := victim_parts hK.map hv
      rw [ev] at h
      split at h
      · rename_i hlive
        split at h
        · cases h
        · rename_i he
          obtain ⟨e1, e2, e3⟩ := empty_first (qs := s.qs) (by omega)
          have hK' := withOp_ok hK e1 e3
          rw [Int.toNat_natCast] at h
          have hne : (v : Int) ≠ (withOp s (((emptyK s.qs s.qs.length).getD 0 0 : Nat) : Int)).op := by
            show (v : Int) ≠ (((emptyK s.qs s.qs.length).getD 0 0 : Nat) : Int)
            intro e
            have : v = (emptyK s.qs s.qs.length).getD 0 0 := by omega
            rw [← this] at e2
            omega
          cases hmv : moveK z v (withOp s (((emptyK s.qs s.qs.length).getD 0 0 : Nat) : Int)) with
          | none => rw [hmv] at h; cases h
          | some t =>
            rw [hmv, Option.bind_some] at h
            have hM := moveP_moved hK' hne hmv
            obtain ⟨w1, w2, w3, w4, w5, w6⟩ := wipe_ok hM.ok (moveK_gone hK' hne hmv) h
            exact ⟨w1, w3.trans hM.squares, (by rw [w4]; exact hM.places), fun i hi => sameAt_trans (hM.same i hi) (w6 i (by rw [hM.places]; exact hi))⟩
      · rename_i hlive
        obtain ⟨w1, w2, w3, w4, w5, w6⟩ := wipe_ok hK (liveN_zero.1 (by omega)) h
        exact ⟨w1, w3, by rw [w4], w6⟩
theorem roomK_ok {z : Int} : ∀ {k : Nat} {s s' : Kp}, KOk z s → roomK z k s = some s' → Stepped z s s' ∧ roomy z s' = true
  | 0, s, s', hK, h => by
    unfold roomK at h
    split at h
    · rename_i hr
      simp only [Option.some.injEq] at h
      subst h
      exact ⟨Stepped.refl hK, hr⟩
    · cases h
  | k + 1, s, s', hK, h => by
    unfold roomK at h
    split at h
    · rename_i hr
      simp only [Option.some.injEq] at h
      subst h
      exact ⟨Stepped.refl hK, hr⟩
    · cases hs : stepK z s with
      | none => rw [hs] at h; cases h
      | some t =>
        rw [hs, Option.bind_some] at h
        have h1 := stepK_ok hK hs
        obtain ⟨h2, h3⟩ := roomK_ok h1.ok h
        exact ⟨h1.trans h2, h3⟩
end Go.Proofs.YtoocbagnfkgbfaaGreatDoor
end

