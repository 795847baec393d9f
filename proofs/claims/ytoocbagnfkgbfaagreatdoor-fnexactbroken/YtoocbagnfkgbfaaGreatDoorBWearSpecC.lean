/- Several texts in one: WearSpecC, WearSpecD, WearSpecE, WearImplA, WearImplF, HeapBase, HeapImplA. -/
import Derived.Test.YtoocbagnfkgbfaaGreatDoorBChipGrow
import Derived.Lib.QuietBelow
import Derived.Deep.RegionWith
import Derived.Deep.DeepCutAuto
import Derived.Laws.StructEq
import Derived.RegionTactic
import Derived.Deep.QuietTactic
import Derived.BigQuiet
import Derived.Test.YtoocbagnfkgbfaaGreatDoorBChipOkS
import Derived.Test.YtoocbagnfkgbfaaGreatDoorBBase
import Derived.BigRegion
section
namespace Go.Proofs.YtoocbagnfkgbfaaGreatDoor
open Go.RowKit
set_option linter.unusedVariables false
set_option maxRecDepth 20000

theorem Tryz.eqPl (a b c d : Int) (w : World) : (Op.equalIn 10000 48 (.agg #[.int .i64 a, .int .i64 b]) (.agg #[.int .i64 c, .int .i64 d])).run Tryz.prog w = .ok (a == c && b == d) w := by
  have u := Tryz.underlying2
  have hS : Tryz.prog.underlying 48 = some (.struct (Tryz.prog.fieldsOf 48)) := by kernel_rfl
  rw [show (10000 : Nat) = 9999 + 1 from rfl, run_equalIn_agg w 9999 _ _ _ hS (by kernel_rfl)]
  simp only [Program.fieldsOf, Tryz.underlying48]
  go_simp
  by_cases h1 : a = c <;> by_cases h2 : b = d <;> simp [h1, h2]
theorem Tryz.guardPl : Tryz.prog.eqGuardType Tryz.prog.depth 48 = false := by kernel_rfl
theorem l9None_any (w : World) : Calls Tryz.prog 79 #[] w fun e w' => e = .returned (.agg #[.int .i64 (-1), .int .i64 0]) ∧ Below w.heap.size w w' := by
  have HB := hide ((Below.refl w.heap.size w).alloc (Nat.le_refl _) (.cells #[.int .i64 (-1), .int .i64 0] 48))
  go_enter Tryz.func79, Tryz.ntmps79
  go_wp2_with fail
  refine bodyPost_ret (results_cell rfl rfl (run_loadVar_row _ _ _ _ _ _ _ (heap_new _ _) Tryz.underlying48 rfl (by kernel_rfl))) rfl ⟨rfl, HB.out⟩

set_option maxHeartbeats 1600000 in
theorem l9There_any (z : Int) (a : Option Addr) (n cap : Nat) (qs : List Sq) (p q : Int) (w : World) {lo hi : Nat} (h : Squares lo hi w a n qs) (hhi : hi ≤ w.heap.size) (hn : n ≤ 12) (hf : ∀ x ∈ qs, sqFits x) :
    Calls Tryz.prog 138 #[.agg #[.int .i64 z, .slice a n cap], .agg #[.int .i64 p, .int .i64 q]] w fun e w' => e = .returned (.bool (plThere qs (p, q))) ∧ Below w.heap.size w w' := by
  obtain ⟨wA, hwA⟩ : ∃ wA, wA = (w.alloc (.cells #[.int .i64 z, .slice a n cap] 26)).alloc (.cells #[.int .i64 p, .int .i64 q] 48) := ⟨_, rfl⟩
  have hzA : wA.heap.size = w.heap.size + 1 + 1 := by rw [hwA]; simp
  have HBA : Hid (Below w.heap.size w wA) := by rw [hwA]; exact ((Below.refl _ _).alloc (Nat.le_refl _) _).alloc (by simp) _
  have H1 : Hid (wA.heap[w.heap.size]? = some (.cells #[.int .i64 z, .slice a n cap] 26)) := by rw [hwA]; exact heap_old (heap_new _ _)
  have H2 : Hid (wA.heap[w.heap.size + 1]? = some (.cells #[.int .i64 p, .int .i64 q] 48)) := by rw [hwA]; exact heap_at (by simp)
  have HSQ := hide (h.later HBA.out hhi)
  have HL := hide h.1
  have HF := hide hf
  clear h hf
  obtain ⟨a0, a1⟩ := two_cells H1.out
  obtain ⟨b0, b1⟩ := two_cells H2.out
  have HI1 : ∀ w9, Hid (Calls Tryz.prog 78 #[.int .i64 p, .int .i64 0, .int .i64 ((n : Int) - 1)] w9 fun e w' => e = .returned (.bool (inB p 0 ((n : Int) - 1))) ∧ w9 = w') := fun w9 => l1In_any _ _ _ w9
  by_cases hin : inB p 0 ((n : Int) - 1) = true
  · have hin2 := hin
    unfold inB at hin2
    simp only [Bool.and_eq_true, decide_eq_true_eq] at hin2
    obtain ⟨i, rfl⟩ : ∃ i : Nat, p = (i : Int) := ⟨p.toNat, by omega⟩
    have hlt : i < n := by omega
    have hql : i < qs.length := by rw [HL.out]; exact hlt
    have hlt2 : (i : Int) < (n : Int) := by omega
    obtain ⟨_, A, C, hx, ht⟩ := HSQ.out
    obtain ⟨b, off, rfl, _, hb, hc⟩ := hx.2 (by omega)
    obtain ⟨c0, c1, c2⟩ := sq_cells hc (Below.refl wA.heap.size wA) (show b < wA.heap.size by have := hx.1; omega) hlt
    have hl9 := (sq_fits HF.out hql).2.1
    unfold maxLen at hl9
    have HE : Hid (plThere qs ((i : Int), q) = inB q 0 (((sqAt qs i).1.length : Int) - 1)) := by
      show _ = _
      unfold plThere
      dsimp only
      rw [HL.out, hin]
      simp
    rw [hin] at HI1
    have HI2 : ∀ w9, Hid (Calls Tryz.prog 78 #[.int .i64 q, .int .i64 0, .int .i64 (((sqAt qs i).1.length : Int) - 1)] w9 fun e w' => e = .returned (.bool (inB q 0 (((sqAt qs i).1.length : Int) - 1))) ∧ w9 = w') := fun w9 => l1In_any _ _ _ w9
    clear hc hx ht hin hin2 c1 c2
    generalize sqAt qs i = y at *
    obtain ⟨ts, zw, bd⟩ := y
    dsimp only at c0 hl9 HE HI2
    generalize inB q 0 ((ts.length : Int) - 1) = bb at *
    go_enter Tryz.func138, Tryz.ntmps138
    go_upto_region 1 with fail
    rw [← hwA]
    clear hwA
    go_quiet ((first | (go_at_call_of 78 (Value.int .i64 q); exact Calls.quiet_of_same ((HI2 _).out.mono fun e w' hh => ⟨hh.1, hh.2.symm⟩)) | (go_at_call_of 78 (Value.int .i64 (i : Int)); exact Calls.quiet_of_same ((HI1 _).out.mono fun e w' hh => ⟨hh.1, hh.2.symm⟩))))
    go_wp2_with fail
    go_ret
    exact ⟨ret_bool HE.out.symm, ⟨HBA.out.os, HBA.out.tape, HBA.out.output, HBA.out.size, HBA.out.block⟩⟩
  · have hin' : inB p 0 ((n : Int) - 1) = false := by simpa using hin
    have HE : Hid (plThere qs (p, q) = false) := by show _ = _; unfold plThere; dsimp only; rw [HL.out, hin']; rfl
    rw [hin'] at HI1
    go_enter Tryz.func138, Tryz.ntmps138
    go_upto_region 1 with fail
    rw [← hwA]
    clear hwA
    go_quiet ((go_at_call 78; exact Calls.quiet_of_same ((HI1 _).out.mono fun e w' hh => ⟨hh.1, hh.2.symm⟩)))
    go_wp2_with fail
    go_ret
    exact ⟨ret_bool HE.out.symm, ⟨HBA.out.os, HBA.out.tape, HBA.out.output, HBA.out.size, HBA.out.block⟩⟩

theorem pl_eq (a b : Pl) : (a == b) = ((a.1 == b.1) && (a.2 == b.2)) := by
  obtain ⟨a1, a2⟩ := a
  obtain ⟨b1, b2⟩ := b
  rfl

set_option maxHeartbeats 3200000 in
theorem specMapOk_any (z : Int) (a : Option Addr) (n cap : Nat) (qs : List Sq) (al : Option Addr) (m capl : Nat) (ps : List Pl) (w : World) {lo hi lo' hi' : Nat} (h : Squares lo hi w a n qs) (hhi : hi ≤ w.heap.size) (hn : n ≤ 1048576) (hf : ∀ x ∈ qs, sqFits x) (hp : Places lo' hi' w al m ps) (hhi' : hi' ≤ w.heap.size) (hm : m ≤ 1048576) :
    Calls Tryz.prog 77 #[.agg #[.int .i64 z, .slice a n cap], .slice al m capl] w fun e w' => e = .returned (.bool (mapOk z qs ps)) ∧ Below w.heap.size w w' := by
  obtain ⟨wA, hwA⟩ : ∃ wA, wA = w.alloc (.cells #[.int .i64 z, .slice a n cap] 26) := ⟨_, rfl⟩
  have hzA : wA.heap.size = w.heap.size + 1 := by rw [hwA]; simp
  have HBA : Hid (Below w.heap.size w wA) := by rw [hwA]; exact (Below.refl _ _).alloc (Nat.le_refl _) _
  have H1 : Hid (wA.heap[w.heap.size]? = some (.cells #[.int .i64 z, .slice a n cap] 26)) := by rw [hwA]; exact heap_new _ _
  have HSQ := hide (h.later HBA.out hhi)
  have HPL := hide (hp.later HBA.out hhi')
  have HL := hide h.1
  have HLP := hide hp.1
  have HF := hide hf
  clear h hf hp
  obtain ⟨a0, a1⟩ := two_cells H1.out
  go_enter Tryz.func77, Tryz.ntmps77
  go_upto_region 1 with fail
  rw [← hwA]
  clear hwA
  go_wp2_with fail
  refine (specChipOk_any z a n cap qs wA HSQ.out (by omega) hn HF.out).mono ?_
  rintro e w1 ⟨rfl, b1⟩
  have K1 := hide (block_on H1.out b1)
  have HS1 := hide (HSQ.out.later b1 (by omega))
  have HP1 := hide (HPL.out.later b1 (by omega))
  have HB1 := hide (below_here HBA.out b1)
  have hs1 := b1.size
  clear b1 H1 HSQ HPL HBA a0 a1
  cases hok : chipOk z qs with
  | false =>
    have HE : Hid (mapOk z qs ps = false) := by show _ = _; unfold mapOk; rw [hok]; rfl
    go_wp2_with fail
    go_ret
    exact ⟨ret_bool HE.out.symm, HB1.out⟩
  | true =>
    have hn12 : n ≤ 12 := by have := (chipOk_parts hok).2.2.2.1; rw [HL.out] at this; exact this
    by_cases h1 : 1 ≤ m
    · have g1 : decide ((m : Int) < 1) = false := by simp; omega
      by_cases h64 : m ≤ 64
      · have g2 : decide ((m : Int) > 64) = false := by simp; omega
        have HE : Hid (mapOk z qs ps = (List.range ps.length).all (plOk qs ps)) := by
          show _ = _
          unfold mapOk
          rw [hok, HLP.out, decide_eq_true h1, decide_eq_true h64]
          rfl
        clear hok
        go_wp2_with fail
        clear g1 g2
        go_loopw [5] (fun i wr => ∃ k : Nat, k ≤ m ∧ i = .int .i64 (k : Int) ∧ (List.range k).all (plOk qs ps) = true ∧ Below w1.heap.size w1 wr) (fun i _ => m - (intOf i).toNat)
        case atStart => exact ⟨0, Nat.zero_le _, rfl, rfl, Below.refl _ _⟩
        case round =>
          obtain ⟨k, hk, rfl, hall, hbel⟩ := hrel
          have HAL := hide hall
          have HBB := hide hbel
          clear hall
          by_cases hlt : k < m
          · have hpl : k < ps.length := by rw [HLP.out]; exact hlt
            obtain ⟨b, off, rfl, _, hb, hc⟩ := HP1.out.2.2 (by omega)
            obtain ⟨c0, c1⟩ := pl_cells hc hbel (show b < w1.heap.size by have := HP1.out.2.1; omega) hlt
            have HC := hide hc
            have HFA : Hid (plOk qs ps k = false → mapOk z qs ps = false) := fun hh => mapOk_fall hpl hh
            have HST : Hid (plOk qs ps k = true → (List.range (k + 1)).all (plOk qs ps) = true) := fun hh => all_range_step HAL.out hh
            have HPO : Hid (plOk qs ps k = ((((plAt ps k).1 == -1) && ((plAt ps k).2 == 0)) || (plThere qs (plAt ps k) && (List.range k).all (fun j => plAt ps j != plAt ps k)))) := by
              show _ = _
              unfold plOk
              rw [pl_eq]
            clear hc hbel
            obtain ⟨y, hy⟩ : ∃ y, y = plAt ps k := ⟨_, rfl⟩
            have HY := hide hy
            rw [← hy] at c0 c1 HPO
            clear hy
            obtain ⟨p, q⟩ := y
            dsimp only at c0 c1 HPO
            have cN : ∀ d os, Calls Tryz.prog 79 #[] (Go.Sort.grow (redrawn wr d) os) fun e w'' => e = .returned (.agg #[.int .i64 (-1), .int .i64 0]) ∧ ∃ p : Regrown, w'' = Go.Sort.grow (redrawn wr p.d) p.os := fun d os => Calls.regrown_of (l9None_any _)
            have k0 := cell_regrown c0
            have k1 := cell_regrown c1
            have q1 := Tryz.eqPl p q (-1) 0
            have q2 := Tryz.guardPl
            go_upto_region 6 with fail
            go_cut [31] (fun c wx => c = .bool ((p == -1) && (q == 0)) ∧ Below wr.heap.size wr wx)
            case first =>
              refine wp_region_quiet_below (by kernel_rfl) (by kernel_rfl) ?_
              repeat (go_big_quiet_step ((go_at_call 79; exact cN _ _)))
              refine wpQuiet_nil ?_
              intro _ hw'
              obtain ⟨⟨dq, osq⟩, hw''⟩ := hw'
              subst hw''
              have HBQ := hide (below_regrown wr dq osq)
              go_wp2_with fail
              go_meet
              exact ⟨rfl, HBQ.out⟩
            case rest =>
              obtain ⟨rfl, hb2⟩ := hcut
              obtain ⟨w2, hw2⟩ : ∃ w2, w2 = wc := ⟨_, rfl⟩
              subst hw2
              have HB2 := hide (below_here HBB.out hb2)
              clear hb2 k0 k1 cN q1 c0 c1
              cases hnone : ((p == -1) && (q == 0)) with
              | true =>
                have HOK := hide (HST.out (by rw [HPO.out, hnone]; rfl))
                go_wp2_with fail
                exact ⟨⟨k + 1, by omega, by go_num, HOK.out, HB2.out⟩, by simp [intOf]; omega⟩
              | false =>
                have HPO2 : Hid (plOk qs ps k = (plThere qs (p, q) && (List.range k).all (fun j => plAt ps j != (p, q)))) := by show _ = _; rw [HPO.out, hnone]; rfl
                obtain ⟨c0, c1⟩ := pl_cells HC.out HB2.out (show b < w1.heap.size by have := HP1.out.2.1; omega) hlt
                rw [← HY.out] at c0 c1
                dsimp only at c0 c1
                obtain ⟨a0, a1⟩ := two_cells (block_on K1.out HB2.out)
                have hs2 := HB2.out.size
                have cT : ∀ d os, Calls Tryz.prog 138 #[.agg #[.int .i64 z, .slice a n cap], .agg #[.int .i64 p, .int .i64 q]] (Go.Sort.grow (redrawn w2 d) os) fun e w'' => e = .returned (.bool (plThere qs (p, q))) ∧ ∃ p : Regrown, w'' = Go.Sort.grow (redrawn w2 p.d) p.os := fun d os => Calls.regrown_of (l9There_any z a n cap qs p q _ (HS1.out.later (below_here HB2.out (below_regrown w2 d os)) (by omega)) (by have := (below_regrown w2 d os).size; omega) hn12 HF.out)
                have k0 := cell_regrown a0
                have k1 := cell_regrown a1
                have k2 := cell_regrown c0
                have k3 := cell_regrown c1
                clear hnone
                go_upto_region 7 with fail
                go_cut [38] (fun c wx => c = .bool (!plThere qs (p, q)) ∧ Below w2.heap.size w2 wx)
                case first =>
                  refine wp_region_quiet_below (by kernel_rfl) (by kernel_rfl) ?_
                  repeat (go_big_quiet_step ((go_at_call 138; exact cT _ _)))
                  refine wpQuiet_nil ?_
                  intro _ hw'
                  obtain ⟨⟨dq, osq⟩, hw''⟩ := hw'
                  subst hw''
                  have HBQ := hide (below_regrown w2 dq osq)
                  go_wp2_with fail
                  go_meet
                  exact ⟨rfl, HBQ.out⟩
                case rest =>
                  obtain ⟨rfl, hb3⟩ := hcut
                  obtain ⟨w3, hw3⟩ : ∃ w3, w3 = wc := ⟨_, rfl⟩
                  subst hw3
                  have HB3 := hide (below_here HB2.out hb3)
                  clear hb3 k0 k1 k2 k3 cT c0 c1 a0 a1
                  cases hth : plThere qs (p, q) with
                  | false =>
                    have HNO := hide (HFA.out (by rw [HPO2.out, hth]; rfl))
                    go_wp2_with fail
                    go_ret
                    exact ⟨ret_bool HNO.out.symm, below_here HB1.out HB3.out⟩
                  | true =>
                    have HPO3 : Hid (plOk qs ps k = (List.range k).all (fun j => plAt ps j != (p, q))) := by show _ = _; rw [HPO2.out, hth]; rfl
                    simp only [Bool.not_true]
                    clear hth
                    go_wp2_with fail
                    obtain ⟨wo, hwo⟩ : ∃ wo, wo = w3 := ⟨_, rfl⟩
                    subst hwo
                    go_loopw [6] (fun t wx => ∃ j : Nat, j ≤ k ∧ t = .int .i64 (j : Int) ∧ (List.range j).all (fun j => plAt ps j != (p, q)) = true ∧ Below w1.heap.size w1 wx) (fun t _ => k - (intOf t).toNat)
                    case atStart => exact ⟨0, Nat.zero_le _, rfl, rfl, HB3.out⟩
                    case round =>
                      obtain ⟨j, hj, rfl, hal, hbj⟩ := hrel
                      have HJA := hide hal
                      have HBJ := hide hbj
                      clear hal
                      by_cases hjl : j < k
                      · obtain ⟨c0, c1⟩ := pl_cells HC.out hbj (show b < w1.heap.size by have := HP1.out.2.1; omega) hlt
                        obtain ⟨d0, d1⟩ := pl_cells HC.out hbj (show b < w1.heap.size by have := HP1.out.2.1; omega) (show j < m by omega)
                        rw [← HY.out] at c0 c1
                        dsimp only at c0 c1
                        have HJF : Hid ((plAt ps j == (p, q)) = true → plOk qs ps k = false) := fun hh => by rw [HPO3.out]; exact all_range_fall hjl (by simp only [bne, hh]; rfl)
                        have HJS : Hid ((plAt ps j == (p, q)) = false → (List.range (j + 1)).all (fun j => plAt ps j != (p, q)) = true) := fun hh => all_range_step HJA.out (by simp only [bne, hh]; rfl)
                        rw [pl_eq] at HJF HJS
                        generalize plAt ps j = y at *
                        obtain ⟨r, t⟩ := y
                        dsimp only at d0 d1 HJF HJS
                        have q1 := Tryz.eqPl r t p q
                        have hlt2 : (k : Int) < (m : Int) := by omega
                        have hlt3 : (j : Int) < (m : Int) := by omega
                        clear hbj
                        cases heq : ((r == p) && (t == q)) with
                        | true =>
                          have HNO := hide (HFA.out (HJF.out heq))
                          rw [heq] at q1
                          go_wp2_with fail
                          go_quiet (fail)
                          go_wp2_with fail
                          go_ret
                          exact ⟨ret_bool HNO.out.symm, by have hh := below_here HB1.out HBJ.out; exact ⟨hh.os, hh.tape, hh.output, hh.size, hh.block⟩⟩
                        | false =>
                          have HOK := hide (HJS.out heq)
                          rw [heq] at q1
                          go_wp2_with fail
                          go_quiet (fail)
                          go_wp2_with fail
                          go_roundw
                          case rel => exact ⟨j + 1, by omega, by go_num, HOK.out, ⟨HBJ.out.os, HBJ.out.tape, HBJ.out.output, HBJ.out.size, HBJ.out.block⟩⟩
                          case measure => simp [intOf]; omega
                      · obtain rfl : j = k := by omega
                        have HOK := hide (HST.out (by rw [HPO3.out]; exact HJA.out))
                        go_wp2_with fail
                        exact ⟨⟨j + 1, by omega, by go_num, HOK.out, HBJ.out⟩, by simp [intOf]; omega⟩
          · obtain rfl : k = m := by omega
            have HE2 : Hid (mapOk z qs ps = true) := by show _ = _; rw [HE.out, HLP.out]; exact HAL.out
            go_wp2_with fail
            go_ret
            exact ⟨ret_bool HE2.out.symm, below_here HB1.out HBB.out⟩
      · have g2 : decide ((m : Int) > 64) = true := by simp; omega
        have HE : Hid (mapOk z qs ps = false) := by show _ = _; unfold mapOk; rw [HLP.out, decide_eq_false h64]; simp
        go_wp2_with fail
        go_ret
        exact ⟨ret_bool HE.out.symm, HB1.out⟩
    · have g1 : decide ((m : Int) < 1) = true := by simp; omega
      have HE : Hid (mapOk z qs ps = false) := by show _ = _; unfold mapOk; rw [HLP.out, decide_eq_false h1]; simp
      go_wp2_with fail
      go_ret
      exact ⟨ret_bool HE.out.symm, HB1.out⟩
end Go.Proofs.YtoocbagnfkgbfaaGreatDoor
end

section
namespace Go.Proofs.YtoocbagnfkgbfaaGreatDoor
open Go.RowKit
set_option linter.unusedVariables false
set_option maxRecDepth 20000

def bestV (o : Option Nat) : Int := match o with | none => -1 | some b => (b : Int)
theorem mayV_parts (qs : List Sq) (op : Int) (k : Nat) : mayV qs op k = (!((sqAt qs k).1.length == 0) && (!(sqAt qs k).2.2 && !((k : Int) == op))) := rfl
theorem bestK_no {qs : List Sq} {ps : List Pl} {op : Int} {k : Nat} (h : mayV qs op k = false) : bestK qs ps op (k + 1) = bestK qs ps op k := by
  show (if mayV qs op k then _ else _) = _
  rw [h]; rfl
theorem bestK_first {qs : List Sq} {ps : List Pl} {op : Int} {k : Nat} (h : mayV qs op k = true) (hb : bestK qs ps op k = none) : bestK qs ps op (k + 1) = some k := by
  show (if mayV qs op k then (match bestK qs ps op k with | none => some k | some b => if betterV qs ps k b then some k else some b) else _) = _
  rw [h, hb]; rfl
theorem bestK_next {qs : List Sq} {ps : List Pl} {op : Int} {k b : Nat} (h : mayV qs op k = true) (hb : bestK qs ps op k = some b) : bestK qs ps op (k + 1) = if betterV qs ps k b then some k else some b := by
  show (if mayV qs op k then (match bestK qs ps op k with | none => some k | some b => if betterV qs ps k b then some k else some b) else _) = _
  rw [h, hb]; rfl

set_option maxHeartbeats 3200000 in
theorem l9Victim_any (z : Int) (a : Option Addr) (n cap : Nat) (qs : List Sq) (al : Option Addr) (m capl : Nat) (ps : List Pl) (op : Int) (w : World) {lo hi lo' hi' : Nat} (h : Squares lo hi w a n qs) (hhi : hi ≤ w.heap.size) (hn : n ≤ 12) (hf : ∀ x ∈ qs, sqFits x) (hp : Places lo' hi' w al m ps) (hhi' : hi' ≤ w.heap.size) (hm : m ≤ 64) :
    Calls Tryz.prog 178 #[.agg #[.int .i64 z, .slice a n cap], .slice al m capl, .int .i64 op] w fun e w' => e = .returned (.int .i64 (victimV z qs ps op)) ∧ Below w.heap.size w w' := by
  obtain ⟨wA, hwA⟩ : ∃ wA, wA = w.alloc (.cells #[.int .i64 z, .slice a n cap] 26) := ⟨_, rfl⟩
  have hzA : wA.heap.size = w.heap.size + 1 := by rw [hwA]; simp
  have HBA : Hid (Below w.heap.size w wA) := by rw [hwA]; exact (Below.refl _ _).alloc (Nat.le_refl _) _
  have H1 : Hid (wA.heap[w.heap.size]? = some (.cells #[.int .i64 z, .slice a n cap] 26)) := by rw [hwA]; exact heap_new _ _
  have HSQ := hide (h.later HBA.out hhi)
  have HPL := hide (hp.later HBA.out hhi')
  have HL := hide h.1
  have HLP := hide hp.1
  have HF := hide hf
  have hlv : ∀ s, liveN ps s ≤ 64 := fun s => by have := liveN_le ps s; rw [HLP.out] at this; omega
  have HLV := hide hlv
  clear h hf hp hlv
  go_enter Tryz.func178, Tryz.ntmps178
  go_upto_region 1 with fail
  rw [← hwA]
  clear hwA
  go_wp2_with fail
  go_loopw [7, 8] (fun t i wr => ∃ k : Nat, k ≤ n ∧ i = .int .i64 (k : Int) ∧ t = .int .i64 (bestV (bestK qs ps op k)) ∧ Below wA.heap.size wA wr) (fun _ i _ => n - (intOf i).toNat)
  case atStart => exact ⟨0, Nat.zero_le _, rfl, rfl, Below.refl _ _⟩
  case round =>
    obtain ⟨k, hk, rfl, rfl, hbel⟩ := hrel
    have K1 := hide (block_on H1.out hbel)
    obtain ⟨a0, a1⟩ := two_cells K1.out
    have HBB := hide hbel
    by_cases hlt : k < n
    · have hql : k < qs.length := by rw [HL.out]; exact hlt
      obtain ⟨_, A, C, hx, ht⟩ := HSQ.out
      obtain ⟨b, off, rfl, _, hb, hc⟩ := hx.2 (by omega)
      have HC := hide hc
      obtain ⟨c0, c1, c2⟩ := sq_cells hc hbel (show b < wA.heap.size by omega) hlt
      have hl9 := (sq_fits HF.out hql).2.1
      unfold maxLen at hl9
      have HMV := hide (mayV_parts qs op k)
      have HYY : Hid (sqAt qs k = sqAt qs k) := rfl
      obtain ⟨y, hy⟩ : ∃ y, y = sqAt qs k := ⟨_, rfl⟩
      rw [← hy] at c0 c1 c2 hl9 HMV
      have HY := hide hy
      clear hc hx ht hy HYY
      obtain ⟨ts, zw, bd⟩ := y
      dsimp only at c0 c1 c2 hl9 HMV
      have HBV := hide ((Below.refl wr.heap.size wr).alloc (Nat.le_refl _) (.cells #[.slice (A k) ts.length (C k), .int .i64 zw, .bool bd] 51))
      have HBF := hide (below_here HBB.out HBV.out)
      have hbo : ∀ j, bestV (bestK qs ps op k) = (j : Int) → True := fun _ _ => trivial
      clear hbo hbel
      cases hmay : mayV qs op k with
      | false =>
        have HE : Hid (bestV (bestK qs ps op (k + 1)) = bestV (bestK qs ps op k)) := by show _ = _; rw [bestK_no hmay]
        rw [hmay] at HMV
        generalize bestV (bestK qs ps op k) = bv at *
        by_cases h0 : ts.length = 0
        · have g0 : ((ts.length : Int) == 0) = true := by simp [h0]
          clear h0
          go_wp2_with fail
          exact ⟨⟨k + 1, by omega, by go_num, by rw [HE.out], HBF.out⟩, by simp [intOf]; omega⟩
        · have g0 : ((ts.length : Int) == 0) = false := by simp; exact fun e => h0 (by rw [e]; rfl)
          cases bd with
          | true =>
            go_wp2_with fail
            exact ⟨⟨k + 1, by omega, by go_num, by rw [HE.out], HBF.out⟩, by simp [intOf]; omega⟩
          | false =>
            have hko : (k : Int) = op := by
              have h9 := HMV.out
              have e0 : (ts.length == 0) = false := by simpa using h0
              rw [e0] at h9
              simpa using h9
            have g1 : ((k : Int) == op) = true := by simpa using hko
            clear hko
            go_wp2_with fail
            exact ⟨⟨k + 1, by omega, by go_num, by rw [HE.out], HBF.out⟩, by simp [intOf]; omega⟩
      | true =>
        rw [hmay] at HMV
        have h9 := HMV.out
        simp only [Bool.true_eq, Bool.and_eq_true, Bool.not_eq_true', beq_eq_false_iff_ne, ne_eq] at h9
        obtain ⟨h0, rfl, hko⟩ := h9
        have g0 : ((ts.length : Int) == 0) = false := by simp; exact fun e => h0 (by rw [e]; rfl)
        have g1 : ((k : Int) == op) = false := by simpa using hko
        cases hbk : bestK qs ps op k with
        | none =>
          have HE : Hid (bestV (bestK qs ps op (k + 1)) = (k : Int)) := by show _ = _; rw [bestK_first hmay hbk]; rfl
          rw [show bestV none = -1 from rfl]
          go_wp2_with fail
          exact ⟨⟨k + 1, by omega, by go_num, by rw [HE.out], HBF.out⟩, by simp [intOf]; omega⟩
        | some j =>
          have hjk := bestK_lt hbk
          have HE := hide (bestK_next hmay hbk)
          rw [show bestV (some j) = (j : Int) from rfl]
          have gj : decide ((j : Int) < 0) = false := by simp
          clear hbk hmay
          obtain ⟨wV, hwV⟩ : ∃ wV, wV = wr.alloc (.cells #[.slice (A k) ts.length (C k), .int .i64 zw, .bool false] 51) := ⟨_, rfl⟩
          have HV0 : Hid (wV.heap[wr.heap.size]? = some (.cells #[.slice (A k) ts.length (C k), .int .i64 zw, .bool false] 51)) := by rw [hwV]; exact heap_new _ _
          rw [← hwV] at HBV HBF
          go_upto_region 9 with fail
          rw [← hwV]
          clear hwV
          have HPV := hide (HPL.out.later HBF.out (by omega))
          obtain ⟨d0, d1⟩ := two_cells (block_on K1.out HBV.out)
          obtain ⟨e0, e1, e2⟩ := three_cells HV0.out
          obtain ⟨f0, f1, f2⟩ := sq_cells HC.out HBF.out (show b < wA.heap.size by omega) (show j < n by omega)
          have hla := HLV.out (k : Int)
          have hlb := HLV.out (j : Int)
          have HBT : Hid (betterV qs ps k j = (decide (liveN ps (k : Int) < liveN ps (j : Int)) || (decide (liveN ps (k : Int) = liveN ps (j : Int)) && decide (zw < (sqAt qs j).2.1)))) := by
            show _ = _
            unfold betterV
            rw [← HY.out]
          clear a0 a1 c0 c1 c2 f0 f2 d0 e0 e2
          go_wp2_with fail
          refine (l9Live_any al m capl ps (k : Int) wV HPV.out (by omega)).mono ?_
          rintro e w3 ⟨rfl, rfl⟩
          go_wp2_with fail
          refine (l9Live_any al m capl ps (j : Int) wV HPV.out (by omega)).mono ?_
          rintro e w3 ⟨rfl, rfl⟩
          generalize liveN ps (k : Int) = la at *
          generalize liveN ps (j : Int) = lb at *
          generalize (sqAt qs j).2.1 = zj at *
          have hjn : (j : Int) < (n : Int) := by omega
          have HBW : ∀ nq, Hid (Below wA.heap.size wA (wV.drewN nq)) := fun nq => ⟨HBF.out.os, HBF.out.tape, HBF.out.output, HBF.out.size, HBF.out.block⟩
          by_cases h1 : la < lb
          · have g2 : decide ((la : Int) < (lb : Int)) = true := by simp; omega
            have HE2 : Hid (bestV (bestK qs ps op (k + 1)) = (k : Int)) := by
              show _ = _
              rw [HE.out, HBT.out, decide_eq_true h1]
              rfl
            go_wp2_with fail
            go_quiet (fail)
            go_wp2_with fail
            go_roundw
            case rel => exact ⟨k + 1, by omega, by go_num, by rw [HE2.out], (HBW _).out⟩
            case measure => simp [intOf]; omega
          · have g2 : decide ((la : Int) < (lb : Int)) = false := by simp; omega
            by_cases h2 : la = lb
            · have g3 : ((la : Int) == (lb : Int)) = true := by simp [h2]
              by_cases h3 : zw < zj
              · have g4 : decide (zw < zj) = true := by simpa using h3
                have HE2 : Hid (bestV (bestK qs ps op (k + 1)) = (k : Int)) := by
                  show _ = _
                  rw [HE.out, HBT.out, decide_eq_true h2, g4]
                  simp [bestV]
                go_wp2_with fail
                go_quiet (fail)
                go_wp2_with fail
                go_roundw
                case rel => exact ⟨k + 1, by omega, by go_num, by rw [HE2.out], (HBW _).out⟩
                case measure => simp [intOf]; omega
              · have g4 : decide (zw < zj) = false := by simpa using h3
                have HE2 : Hid (bestV (bestK qs ps op (k + 1)) = (j : Int)) := by
                  show _ = _
                  rw [HE.out, HBT.out, decide_eq_false h1, g4]
                  simp [bestV]
                go_wp2_with fail
                go_quiet (fail)
                go_wp2_with fail
                go_roundw
                case rel => exact ⟨k + 1, by omega, by go_num, by rw [HE2.out], (HBW _).out⟩
                case measure => simp [intOf]; omega
            · have g3 : ((la : Int) == (lb : Int)) = false := by simp; omega
              have HE2 : Hid (bestV (bestK qs ps op (k + 1)) = (j : Int)) := by
                show _ = _
                rw [HE.out, HBT.out, decide_eq_false h1, decide_eq_false h2]
                simp [bestV]
              go_wp2_with fail
              go_quiet (fail)
              go_wp2_with fail
              go_roundw
              case rel => exact ⟨k + 1, by omega, by go_num, by rw [HE2.out], (HBW _).out⟩
              case measure => simp [intOf]; omega
    · obtain rfl : k = n := by omega
      have HE : Hid (victimV z qs ps op = (match bestK qs ps op k with | none => -1 | some b => if (liveN ps (b : Int) : Int) = z then -1 else (b : Int))) := by show _ = _; unfold victimV; rw [HL.out]; rfl
      have HPV := hide (HPL.out.later HBB.out (by omega))
      have HBW : ∀ nq, Hid (Below w.heap.size w (wr.drewN nq)) := fun nq => by have hh := below_here HBA.out HBB.out; exact ⟨hh.os, hh.tape, hh.output, hh.size, hh.block⟩
      cases hbk : bestK qs ps op k with
      | none =>
        rw [show bestV none = -1 from rfl]
        have HE2 : Hid (victimV z qs ps op = -1) := by show _ = _; rw [HE.out, hbk]
        clear hbk
        go_wp2_with fail
        go_quiet (fail)
        go_wp2_with fail
        go_ret
        exact ⟨by rw [HE2.out]; rfl, (HBW _).out⟩
      | some j =>
        rw [show bestV (some j) = (j : Int) from rfl]
        have gj : decide ((j : Int) ≥ 0) = true := by simp
        have HE2 : Hid (victimV z qs ps op = if (liveN ps (j : Int) : Int) = z then -1 else (j : Int)) := by show _ = _; rw [HE.out, hbk]
        have HLC : ∀ w9, Hid (Places lo' hi' w9 al m ps → Calls Tryz.prog 179 #[.slice al m capl, .int .i64 (j : Int)] w9 fun e w' => e = .returned (.int .i64 (liveN ps (j : Int) : Int)) ∧ w9 = w') := fun w9 h9 => l9Live_any al m capl ps (j : Int) w9 h9 (by omega)
        clear hbk
        generalize liveN ps (j : Int) = la at *
        by_cases hz : (la : Int) = z
        · have g2 : ((la : Int) == z) = true := by simpa using hz
          go_wp2_with fail
          go_quiet ((go_at_call 179; exact Calls.quiet_of_same (((HLC _).out (by exact HPV.out)).mono fun e w' hh => ⟨hh.1, hh.2.symm⟩)))
          go_wp2_with fail
          go_ret
          exact ⟨by rw [HE2.out, if_pos hz]; rfl, (HBW _).out⟩
        · have g2 : ((la : Int) == z) = false := by simpa using hz
          go_wp2_with fail
          go_quiet ((go_at_call 179; exact Calls.quiet_of_same (((HLC _).out (by exact HPV.out)).mono fun e w' hh => ⟨hh.1, hh.2.symm⟩)))
          go_wp2_with fail
          go_ret
          exact ⟨by rw [HE2.out, if_neg hz]; rfl, (HBW _).out⟩

end Go.Proofs.YtoocbagnfkgbfaaGreatDoor
end

section
namespace Go.Proofs.YtoocbagnfkgbfaaGreatDoor
open Go.RowKit
set_option linter.unusedVariables false
set_option maxRecDepth 20000

def valN (l : List Nat) : List Value := l.map (fun (i : Nat) => Value.int .i64 (i : Int))
theorem valN_length (l : List Nat) : (valN l).length = l.length := by unfold valN; simp
theorem valN_append (l m : List Nat) : valN (l ++ m) = valN l ++ valN m := by unfold valN; simp
theorem valN_at {l : List Nat} {j : Nat} (h : j < l.length) : (valN l)[j]? = some (.int .i64 ((l.getD j 0 : Nat) : Int)) := by
  unfold valN
  rw [List.getElem?_map, List.getElem?_eq_getElem h, List.getD_eq_getElem?_getD, List.getElem?_eq_getElem h]
  rfl
theorem valN_one (l : List Nat) : ∀ u ∈ valN l, u.oneCell' = true := by
  intro u hu
  unfold valN at hu
  rw [List.mem_map] at hu
  obtain ⟨i, _, rfl⟩ := hu
  rfl
theorem insW_split (qs : List Sq) (i : Nat) : ∀ (l : List Nat) (p : Nat), p ≤ l.length → (∀ x ∈ l.take p, (sqAt qs x).2.1 ≤ (sqAt qs i).2.1) → (p < l.length → ¬ (sqAt qs (l.getD p 0)).2.1 ≤ (sqAt qs i).2.1) → insW qs i l = l.take p ++ [i] ++ l.drop p
  | [], p, hp, _, _ => by simp at hp; subst hp; rfl
  | j :: js, 0, _, _, h => by
    have h1 := h (by simp)
    simp at h1
    unfold insW
    rw [if_neg (by omega)]
    rfl
  | j :: js, p + 1, hp, hl, h => by
    have h1 := hl j (by simp)
    unfold insW
    rw [if_pos h1, insW_split qs i js p (by simpa using hp) (fun x hx => hl x (by simp [hx])) (fun hlt => by
      have := h (by simpa using hlt)
      simpa [List.getD_cons_succ] using this)]
    rfl
/-- The first k of a row of one's own. -/
theorem own_prefix {w : World} {B e g n cap k : Nat} {xs : List Value} (h : w.ownsRow B e 1 (.slice (some ⟨g, 0, none⟩) n cap) n xs) (hk : k ≤ n) : w.ownsRow B e 1 (.slice (some ⟨g, 0, none⟩) k cap) k (xs.take k) := by
  obtain ⟨hl, h2⟩ := h
  rcases h2 with ⟨h', _⟩ | ⟨g', cap', cur, h', hb, hg, hnc, hcm, hcs, htake⟩
  · simp at h'
  · simp only [Value.slice.injEq, Option.some.injEq, Addr.mk.injEq, and_true, true_and] at h'
    obtain ⟨rfl, rfl⟩ := h'
    refine ⟨by rw [List.length_take]; omega, .inr ⟨g, cap, cur, rfl, hb, hg, by omega, hcm, hcs, ?_⟩⟩
    rw [← htake, List.take_take, Nat.mul_one, Nat.mul_one, Nat.min_eq_left hk]
theorem own_rest {w : World} {B e g n cap k : Nat} {xs : List Value} (h : w.ownsRow B e 1 (.slice (some ⟨g, 0, none⟩) n cap) n xs) {ad : Addr} (had : ad = ⟨g, 0 + k, none⟩ ∨ n - k = 0) (hk : k ≤ n) : ∀ j u, (xs.drop k)[j]? = some u → w.cell? (ad.add j) = some u := by
  intro j u hj
  have hx : xs.length = n := by have := h.1; omega
  have hjl : j < n - k := by
    rcases Nat.lt_or_ge j (n - k) with h' | h'
    · exact h'
    · rw [List.getElem?_eq_none (by rw [List.length_drop]; omega)] at hj; simp at hj
  rcases had with rfl | h0
  · have hadd : (⟨g, 0 + k, none⟩ : Addr).add j = ⟨g, k + j, none⟩ := by unfold Addr.add; split <;> simp_all
    rw [hadd, h.cellAt (k + j) (by omega), ← hj, List.getElem?_drop]
  · omega
theorem own_all {w : World} {B e g n cap : Nat} {xs : List Value} (h : w.ownsRow B e 1 (.slice (some ⟨g, 0, none⟩) n cap) n xs) : ∀ j u, xs[j]? = some u → w.cell? ((⟨g, 0, none⟩ : Addr).add j) = some u := by
  have := own_rest h (k := 0) (ad := ⟨g, 0 + 0, none⟩) (.inl rfl) (Nat.zero_le _)
  simpa using this
theorem slice_restW {P : Program} (t e : TypeId) (ht : P.underlying t = some (.slice e)) (hs : ∀ w, (sizeOf e).run P w = .ok 1 w) (b off n cap k : Nat) (hk : k ≤ n) (hn : n ≤ cap) :
    ∃ ad : Addr, (ad = ⟨b, off + k, none⟩ ∨ n - k = 0) ∧ ∀ w, (Instr.sliceAt t (.slice (some ⟨b, off, none⟩) n cap) (some (.int .i64 (k : Int))) none none).run P w = .ok (.slice (some ad) (n - k) (cap - k)) w := by
  have he : P.elem t = e := by simp [Program.elem, ht]
  have ht' : P.underlying t = some (.slice (P.elem t)) := by rw [he]; exact ht
  by_cases h : cap = k
  · refine ⟨⟨b, off, none⟩, .inr (by omega), fun w => ?_⟩
    rw [run_sliceAt_slice w t _ _ _ _ ht', run_slice_l (P := P) w t _ n cap ht' .i64 (k : Int) (by omega) (by omega), he, hs]
    simp [sliced, h, Result.andThen]
  · refine ⟨⟨b, off + k, none⟩, .inl rfl, fun w => ?_⟩
    rw [run_sliceAt_slice w t _ _ _ _ ht', run_slice_l (P := P) w t _ n cap ht' .i64 (k : Int) (by omega) (by omega), he, hs]
    simp [sliced, h, Result.andThen, Addr.add]
theorem slice_firstW {P : Program} (t e : TypeId) (ht : P.underlying t = some (.slice e)) (hs : ∀ w, (sizeOf e).run P w = .ok 1 w) (b off n cap k : Nat) (hk : k ≤ n) (hn : n ≤ cap) :
    ∀ w, (Instr.sliceAt t (.slice (some ⟨b, off, none⟩) n cap) none (some (.int .i64 (k : Int))) none).run P w = .ok (.slice (some ⟨b, off, none⟩) k cap) w := by
  intro w
  have he : P.elem t = e := by simp [Program.elem, ht]
  have ht' : P.underlying t = some (.slice (P.elem t)) := by rw [he]; exact ht
  rw [run_sliceAt_slice w t _ _ _ _ ht', run_slice_h (P := P) w t _ n cap ht' .i64 (k : Int) (by omega) (by omega), he, hs]
  simp [sliced, Result.andThen, Addr.add]
theorem some_form {w : World} {B e n : Nat} {v : Value} {xs : List Value} (h : w.ownsRow B e 1 v n xs) (hv : v ≠ .slice none 0 0) : ∃ g c, v = .slice (some ⟨g, 0, none⟩) n c ∧ n ≤ c := by
  rcases h.2 with ⟨e, _⟩ | ⟨g, cap, cur, e, _, _, hn, _⟩
  · exact absurd e hv
  · exact ⟨g, cap, e, hn⟩
theorem Tryz.infoI64e : (Tryz.prog.info? 2).map (fun i => (i.zero, i.size, i.bytes)) = some (some (.int .i64 0), 1, 8) := by kernel_rfl
theorem emptyK_no {qs : List Sq} {k : Nat} (h : isEmpty (sqAt qs k) = false) : emptyK qs (k + 1) = emptyK qs k := by
  show (if isEmpty (sqAt qs k) then _ else _) = _
  rw [h]; rfl
theorem emptyK_yes {qs : List Sq} {k : Nat} (h : isEmpty (sqAt qs k) = true) : emptyK qs (k + 1) = insW qs k (emptyK qs k) := by
  show (if isEmpty (sqAt qs k) then _ else _) = _
  rw [h]; rfl

set_option maxHeartbeats 3200000 in
theorem l9Empty_any (z : Int) (a : Option Addr) (n cap : Nat) (qs : List Sq) (w : World) {lo hi : Nat} (h : Squares lo hi w a n qs) (hhi : hi ≤ w.heap.size) (hn : n ≤ 12) (hf : ∀ x ∈ qs, sqFits x) :
    Calls Tryz.prog 177 #[.agg #[.int .i64 z, .slice a n cap]] w fun e w' => ∃ v, e = .returned v ∧ w'.ownsRow (w.heap.size + 1) 2 1 v (emptyK qs n).length (valN (emptyK qs n)) ∧ Below w.heap.size w w' := by
  obtain ⟨wB, hwB⟩ : ∃ wB, wB = w.alloc (.cells #[.int .i64 z, .slice a n cap] 26) := ⟨_, rfl⟩
  have hzB : wB.heap.size = w.heap.size + 1 := by rw [hwB]; simp
  have HBB0 : Hid (Below w.heap.size w wB) := by rw [hwB]; exact (Below.refl _ _).alloc (Nat.le_refl _) _
  have H1 : Hid (wB.heap[w.heap.size]? = some (.cells #[.int .i64 z, .slice a n cap] 26)) := by rw [hwB]; exact heap_new _ _
  obtain ⟨wA, hwA⟩ : ∃ wA, wA = wB.alloc (.cells #[] 2) := ⟨_, rfl⟩
  have hzA : wA.heap.size = w.heap.size + 1 + 1 := by rw [hwA]; simp [hzB]
  have HBA : Hid (Below w.heap.size w wA) := by rw [hwA]; exact HBB0.out.alloc (by omega) _
  have H1A : Hid (wA.heap[w.heap.size]? = some (.cells #[.int .i64 z, .slice a n cap] 26)) := by rw [hwA]; exact heap_old H1.out
  have HO0 : Hid (wA.ownsRow (w.heap.size + 1) 2 1 (.slice (some ⟨w.heap.size + 1, 0, none⟩) 0 0) 0 (valN [])) := by
    have := own_made0 wB 2
    rw [hzB] at this
    rw [hwA]
    exact this
  have HSQ := hide h
  have HL := hide h.1
  have HF := hide hf
  clear h hf H1 HBB0
  obtain ⟨i0, hi0, hzz0, hzz1, hzz2⟩ := info_parts Tryz.infoI64e
  go_enter Tryz.func177, Tryz.ntmps177
  go_upto_region 2 with fail
  rw [← hwB, ← hwA]
  clear hwA hwB
  go_wp2_with fail
  go_loopw [3, 4] (fun v i wr => ∃ k g c : Nat, k ≤ n ∧ i = .int .i64 (k : Int) ∧ v = .slice (some ⟨g, 0, none⟩) (emptyK qs k).length c ∧ (emptyK qs k).length ≤ c ∧ wr.ownsRow (w.heap.size + 1) 2 1 (.slice (some ⟨g, 0, none⟩) (emptyK qs k).length c) (emptyK qs k).length (valN (emptyK qs k)) ∧ wr.heap[w.heap.size]? = some (.cells #[.int .i64 z, .slice a n cap] 26) ∧ w.heap.size + 2 ≤ wr.heap.size ∧ Below w.heap.size w wr) (fun _ i _ => n - (intOf i).toNat)
  case atStart => exact ⟨0, w.heap.size + 1, 0, Nat.zero_le _, rfl, rfl, Nat.le_refl _, HO0.out, H1A.out, by omega, HBA.out⟩
  case round =>
    obtain ⟨k, g, c, hk, rfl, rfl, hlc, hown, hbox, hsz, hbel⟩ := hrel
    have HOW := hide hown
    have K1 := hide hbox
    have HBB := hide hbel
    obtain ⟨a0, a1⟩ := two_cells hbox
    clear HO0 H1A HBA hown hbox
    by_cases hlt : k < n
    · have hql : k < qs.length := by rw [HL.out]; exact hlt
      obtain ⟨_, A, C, hx, ht⟩ := HSQ.out
      obtain ⟨b, off, rfl, _, hb, hc⟩ := hx.2 (by omega)
      have HC := hide hc
      obtain ⟨c0, c1, c2⟩ := sq_cells hc hbel (show b < w.heap.size by omega) hlt
      have hl9 := (sq_fits HF.out hql).2.1
      unfold maxLen at hl9
      have hll := emptyK_length qs k
      have HMM := hide (fun x => (emptyK_mem qs k x).1)
      have HNO := hide (emptyK_no (qs := qs) (k := k))
      have HYE := hide (emptyK_yes (qs := qs) (k := k))
      have HIS := hide (insW_split qs k (emptyK qs k))
      have HIE : Hid (isEmpty (sqAt qs k) = (((sqAt qs k).1.length == 0) && !(sqAt qs k).2.2)) := rfl
      obtain ⟨y, hy⟩ : ∃ y, y = sqAt qs k := ⟨_, rfl⟩
      rw [← hy] at c0 c1 c2 hl9 HNO HYE HIE HIS
      have HY := hide hy
      clear hc hx ht hy hbel
      obtain ⟨ts, zw, bd⟩ := y
      dsimp only at c0 c1 c2 hl9 HIE HIS
      obtain ⟨out, ho⟩ : ∃ out, out = emptyK qs k := ⟨_, rfl⟩
      rw [← ho] at HOW hll HMM HNO HYE HIS hlc ⊢
      have HOE := hide ho
      clear ho
      obtain ⟨wV, hwV⟩ : ∃ wV, wV = wr.alloc (.cells #[.slice (A k) ts.length (C k), .int .i64 zw, .bool bd] 51) := ⟨_, rfl⟩
      have hzV : wr.heap.size + 1 = wV.heap.size := by rw [hwV]; simp
      have HBV : Hid (Below wr.heap.size wr wV) := by rw [hwV]; exact (Below.refl _ _).alloc (Nat.le_refl _) _
      have HV0 : Hid (wV.heap[wr.heap.size]? = some (.cells #[.slice (A k) ts.length (C k), .int .i64 zw, .bool bd] 51)) := by rw [hwV]; exact heap_new _ _
      have HOV := hide (HOW.out.kept (grown_below HBV.out none) (.inr (by simp [Value.ownBlock])))
      have KV := hide (block_on K1.out HBV.out)
      have HBF := hide (below_here HBB.out HBV.out)
      by_cases h0 : ts.length = 0
      · have hts : ts = [] := List.eq_nil_of_length_eq_zero h0
        subst hts
        simp only [List.length_nil] at c0 hwV HV0 HIE hl9
        clear h0
        cases bd with
        | true =>
          have HE : Hid (emptyK qs (k + 1) = out) := HNO.out (by rw [HIE.out]; simp)
          go_wp2_with fail
          rw [← hwV]
          exact ⟨⟨k + 1, g, c, by omega, by go_num, by rw [HE.out], by rw [HE.out]; exact hlc, by rw [HE.out]; exact HOV.out, KV.out, by omega, HBF.out⟩, by simp [intOf]; omega⟩
        | false =>
          have HE := hide (HYE.out (by rw [HIE.out]; simp))
          go_upto_region 7 with fail
          rw [← hwV]
          clear hwV a0 a1 c0 c1 c2
          go_wp2_with fail
          have hgl : g < wr.heap.size := (HOW.out.lt g rfl).2
          have hgv : g < wV.heap.size := by omega
          have hgB : w.heap.size + 1 ≤ g := (HOW.out.lt g rfl).1
          go_loopw [6] (fun t wx => ∃ p : Nat, p ≤ out.length ∧ t = .int .i64 (p : Int) ∧ (∀ x ∈ out.take p, (sqAt qs x).2.1 ≤ zw) ∧ Below wV.heap.size wV wx) (fun t _ => out.length - (intOf t).toNat)
          case atStart => exact ⟨0, Nat.zero_le _, rfl, by simp, Below.refl _ _⟩
          case round =>
            obtain ⟨p, hp, rfl, hal, hbx⟩ := hrel
            have HAL := hide hal
            have HBX := hide hbx
            have hsx := hbx.size
            have HOX := hide (HOV.out.kept (grown_below hbx none) (.inr (by simp [Value.ownBlock])))
            have KX := hide (block_on KV.out hbx)
            have HVX := hide (block_on HV0.out hbx)
            have HBWX := hide (below_here HBF.out hbx)
            obtain ⟨a0, a1⟩ := two_cells KX.out
            obtain ⟨s0, s1, s2⟩ := three_cells HVX.out
            clear hal hbx s0 s2
            have hpc : p ≤ c := by omega
            obtain ⟨cont, hcont⟩ : ∃ cont, cont = decide (p < out.length ∧ (sqAt qs (out.getD p 0)).2.1 ≤ zw) := ⟨_, rfl⟩
            have HCO := hide hcont
            clear hcont
            go_upto_region 8 with fail
            go_cut [46] (fun cc wy => cc = .bool cont ∧ Below wr.heap.size wr wy)
            case first =>
              by_cases hpl : p < out.length
              · have hg1 : decide ((p : Int) < (out.length : Int)) = true := by simp; omega
                have hxm : out.getD p 0 ∈ out := by rw [List.getD_eq_getElem?_getD, List.getElem?_eq_getElem hpl]; exact List.getElem_mem hpl
                have hxk := (HMM.out _ hxm).1
                have o1 : wr.cell? ⟨g, p, none⟩ = some (.int .i64 ((out.getD p 0 : Nat) : Int)) := by rw [HOX.out.cellAt p (by omega), valN_at hpl]
                obtain ⟨q0, q1, q2⟩ := sq_cells HC.out HBWX.out (show b < w.heap.size by omega) (show out.getD p 0 < n by omega)
                have hxn : ((out.getD p 0 : Nat) : Int) < (n : Int) := by omega
                clear q0 q2
                generalize out.getD p 0 = x at *
                by_cases hle : (sqAt qs x).2.1 ≤ zw
                · have hg2 : decide ((sqAt qs x).2.1 ≤ zw) = true := by simpa using hle
                  have hct : cont = true := by rw [HCO.out]; simp [hpl, hle]
                  subst hct
                  generalize (sqAt qs x).2.1 = zx at *
                  go_quiet (fail)
                  go_wp2_with fail
                  go_meet
                  exact ⟨rfl, ⟨rfl, rfl, rfl, Nat.le_refl _, fun _ _ => rfl⟩⟩
                · have hg2 : decide ((sqAt qs x).2.1 ≤ zw) = false := by simpa using hle
                  have hct : cont = false := by rw [HCO.out]; simp; intro _; omega
                  subst hct
                  generalize (sqAt qs x).2.1 = zx at *
                  go_quiet (fail)
                  go_wp2_with fail
                  go_meet
                  exact ⟨rfl, ⟨rfl, rfl, rfl, Nat.le_refl _, fun _ _ => rfl⟩⟩
              · have hg1 : decide ((p : Int) < (out.length : Int)) = false := by simp; omega
                have hct : cont = false := by rw [HCO.out]; simp; intro hh; exact absurd hh hpl
                subst hct
                go_quiet (fail)
                go_wp2_with fail
                go_meet
                exact ⟨rfl, ⟨rfl, rfl, rfl, Nat.le_refl _, fun _ _ => rfl⟩⟩
            case rest =>
              obtain ⟨rfl, hby⟩ := hcut
              obtain ⟨wE, hwE⟩ : ∃ wE, wE = wc := ⟨_, rfl⟩
              subst hwE
              have HBE := hide (below_here HBX.out hby)
              have HOE2 := hide (HOX.out.kept (grown_below hby none) (.inr (by simp [Value.ownBlock])))
              have KE := hide (block_on KX.out hby)
              have HBWE := hide (below_here HBWX.out hby)
              have hsE := hby.size
              clear hby a0 a1 s1 HOX KX HVX HBX HBWX
              cases cont with
              | true =>
                have h9 := HCO.out
                simp only [Bool.true_eq, decide_eq_true_eq] at h9
                obtain ⟨hpl, hle⟩ := h9
                have HAL2 : Hid (∀ x ∈ out.take (p + 1), (sqAt qs x).2.1 ≤ zw) := by
                  intro x hx
                  rw [List.take_succ_eq_append_getElem hpl, List.mem_append, List.mem_singleton] at hx
                  rcases hx with hx | hx
                  · exact HAL.out x hx
                  · rw [hx]
                    rw [List.getD_eq_getElem?_getD, List.getElem?_eq_getElem hpl] at hle
                    exact hle
                clear hle
                go_wp2_with fail
                exact ⟨⟨p + 1, by omega, by go_num, HAL2.out, HBE.out⟩, by simp [intOf]; omega⟩
              | false =>
                have HNC : Hid (p < out.length → zw < (sqAt qs (out.getD p 0)).2.1) := by
                  intro hpl
                  refine Int.not_le.1 fun hle => ?_
                  have h9 := HCO.out
                  simp only [Bool.false_eq, decide_eq_false_iff_not] at h9
                  exact h9 ⟨hpl, hle⟩
                have HIN := hide (HE.out.trans (HIS.out p hp HAL.out HNC.out))
                have hLN : (emptyK qs (k + 1)).length = out.length + 1 := by rw [HE.out, insW_length]
                have HLN := hide hLN
                clear hLN
                obtain ⟨ad, had, hsl⟩ := slice_restW (P := Tryz.prog) 62 2 Tryz.underlying62 (fun _ => by kernel_rfl) g 0 out.length c p hp hlc
                have hsf := slice_firstW (P := Tryz.prog) 62 2 Tryz.underlying62 (fun _ => by kernel_rfl) g 0 out.length c p hp hlc
                have hgE : g < wE.heap.size := by omega
                have HM0 : Hid ((wE.alloc (.cells #[] 2)).ownsRow (w.heap.size + 1) 2 1 (.slice (some ⟨wE.heap.size, 0, none⟩) 0 0) 0 []) := (own_made0 wE 2).mono (by omega)
                have HBM := hide ((Below.refl wE.heap.size wE).alloc (Nat.le_refl _) (.cells #[] 2))
                have hzM : wE.heap.size + 1 = (wE.alloc (.cells #[] 2)).heap.size := by simp
                have HOM := hide (HOE2.out.alloc (.cells #[] 2))
                have HNW : Hid (∀ j u, (valN (out.drop p))[j]? = some u → (wE.alloc (.cells #[] 2)).cell? (ad.add j) = some u) := by
                  have h9 := own_rest HOM.out had hp
                  have e9 : (valN out).drop p = valN (out.drop p) := by unfold valN; rw [List.map_drop]
                  rw [e9] at h9
                  exact h9
                have KM := hide (block_on KE.out HBM.out)
                have hldp : (valN (out.drop p)).length = (out.length - p) * 1 := by rw [valN_length, List.length_drop]; omega
                have hbM : w.heap.size + 1 ≤ (wE.alloc (.cells #[] 2)).heap.size := by have := HBM.out.size; omega
                clear hzM
                go_upto_region 11 with (at_builtin; (refine wpList_append_own_at _ rfl (.tmp 49) (.tmp 52) 62 rfl (w.heap.size + 1) 2 i0 (.int .i64 0) 1 8 Tryz.underlying62 hi0 hzz0 hzz1 hzz2 rfl (by decide) _ 0 [] rfl HM0.out ad (out.length - p) (c - p) (valN (out.drop p)) rfl hldp HNW.out (valN_one _) (by unfold maxLen; omega) (by omega) hbM ?_); intro v1 w4 hown4 hgr4 hnil4 hat4; obtain ⟨g1, c1, rfl, hc1⟩ := some_form hown4 (fun e => by have h9 := (hnil4.1 e).1; cases h9); have HO4 := hide hown4; have HG4 := hide hgr4; have HA4 := hide hat4; clear hown4 hgr4 hnil4 hat4)
                have hs4 : wE.heap.size + 1 ≤ w4.heap.size := by have := HG4.out.size; simpa using this
                have hg1 : wE.heap.size ≤ g1 := by
                  rcases HA4.out with h9 | h9
                  · have e9 : some g1 = some wE.heap.size := h9
                    simp only [Option.some.injEq] at e9; omega
                  · have e9 : some g1 = some (wE.alloc (.cells #[] 2)).heap.size := h9
                    simp at e9; omega
                have HOW4 := hide (HOM.out.kept HG4.out (.inr (by intro e; have e9 : some g = some wE.heap.size := e; simp only [Option.some.injEq] at e9; omega)))
                have K4 : Hid (w4.heap[w.heap.size]? = some (.cells #[.int .i64 z, .slice (some ⟨b, off, none⟩) n cap] 26)) := (HG4.out.block _ (by simp; omega) (by intro e; have e9 : some w.heap.size = some wE.heap.size := e; simp only [Option.some.injEq] at e9; omega)).trans KM.out
                have HB4 := hide ((below_here HBWE.out HBM.out).grown HG4.out (by simp; omega) (by intro q hq; have e9 : some wE.heap.size = some q := hq; simp only [Option.some.injEq] at e9; omega))
                have HOP := hide ((own_prefix HOW4.out hp).alloc (.cells #[.int .i64 (k : Int)] 2))
                have HRO := hide (HO4.out.alloc (.cells #[.int .i64 (k : Int)] 2))
                have e9 : (valN out).take p = valN (out.take p) := by unfold valN; rw [List.map_take]
                rw [e9] at HOP
                have hb5 : w.heap.size + 1 ≤ (w4.alloc (.cells #[.int .i64 (k : Int)] 2)).heap.size := by have := ((Below.refl w4.heap.size w4).alloc (Nat.le_refl _) (.cells #[.int .i64 (k : Int)] 2)).size; omega
                clear e9 HNW HM0 HOM KM HBM hsl had hldp
                go_wp2_with (at_builtin; (first
                  | ((refine wpList_append_own_at _ rfl (.tmp 56) (.tmp 58) 62 rfl (w.heap.size + 1) 2 i0 (.int .i64 0) 1 8 Tryz.underlying62 hi0 hzz0 hzz1 hzz2 rfl (by decide) _ p (valN (out.take p)) rfl HOP.out ⟨w4.heap.size, 0, none⟩ 1 1 [.int .i64 (k : Int)] rfl rfl (cell_one_new _ _ _) (by simp [Value.oneCell']) (by unfold maxLen; omega) (by omega) hb5 ?_); intro v2 w6 hown6 hgr6 hnil6 hat6; obtain ⟨g2, c2, rfl, hc2⟩ := some_form hown6 (fun e => by have h9 := (hnil6.1 e).1; cases h9); have HO6 := hide hown6; have HG6 := hide hgr6; have HR6 := hide (HRO.out.kept hgr6 (.inr (by intro e; have e9 : some g1 = some g := e; simp only [Option.some.injEq] at e9; omega))); have HR7 : Hid (∀ j u, (valN (out.drop p))[j]? = some u → w6.cell? ((⟨g1, 0, none⟩ : Addr).add j) = some u) := own_all HR6.out; clear hown6 hgr6 hnil6 hat6)
                  | ((refine wpList_append_own_at _ rfl (.tmp 59) (.tmp 60) 62 rfl (w.heap.size + 1) 2 i0 (.int .i64 0) 1 8 Tryz.underlying62 hi0 hzz0 hzz1 hzz2 rfl (by decide) _ (p + 1) _ rfl HO6.out ⟨g1, 0, none⟩ (out.length - p) c1 (valN (out.drop p)) rfl (by rw [valN_length, List.length_drop]; omega) (HR7.out) (valN_one _) (by unfold maxLen; omega) (by omega) (Nat.le_trans hb5 HG6.out.size) ?_); intro v3 w7 hown7 hgr7 hnil7 hat7; have HO7 := hide hown7; have HG7 := hide hgr7; have HP7 := hide (some_form hown7 (fun e => by have h9 := (hnil7.1 e).1; cases h9)); clear hown7 hgr7 hnil7 hat7)))
                obtain ⟨g3, c3, hv3, hc3⟩ := HP7.out
                subst hv3
                have HEV : Hid ((valN (out.take p) ++ [Value.int .i64 (k : Int)]) ++ valN (out.drop p) = valN (emptyK qs (k + 1))) := by
                  show _ = _
                  rw [HIN.out, valN_append, valN_append]; rfl
                have hlnn : (emptyK qs (k + 1)).length = p + 1 + (out.length - p) := by rw [HLN.out]; omega
                have hg2B : w.heap.size + 1 ≤ g2 := (HO6.out.lt g2 rfl).1
                have hs6 : w4.heap.size + 1 ≤ w6.heap.size := by have := HG6.out.size; simpa using this
                have hs7 := HG7.out.size
                have K5 := hide (heap_old (o := .cells #[.int .i64 (k : Int)] 2) K4.out)
                have K6 : Hid (w6.heap[w.heap.size]? = some (.cells #[.int .i64 z, .slice (some ⟨b, off, none⟩) n cap] 26)) := (HG6.out.block _ (by simp; omega) (by intro e; have e9 : some w.heap.size = some g := e; simp only [Option.some.injEq] at e9; omega)).trans K5.out
                have K7 : Hid (w7.heap[w.heap.size]? = some (.cells #[.int .i64 z, .slice (some ⟨b, off, none⟩) n cap] 26)) := (HG7.out.block _ (by omega) (by intro e; have e9 : some w.heap.size = some g2 := e; simp only [Option.some.injEq] at e9; omega)).trans K6.out
                have B5 := hide (HB4.out.alloc (by omega) (.cells #[.int .i64 (k : Int)] 2))
                have B6 := hide (B5.out.grown HG6.out (by simp; omega) (by intro q hq; have e9 : some g = some q := hq; simp only [Option.some.injEq] at e9; omega))
                have B7 := hide (B6.out.grown HG7.out (by omega) (by intro q hq; have e9 : some g2 = some q := hq; simp only [Option.some.injEq] at e9; omega))
                have HO8 : Hid (w7.ownsRow (w.heap.size + 1) 2 1 (.slice (some ⟨g3, 0, none⟩) (emptyK qs (k + 1)).length c3) (emptyK qs (k + 1)).length (valN (emptyK qs (k + 1)))) := by
                  show World.ownsRow _ _ _ _ _ _ _
                  rw [← HEV.out, hlnn]
                  exact HO7.out
                exact ⟨⟨k + 1, g3, c3, by omega, by go_num, by rw [hlnn], by rw [hlnn]; exact hc3, HO8.out, K7.out, by omega, B7.out⟩, by simp [intOf]; omega⟩
      · have g0 : decide ((ts.length : Int) > 0) = true := by simp; omega
        have HE : Hid (emptyK qs (k + 1) = out) := HNO.out (by rw [HIE.out]; simp [h0])
        go_wp2_with fail
        rw [← hwV]
        exact ⟨⟨k + 1, g, c, by omega, by go_num, by rw [HE.out], by rw [HE.out]; exact hlc, by rw [HE.out]; exact HOV.out, KV.out, by omega, HBF.out⟩, by simp [intOf]; omega⟩
    · obtain rfl : k = n := by omega
      go_wp2_with fail
      go_ret
      exact ⟨_, rfl, HOW.out, HBB.out⟩
end Go.Proofs.YtoocbagnfkgbfaaGreatDoor
end

section
namespace Go.Proofs.YtoocbagnfkgbfaaGreatDoor
open Go.RowKit
set_option linter.unusedVariables false
set_option maxRecDepth 20000

set_option maxHeartbeats 800000 in
theorem placesIn_any (a : Option Addr) (n cap : Nat) (ps : List Pl) (s : Int) (w : World) {lo hi : Nat} (h : Places lo hi w a n ps) (hn : n ≤ 1048576) :
    Calls Tryz.prog 211 #[.slice a n cap, .int .i64 s] w fun e w' => e = .returned (.int .i64 (liveN ps s : Int)) ∧ Below w.heap.size w w' := by
  obtain ⟨hl, hx⟩ := h
  have HL := hide hl
  have HX := hide hx
  have hsz := hx.1
  clear hl hx
  go_enter Tryz.func211, Tryz.ntmps211
  go_wp2_with fail
  go_loopw [5, 10] (fun t i wr => ∃ k : Nat, k ≤ n ∧ i = .int .i64 (k : Int) ∧ t = .int .i64 (liveN (ps.take k) s : Int) ∧ Below w.heap.size w wr) (fun _ i _ => n - (intOf i).toNat)
  case atStart => exact ⟨0, Nat.zero_le _, rfl, by simp [liveN], Below.refl _ _⟩
  case round =>
    obtain ⟨k, hk, rfl, rfl, hbel⟩ := hrel
    have HBB := hide hbel
    by_cases hlt : k < n
    · obtain ⟨b, off, rfl, _, hb, hc⟩ := HX.out.2 (by omega)
      obtain ⟨c0, c1⟩ := pl_cells hc hbel (show b < w.heap.size by omega) hlt
      have HS := hide (liveN_step (show k < ps.length by rw [HL.out]; exact hlt) s)
      have hle := liveN_le (ps.take k) s
      have hle2 : liveN (ps.take k) s ≤ 1048576 := by rw [List.length_take] at hle; omega
      have HBA : Hid (∀ o, Below w.heap.size w (wr.alloc o)) := fun o => hbel.alloc hbel.size o
      clear hc hle hbel
      generalize liveN (ps.take k) s = q at *
      by_cases he : (plAt ps k).1 = s
      · have g : ((plAt ps k).1 == s) = true := by simpa using he
        have HE : Hid (liveN (ps.take (k + 1)) s = q + 1) := by show _ = _; rw [HS.out, g]; rfl
        generalize plAt ps k = v at *
        obtain ⟨v0, v1⟩ := v
        dsimp only at c0 c1 he
        subst he
        go_wp2_with fail
        exact ⟨⟨k + 1, by omega, by go_num, by rw [HE.out]; go_num, HBA.out _⟩, by simp [intOf]; omega⟩
      · have g : ((plAt ps k).1 == s) = false := by simpa using he
        have HE : Hid (liveN (ps.take (k + 1)) s = q) := by show _ = _; rw [HS.out, g]; rfl
        generalize plAt ps k = v at *
        obtain ⟨v0, v1⟩ := v
        dsimp only at c0 c1 he
        go_wp2_with fail
        exact ⟨⟨k + 1, by omega, by go_num, by rw [HE.out], HBA.out _⟩, by simp [intOf]; omega⟩
    · have HE : Hid (liveN (ps.take k) s = liveN ps s) := by show _ = _; rw [List.take_of_length_le (by rw [HL.out]; omega)]
      generalize liveN (ps.take k) s = q at *
      go_wp2_with fail
      go_ret
      exact ⟨by rw [← HE.out]; rfl, HBB.out⟩

set_option maxHeartbeats 400000 in
theorem isNone_any (p q : Int) (w : World) :
    Calls Tryz.prog 75 #[.agg #[.int .i64 p, .int .i64 q]] w fun e w' => e = .returned (.bool ((p == -1) && (q == 0))) ∧ Below w.heap.size w w' := by
  obtain ⟨wA, hwA⟩ : ∃ wA, wA = w.alloc (.cells #[.int .i64 p, .int .i64 q] 48) := ⟨_, rfl⟩
  have HBA : Hid (Below w.heap.size w wA) := by rw [hwA]; exact (Below.refl _ _).alloc (Nat.le_refl _) _
  have q1 := Tryz.eqPl p q (-1) 0
  have q2 := Tryz.guardPl
  go_enter Tryz.func75, Tryz.ntmps75
  go_wp2_with fail
  rw [← hwA]
  go_ret
  exact ⟨rfl, HBA.out⟩

/-- Is it none of the first n? -/
def noneOf (ps : List Pl) (n : Nat) (v : Pl) : Bool := (List.range n).all (fun j => plAt ps j != v)

set_option maxHeartbeats 1600000 in
theorem indexPl_any (a : Option Addr) (n cap : Nat) (ps : List Pl) (p q : Int) (w : World) {lo hi : Nat} (h : Places lo hi w a n ps) (hn : n ≤ 1048576) :
    Calls Tryz.prog 183 #[.slice a n cap, .agg #[.int .i64 p, .int .i64 q]] w fun e w' => ∃ r : Int, e = .returned (.int .i64 r) ∧ decide (r ≥ 0) = !(noneOf ps n (p, q)) ∧ Below w.heap.size w w' := by
  obtain ⟨wA, hwA⟩ : ∃ wA, wA = w.alloc (.cells #[.int .i64 p, .int .i64 q] 48) := ⟨_, rfl⟩
  have hzA : wA.heap.size = w.heap.size + 1 := by rw [hwA]; simp
  have HBA : Hid (Below w.heap.size w wA) := by rw [hwA]; exact (Below.refl _ _).alloc (Nat.le_refl _) _
  have H1 : Hid (wA.heap[w.heap.size]? = some (.cells #[.int .i64 p, .int .i64 q] 48)) := by rw [hwA]; exact heap_new _ _
  obtain ⟨hl, hx⟩ := h
  have HL := hide hl
  have HX := hide hx
  have hsz := hx.1
  have q2 := Tryz.guardPl
  clear hl hx
  go_enter Tryz.func183, Tryz.ntmps183
  go_wp2_with fail
  rw [← hwA]
  clear hwA
  go_loopw [5, 8] (fun _ i wr => ∃ k : Nat, k ≤ n ∧ i = .int .i64 (k : Int) ∧ noneOf ps k (p, q) = true ∧ Below wA.heap.size wA wr) (fun _ i _ => n - (intOf i).toNat)
  case atStart => exact ⟨0, Nat.zero_le _, rfl, rfl, Below.refl _ _⟩
  case round =>
    obtain ⟨k, hk, rfl, hal, hbel⟩ := hrel
    have HAL := hide hal
    have HBB := hide hbel
    obtain ⟨d0, d1⟩ := two_cells (block_on H1.out hbel)
    clear hal
    by_cases hlt : k < n
    · obtain ⟨b, off, rfl, _, hb, hc⟩ := HX.out.2 (by omega)
      obtain ⟨c0, c1⟩ := pl_cells hc (HBA.out.trans (hbel.mono (by omega))) (show b < w.heap.size by omega) hlt
      have HF : Hid ((plAt ps k == (p, q)) = true → noneOf ps n (p, q) = false) := fun hh => all_range_fall hlt (by simp only [bne, hh]; rfl)
      have HS : Hid ((plAt ps k == (p, q)) = false → noneOf ps (k + 1) (p, q) = true) := fun hh => all_range_step HAL.out (by simp only [bne, hh]; rfl)
      rw [pl_eq] at HF HS
      have hlt2 : (k : Int) < (n : Int) := by omega
      clear hc hbel
      generalize plAt ps k = y at *
      obtain ⟨r, t⟩ := y
      dsimp only at c0 c1 HF HS
      have q1 := Tryz.eqPl p q r t
      cases heq : ((p == r) && (q == t)) with
      | true =>
        have HNO := hide (HF.out (by simp only [Bool.and_eq_true, beq_iff_eq] at heq ⊢; exact ⟨heq.1.symm, heq.2.symm⟩))
        rw [heq] at q1
        go_wp2_with fail
        go_quiet (fail)
        go_wp2_with fail
        go_ret
        exact ⟨_, rfl, by rw [HNO.out]; simp, by have hh := below_here HBA.out HBB.out; exact ⟨hh.os, hh.tape, hh.output, hh.size, hh.block⟩⟩
      | false =>
        have HOK := hide (HS.out (by
          cases hh : ((r == p) && (t == q)) with
          | false => rfl
          | true =>
            simp only [Bool.and_eq_true, beq_iff_eq] at hh
            rw [hh.1, hh.2] at heq
            simp at heq))
        rw [heq] at q1
        go_wp2_with fail
        go_quiet (fail)
        go_wp2_with fail
        go_roundw
        case rel => exact ⟨k + 1, by omega, by go_num, HOK.out, ⟨HBB.out.os, HBB.out.tape, HBB.out.output, HBB.out.size, HBB.out.block⟩⟩
        case measure => simp [intOf]; omega
    · obtain rfl : k = n := by omega
      go_wp2_with fail
      go_ret
      exact ⟨_, rfl, by rw [HAL.out]; rfl, below_here HBA.out HBB.out⟩

set_option maxHeartbeats 800000 in
theorem containsPl_any (a : Option Addr) (n cap : Nat) (ps : List Pl) (p q : Int) (w : World) {lo hi : Nat} (h : Places lo hi w a n ps) (hhi : hi ≤ w.heap.size) (hn : n ≤ 1048576) :
    Calls Tryz.prog 136 #[.slice a n cap, .agg #[.int .i64 p, .int .i64 q]] w fun e w' => e = .returned (.bool (!(noneOf ps n (p, q)))) ∧ Below w.heap.size w w' := by
  obtain ⟨wA, hwA⟩ : ∃ wA, wA = w.alloc (.cells #[.int .i64 p, .int .i64 q] 48) := ⟨_, rfl⟩
  have hzA : wA.heap.size = w.heap.size + 1 := by rw [hwA]; simp
  have HBA : Hid (Below w.heap.size w wA) := by rw [hwA]; exact (Below.refl _ _).alloc (Nat.le_refl _) _
  have HP := hide (h.later HBA.out hhi)
  clear h
  go_enter Tryz.func136, Tryz.ntmps136
  go_wp2_with fail
  rw [← hwA]
  clear hwA
  refine (indexPl_any a n cap ps p q wA HP.out hn).mono ?_
  rintro e w1 ⟨r, rfl, hr, b1⟩
  have HR := hide hr
  have HB1 := hide (below_here HBA.out b1)
  clear hr b1
  go_wp2_with fail
  go_ret
  exact ⟨ret_bool HR.out, HB1.out⟩
end Go.Proofs.YtoocbagnfkgbfaaGreatDoor
end

section
namespace Go.Proofs.YtoocbagnfkgbfaaGreatDoor
open Go.RowKit
set_option linter.unusedVariables false
set_option maxRecDepth 20000

set_option maxHeartbeats 1600000 in
theorem indexPl_at (a : Option Addr) (n cap : Nat) (ps : List Pl) (p q : Int) (w : World) {lo hi : Nat} (h : Places lo hi w a n ps) (hn : n ≤ 1048576) :
    Calls Tryz.prog 183 #[.slice a n cap, .agg #[.int .i64 p, .int .i64 q]] w fun e w' => ∃ r : Int, e = .returned (.int .i64 r) ∧ ((r = -1 ∧ noneOf ps n (p, q) = true) ∨ ∃ i : Nat, r = (i : Int) ∧ i < n ∧ plAt ps i = (p, q)) ∧ Below w.heap.size w w' := by
  obtain ⟨wA, hwA⟩ : ∃ wA, wA = w.alloc (.cells #[.int .i64 p, .int .i64 q] 48) := ⟨_, rfl⟩
  have hzA : wA.heap.size = w.heap.size + 1 := by rw [hwA]; simp
  have HBA : Hid (Below w.heap.size w wA) := by rw [hwA]; exact (Below.refl _ _).alloc (Nat.le_refl _) _
  have H1 : Hid (wA.heap[w.heap.size]? = some (.cells #[.int .i64 p, .int .i64 q] 48)) := by rw [hwA]; exact heap_new _ _
  obtain ⟨hl, hx⟩ := h
  have HL := hide hl
  have HX := hide hx
  have hsz := hx.1
  have q2 := Tryz.guardPl
  clear hl hx
  go_enter Tryz.func183, Tryz.ntmps183
  go_wp2_with fail
  rw [← hwA]
  clear hwA
  go_loopw [5, 8] (fun _ i wr => ∃ k : Nat, k ≤ n ∧ i = .int .i64 (k : Int) ∧ noneOf ps k (p, q) = true ∧ Below wA.heap.size wA wr) (fun _ i _ => n - (intOf i).toNat)
  case atStart => exact ⟨0, Nat.zero_le _, rfl, rfl, Below.refl _ _⟩
  case round =>
    obtain ⟨k, hk, rfl, hal, hbel⟩ := hrel
    have HAL := hide hal
    have HBB := hide hbel
    obtain ⟨d0, d1⟩ := two_cells (block_on H1.out hbel)
    clear hal
    by_cases hlt : k < n
    · obtain ⟨b, off, rfl, _, hb, hc⟩ := HX.out.2 (by omega)
      obtain ⟨c0, c1⟩ := pl_cells hc (HBA.out.trans (hbel.mono (by omega))) (show b < w.heap.size by omega) hlt
      have HF : Hid ((plAt ps k == (p, q)) = true → noneOf ps n (p, q) = false) := fun hh => all_range_fall hlt (by simp only [bne, hh]; rfl)
      have HS : Hid ((plAt ps k == (p, q)) = false → noneOf ps (k + 1) (p, q) = true) := fun hh => all_range_step HAL.out (by simp only [bne, hh]; rfl)
      rw [pl_eq] at HF HS
      have hlt2 : (k : Int) < (n : Int) := by omega
      clear hc hbel
      have HPK : Hid (∀ x, plAt ps k = x → plAt ps k = x) := fun _ h => h
      obtain ⟨y, hy⟩ : ∃ y, y = plAt ps k := ⟨_, rfl⟩
      have HY := hide hy
      rw [← hy] at c0 c1 HF HS
      clear hy
      obtain ⟨r, t⟩ := y
      dsimp only at c0 c1 HF HS
      have q1 := Tryz.eqPl p q r t
      cases heq : ((p == r) && (q == t)) with
      | true =>
        have HPE : Hid (plAt ps k = (p, q)) := by
          show _ = _
          rw [← HY.out]
          simp only [Bool.and_eq_true, beq_iff_eq] at heq
          rw [heq.1, heq.2]
        have HNO := hide (HF.out (by simp only [Bool.and_eq_true, beq_iff_eq] at heq ⊢; exact ⟨heq.1.symm, heq.2.symm⟩))
        rw [heq] at q1
        go_wp2_with fail
        go_quiet (fail)
        go_wp2_with fail
        go_ret
        exact ⟨_, rfl, .inr ⟨k, rfl, hlt, HPE.out⟩, by have hh := below_here HBA.out HBB.out; exact ⟨hh.os, hh.tape, hh.output, hh.size, hh.block⟩⟩
      | false =>
        have HOK := hide (HS.out (by
          cases hh : ((r == p) && (t == q)) with
          | false => rfl
          | true =>
            simp only [Bool.and_eq_true, beq_iff_eq] at hh
            rw [hh.1, hh.2] at heq
            simp at heq))
        rw [heq] at q1
        go_wp2_with fail
        go_quiet (fail)
        go_wp2_with fail
        go_roundw
        case rel => exact ⟨k + 1, by omega, by go_num, HOK.out, ⟨HBB.out.os, HBB.out.tape, HBB.out.output, HBB.out.size, HBB.out.block⟩⟩
        case measure => simp [intOf]; omega
    · obtain rfl : k = n := by omega
      go_wp2_with fail
      go_ret
      exact ⟨_, rfl, .inl ⟨rfl, HAL.out⟩, below_here HBA.out HBB.out⟩

end Go.Proofs.YtoocbagnfkgbfaaGreatDoor
end

section
namespace Go.Proofs.YtoocbagnfkgbfaaGreatDoor
open Go.RowKit
set_option linter.unusedVariables false
set_option maxRecDepth 20000

def cellR (f : Nat → Rk) (j : Nat) : Value := if j % 3 = 0 then .int .i64 (f (j / 3)).1 else if j % 3 = 1 then .int .i64 (f (j / 3)).2.1 else .int .i64 (f (j / 3)).2.2
theorem cellR0 (f : Nat → Rk) (i : Nat) : cellR f (i * 3) = .int .i64 (f i).1 := by
  unfold cellR; rw [if_pos (by omega), show i * 3 / 3 = i by omega]
theorem cellR1 (f : Nat → Rk) (i : Nat) : cellR f (i * 3 + 1) = .int .i64 (f i).2.1 := by
  unfold cellR; rw [if_neg (by omega), if_pos (by omega), show (i * 3 + 1) / 3 = i by omega]
theorem cellR2 (f : Nat → Rk) (i : Nat) : cellR f (i * 3 + 2) = .int .i64 (f i).2.2 := by
  unfold cellR; rw [if_neg (by omega), if_neg (by omega), show (i * 3 + 2) / 3 = i by omega]
def rkL (n : Nat) (f : Nat → Rk) : List Value := (List.range (n * 3)).map (cellR f)
theorem rkL_length (n : Nat) (f : Nat → Rk) : (rkL n f).length = n * 3 := by simp [rkL]
theorem rkL_at (n : Nat) (f : Nat → Rk) {j : Nat} (h : j < n * 3) : (rkL n f)[j]? = some (cellR f j) := by
  unfold rkL; rw [List.getElem?_map, List.getElem?_range h]; rfl
theorem rkL_ext {n : Nat} {f : Nat → Rk} {l : List Value} (hl : l.length = n * 3) (h : ∀ j, j < n * 3 → l[j]? = some (cellR f j)) : l = rkL n f := by
  refine List.ext_getElem? fun j => ?_
  by_cases hj : j < n * 3
  · rw [h j hj, rkL_at n f hj]
  · rw [List.getElem?_eq_none (by omega), List.getElem?_eq_none (by rw [rkL_length]; omega)]
theorem rkL_snoc (n : Nat) (f : Nat → Rk) (x : Rk) : rkL n f ++ [.int .i64 x.1, .int .i64 x.2.1, .int .i64 x.2.2] = rkL (n + 1) (upd f n x) := by
  refine rkL_ext (by simp [rkL_length]; omega) fun j hj => ?_
  by_cases h : j < n * 3
  · rw [List.getElem?_append_left (by rw [rkL_length]; exact h), rkL_at n f h]
    unfold cellR
    rw [upd_other _ _ (show j / 3 ≠ n by omega)]
  · rw [List.getElem?_append_right (by rw [rkL_length]; omega), rkL_length]
    have e : j = n * 3 ∨ j = n * 3 + 1 ∨ j = n * 3 + 2 := by omega
    rcases e with rfl | rfl | rfl
    · rw [cellR0, upd_same]; simp
    · rw [cellR1, upd_same]; simp
    · rw [cellR2, upd_same]; simp
theorem rkL_take (n : Nat) (f : Nat → Rk) : (rkL (n + 1) f).take (n * 3) = rkL n f := by
  refine rkL_ext (by rw [List.length_take, rkL_length]; omega) fun j hj => ?_
  rw [List.getElem?_take, if_pos hj, rkL_at (n + 1) f (by omega)]
theorem rkL_set3 (n : Nat) (f : Nat → Rk) {i : Nat} (hi : i < n) (x : Rk) : (((rkL n f).set (i * 3) (.int .i64 x.1)).set (i * 3 + 1) (.int .i64 x.2.1)).set (i * 3 + 2) (.int .i64 x.2.2) = rkL n (upd f i x) := by
  refine rkL_ext (by simp [rkL_length]) fun j hj => ?_
  by_cases e2 : j = i * 3 + 2
  · subst e2
    rw [List.getElem?_set_self (by simp [rkL_length]; omega), cellR2, upd_same]
  · rw [List.getElem?_set_ne (by omega)]
    by_cases e1 : j = i * 3 + 1
    · subst e1
      rw [List.getElem?_set_self (by simp [rkL_length]; omega), cellR1, upd_same]
    · rw [List.getElem?_set_ne (by omega)]
      by_cases e0 : j = i * 3
      · subst e0
        rw [List.getElem?_set_self (by simp [rkL_length]; omega), cellR0, upd_same]
      · rw [List.getElem?_set_ne (by omega), rkL_at n f hj]
        unfold cellR
        rw [upd_other _ _ (show j / 3 ≠ i by omega)]
theorem upd_swp (f : Nat → Rk) (i j : Nat) : upd (upd f i (f j)) j (f i) = swp f i j := by
  funext k
  unfold upd swp
  by_cases h1 : k = j
  · subst h1
    by_cases h2 : k = i
    · subst h2; simp
    · simp [h2]
  · simp [h1]
/-- A row of n ranks of one's own, in block g. -/
abbrev RkRow (B : Nat) (w : World) (g n cap : Nat) (f : Nat → Rk) : Prop := w.ownsRow B 282 3 (.slice (some ⟨g, 0, none⟩) n cap) n (rkL n f)
theorem rk_cells {B : Nat} {w : World} {g n cap : Nat} {f : Nat → Rk} (h : RkRow B w g n cap f) {i : Nat} (hi : i < n) :
    w.cell? ⟨g, i * 3, none⟩ = some (.int .i64 (f i).1) ∧ w.cell? ⟨g, i * 3 + 1, none⟩ = some (.int .i64 (f i).2.1) ∧ w.cell? ⟨g, i * 3 + 2, none⟩ = some (.int .i64 (f i).2.2) := by
  refine ⟨?_, ?_, ?_⟩
  · rw [h.cellAt _ (by omega), rkL_at n f (by omega), cellR0]
  · rw [h.cellAt _ (by omega), rkL_at n f (by omega), cellR1]
  · rw [h.cellAt _ (by omega), rkL_at n f (by omega), cellR2]
theorem rk_lt {B : Nat} {w : World} {g n cap : Nat} {f : Nat → Rk} (h : RkRow B w g n cap f) : B ≤ g ∧ g < w.heap.size := h.lt g rfl
theorem rk_kind {B : Nat} {w : World} {g n cap : Nat} {f : Nat → Rk} (h : RkRow B w g n cap f) : ∃ c fz, w.heap[g]? = some (.cells c 282 fz) := Go.Lib.ownsRow_kind h g rfl
theorem rk_keep {B : Nat} {w w' : World} {g n cap : Nat} {f : Nat → Rk} (h : RkRow B w g n cap f) (hb : w'.heap[g]? = w.heap[g]?) : RkRow B w' g n cap f := by
  refine ⟨h.1, ?_⟩
  rcases h.2 with h' | ⟨p, cap', cur, e, h1, h2, h3⟩
  · exact .inl h'
  · have hp : p = g := by simp only [Value.slice.injEq, Option.some.injEq, Addr.mk.injEq] at e; exact e.1.1.symm
    subst hp
    exact .inr ⟨p, cap', cur, e, h1, by rw [hb, h2], h3⟩
theorem rk_set {B : Nat} {w : World} {g n cap : Nat} {f : Nat → Rk} (h : RkRow B w g n cap f) {i : Nat} (hi : i < n) (x : Rk) :
    RkRow B (((w.setCell ⟨g, i * 3, none⟩ (.int .i64 x.1)).setCell ⟨g, i * 3 + 1, none⟩ (.int .i64 x.2.1)).setCell ⟨g, i * 3 + 2, none⟩ (.int .i64 x.2.2)) g n cap (upd f i x) := by
  have h1 := (h.stored (i * 3) (.int .i64 x.1)).1
  have h2 := (World.ownsRow.stored h1 (i * 3 + 1) (.int .i64 x.2.1)).1
  have h3 := (World.ownsRow.stored h2 (i * 3 + 2) (.int .i64 x.2.2)).1
  rw [rkL_set3 n f hi x] at h3
  exact h3
theorem rk_cut {B : Nat} {w : World} {g n cap : Nat} {f : Nat → Rk} (h : RkRow B w g (n + 1) cap f) : RkRow B w g n cap f := by
  refine ⟨rkL_length n f, ?_⟩
  rcases h.2 with ⟨e, _⟩ | ⟨p, cap', cur, e, h1, h2, h3, h4, h5, h6⟩
  · simp at e
  · simp only [Value.slice.injEq, Option.some.injEq, Addr.mk.injEq, and_true, true_and] at e
    obtain ⟨rfl, rfl⟩ := e
    refine .inr ⟨g, cap, cur, rfl, h1, h2, by omega, h4, h5, ?_⟩
    rw [← rkL_take, ← h6, List.take_take, Nat.min_eq_left (by omega)]

/-- A ranking: its cell in block p, its row in block g. -/
structure Rkg (B : Nat) (w : World) (p g n cap : Nat) (f : Nat → Rk) : Prop where
  row : RkRow B w g n cap f
  cell : w.heap[p]? = some (.cells #[.slice (some ⟨g, 0, none⟩) n cap] 279 (0, 0))
  atP : B ≤ p
theorem rk_cell1 {W : World} {b : Nat} {c0 : Value} {t : TypeId} {fr : Nat × Nat} (h : W.heap[b]? = some (.cells #[c0] t fr)) : W.cell? ⟨b, 0, none⟩ = some c0 := by
  simp [World.cell?, h]
section
variable {B : Nat} {w w' : World} {p g n cap : Nat} {f : Nat → Rk}
theorem Rkg.ltP (h : Rkg B w p g n cap f) : p < w.heap.size := (Array.getElem?_eq_some_iff.1 h.cell).1
theorem Rkg.apart (h : Rkg B w p g n cap f) : g ≠ p := by
  intro e
  obtain ⟨c, fz, h1⟩ := rk_kind h.row
  rw [e, h.cell] at h1
  simp only [Option.some.injEq, Obj.cells.injEq] at h1
  exact absurd h1.2.1 (by decide)
theorem Rkg.keep (h : Rkg B w p g n cap f) (hp : w'.heap[p]? = w.heap[p]?) (hg : w'.heap[g]? = w.heap[g]?) : Rkg B w' p g n cap f :=
  ⟨rk_keep h.row hg, by rw [hp, h.cell], h.atP⟩
theorem Rkg.later (h : Rkg B w p g n cap f) (hb : Below w.heap.size w w') : Rkg B w' p g n cap f :=
  h.keep (hb.block p h.ltP) (hb.block g (rk_lt h.row).2)
theorem Rkg.aside (h : Rkg B w p g n cap f) {l r : Nat} (hb : Aside l r w w') (hr : r ≤ B ∨ w.heap.size ≤ l) : Rkg B w' p g n cap f := by
  have h1 := h.ltP
  have h2 := rk_lt h.row
  have h3 := h.atP
  exact h.keep (hb.block p h1 (by omega)) (hb.block g h2.2 (by omega))
end
/-- The receiver of a method on the value, told through the pointer. -/
theorem Tryz.toLen (p : Nat) (v : Value) (w : World) (h : w.cell? ⟨p, 0, none⟩ = some v) : (Go.method 439 277 (.pointer (some ⟨p, 0, none⟩)) "Len").run Tryz.prog w = .ok (230, v) w := by
  have e : ∀ w, (Go.method 439 277 (.pointer (some ⟨p, 0, none⟩)) "Len").run Tryz.prog w = ((do let v ← loadVar 279 ⟨p, 0, none⟩; pure (230, v)) : Sem (FuncId × Value)).run Tryz.prog w := fun w => by kernel_rfl
  rw [e]
  simp [loadVar, isAgg, run_underlying (show Tryz.prog.underlying 279 = some (.slice 282) from rfl), h]
end Go.Proofs.YtoocbagnfkgbfaaGreatDoor
end

section
namespace Go.Proofs.YtoocbagnfkgbfaaGreatDoor
open Go.RowKit
set_option linter.unusedVariables false
set_option maxRecDepth 20000

set_option maxHeartbeats 400000 in
theorem rkLen_any (a : Option Addr) (n cap : Nat) (w : World) (hn : n ≤ 1048576) :
    Calls Tryz.prog 230 #[.slice a n cap] w fun e w' => e = .returned (.int .i64 (n : Int)) ∧ w = w' := by
  go_enter Tryz.func230, Tryz.ntmps230
  go_wp2_with fail
  go_ret
  exact ⟨rfl, rfl⟩

set_option maxHeartbeats 1600000 in
theorem rkLess_any (B g n cap : Nat) (f : Nat → Rk) (i j : Nat) (w : World) (h : RkRow B w g n cap f) (hi : i < n) (hj : j < n) (hn : n ≤ 1048576) :
    Calls Tryz.prog 284 #[.slice (some ⟨g, 0, none⟩) n cap, .int .i64 (i : Int), .int .i64 (j : Int)] w fun e w' => e = .returned (.bool (decide (lessR (f i) (f j)))) ∧ Below w.heap.size w w' := by
  obtain ⟨c0, c1, c2⟩ := rk_cells h hi
  obtain ⟨d0, d1, d2⟩ := rk_cells h hj
  have hi2 : (i : Int) < (n : Int) := by omega
  have hj2 : (j : Int) < (n : Int) := by omega
  have hg := (rk_lt h).2
  have hg1 : ¬ g = w.heap.size := by omega
  have hg2 : ¬ g = w.heap.size + 1 := by omega
  clear h
  obtain ⟨x, hx⟩ : ∃ x, f i = x := ⟨_, rfl⟩
  obtain ⟨y, hy⟩ : ∃ y, f j = y := ⟨_, rfl⟩
  rw [hx] at c0 c1 c2
  rw [hy] at d0 d1 d2
  rw [hx, hy]
  obtain ⟨x0, x1, x2⟩ := x
  obtain ⟨y0, y1, y2⟩ := y
  dsimp only at c0 c1 c2 d0 d1 d2
  clear hx hy
  have HB : Hid (∀ o1 o2, Below w.heap.size w ((w.alloc o1).alloc o2).drew) := fun o1 o2 => (((Below.refl _ _).alloc (Nat.le_refl _) o1).alloc (by simp) o2).drew
  go_enter Tryz.func284, Tryz.ntmps284
  go_wp2_with fail
  go_region
  all_goals
    by_cases h0 : x0 = y0
    · subst h0
      by_cases h1 : x1 = y1
      · subst h1
        go_wp2_with fail
        go_ret
        exact ⟨ret_bool (by unfold lessR; simp), (HB.out _ _)⟩
      · go_wp2_with fail
        go_ret
        exact ⟨ret_bool (by unfold lessR; simp [h1]), (HB.out _ _)⟩
    · go_wp2_with fail
      go_ret
      exact ⟨ret_bool (by unfold lessR; simp [h0]), (HB.out _ _)⟩

theorem rk_drew {B : Nat} {w : World} {g n cap : Nat} {f : Nat → Rk} (h : RkRow B w g n cap f) : RkRow B w.drew g n cap f := h
theorem Aside.drew' {lo hi : Nat} {w w' : World} (h : Aside lo hi w w') : Aside lo hi w w'.drew := ⟨h.os, h.tape, h.output, h.size, h.block⟩
/-- Three cells of a rank written. -/
def put3 (w : World) (g i : Nat) (x : Rk) : World := ((w.setCell ⟨g, i * 3, none⟩ (.int .i64 x.1)).setCell ⟨g, i * 3 + 1, none⟩ (.int .i64 x.2.1)).setCell ⟨g, i * 3 + 2, none⟩ (.int .i64 x.2.2)
theorem put3_aside (w : World) (g i : Nat) (x : Rk) : Aside g (g + 1) w (put3 w g i x) :=
  (((Aside.refl g (g + 1) w).setCell (p := ⟨g, i * 3, none⟩) (Nat.le_refl _) (Nat.lt_succ_self _) _).setCell (p := ⟨g, i * 3 + 1, none⟩) (Nat.le_refl _) (Nat.lt_succ_self _) _).setCell (p := ⟨g, i * 3 + 2, none⟩) (Nat.le_refl _) (Nat.lt_succ_self _) _

set_option maxHeartbeats 1600000 in
theorem rkSwap_any (B g n cap : Nat) (f : Nat → Rk) (i j : Nat) (w : World) (h : RkRow B w g n cap f) (hi : i < n) (hj : j < n) (hn : n ≤ 1048576) :
    Calls Tryz.prog 287 #[.slice (some ⟨g, 0, none⟩) n cap, .int .i64 (i : Int), .int .i64 (j : Int)] w fun e w' => e = .returned (.tuple #[]) ∧ RkRow B w' g n cap (swp f i j) ∧ Aside g (g + 1) w w' := by
  obtain ⟨c0, c1, c2⟩ := rk_cells h hi
  obtain ⟨d0, d1, d2⟩ := rk_cells h hj
  have e0 := h.frozenAt (i * 3)
  have e1 := h.frozenAt (i * 3 + 1)
  have e2 := h.frozenAt (i * 3 + 2)
  have f0 := h.frozenAt (j * 3)
  have f1 := h.frozenAt (j * 3 + 1)
  have f2 := h.frozenAt (j * 3 + 2)
  have hi2 : (i : Int) < (n : Int) := by omega
  have hj2 : (j : Int) < (n : Int) := by omega
  have HR := hide h
  clear h
  by_cases hij : i = j
  · subst hij
    obtain ⟨x, hx⟩ : ∃ x, f i = x := ⟨_, rfl⟩
    have HX := hide hx
    rw [hx] at c0 c1 c2
    clear hx hj2 f0 f1 f2 d0 d1 d2
    obtain ⟨x0, x1, x2⟩ := x
    dsimp only at c0 c1 c2
    go_enter Tryz.func287, Tryz.ntmps287
    go_wp2_with fail
    go_region
    go_wp2_with fail
    go_end0
    have r1 := rk_set HR.out hi (x0, x1, x2)
    have r2 := rk_set r1 hi (x0, x1, x2)
    have e : upd (upd f i (x0, x1, x2)) i (x0, x1, x2) = swp f i i := by rw [← HX.out, upd_swp]
    rw [e] at r2
    exact ⟨rfl, rk_drew r2, Aside.drew' ((put3_aside w g i (x0, x1, x2)).trans (put3_aside _ g i (x0, x1, x2)))⟩
  · have n0 : ¬ j = i := by omega
    have n1 : ¬ j * 3 = i * 3 + 1 := by omega
    have n2 : ¬ j * 3 = i * 3 + 2 := by omega
    have n3 : ¬ j * 3 + 1 = i * 3 := by omega
    have n4 : ¬ j * 3 + 2 = i * 3 := by omega
    have n5 : ¬ i * 3 = j * 3 + 1 := by omega
    have n6 : ¬ i * 3 = j * 3 + 2 := by omega
    have n7 : ¬ i * 3 + 1 = j * 3 := by omega
    have n8 : ¬ i * 3 + 2 = j * 3 := by omega
    obtain ⟨x, hx⟩ : ∃ x, f i = x := ⟨_, rfl⟩
    obtain ⟨y, hy⟩ : ∃ y, f j = y := ⟨_, rfl⟩
    have HX := hide hx
    have HY := hide hy
    rw [hx] at c0 c1 c2
    rw [hy] at d0 d1 d2
    clear hx hy
    obtain ⟨x0, x1, x2⟩ := x
    obtain ⟨y0, y1, y2⟩ := y
    dsimp only at c0 c1 c2 d0 d1 d2
    go_enter Tryz.func287, Tryz.ntmps287
    go_wp2_with fail
    go_region
    go_wp2_with fail
    go_end0
    have r1 := rk_set HR.out hi (y0, y1, y2)
    have r2 := rk_set r1 hj (x0, x1, x2)
    have e : upd (upd f i (y0, y1, y2)) j (x0, x1, x2) = swp f i j := by rw [← HX.out, ← HY.out, upd_swp]
    rw [e] at r2
    exact ⟨rfl, rk_drew r2, Aside.drew' ((put3_aside w g i (y0, y1, y2)).trans (put3_aside _ g j (x0, x1, x2)))⟩
end Go.Proofs.YtoocbagnfkgbfaaGreatDoor
end

