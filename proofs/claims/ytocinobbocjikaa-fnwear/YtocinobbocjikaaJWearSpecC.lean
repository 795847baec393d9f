/- Several texts in one: WearSpecC, WearSpecD, WearImplA. -/
import Derived.Test.YtocinobbocjikaaJChipCopyS
import Derived.Lib.QuietBelow
import Derived.Deep.RegionWith
import Derived.Deep.DeepCutAuto
import Derived.Laws.StructEq
import Derived.Deep.QuietTactic
import Derived.BigQuiet
section
namespace Go.Proofs.Ytocinobbocjikaa
open Go.RowKit
set_option linter.unusedVariables false
set_option maxRecDepth 20000

theorem Try.eqPl (a b c d : Int) (w : World) : (Op.equalIn 10000 66 (.agg #[.int .i64 a, .int .i64 b]) (.agg #[.int .i64 c, .int .i64 d])).run Try.prog w = .ok (a == c && b == d) w := by
  have u := Try.underlying2
  have hS : Try.prog.underlying 66 = some (.struct (Try.prog.fieldsOf 66)) := by kernel_rfl
  rw [show (10000 : Nat) = 9999 + 1 from rfl, run_equalIn_agg w 9999 _ _ _ hS (by kernel_rfl)]
  simp only [Program.fieldsOf, Try.underlying66]
  go_simp
  by_cases h1 : a = c <;> by_cases h2 : b = d <;> simp [h1, h2]
theorem Try.guardPl : Try.prog.eqGuardType Try.prog.depth 66 = false := by kernel_rfl
theorem l9None_any (w : World) : Calls Try.prog 44 #[] w fun e w' => e = .returned (.agg #[.int .i64 (-1), .int .i64 0]) ∧ Below w.heap.size w w' := by
  have HB := hide ((Below.refl w.heap.size w).alloc (Nat.le_refl _) (.cells #[.int .i64 (-1), .int .i64 0] 66))
  go_enter Try.func44, Try.ntmps44
  go_wp2_with fail
  refine bodyPost_ret (results_cell rfl rfl (run_loadVar_row _ _ _ _ _ _ _ (heap_new _ _) Try.underlying66 rfl (by kernel_rfl))) rfl ⟨rfl, HB.out⟩

set_option maxHeartbeats 1600000 in
theorem l9There_any (z : Int) (a : Option Addr) (n cap : Nat) (qs : List Sq) (p q : Int) (w : World) {lo hi : Nat} (h : Squares lo hi w a n qs) (hhi : hi ≤ w.heap.size) (hn : n ≤ 12) (hf : ∀ x ∈ qs, sqFits x) :
    Calls Try.prog 45 #[.agg #[.int .i64 z, .slice a n cap], .agg #[.int .i64 p, .int .i64 q]] w fun e w' => e = .returned (.bool (plThere qs (p, q))) ∧ Below w.heap.size w w' := by
  obtain ⟨wA, hwA⟩ : ∃ wA, wA = (w.alloc (.cells #[.int .i64 z, .slice a n cap] 26)).alloc (.cells #[.int .i64 p, .int .i64 q] 66) := ⟨_, rfl⟩
  have hzA : wA.heap.size = w.heap.size + 1 + 1 := by rw [hwA]; simp
  have HBA : Hid (Below w.heap.size w wA) := by rw [hwA]; exact ((Below.refl _ _).alloc (Nat.le_refl _) _).alloc (by simp) _
  have H1 : Hid (wA.heap[w.heap.size]? = some (.cells #[.int .i64 z, .slice a n cap] 26)) := by rw [hwA]; exact heap_old (heap_new _ _)
  have H2 : Hid (wA.heap[w.heap.size + 1]? = some (.cells #[.int .i64 p, .int .i64 q] 66)) := by rw [hwA]; exact heap_at (by simp)
  have HSQ := hide (h.later HBA.out hhi)
  have HL := hide h.1
  have HF := hide hf
  clear h hf
  obtain ⟨a0, a1⟩ := two_cells H1.out
  obtain ⟨b0, b1⟩ := two_cells H2.out
  have HI1 : ∀ w9, Hid (Calls Try.prog 39 #[.int .i64 p, .int .i64 0, .int .i64 ((n : Int) - 1)] w9 fun e w' => e = .returned (.bool (inB p 0 ((n : Int) - 1))) ∧ w9 = w') := fun w9 => l1In_any _ _ _ w9
  by_cases hin : inB p 0 ((n : Int) - 1) = true
  · have hin2 := hin
    unfold inB at hin2
    simp only [Bool.and_eq_true, decide_eq_true_eq] at hin2
    obtain ⟨i, rfl⟩ : ∃ i : Nat, p = (i : Int) := ⟨p.toNat, by omega⟩
    have hlt : i < n := by omega
    have hql : i < qs.length := by rw [HL.out]; exact hlt
    have hlt2 : (i : Int) < (n : Int) := by omega
    obtain ⟨_, A, C, hx, ht⟩ := HSQ.out
    obtain ⟨b, off, rfl, _, hb, hc⟩ := hx.2 (by omega)
    obtain ⟨c0, c1, c2⟩ := sq_cells hc (Below.refl wA.heap.size wA) (show b < wA.heap.size by have := hx.1; omega) hlt
    have hl9 := (sq_fits HF.out hql).2.1
    unfold maxLen at hl9
    have HE : Hid (plThere qs ((i : Int), q) = inB q 0 (((sqAt qs i).1.length : Int) - 1)) := by
      show _ = _
      unfold plThere
      dsimp only
      rw [HL.out, hin]
      simp
    rw [hin] at HI1
    have HI2 : ∀ w9, Hid (Calls Try.prog 39 #[.int .i64 q, .int .i64 0, .int .i64 (((sqAt qs i).1.length : Int) - 1)] w9 fun e w' => e = .returned (.bool (inB q 0 (((sqAt qs i).1.length : Int) - 1))) ∧ w9 = w') := fun w9 => l1In_any _ _ _ w9
    clear hc hx ht hin hin2 c1 c2
    generalize sqAt qs i = y at *
    obtain ⟨ts, zw, bd⟩ := y
    dsimp only at c0 hl9 HE HI2
    generalize inB q 0 ((ts.length : Int) - 1) = bb at *
    go_enter Try.func45, Try.ntmps45
    go_upto_region 1 with fail
    rw [← hwA]
    clear hwA
    go_quiet ((first | (go_at_call_of 39 (Value.int .i64 q); exact Calls.quiet_of_same ((HI2 _).out.mono fun e w' hh => ⟨hh.1, hh.2.symm⟩)) | (go_at_call_of 39 (Value.int .i64 (i : Int)); exact Calls.quiet_of_same ((HI1 _).out.mono fun e w' hh => ⟨hh.1, hh.2.symm⟩))))
    go_wp2_with fail
    go_ret
    exact ⟨ret_bool HE.out.symm, ⟨HBA.out.os, HBA.out.tape, HBA.out.output, HBA.out.size, HBA.out.block⟩⟩
  · have hin' : inB p 0 ((n : Int) - 1) = false := by simpa using hin
    have HE : Hid (plThere qs (p, q) = false) := by show _ = _; unfold plThere; dsimp only; rw [HL.out, hin']; rfl
    rw [hin'] at HI1
    go_enter Try.func45, Try.ntmps45
    go_upto_region 1 with fail
    rw [← hwA]
    clear hwA
    go_quiet ((go_at_call 39; exact Calls.quiet_of_same ((HI1 _).out.mono fun e w' hh => ⟨hh.1, hh.2.symm⟩)))
    go_wp2_with fail
    go_ret
    exact ⟨ret_bool HE.out.symm, ⟨HBA.out.os, HBA.out.tape, HBA.out.output, HBA.out.size, HBA.out.block⟩⟩

theorem pl_eq (a b : Pl) : (a == b) = ((a.1 == b.1) && (a.2 == b.2)) := by
  obtain ⟨a1, a2⟩ := a
  obtain ⟨b1, b2⟩ := b
  rfl

set_option maxHeartbeats 3200000 in
theorem specMapOk_any (z : Int) (a : Option Addr) (n cap : Nat) (qs : List Sq) (al : Option Addr) (m capl : Nat) (ps : List Pl) (w : World) {lo hi lo' hi' : Nat} (h : Squares lo hi w a n qs) (hhi : hi ≤ w.heap.size) (hn : n ≤ 1048576) (hf : ∀ x ∈ qs, sqFits x) (hp : Places lo' hi' w al m ps) (hhi' : hi' ≤ w.heap.size) (hm : m ≤ 1048576) :
    Calls Try.prog 19 #[.agg #[.int .i64 z, .slice a n cap], .slice al m capl] w fun e w' => e = .returned (.bool (mapOk z qs ps)) ∧ Below w.heap.size w w' := by
  obtain ⟨wA, hwA⟩ : ∃ wA, wA = w.alloc (.cells #[.int .i64 z, .slice a n cap] 26) := ⟨_, rfl⟩
  have hzA : wA.heap.size = w.heap.size + 1 := by rw [hwA]; simp
  have HBA : Hid (Below w.heap.size w wA) := by rw [hwA]; exact (Below.refl _ _).alloc (Nat.le_refl _) _
  have H1 : Hid (wA.heap[w.heap.size]? = some (.cells #[.int .i64 z, .slice a n cap] 26)) := by rw [hwA]; exact heap_new _ _
  have HSQ := hide (h.later HBA.out hhi)
  have HPL := hide (hp.later HBA.out hhi')
  have HL := hide h.1
  have HLP := hide hp.1
  have HF := hide hf
  clear h hf hp
  obtain ⟨a0, a1⟩ := two_cells H1.out
  go_enter Try.func19, Try.ntmps19
  go_upto_region 1 with fail
  rw [← hwA]
  clear hwA
  go_wp2_with fail
  refine (specChipOk_any z a n cap qs wA HSQ.out (by omega) hn HF.out).mono ?_
  rintro e w1 ⟨rfl, b1⟩
  have K1 := hide (block_on H1.out b1)
  have HS1 := hide (HSQ.out.later b1 (by omega))
  have HP1 := hide (HPL.out.later b1 (by omega))
  have HB1 := hide (below_here HBA.out b1)
  have hs1 := b1.size
  clear b1 H1 HSQ HPL HBA a0 a1
  cases hok : chipOk z qs with
  | false =>
    have HE : Hid (mapOk z qs ps = false) := by show _ = _; unfold mapOk; rw [hok]; rfl
    go_wp2_with fail
    go_ret
    exact ⟨ret_bool HE.out.symm, HB1.out⟩
  | true =>
    have hn12 : n ≤ 12 := by have := (chipOk_parts hok).2.2.2.1; rw [HL.out] at this; exact this
    by_cases h1 : 1 ≤ m
    · have g1 : decide ((m : Int) < 1) = false := by simp; omega
      by_cases h64 : m ≤ 64
      · have g2 : decide ((m : Int) > 64) = false := by simp; omega
        have HE : Hid (mapOk z qs ps = (List.range ps.length).all (plOk qs ps)) := by
          show _ = _
          unfold mapOk
          rw [hok, HLP.out, decide_eq_true h1, decide_eq_true h64]
          rfl
        clear hok
        go_wp2_with fail
        clear g1 g2
        go_loopw [5] (fun i wr => ∃ k : Nat, k ≤ m ∧ i = .int .i64 (k : Int) ∧ (List.range k).all (plOk qs ps) = true ∧ Below w1.heap.size w1 wr) (fun i _ => m - (intOf i).toNat)
        case atStart => exact ⟨0, Nat.zero_le _, rfl, rfl, Below.refl _ _⟩
        case round =>
          obtain ⟨k, hk, rfl, hall, hbel⟩ := hrel
          have HAL := hide hall
          have HBB := hide hbel
          clear hall
          by_cases hlt : k < m
          · have hpl : k < ps.length := by rw [HLP.out]; exact hlt
            obtain ⟨b, off, rfl, _, hb, hc⟩ := HP1.out.2.2 (by omega)
            obtain ⟨c0, c1⟩ := pl_cells hc hbel (show b < w1.heap.size by have := HP1.out.2.1; omega) hlt
            have HC := hide hc
            have HFA : Hid (plOk qs ps k = false → mapOk z qs ps = false) := fun hh => mapOk_fall hpl hh
            have HST : Hid (plOk qs ps k = true → (List.range (k + 1)).all (plOk qs ps) = true) := fun hh => all_range_step HAL.out hh
            have HPO : Hid (plOk qs ps k = ((((plAt ps k).1 == -1) && ((plAt ps k).2 == 0)) || (plThere qs (plAt ps k) && (List.range k).all (fun j => plAt ps j != plAt ps k)))) := by
              show _ = _
              unfold plOk
              rw [pl_eq]
            clear hc hbel
            obtain ⟨y, hy⟩ : ∃ y, y = plAt ps k := ⟨_, rfl⟩
            have HY := hide hy
            rw [← hy] at c0 c1 HPO
            clear hy
            obtain ⟨p, q⟩ := y
            dsimp only at c0 c1 HPO
            have cN : ∀ d os, Calls Try.prog 44 #[] (Go.Sort.grow (redrawn wr d) os) fun e w'' => e = .returned (.agg #[.int .i64 (-1), .int .i64 0]) ∧ ∃ p : Regrown, w'' = Go.Sort.grow (redrawn wr p.d) p.os := fun d os => Calls.regrown_of (l9None_any _)
            have k0 := cell_regrown c0
            have k1 := cell_regrown c1
            have q1 := Try.eqPl p q (-1) 0
            have q2 := Try.guardPl
            go_upto_region 6 with fail
            go_cut [31] (fun c wx => c = .bool ((p == -1) && (q == 0)) ∧ Below wr.heap.size wr wx)
            case first =>
              refine wp_region_quiet_below (by kernel_rfl) (by kernel_rfl) ?_
              repeat (go_big_quiet_step ((go_at_call 44; exact cN _ _)))
              refine wpQuiet_nil ?_
              intro _ hw'
              obtain ⟨⟨dq, osq⟩, hw''⟩ := hw'
              subst hw''
              have HBQ := hide (below_regrown wr dq osq)
              go_wp2_with fail
              go_meet
              exact ⟨rfl, HBQ.out⟩
            case rest =>
              obtain ⟨rfl, hb2⟩ := hcut
              obtain ⟨w2, hw2⟩ : ∃ w2, w2 = wc := ⟨_, rfl⟩
              subst hw2
              have HB2 := hide (below_here HBB.out hb2)
              clear hb2 k0 k1 cN q1 c0 c1
              cases hnone : ((p == -1) && (q == 0)) with
              | true =>
                have HOK := hide (HST.out (by rw [HPO.out, hnone]; rfl))
                go_wp2_with fail
                exact ⟨⟨k + 1, by omega, by go_num, HOK.out, HB2.out⟩, by simp [intOf]; omega⟩
              | false =>
                have HPO2 : Hid (plOk qs ps k = (plThere qs (p, q) && (List.range k).all (fun j => plAt ps j != (p, q)))) := by show _ = _; rw [HPO.out, hnone]; rfl
                obtain ⟨c0, c1⟩ := pl_cells HC.out HB2.out (show b < w1.heap.size by have := HP1.out.2.1; omega) hlt
                rw [← HY.out] at c0 c1
                dsimp only at c0 c1
                obtain ⟨a0, a1⟩ := two_cells (block_on K1.out HB2.out)
                have hs2 := HB2.out.size
                have cT : ∀ d os, Calls Try.prog 45 #[.agg #[.int .i64 z, .slice a n cap], .agg #[.int .i64 p, .int .i64 q]] (Go.Sort.grow (redrawn w2 d) os) fun e w'' => e = .returned (.bool (plThere qs (p, q))) ∧ ∃ p : Regrown, w'' = Go.Sort.grow (redrawn w2 p.d) p.os := fun d os => Calls.regrown_of (l9There_any z a n cap qs p q _ (HS1.out.later (below_here HB2.out (below_regrown w2 d os)) (by omega)) (by have := (below_regrown w2 d os).size; omega) hn12 HF.out)
                have k0 := cell_regrown a0
                have k1 := cell_regrown a1
                have k2 := cell_regrown c0
                have k3 := cell_regrown c1
                clear hnone
                go_upto_region 7 with fail
                go_cut [38] (fun c wx => c = .bool (!plThere qs (p, q)) ∧ Below w2.heap.size w2 wx)
                case first =>
                  refine wp_region_quiet_below (by kernel_rfl) (by kernel_rfl) ?_
                  repeat (go_big_quiet_step ((go_at_call 45; exact cT _ _)))
                  refine wpQuiet_nil ?_
                  intro _ hw'
                  obtain ⟨⟨dq, osq⟩, hw''⟩ := hw'
                  subst hw''
                  have HBQ := hide (below_regrown w2 dq osq)
                  go_wp2_with fail
                  go_meet
                  exact ⟨rfl, HBQ.out⟩
                case rest =>
                  obtain ⟨rfl, hb3⟩ := hcut
                  obtain ⟨w3, hw3⟩ : ∃ w3, w3 = wc := ⟨_, rfl⟩
                  subst hw3
                  have HB3 := hide (below_here HB2.out hb3)
                  clear hb3 k0 k1 k2 k3 cT c0 c1 a0 a1
                  cases hth : plThere qs (p, q) with
                  | false =>
                    have HNO := hide (HFA.out (by rw [HPO2.out, hth]; rfl))
                    go_wp2_with fail
                    go_ret
                    exact ⟨ret_bool HNO.out.symm, below_here HB1.out HB3.out⟩
                  | true =>
                    have HPO3 : Hid (plOk qs ps k = (List.range k).all (fun j => plAt ps j != (p, q))) := by show _ = _; rw [HPO2.out, hth]; rfl
                    simp only [Bool.not_true]
                    clear hth
                    go_wp2_with fail
                    obtain ⟨wo, hwo⟩ : ∃ wo, wo = w3 := ⟨_, rfl⟩
                    subst hwo
                    go_loopw [6] (fun t wx => ∃ j : Nat, j ≤ k ∧ t = .int .i64 (j : Int) ∧ (List.range j).all (fun j => plAt ps j != (p, q)) = true ∧ Below w1.heap.size w1 wx) (fun t _ => k - (intOf t).toNat)
                    case atStart => exact ⟨0, Nat.zero_le _, rfl, rfl, HB3.out⟩
                    case round =>
                      obtain ⟨j, hj, rfl, hal, hbj⟩ := hrel
                      have HJA := hide hal
                      have HBJ := hide hbj
                      clear hal
                      by_cases hjl : j < k
                      · obtain ⟨c0, c1⟩ := pl_cells HC.out hbj (show b < w1.heap.size by have := HP1.out.2.1; omega) hlt
                        obtain ⟨d0, d1⟩ := pl_cells HC.out hbj (show b < w1.heap.size by have := HP1.out.2.1; omega) (show j < m by omega)
                        rw [← HY.out] at c0 c1
                        dsimp only at c0 c1
                        have HJF : Hid ((plAt ps j == (p, q)) = true → plOk qs ps k = false) := fun hh => by rw [HPO3.out]; exact all_range_fall hjl (by simp only [bne, hh]; rfl)
                        have HJS : Hid ((plAt ps j == (p, q)) = false → (List.range (j + 1)).all (fun j => plAt ps j != (p, q)) = true) := fun hh => all_range_step HJA.out (by simp only [bne, hh]; rfl)
                        rw [pl_eq] at HJF HJS
                        generalize plAt ps j = y at *
                        obtain ⟨r, t⟩ := y
                        dsimp only at d0 d1 HJF HJS
                        have q1 := Try.eqPl r t p q
                        have hlt2 : (k : Int) < (m : Int) := by omega
                        have hlt3 : (j : Int) < (m : Int) := by omega
                        clear hbj
                        cases heq : ((r == p) && (t == q)) with
                        | true =>
                          have HNO := hide (HFA.out (HJF.out heq))
                          rw [heq] at q1
                          go_wp2_with fail
                          go_quiet (fail)
                          go_wp2_with fail
                          go_ret
                          exact ⟨ret_bool HNO.out.symm, by have hh := below_here HB1.out HBJ.out; exact ⟨hh.os, hh.tape, hh.output, hh.size, hh.block⟩⟩
                        | false =>
                          have HOK := hide (HJS.out heq)
                          rw [heq] at q1
                          go_wp2_with fail
                          go_quiet (fail)
                          go_wp2_with fail
                          go_roundw
                          case rel => exact ⟨j + 1, by omega, by go_num, HOK.out, ⟨HBJ.out.os, HBJ.out.tape, HBJ.out.output, HBJ.out.size, HBJ.out.block⟩⟩
                          case measure => simp [intOf]; omega
                      · obtain rfl : j = k := by omega
                        have HOK := hide (HST.out (by rw [HPO3.out]; exact HJA.out))
                        go_wp2_with fail
                        exact ⟨⟨j + 1, by omega, by go_num, HOK.out, HBJ.out⟩, by simp [intOf]; omega⟩
          · obtain rfl : k = m := by omega
            have HE2 : Hid (mapOk z qs ps = true) := by show _ = _; rw [HE.out, HLP.out]; exact HAL.out
            go_wp2_with fail
            go_ret
            exact ⟨ret_bool HE2.out.symm, below_here HB1.out HBB.out⟩
      · have g2 : decide ((m : Int) > 64) = true := by simp; omega
        have HE : Hid (mapOk z qs ps = false) := by show _ = _; unfold mapOk; rw [HLP.out, decide_eq_false h64]; simp
        go_wp2_with fail
        go_ret
        exact ⟨ret_bool HE.out.symm, HB1.out⟩
    · have g1 : decide ((m : Int) < 1) = true := by simp; omega
      have HE : Hid (mapOk z qs ps = false) := by show _ = _; unfold mapOk; rw [HLP.out, decide_eq_false h1]; simp
      go_wp2_with fail
      go_ret
      exact ⟨ret_bool HE.out.symm, HB1.out⟩
end Go.Proofs.Ytocinobbocjikaa
end

section
namespace Go.Proofs.Ytocinobbocjikaa
open Go.RowKit
set_option linter.unusedVariables false
set_option maxRecDepth 20000

set_option maxHeartbeats 1600000 in
theorem specLive_any (z : Int) (a : Option Addr) (n cap : Nat) (qs : List Sq) (al : Option Addr) (m capl : Nat) (ps : List Pl) (s : Int) (w : World) {lo hi lo' hi' : Nat} (h : Squares lo hi w a n qs) (hhi : hi ≤ w.heap.size) (hn : n ≤ 1048576) (hf : ∀ x ∈ qs, sqFits x) (hp : Places lo' hi' w al m ps) (hhi' : hi' ≤ w.heap.size) (hm : m ≤ 1048576) :
    Calls Try.prog 17 #[.agg #[.int .i64 z, .slice a n cap], .slice al m capl, .int .i64 s] w fun e w' => e = .returned (.int .i64 (live z qs ps s)) ∧ Below w.heap.size w w' := by
  obtain ⟨wA, hwA⟩ : ∃ wA, wA = w.alloc (.cells #[.int .i64 z, .slice a n cap] 26) := ⟨_, rfl⟩
  have hzA : wA.heap.size = w.heap.size + 1 := by rw [hwA]; simp
  have HBA : Hid (Below w.heap.size w wA) := by rw [hwA]; exact (Below.refl _ _).alloc (Nat.le_refl _) _
  have H1 : Hid (wA.heap[w.heap.size]? = some (.cells #[.int .i64 z, .slice a n cap] 26)) := by rw [hwA]; exact heap_new _ _
  have HSQ := hide (h.later HBA.out hhi)
  have HPL := hide (hp.later HBA.out hhi')
  have HL := hide h.1
  have HF := hide hf
  clear h hf hp
  obtain ⟨a0, a1⟩ := two_cells H1.out
  go_enter Try.func17, Try.ntmps17
  go_upto_region 1 with fail
  rw [← hwA]
  clear hwA
  go_wp2_with fail
  refine (specMapOk_any z a n cap qs al m capl ps wA HSQ.out (by omega) hn HF.out HPL.out (by omega) hm).mono ?_
  rintro e w1 ⟨rfl, b1⟩
  have K1 := hide (block_on H1.out b1)
  have HP1 := hide (HPL.out.later b1 (by omega))
  have HB1 := hide (below_here HBA.out b1)
  have hs1 := b1.size
  clear b1 H1 HSQ HPL HBA a0 a1
  obtain ⟨a0, a1⟩ := two_cells K1.out
  cases hok : mapOk z qs ps with
  | false =>
    have HE : Hid (live z qs ps s = -1) := by show _ = _; unfold live; rw [hok]; rfl
    go_wp2_with fail
    go_ret
    exact ⟨by rw [HE.out]; rfl, HB1.out⟩
  | true =>
    go_wp2_with fail
    refine (l1In_any s 0 ((n : Int) - 1) w1).mono ?_
    rintro e w2 ⟨rfl, rfl⟩
    cases hin : inB s 0 ((n : Int) - 1) with
    | false =>
      have HE : Hid (live z qs ps s = -1) := by show _ = _; unfold live; rw [HL.out, hin]; simp
      go_wp2_with fail
      go_ret
      exact ⟨by rw [HE.out]; rfl, HB1.out⟩
    | true =>
      have HE : Hid (live z qs ps s = (liveN ps s : Int)) := by show _ = _; unfold live; rw [hok, HL.out, hin]; rfl
      go_wp2_with fail
      refine (l9Live_any al m capl ps s w1 HP1.out hm).mono ?_
      rintro e w2 ⟨rfl, rfl⟩
      go_wp2_with fail
      go_ret
      exact ⟨by rw [HE.out]; rfl, HB1.out⟩

def bestV (o : Option Nat) : Int := match o with | none => -1 | some b => (b : Int)
theorem mayV_parts (qs : List Sq) (op : Int) (k : Nat) : mayV qs op k = (!((sqAt qs k).1.length == 0) && (!(sqAt qs k).2.2 && !((k : Int) == op))) := rfl
theorem bestK_no {qs : List Sq} {ps : List Pl} {op : Int} {k : Nat} (h : mayV qs op k = false) : bestK qs ps op (k + 1) = bestK qs ps op k := by
  show (if mayV qs op k then _ else _) = _
  rw [h]; rfl
theorem bestK_first {qs : List Sq} {ps : List Pl} {op : Int} {k : Nat} (h : mayV qs op k = true) (hb : bestK qs ps op k = none) : bestK qs ps op (k + 1) = some k := by
  show (if mayV qs op k then (match bestK qs ps op k with | none => some k | some b => if betterV qs ps k b then some k else some b) else _) = _
  rw [h, hb]; rfl
theorem bestK_next {qs : List Sq} {ps : List Pl} {op : Int} {k b : Nat} (h : mayV qs op k = true) (hb : bestK qs ps op k = some b) : bestK qs ps op (k + 1) = if betterV qs ps k b then some k else some b := by
  show (if mayV qs op k then (match bestK qs ps op k with | none => some k | some b => if betterV qs ps k b then some k else some b) else _) = _
  rw [h, hb]; rfl

set_option maxHeartbeats 3200000 in
theorem l9Victim_any (z : Int) (a : Option Addr) (n cap : Nat) (qs : List Sq) (al : Option Addr) (m capl : Nat) (ps : List Pl) (op : Int) (w : World) {lo hi lo' hi' : Nat} (h : Squares lo hi w a n qs) (hhi : hi ≤ w.heap.size) (hn : n ≤ 12) (hf : ∀ x ∈ qs, sqFits x) (hp : Places lo' hi' w al m ps) (hhi' : hi' ≤ w.heap.size) (hm : m ≤ 64) :
    Calls Try.prog 36 #[.agg #[.int .i64 z, .slice a n cap], .slice al m capl, .int .i64 op] w fun e w' => e = .returned (.int .i64 (victimV z qs ps op)) ∧ Below w.heap.size w w' := by
  obtain ⟨wA, hwA⟩ : ∃ wA, wA = w.alloc (.cells #[.int .i64 z, .slice a n cap] 26) := ⟨_, rfl⟩
  have hzA : wA.heap.size = w.heap.size + 1 := by rw [hwA]; simp
  have HBA : Hid (Below w.heap.size w wA) := by rw [hwA]; exact (Below.refl _ _).alloc (Nat.le_refl _) _
  have H1 : Hid (wA.heap[w.heap.size]? = some (.cells #[.int .i64 z, .slice a n cap] 26)) := by rw [hwA]; exact heap_new _ _
  have HSQ := hide (h.later HBA.out hhi)
  have HPL := hide (hp.later HBA.out hhi')
  have HL := hide h.1
  have HLP := hide hp.1
  have HF := hide hf
  have hlv : ∀ s, liveN ps s ≤ 64 := fun s => by have := liveN_le ps s; rw [HLP.out] at this; omega
  have HLV := hide hlv
  clear h hf hp hlv
  go_enter Try.func36, Try.ntmps36
  go_upto_region 1 with fail
  rw [← hwA]
  clear hwA
  go_wp2_with fail
  go_loopw [7, 8] (fun t i wr => ∃ k : Nat, k ≤ n ∧ i = .int .i64 (k : Int) ∧ t = .int .i64 (bestV (bestK qs ps op k)) ∧ Below wA.heap.size wA wr) (fun _ i _ => n - (intOf i).toNat)
  case atStart => exact ⟨0, Nat.zero_le _, rfl, rfl, Below.refl _ _⟩
  case round =>
    obtain ⟨k, hk, rfl, rfl, hbel⟩ := hrel
    have K1 := hide (block_on H1.out hbel)
    obtain ⟨a0, a1⟩ := two_cells K1.out
    have HBB := hide hbel
    by_cases hlt : k < n
    · have hql : k < qs.length := by rw [HL.out]; exact hlt
      obtain ⟨_, A, C, hx, ht⟩ := HSQ.out
      obtain ⟨b, off, rfl, _, hb, hc⟩ := hx.2 (by omega)
      have HC := hide hc
      obtain ⟨c0, c1, c2⟩ := sq_cells hc hbel (show b < wA.heap.size by omega) hlt
      have hl9 := (sq_fits HF.out hql).2.1
      unfold maxLen at hl9
      have HMV := hide (mayV_parts qs op k)
      have HYY : Hid (sqAt qs k = sqAt qs k) := rfl
      obtain ⟨y, hy⟩ : ∃ y, y = sqAt qs k := ⟨_, rfl⟩
      rw [← hy] at c0 c1 c2 hl9 HMV
      have HY := hide hy
      clear hc hx ht hy HYY
      obtain ⟨ts, zw, bd⟩ := y
      dsimp only at c0 c1 c2 hl9 HMV
      have HBV := hide ((Below.refl wr.heap.size wr).alloc (Nat.le_refl _) (.cells #[.slice (A k) ts.length (C k), .int .i64 zw, .bool bd] 40))
      have HBF := hide (below_here HBB.out HBV.out)
      have hbo : ∀ j, bestV (bestK qs ps op k) = (j : Int) → True := fun _ _ => trivial
      clear hbo hbel
      cases hmay : mayV qs op k with
      | false =>
        have HE : Hid (bestV (bestK qs ps op (k + 1)) = bestV (bestK qs ps op k)) := by show _ = _; rw [bestK_no hmay]
        rw [hmay] at HMV
        generalize bestV (bestK qs ps op k) = bv at *
        by_cases h0 : ts.length = 0
        · have g0 : ((ts.length : Int) == 0) = true := by simp [h0]
          clear h0
          go_wp2_with fail
          exact ⟨⟨k + 1, by omega, by go_num, by rw [HE.out], HBF.out⟩, by simp [intOf]; omega⟩
        · have g0 : ((ts.length : Int) == 0) = false := by simp; exact fun e => h0 (by rw [e]; rfl)
          cases bd with
          | true =>
            go_wp2_with fail
            exact ⟨⟨k + 1, by omega, by go_num, by rw [HE.out], HBF.out⟩, by simp [intOf]; omega⟩
          | false =>
            have hko : (k : Int) = op := by
              have h9 := HMV.out
              have e0 : (ts.length == 0) = false := by simpa using h0
              rw [e0] at h9
              simpa using h9
            have g1 : ((k : Int) == op) = true := by simpa using hko
            clear hko
            go_wp2_with fail
            exact ⟨⟨k + 1, by omega, by go_num, by rw [HE.out], HBF.out⟩, by simp [intOf]; omega⟩
      | true =>
        rw [hmay] at HMV
        have h9 := HMV.out
        simp only [Bool.true_eq, Bool.and_eq_true, Bool.not_eq_true', beq_eq_false_iff_ne, ne_eq] at h9
        obtain ⟨h0, rfl, hko⟩ := h9
        have g0 : ((ts.length : Int) == 0) = false := by simp; exact fun e => h0 (by rw [e]; rfl)
        have g1 : ((k : Int) == op) = false := by simpa using hko
        cases hbk : bestK qs ps op k with
        | none =>
          have HE : Hid (bestV (bestK qs ps op (k + 1)) = (k : Int)) := by show _ = _; rw [bestK_first hmay hbk]; rfl
          rw [show bestV none = -1 from rfl]
          go_wp2_with fail
          exact ⟨⟨k + 1, by omega, by go_num, by rw [HE.out], HBF.out⟩, by simp [intOf]; omega⟩
        | some j =>
          have hjk := bestK_lt hbk
          have HE := hide (bestK_next hmay hbk)
          rw [show bestV (some j) = (j : Int) from rfl]
          have gj : decide ((j : Int) < 0) = false := by simp
          clear hbk hmay
          obtain ⟨wV, hwV⟩ : ∃ wV, wV = wr.alloc (.cells #[.slice (A k) ts.length (C k), .int .i64 zw, .bool false] 40) := ⟨_, rfl⟩
          have HV0 : Hid (wV.heap[wr.heap.size]? = some (.cells #[.slice (A k) ts.length (C k), .int .i64 zw, .bool false] 40)) := by rw [hwV]; exact heap_new _ _
          rw [← hwV] at HBV HBF
          go_upto_region 9 with fail
          rw [← hwV]
          clear hwV
          have HPV := hide (HPL.out.later HBF.out (by omega))
          obtain ⟨d0, d1⟩ := two_cells (block_on K1.out HBV.out)
          obtain ⟨e0, e1, e2⟩ := three_cells HV0.out
          obtain ⟨f0, f1, f2⟩ := sq_cells HC.out HBF.out (show b < wA.heap.size by omega) (show j < n by omega)
          have hla := HLV.out (k : Int)
          have hlb := HLV.out (j : Int)
          have HBT : Hid (betterV qs ps k j = (decide (liveN ps (k : Int) < liveN ps (j : Int)) || (decide (liveN ps (k : Int) = liveN ps (j : Int)) && decide (zw < (sqAt qs j).2.1)))) := by
            show _ = _
            unfold betterV
            rw [← HY.out]
          clear a0 a1 c0 c1 c2 f0 f2 d0 e0 e2
          go_wp2_with fail
          refine (l9Live_any al m capl ps (k : Int) wV HPV.out (by omega)).mono ?_
          rintro e w3 ⟨rfl, rfl⟩
          go_wp2_with fail
          refine (l9Live_any al m capl ps (j : Int) wV HPV.out (by omega)).mono ?_
          rintro e w3 ⟨rfl, rfl⟩
          generalize liveN ps (k : Int) = la at *
          generalize liveN ps (j : Int) = lb at *
          generalize (sqAt qs j).2.1 = zj at *
          have hjn : (j : Int) < (n : Int) := by omega
          have HBW : ∀ nq, Hid (Below wA.heap.size wA (wV.drewN nq)) := fun nq => ⟨HBF.out.os, HBF.out.tape, HBF.out.output, HBF.out.size, HBF.out.block⟩
          by_cases h1 : la < lb
          · have g2 : decide ((la : Int) < (lb : Int)) = true := by simp; omega
            have HE2 : Hid (bestV (bestK qs ps op (k + 1)) = (k : Int)) := by
              show _ = _
              rw [HE.out, HBT.out, decide_eq_true h1]
              rfl
            go_wp2_with fail
            go_quiet (fail)
            go_wp2_with fail
            go_roundw
            case rel => exact ⟨k + 1, by omega, by go_num, by rw [HE2.out], (HBW _).out⟩
            case measure => simp [intOf]; omega
          · have g2 : decide ((la : Int) < (lb : Int)) = false := by simp; omega
            by_cases h2 : la = lb
            · have g3 : ((la : Int) == (lb : Int)) = true := by simp [h2]
              by_cases h3 : zw < zj
              · have g4 : decide (zw < zj) = true := by simpa using h3
                have HE2 : Hid (bestV (bestK qs ps op (k + 1)) = (k : Int)) := by
                  show _ = _
                  rw [HE.out, HBT.out, decide_eq_true h2, g4]
                  simp [bestV]
                go_wp2_with fail
                go_quiet (fail)
                go_wp2_with fail
                go_roundw
                case rel => exact ⟨k + 1, by omega, by go_num, by rw [HE2.out], (HBW _).out⟩
                case measure => simp [intOf]; omega
              · have g4 : decide (zw < zj) = false := by simpa using h3
                have HE2 : Hid (bestV (bestK qs ps op (k + 1)) = (j : Int)) := by
                  show _ = _
                  rw [HE.out, HBT.out, decide_eq_false h1, g4]
                  simp [bestV]
                go_wp2_with fail
                go_quiet (fail)
                go_wp2_with fail
                go_roundw
                case rel => exact ⟨k + 1, by omega, by go_num, by rw [HE2.out], (HBW _).out⟩
                case measure => simp [intOf]; omega
            · have g3 : ((la : Int) == (lb : Int)) = false := by simp; omega
              have HE2 : Hid (bestV (bestK qs ps op (k + 1)) = (j : Int)) := by
                show _ = _
                rw [HE.out, HBT.out, decide_eq_false h1, decide_eq_false h2]
                simp [bestV]
              go_wp2_with fail
              go_quiet (fail)
              go_wp2_with fail
              go_roundw
              case rel => exact ⟨k + 1, by omega, by go_num, by rw [HE2.out], (HBW _).out⟩
              case measure => simp [intOf]; omega
    · obtain rfl : k = n := by omega
      have HE : Hid (victimV z qs ps op = (match bestK qs ps op k with | none => -1 | some b => if (liveN ps (b : Int) : Int) = z then -1 else (b : Int))) := by show _ = _; unfold victimV; rw [HL.out]; rfl
      have HPV := hide (HPL.out.later HBB.out (by omega))
      have HBW : ∀ nq, Hid (Below w.heap.size w (wr.drewN nq)) := fun nq => by have hh := below_here HBA.out HBB.out; exact ⟨hh.os, hh.tape, hh.output, hh.size, hh.block⟩
      cases hbk : bestK qs ps op k with
      | none =>
        rw [show bestV none = -1 from rfl]
        have HE2 : Hid (victimV z qs ps op = -1) := by show _ = _; rw [HE.out, hbk]
        clear hbk
        go_wp2_with fail
        go_quiet (fail)
        go_wp2_with fail
        go_ret
        exact ⟨by rw [HE2.out]; rfl, (HBW _).out⟩
      | some j =>
        rw [show bestV (some j) = (j : Int) from rfl]
        have gj : decide ((j : Int) ≥ 0) = true := by simp
        have HE2 : Hid (victimV z qs ps op = if (liveN ps (j : Int) : Int) = z then -1 else (j : Int)) := by show _ = _; rw [HE.out, hbk]
        have HLC : ∀ w9, Hid (Places lo' hi' w9 al m ps → Calls Try.prog 40 #[.slice al m capl, .int .i64 (j : Int)] w9 fun e w' => e = .returned (.int .i64 (liveN ps (j : Int) : Int)) ∧ w9 = w') := fun w9 h9 => l9Live_any al m capl ps (j : Int) w9 h9 (by omega)
        clear hbk
        generalize liveN ps (j : Int) = la at *
        by_cases hz : (la : Int) = z
        · have g2 : ((la : Int) == z) = true := by simpa using hz
          go_wp2_with fail
          go_quiet ((go_at_call 40; exact Calls.quiet_of_same (((HLC _).out (by exact HPV.out)).mono fun e w' hh => ⟨hh.1, hh.2.symm⟩)))
          go_wp2_with fail
          go_ret
          exact ⟨by rw [HE2.out, if_pos hz]; rfl, (HBW _).out⟩
        · have g2 : ((la : Int) == z) = false := by simpa using hz
          go_wp2_with fail
          go_quiet ((go_at_call 40; exact Calls.quiet_of_same (((HLC _).out (by exact HPV.out)).mono fun e w' hh => ⟨hh.1, hh.2.symm⟩)))
          go_wp2_with fail
          go_ret
          exact ⟨by rw [HE2.out, if_neg hz]; rfl, (HBW _).out⟩

set_option maxHeartbeats 1600000 in
theorem specVictim_any (z : Int) (a : Option Addr) (n cap : Nat) (qs : List Sq) (al : Option Addr) (m capl : Nat) (ps : List Pl) (op : Int) (w : World) {lo hi lo' hi' : Nat} (h : Squares lo hi w a n qs) (hhi : hi ≤ w.heap.size) (hn : n ≤ 1048576) (hf : ∀ x ∈ qs, sqFits x) (hp : Places lo' hi' w al m ps) (hhi' : hi' ≤ w.heap.size) (hm : m ≤ 1048576) :
    Calls Try.prog 13 #[.agg #[.int .i64 z, .slice a n cap], .slice al m capl, .int .i64 op] w fun e w' => e = .returned (.int .i64 (victim z qs ps op)) ∧ Below w.heap.size w w' := by
  obtain ⟨wA, hwA⟩ : ∃ wA, wA = w.alloc (.cells #[.int .i64 z, .slice a n cap] 26) := ⟨_, rfl⟩
  have hzA : wA.heap.size = w.heap.size + 1 := by rw [hwA]; simp
  have HBA : Hid (Below w.heap.size w wA) := by rw [hwA]; exact (Below.refl _ _).alloc (Nat.le_refl _) _
  have H1 : Hid (wA.heap[w.heap.size]? = some (.cells #[.int .i64 z, .slice a n cap] 26)) := by rw [hwA]; exact heap_new _ _
  have HSQ := hide (h.later HBA.out hhi)
  have HPL := hide (hp.later HBA.out hhi')
  have HL := hide h.1
  have HLP := hide hp.1
  have HF := hide hf
  clear h hf hp
  obtain ⟨a0, a1⟩ := two_cells H1.out
  go_enter Try.func13, Try.ntmps13
  go_upto_region 1 with fail
  rw [← hwA]
  clear hwA
  go_wp2_with fail
  refine (specMapOk_any z a n cap qs al m capl ps wA HSQ.out (by omega) hn HF.out HPL.out (by omega) hm).mono ?_
  rintro e w1 ⟨rfl, b1⟩
  have K1 := hide (block_on H1.out b1)
  have HS1 := hide (HSQ.out.later b1 (by omega))
  have HP1 := hide (HPL.out.later b1 (by omega))
  have HB1 := hide (below_here HBA.out b1)
  have hs1 := b1.size
  clear b1 H1 HSQ HPL HBA a0 a1
  obtain ⟨a0, a1⟩ := two_cells K1.out
  cases hok : mapOk z qs ps with
  | false =>
    have HE : Hid (victim z qs ps op = -1) := by show _ = _; unfold victim; rw [hok]; rfl
    go_wp2_with fail
    go_ret
    exact ⟨by rw [HE.out]; rfl, HB1.out⟩
  | true =>
    have HE : Hid (victim z qs ps op = victimV z qs ps op) := by show _ = _; unfold victim; rw [hok]; rfl
    have hn12 : n ≤ 12 := by have := (chipOk_parts (mapOk_chip hok)).2.2.2.1; rw [HL.out] at this; exact this
    have hm64 : m ≤ 64 := by have := (mapOk_len hok).2; rw [HLP.out] at this; exact this
    go_wp2_with fail
    refine (l9Victim_any z a n cap qs al m capl ps op w1 HS1.out (by omega) hn12 HF.out HP1.out (by omega) hm64).mono ?_
    rintro e w2 ⟨rfl, b2⟩
    have HB2 := hide (below_here HB1.out b2)
    clear b2
    go_wp2_with fail
    go_ret
    exact ⟨by rw [HE.out]; rfl, HB2.out⟩
end Go.Proofs.Ytocinobbocjikaa
end

section
namespace Go.Proofs.Ytocinobbocjikaa
open Go.RowKit
set_option linter.unusedVariables false
set_option maxRecDepth 20000

set_option maxHeartbeats 800000 in
theorem placesIn_any (a : Option Addr) (n cap : Nat) (ps : List Pl) (s : Int) (w : World) {lo hi : Nat} (h : Places lo hi w a n ps) (hn : n ≤ 1048576) :
    Calls Try.prog 26 #[.slice a n cap, .int .i64 s] w fun e w' => e = .returned (.int .i64 (liveN ps s : Int)) ∧ Below w.heap.size w w' := by
  obtain ⟨hl, hx⟩ := h
  have HL := hide hl
  have HX := hide hx
  have hsz := hx.1
  clear hl hx
  go_enter Try.func26, Try.ntmps26
  go_wp2_with fail
  go_loopw [5, 10] (fun t i wr => ∃ k : Nat, k ≤ n ∧ i = .int .i64 (k : Int) ∧ t = .int .i64 (liveN (ps.take k) s : Int) ∧ Below w.heap.size w wr) (fun _ i _ => n - (intOf i).toNat)
  case atStart => exact ⟨0, Nat.zero_le _, rfl, by simp [liveN], Below.refl _ _⟩
  case round =>
    obtain ⟨k, hk, rfl, rfl, hbel⟩ := hrel
    have HBB := hide hbel
    by_cases hlt : k < n
    · obtain ⟨b, off, rfl, _, hb, hc⟩ := HX.out.2 (by omega)
      obtain ⟨c0, c1⟩ := pl_cells hc hbel (show b < w.heap.size by omega) hlt
      have HS := hide (liveN_step (show k < ps.length by rw [HL.out]; exact hlt) s)
      have hle := liveN_le (ps.take k) s
      have hle2 : liveN (ps.take k) s ≤ 1048576 := by rw [List.length_take] at hle; omega
      have HBA : Hid (∀ o, Below w.heap.size w (wr.alloc o)) := fun o => hbel.alloc hbel.size o
      clear hc hle hbel
      generalize liveN (ps.take k) s = q at *
      by_cases he : (plAt ps k).1 = s
      · have g : ((plAt ps k).1 == s) = true := by simpa using he
        have HE : Hid (liveN (ps.take (k + 1)) s = q + 1) := by show _ = _; rw [HS.out, g]; rfl
        generalize plAt ps k = v at *
        obtain ⟨v0, v1⟩ := v
        dsimp only at c0 c1 he
        subst he
        go_wp2_with fail
        exact ⟨⟨k + 1, by omega, by go_num, by rw [HE.out]; go_num, HBA.out _⟩, by simp [intOf]; omega⟩
      · have g : ((plAt ps k).1 == s) = false := by simpa using he
        have HE : Hid (liveN (ps.take (k + 1)) s = q) := by show _ = _; rw [HS.out, g]; rfl
        generalize plAt ps k = v at *
        obtain ⟨v0, v1⟩ := v
        dsimp only at c0 c1 he
        go_wp2_with fail
        exact ⟨⟨k + 1, by omega, by go_num, by rw [HE.out], HBA.out _⟩, by simp [intOf]; omega⟩
    · have HE : Hid (liveN (ps.take k) s = liveN ps s) := by show _ = _; rw [List.take_of_length_le (by rw [HL.out]; omega)]
      generalize liveN (ps.take k) s = q at *
      go_wp2_with fail
      go_ret
      exact ⟨by rw [← HE.out]; rfl, HBB.out⟩

set_option maxHeartbeats 400000 in
theorem isNone_any (p q : Int) (w : World) :
    Calls Try.prog 41 #[.agg #[.int .i64 p, .int .i64 q]] w fun e w' => e = .returned (.bool ((p == -1) && (q == 0))) ∧ Below w.heap.size w w' := by
  obtain ⟨wA, hwA⟩ : ∃ wA, wA = w.alloc (.cells #[.int .i64 p, .int .i64 q] 66) := ⟨_, rfl⟩
  have HBA : Hid (Below w.heap.size w wA) := by rw [hwA]; exact (Below.refl _ _).alloc (Nat.le_refl _) _
  have q1 := Try.eqPl p q (-1) 0
  have q2 := Try.guardPl
  go_enter Try.func41, Try.ntmps41
  go_wp2_with fail
  rw [← hwA]
  go_ret
  exact ⟨rfl, HBA.out⟩

/-- Is it none of the first n? -/
def noneOf (ps : List Pl) (n : Nat) (v : Pl) : Bool := (List.range n).all (fun j => plAt ps j != v)

set_option maxHeartbeats 1600000 in
theorem indexPl_any (a : Option Addr) (n cap : Nat) (ps : List Pl) (p q : Int) (w : World) {lo hi : Nat} (h : Places lo hi w a n ps) (hn : n ≤ 1048576) :
    Calls Try.prog 62 #[.slice a n cap, .agg #[.int .i64 p, .int .i64 q]] w fun e w' => ∃ r : Int, e = .returned (.int .i64 r) ∧ decide (r ≥ 0) = !(noneOf ps n (p, q)) ∧ Below w.heap.size w w' := by
  obtain ⟨wA, hwA⟩ : ∃ wA, wA = w.alloc (.cells #[.int .i64 p, .int .i64 q] 66) := ⟨_, rfl⟩
  have hzA : wA.heap.size = w.heap.size + 1 := by rw [hwA]; simp
  have HBA : Hid (Below w.heap.size w wA) := by rw [hwA]; exact (Below.refl _ _).alloc (Nat.le_refl _) _
  have H1 : Hid (wA.heap[w.heap.size]? = some (.cells #[.int .i64 p, .int .i64 q] 66)) := by rw [hwA]; exact heap_new _ _
  obtain ⟨hl, hx⟩ := h
  have HL := hide hl
  have HX := hide hx
  have hsz := hx.1
  have q2 := Try.guardPl
  clear hl hx
  go_enter Try.func62, Try.ntmps62
  go_wp2_with fail
  rw [← hwA]
  clear hwA
  go_loopw [5, 8] (fun _ i wr => ∃ k : Nat, k ≤ n ∧ i = .int .i64 (k : Int) ∧ noneOf ps k (p, q) = true ∧ Below wA.heap.size wA wr) (fun _ i _ => n - (intOf i).toNat)
  case atStart => exact ⟨0, Nat.zero_le _, rfl, rfl, Below.refl _ _⟩
  case round =>
    obtain ⟨k, hk, rfl, hal, hbel⟩ := hrel
    have HAL := hide hal
    have HBB := hide hbel
    obtain ⟨d0, d1⟩ := two_cells (block_on H1.out hbel)
    clear hal
    by_cases hlt : k < n
    · obtain ⟨b, off, rfl, _, hb, hc⟩ := HX.out.2 (by omega)
      obtain ⟨c0, c1⟩ := pl_cells hc (HBA.out.trans (hbel.mono (by omega))) (show b < w.heap.size by omega) hlt
      have HF : Hid ((plAt ps k == (p, q)) = true → noneOf ps n (p, q) = false) := fun hh => all_range_fall hlt (by simp only [bne, hh]; rfl)
      have HS : Hid ((plAt ps k == (p, q)) = false → noneOf ps (k + 1) (p, q) = true) := fun hh => all_range_step HAL.out (by simp only [bne, hh]; rfl)
      rw [pl_eq] at HF HS
      have hlt2 : (k : Int) < (n : Int) := by omega
      clear hc hbel
      generalize plAt ps k = y at *
      obtain ⟨r, t⟩ := y
      dsimp only at c0 c1 HF HS
      have q1 := Try.eqPl p q r t
      cases heq : ((p == r) && (q == t)) with
      | true =>
        have HNO := hide (HF.out (by simp only [Bool.and_eq_true, beq_iff_eq] at heq ⊢; exact ⟨heq.1.symm, heq.2.symm⟩))
        rw [heq] at q1
        go_wp2_with fail
        go_quiet (fail)
        go_wp2_with fail
        go_ret
        exact ⟨_, rfl, by rw [HNO.out]; simp, by have hh := below_here HBA.out HBB.out; exact ⟨hh.os, hh.tape, hh.output, hh.size, hh.block⟩⟩
      | false =>
        have HOK := hide (HS.out (by
          cases hh : ((r == p) && (t == q)) with
          | false => rfl
          | true =>
            simp only [Bool.and_eq_true, beq_iff_eq] at hh
            rw [hh.1, hh.2] at heq
            simp at heq))
        rw [heq] at q1
        go_wp2_with fail
        go_quiet (fail)
        go_wp2_with fail
        go_roundw
        case rel => exact ⟨k + 1, by omega, by go_num, HOK.out, ⟨HBB.out.os, HBB.out.tape, HBB.out.output, HBB.out.size, HBB.out.block⟩⟩
        case measure => simp [intOf]; omega
    · obtain rfl : k = n := by omega
      go_wp2_with fail
      go_ret
      exact ⟨_, rfl, by rw [HAL.out]; rfl, below_here HBA.out HBB.out⟩

set_option maxHeartbeats 800000 in
theorem containsPl_any (a : Option Addr) (n cap : Nat) (ps : List Pl) (p q : Int) (w : World) {lo hi : Nat} (h : Places lo hi w a n ps) (hhi : hi ≤ w.heap.size) (hn : n ≤ 1048576) :
    Calls Try.prog 43 #[.slice a n cap, .agg #[.int .i64 p, .int .i64 q]] w fun e w' => e = .returned (.bool (!(noneOf ps n (p, q)))) ∧ Below w.heap.size w w' := by
  obtain ⟨wA, hwA⟩ : ∃ wA, wA = w.alloc (.cells #[.int .i64 p, .int .i64 q] 66) := ⟨_, rfl⟩
  have hzA : wA.heap.size = w.heap.size + 1 := by rw [hwA]; simp
  have HBA : Hid (Below w.heap.size w wA) := by rw [hwA]; exact (Below.refl _ _).alloc (Nat.le_refl _) _
  have HP := hide (h.later HBA.out hhi)
  clear h
  go_enter Try.func43, Try.ntmps43
  go_wp2_with fail
  rw [← hwA]
  clear hwA
  refine (indexPl_any a n cap ps p q wA HP.out hn).mono ?_
  rintro e w1 ⟨r, rfl, hr, b1⟩
  have HR := hide hr
  have HB1 := hide (below_here HBA.out b1)
  clear hr b1
  go_wp2_with fail
  go_ret
  exact ⟨ret_bool HR.out, HB1.out⟩
end Go.Proofs.Ytocinobbocjikaa
end

