/- Several texts in one: LogSpecA, LogSpecB. -/
import Derived.Test.YtckkcimkfhhacaaLLogMath
import Derived.Test.YtckkcimkfhhacaaLBase
import Derived.Test.YtckkcimkfhhacaaLChipOwn2
import Derived.Lib.QuietBelow
import Derived.BigQuiet
import Derived.Deep.Cut
section
namespace Go.Proofs.Ytckkcimkfhhacaa
open Go.RowKit
set_option linter.unusedVariables false
set_option linter.unusedSimpArgs false
set_option maxRecDepth 20000

set_option maxHeartbeats 800000 in
theorem l14Put_any (s a : Int) (x : ByteArray) (w : World) (hx : x.size ≤ maxLen) :
    Calls Try.prog 39 #[.agg #[.int .i64 s, .int .i64 a, .string x]] w fun r w' => r = .returned (.bool (putOk (s, a, x))) ∧ Below w.heap.size w w' := by
  have HB0 : Hid (Below w.heap.size w (w.alloc (.cells #[.int .i64 s, .int .i64 a, .string x] 38))) := (Below.refl _ _).alloc (Nat.le_refl _) _
  unfold putOk
  go_enter Try.func39, Try.ntmps39
  go_wp2_with fail
  refine (l1In_any _ _ _ _).mono ?_
  rintro r w1 ⟨rfl, rfl⟩
  cases h1 : inB s 1 1000000
  · go_wp2_with fail
    go_ret
    exact ⟨by simp [h1], HB0.out⟩
  · go_wp2_with fail
    refine (l1In_any _ _ _ _).mono ?_
    rintro r w1 ⟨rfl, rfl⟩
    cases h2 : inB a 0 63
    · go_wp2_with fail
      go_ret
      exact ⟨by simp [h1, h2], HB0.out⟩
    · go_wp2_with fail
      go_ret
      exact ⟨by simp [h1, h2] <;> omega, HB0.out⟩

theorem jb_fit {js : List Jb} {k : Nat} (h : ∀ x ∈ js, jbFits x) (hk : k < js.length) : jbFits (jbAt js k) := by
  unfold jbAt
  rw [List.getD_eq_getElem?_getD, List.getElem?_eq_getElem hk]
  exact h _ (List.getElem_mem hk)
theorem two_boxed {W : World} {b : Nat} {c0 c1 : Value} {t : TypeId} {fr : Nat × Nat} (h : W.heap[b]? = some (.cells #[c0, c1] t fr)) : W.cell? ⟨b, 0, none⟩ = some c0 ∧ W.cell? ⟨b, 1, none⟩ = some c1 := by
  simp [World.cell?, h]
theorem putsOk_no {ps : List Jb} {k : Nat} (h : putsOk ps k = false) : ∀ d, putsOk ps (k + d) = false
  | 0 => h
  | d + 1 => by
    show putsOk ps ((k + d) + 1) = false
    unfold putsOk
    rw [putsOk_no h d]; rfl
end Go.Proofs.Ytckkcimkfhhacaa
end

section
namespace Go.Proofs.Ytckkcimkfhhacaa
open Go.RowKit
set_option linter.unusedVariables false
set_option linter.unusedSimpArgs false
set_option maxRecDepth 20000

set_option maxHeartbeats 3200000 in
theorem specLogOk_any (rm : Int) (a : Option Addr) (n cap : Nat) (ps : List Jb) (w : World) {lo hi : Nat} (h : Jobs lo hi w a n ps) (hhi : hi ≤ w.heap.size) (hn : n ≤ 1048576) (hf : ∀ x ∈ ps, jbFits x) :
    Calls Try.prog 10 #[.agg #[.int .i64 rm, .slice a n cap]] w fun r w' => r = .returned (.bool (logOk rm ps)) ∧ Below w.heap.size w w' := by
  obtain ⟨wA, hwA⟩ : ∃ wA, wA = w.alloc (.cells #[.int .i64 rm, .slice a n cap] 29) := ⟨_, rfl⟩
  have HBA : Hid (Below w.heap.size w wA) := by rw [hwA]; exact (Below.refl _ _).alloc (Nat.le_refl _) _
  have H0 : Hid (wA.heap[w.heap.size]? = some (.cells #[.int .i64 rm, .slice a n cap] 29)) := by rw [hwA]; exact heap_new _ _
  have hzA : wA.heap.size = w.heap.size + 1 := by rw [hwA]; simp
  have HH := hide h
  have HL := hide h.1
  have HF := hide hf
  clear h hf
  obtain ⟨c0, c1⟩ := two_boxed H0.out
  go_enter Try.func10, Try.ntmps10
  go_upto_region 1 with fail
  rw [← hwA]
  clear hwA
  go_wp2_with fail
  refine (l1In_any _ _ _ _).mono ?_
  rintro r w1 ⟨rfl, rfl⟩
  cases h1 : inB rm 1 20
  · have HE : Hid (logOk rm ps = false) := by show _ = _; unfold logOk; rw [h1]; rfl
    go_wp2_with fail
    go_ret
    exact ⟨by rw [HE.out]; rfl, HBA.out⟩
  · by_cases h2 : (n : Int) ≤ rm
    · have h2b : ¬ rm < (n : Int) := by omega
      have HE : Hid (logOk rm ps = putsOk ps n) := by show _ = _; unfold logOk; rw [h1, HL.out, decide_eq_true h2]; rfl
      have HZA := hide hzA
      clear hzA
      go_wp2_with fail
      clear c0 c1
      go_loopw [3] (fun i wr => ∃ k : Nat, k ≤ n ∧ i = .int .i64 (k : Int) ∧ putsOk ps k = true ∧ Below wA.heap.size wA wr) (fun i _ => n - (intOf i).toNat)
      case atStart => exact ⟨0, Nat.zero_le _, rfl, rfl, Below.refl _ _⟩
      case round =>
        obtain ⟨k, hk, rfl, hpk, hbl⟩ := hrel
        have HPK := hide hpk
        have HBL := hide hbl
        have HBW := hide (below_here HBA.out hbl)
        obtain ⟨c0, c1⟩ := two_boxed (block_on H0.out hbl)
        clear hpk hbl
        by_cases hlt : k < n
        · obtain ⟨b, off, rfl, hb1, hb2, hcc⟩ := HH.out.2.2 (by omega)
          obtain ⟨x0, x1, x2⟩ := job_cells hcc HBW.out (show b < w.heap.size by omega) hlt
          have hkn : (k : Int) < (n : Int) := by omega
          have HNX : Hid (putsOk ps (k + 1) = (putOk (jbAt ps k) && (decide (k = 0) || decide ((jbAt ps k).1 = (jbAt ps (k - 1)).1 + 1)))) := by show _ = _; unfold putsOk; rw [HPK.out]; rfl
          have HNO : Hid (putsOk ps (k + 1) = false → putsOk ps n = false) := fun h => by
            have := putsOk_no h (n - (k + 1))
            rwa [show k + 1 + (n - (k + 1)) = n by omega] at this
          have hfx : (jbAt ps k).2.2.size ≤ maxLen := (jb_fit HF.out (by rw [HL.out]; exact hlt)).2.2
          generalize jbAt ps k = y at *
          obtain ⟨ya, yb, yt⟩ := y
          dsimp only at x0 x1 x2 HNX hfx
          have q0 := fun d os => cell_regrown c1 d os
          have q1 := fun d os => cell_regrown x0 d os
          have q2 := fun d os => cell_regrown x1 d os
          have q3 := fun d os => cell_regrown x2 d os
          cases hpo : putOk (ya, yb, yt)
          · have HNF : Hid (putsOk ps (k + 1) = false) := by show _ = _; rw [HNX.out, hpo]; rfl
            have cP : ∀ d os, Calls Try.prog 39 #[.agg #[.int .i64 ya, .int .i64 yb, .string yt]] (Go.Sort.grow (redrawn wr d) os) fun e w'' => e = .returned (.bool false) ∧ ∃ p : Regrown, w'' = Go.Sort.grow (redrawn wr p.d) p.os := fun d os => Calls.regrown_of ((l14Put_any ya yb yt _ hfx).mono fun e w' hh => by rw [hpo] at hh; exact hh)
            go_upto_region 6 with fail
            refine wp_region_quiet_below (by kernel_rfl) (by kernel_rfl) ?_
            repeat (go_big_quiet_step ((go_at_call 39; exact cP _ _)))
            refine wpQuiet_nil ?_
            intro _ hw'
            obtain ⟨⟨dq, osq⟩, hw''⟩ := hw'
            subst hw''
            have HBQ := hide (below_here HBL.out (below_regrown wr dq osq))
            have HBZ := hide (below_here HBW.out (below_regrown wr dq osq))
            clear cP q0 q1 q2 q3
            generalize Go.Sort.grow (redrawn wr dq) osq = wq at *
            go_wp2_with fail
            go_ret
            exact ⟨by rw [HE.out, HNO.out HNF.out]; rfl, HBZ.out⟩
          · rcases Nat.eq_zero_or_pos k with rfl | hkp
            · have HNT : Hid (putsOk ps (0 + 1) = true) := by show _ = _; rw [HNX.out, hpo]; rfl
              simp only [show ((0 : Nat) : Int) = 0 from rfl, Nat.zero_mul, Nat.add_zero] at *
              have cP : ∀ d os, Calls Try.prog 39 #[.agg #[.int .i64 ya, .int .i64 yb, .string yt]] (Go.Sort.grow (redrawn wr d) os) fun e w'' => e = .returned (.bool true) ∧ ∃ p : Regrown, w'' = Go.Sort.grow (redrawn wr p.d) p.os := fun d os => Calls.regrown_of ((l14Put_any ya yb yt _ hfx).mono fun e w' hh => by rw [hpo] at hh; exact hh)
              go_upto_region 6 with fail
              refine wp_region_quiet_below (by kernel_rfl) (by kernel_rfl) ?_
              repeat (go_big_quiet_step ((go_at_call 39; exact cP _ _)))
              refine wpQuiet_nil ?_
              intro _ hw'
              obtain ⟨⟨dq, osq⟩, hw''⟩ := hw'
              subst hw''
              have HBQ := hide (below_here HBL.out (below_regrown wr dq osq))
              have HBZ := hide (below_here HBW.out (below_regrown wr dq osq))
              clear cP q0 q1 q2 q3
              generalize Go.Sort.grow (redrawn wr dq) osq = wq at *
              go_wp2_with fail
              go_roundw
              case rel => exact ⟨1, by omega, by go_num, HNT.out, HBQ.out⟩
              case measure => simp [intOf]; omega
            · obtain ⟨j, hkj⟩ : ∃ j, k = j + 1 := ⟨k - 1, by omega⟩
              obtain ⟨z0, z1, z2⟩ := job_cells hcc HBW.out (show b < w.heap.size by omega) (show j < n by omega)
              have hpj : putOk (jbAt ps j) = true := by
                have := HPK.out
                rw [hkj] at this
                unfold putsOk at this
                simp only [Bool.and_eq_true] at this
                exact this.2.1
              rw [show k - 1 = j by omega] at HNX
              have HK0 : Hid (decide (k = 0) = false) := decide_eq_false (by omega)
              rw [HK0.out] at HNX
              generalize jbAt ps j = u at *
              obtain ⟨ua, ub, ut⟩ := u
              dsimp only at z0 HNX
              have hub : 1 ≤ ua ∧ ua ≤ 1000000 := by
                unfold putOk inB at hpj
                simp at hpj
                omega
              have hwj : IntKind.i64.wrap ((k : Int) - 1) = (j : Int) := by rw [IntKind.wrap_i64]; omega
              have hwu : IntKind.i64.wrap (ua + 1) = ua + 1 := by rw [IntKind.wrap_i64]; omega
              have hk0 : (0 : Int) < (k : Int) := by omega
              have hj0 : (0 : Int) ≤ (j : Int) := by omega
              have hjn : (j : Int) < (n : Int) := by omega
              have HKJ := hide hkj
              clear hkj
              have q4 := fun d os => cell_regrown z0 d os
              by_cases hse : ya = ua + 1
              · have HNT : Hid (putsOk ps (k + 1) = true) := by show _ = _; rw [HNX.out, hpo, decide_eq_true hse]; simp
                have hsb : (ya != ua + 1) = false := by simp [hse]
                clear hse hpj
                have cP : ∀ d os, Calls Try.prog 39 #[.agg #[.int .i64 ya, .int .i64 yb, .string yt]] (Go.Sort.grow (redrawn wr d) os) fun e w'' => e = .returned (.bool true) ∧ ∃ p : Regrown, w'' = Go.Sort.grow (redrawn wr p.d) p.os := fun d os => Calls.regrown_of ((l14Put_any ya yb yt _ hfx).mono fun e w' hh => by rw [hpo] at hh; exact hh)
                go_upto_region 6 with fail
                refine wp_region_quiet_below (by kernel_rfl) (by kernel_rfl) ?_
                repeat (go_big_quiet_step ((go_at_call 39; exact cP _ _)))
                refine wpQuiet_nil ?_
                intro _ hw'
                obtain ⟨⟨dq, osq⟩, hw''⟩ := hw'
                subst hw''
                have HBQ := hide (below_here HBL.out (below_regrown wr dq osq))
                have HBZ := hide (below_here HBW.out (below_regrown wr dq osq))
                clear cP q0 q1 q2 q3 q4
                generalize Go.Sort.grow (redrawn wr dq) osq = wq at *
                go_wp2_with fail
                go_roundw
                case rel => exact ⟨k + 1, by omega, by go_num, HNT.out, HBQ.out⟩
                case measure => simp [intOf]; omega
              · have HNF : Hid (putsOk ps (k + 1) = false) := by show _ = _; rw [HNX.out, hpo, decide_eq_false hse]; simp
                have hsb : (ya != ua + 1) = true := by simp [hse]
                clear hse hpj
                have cP : ∀ d os, Calls Try.prog 39 #[.agg #[.int .i64 ya, .int .i64 yb, .string yt]] (Go.Sort.grow (redrawn wr d) os) fun e w'' => e = .returned (.bool true) ∧ ∃ p : Regrown, w'' = Go.Sort.grow (redrawn wr p.d) p.os := fun d os => Calls.regrown_of ((l14Put_any ya yb yt _ hfx).mono fun e w' hh => by rw [hpo] at hh; exact hh)
                go_upto_region 6 with fail
                refine wp_region_quiet_below (by kernel_rfl) (by kernel_rfl) ?_
                repeat (go_big_quiet_step ((go_at_call 39; exact cP _ _)))
                refine wpQuiet_nil ?_
                intro _ hw'
                obtain ⟨⟨dq, osq⟩, hw''⟩ := hw'
                subst hw''
                have HBQ := hide (below_here HBL.out (below_regrown wr dq osq))
                have HBZ := hide (below_here HBW.out (below_regrown wr dq osq))
                clear cP q0 q1 q2 q3 q4
                generalize Go.Sort.grow (redrawn wr dq) osq = wq at *
                go_wp2_with fail
                go_ret
                exact ⟨by rw [HE.out, HNO.out HNF.out]; rfl, HBZ.out⟩
        · obtain rfl : k = n := by omega
          go_wp2_with fail
          go_ret
          exact ⟨by rw [HE.out, HPK.out]; rfl, HBW.out⟩
    · have h2b : rm < (n : Int) := by omega
      have HE : Hid (logOk rm ps = false) := by show _ = _; unfold logOk; rw [h1, HL.out, decide_eq_false h2]; rfl
      go_wp2_with fail
      go_ret
      exact ⟨by rw [HE.out]; rfl, HBA.out⟩
end Go.Proofs.Ytckkcimkfhhacaa
end

