/- The model's Added. -/
import Derived.Test.YtckkcimkfhhacaaLLogSpecA
import Derived.Test.YtckkcimkfhhacaaLPutApp
import Derived.Deep.RegionHeld3
import Derived.Deep.DeepCutAuto
import Derived.Deep.RegionLaw
namespace Go.Proofs.Ytckkcimkfhhacaa
open Go.RowKit
set_option linter.unusedVariables false
set_option linter.unusedSimpArgs false
set_option maxRecDepth 20000

set_option maxHeartbeats 6400000 in
theorem specAdded_any (rm : Int) (a : Option Addr) (n cap : Nat) (ps : List Jb) (s t : Int) (x : ByteArray) (w : World) {lo hi : Nat} (h : Jobs lo hi w a n ps) (hhi : hi ≤ w.heap.size) (hn : n ≤ 1048576) (hf : ∀ y ∈ ps, jbFits y) (hx : x.size ≤ maxLen) :
    Calls Try.prog 15 #[.agg #[.int .i64 rm, .slice a n cap], .agg #[.int .i64 s, .int .i64 t, .string x]] w fun r w' => ∃ a' c', r = .returned (.tuple #[.agg #[.int .i64 (addR rm ps (s, t, x)).1, .slice a' (addR rm ps (s, t, x)).2.length c'], .bool (mayAdd rm ps (s, t, x))]) ∧ OwnJobs w.heap.size w'.heap.size w' a' (addR rm ps (s, t, x)).2.length (addR rm ps (s, t, x)).2 ∧ Below w.heap.size w w' := by
  obtain ⟨wA, hwA⟩ : ∃ wA, wA = ((w.alloc (.cells #[.int .i64 rm, .slice a n cap] 29)).alloc (.cells #[.int .i64 s, .int .i64 t, .string x] 38)).alloc (.cells #[.int .i64 0, .slice none 0 0] 29) := ⟨_, rfl⟩
  have hzA : wA.heap.size = w.heap.size + 1 + 1 + 1 := by rw [hwA]; simp
  have HBA : Hid (Below w.heap.size w wA) := by rw [hwA]; exact ((((Below.refl _ _).alloc (Nat.le_refl _) _).alloc (by simp) _).alloc (by simp; omega) _)
  have H0 : Hid (wA.heap[w.heap.size]? = some (.cells #[.int .i64 rm, .slice a n cap] 29)) := by rw [hwA]; exact heap_old (heap_old (heap_new _ _))
  have H1 : Hid (wA.heap[w.heap.size + 1]? = some (.cells #[.int .i64 s, .int .i64 t, .string x] 38)) := by rw [hwA]; exact heap_old (heap_at (by simp))
  have H2 : Hid (wA.heap[w.heap.size + 1 + 1]? = some (.cells #[.int .i64 0, .slice none 0 0] 29)) := by rw [hwA]; exact heap_at (by simp)
  have HSA := hide (jl_later h HBA.out hhi)
  have HL := hide h.1
  have HF := hide hf
  have HCL : ∀ W, Hid (Below wA.heap.size wA W → Calls Try.prog 10 #[.agg #[.int .i64 rm, .slice a n cap]] W fun r w' => r = .returned (.bool (logOk rm ps)) ∧ Below W.heap.size W w') := fun W hb => specLogOk_any rm a n cap ps W (jl_later HSA.out hb (by omega)) (by have := hb.size; omega) hn HF.out
  clear h hf
  obtain ⟨c0, c1⟩ := two_cells H0.out
  obtain ⟨p0, p1, p2⟩ := three_cells H1.out
  go_enter Try.func15, Try.ntmps15
  go_upto_region 1 with fail
  rw [← hwA]
  clear hwA
  have HYES : Hid (logOk rm ps = true → mayAdd rm ps (s, t, x) = true → ∀ wq, Below wA.heap.size wA wq → True) := fun _ _ _ _ => trivial
  cases hl : logOk rm ps
  · have HN : Hid (mayAdd rm ps (s, t, x) = false) := by show _ = _; unfold mayAdd; rw [hl]; rfl
    have q0 := fun d os => cell_regrown c0 d os
    have q1 := fun d os => cell_regrown c1 d os
    have q2 := fun d os => cell_regrown p0 d os
    have q3 := fun d os => cell_regrown p1 d os
    have q4 := fun d os => cell_regrown p2 d os
    have hCL : ∀ W, Hid (Below wA.heap.size wA W → Calls Try.prog 10 #[.agg #[.int .i64 rm, .slice a n cap]] W fun r w' => r = .returned (.bool false) ∧ Below W.heap.size W w') := fun W hb => by have := (HCL W).out hb; rw [hl] at this; exact this
    have cL : ∀ d os, Calls Try.prog 10 #[.agg #[.int .i64 rm, .slice a n cap]] (Go.Sort.grow (redrawn wA d) os) fun e w'' => e = .returned (.bool false) ∧ ∃ p : Regrown, w'' = Go.Sort.grow (redrawn wA p.d) p.os := fun d os => Calls.regrown_of ((hCL _).out (below_regrown wA d os))
    go_upto_region 2 with fail
    refine wp_region_quiet_below (by kernel_rfl) (by kernel_rfl) ?_
    repeat (go_big_quiet_step (first | (go_at_call 10; exact cL _ _)))
    refine wpQuiet_nil ?_
    intro _ hw'
    obtain ⟨⟨dq, osq⟩, hw''⟩ := hw'
    subst hw''
    have HBQ := hide (below_regrown wA dq osq)
    clear q0 q1 q2 q3 q4 c0 c1 p0 p1 p2 cL hCL
    generalize Go.Sort.grow (redrawn wA dq) osq = wq at *
    have K2 := hide (block_on H2.out HBQ.out)
    obtain ⟨r0, r1⟩ := two_cells K2.out
    have f0 := four_frozen K2.out 0
    have f1 := four_frozen K2.out 1
    have HRS := hide (two_set K2.out (.int .i64 0) (.slice none 0 0))
    have HAS := hide (two_aside (b := w.heap.size + 1 + 1) (Aside.refl (w.heap.size + 1 + 1) (w.heap.size + 1 + 1 + 1) wq) (Nat.le_refl _) (Nat.lt_succ_self _) (.int .i64 0) (.slice none 0 0))
    have HB1 := hide (below_here HBA.out HBQ.out)
    have HBF := hide (HB1.out.trans (HAS.out.below (B := w.heap.size) (by omega) HB1.out.size))
    go_wp2_with fail
    refine bodyPost_ret (results_ct rfl rfl (run_loadVar_row _ _ _ _ _ _ _ HRS.out Try.underlying29 rfl (by kernel_rfl))) rfl ⟨none, 0, ?_, ?_, HBF.out⟩
    · rw [HN.out, addR_no HN.out]; rfl
    · rw [addR_no HN.out]; exact oj_none
  · cases hp : putOk (s, t, x)
    · have HN : Hid (mayAdd rm ps (s, t, x) = false) := by show _ = _; unfold mayAdd; rw [hl, hp]; rfl
      have q0 := fun d os => cell_regrown c0 d os
      have q1 := fun d os => cell_regrown c1 d os
      have q2 := fun d os => cell_regrown p0 d os
      have q3 := fun d os => cell_regrown p1 d os
      have q4 := fun d os => cell_regrown p2 d os
      have hCL : ∀ W, Hid (Below wA.heap.size wA W → Calls Try.prog 10 #[.agg #[.int .i64 rm, .slice a n cap]] W fun r w' => r = .returned (.bool true) ∧ Below W.heap.size W w') := fun W hb => by have := (HCL W).out hb; rw [hl] at this; exact this
      have cL : ∀ d os, Calls Try.prog 10 #[.agg #[.int .i64 rm, .slice a n cap]] (Go.Sort.grow (redrawn wA d) os) fun e w'' => e = .returned (.bool true) ∧ ∃ p : Regrown, w'' = Go.Sort.grow (redrawn wA p.d) p.os := fun d os => Calls.regrown_of ((hCL _).out (below_regrown wA d os))
      have hCP : ∀ W, Hid (Below wA.heap.size wA W → Calls Try.prog 39 #[.agg #[.int .i64 s, .int .i64 t, .string x]] W fun r w' => r = .returned (.bool false) ∧ Below W.heap.size W w') := fun W hb => by have := l14Put_any s t x W hx; rw [hp] at this; exact this
      have cP : ∀ d os, Calls Try.prog 39 #[.agg #[.int .i64 s, .int .i64 t, .string x]] (Go.Sort.grow (redrawn wA d) os) fun e w'' => e = .returned (.bool false) ∧ ∃ p : Regrown, w'' = Go.Sort.grow (redrawn wA p.d) p.os := fun d os => Calls.regrown_of ((hCP _).out (below_regrown wA d os))
      go_upto_region 2 with fail
      refine wp_region_quiet_below (by kernel_rfl) (by kernel_rfl) ?_
      repeat (go_big_quiet_step (first | (go_at_call 10; exact cL _ _) | (go_at_call 39; exact cP _ _)))
      refine wpQuiet_nil ?_
      intro _ hw'
      obtain ⟨⟨dq, osq⟩, hw''⟩ := hw'
      subst hw''
      have HBQ := hide (below_regrown wA dq osq)
      clear q0 q1 q2 q3 q4 c0 c1 p0 p1 p2 cL hCL cP hCP
      generalize Go.Sort.grow (redrawn wA dq) osq = wq at *
      have K2 := hide (block_on H2.out HBQ.out)
      obtain ⟨r0, r1⟩ := two_cells K2.out
      have f0 := four_frozen K2.out 0
      have f1 := four_frozen K2.out 1
      have HRS := hide (two_set K2.out (.int .i64 0) (.slice none 0 0))
      have HAS := hide (two_aside (b := w.heap.size + 1 + 1) (Aside.refl (w.heap.size + 1 + 1) (w.heap.size + 1 + 1 + 1) wq) (Nat.le_refl _) (Nat.lt_succ_self _) (.int .i64 0) (.slice none 0 0))
      have HB1 := hide (below_here HBA.out HBQ.out)
      have HBF := hide (HB1.out.trans (HAS.out.below (B := w.heap.size) (by omega) HB1.out.size))
      go_wp2_with fail
      refine bodyPost_ret (results_ct rfl rfl (run_loadVar_row _ _ _ _ _ _ _ HRS.out Try.underlying29 rfl (by kernel_rfl))) rfl ⟨none, 0, ?_, ?_, HBF.out⟩
      · rw [HN.out, addR_no HN.out]; rfl
      · rw [addR_no HN.out]; exact oj_none
    · have hlen := logOk_len hl
      rw [HL.out] at hlen
      have hn20 : n ≤ 20 := by omega
      have HLEN := hide hlen
      clear hlen
      rcases Nat.eq_zero_or_pos n with h0 | h0
      · subst h0
        have HN : Hid (mayAdd rm ps (s, t, x) = true) := by show _ = _; unfold mayAdd; rw [hl, hp, HL.out]; rfl
        simp only [show ((0 : Nat) : Int) = 0 from rfl] at *
        have q0 := fun d os => cell_regrown c0 d os
        have q1 := fun d os => cell_regrown c1 d os
        have q2 := fun d os => cell_regrown p0 d os
        have q3 := fun d os => cell_regrown p1 d os
        have q4 := fun d os => cell_regrown p2 d os
        have hCL : ∀ W, Hid (Below wA.heap.size wA W → Calls Try.prog 10 #[.agg #[.int .i64 rm, .slice a 0 cap]] W fun r w' => r = .returned (.bool true) ∧ Below W.heap.size W w') := fun W hb => by have := (HCL W).out hb; rw [hl] at this; exact this
        have cL : ∀ d os, Calls Try.prog 10 #[.agg #[.int .i64 rm, .slice a 0 cap]] (Go.Sort.grow (redrawn wA d) os) fun e w'' => e = .returned (.bool true) ∧ ∃ p : Regrown, w'' = Go.Sort.grow (redrawn wA p.d) p.os := fun d os => Calls.regrown_of ((hCL _).out (below_regrown wA d os))
        have hCP : ∀ W, Hid (Below wA.heap.size wA W → Calls Try.prog 39 #[.agg #[.int .i64 s, .int .i64 t, .string x]] W fun r w' => r = .returned (.bool true) ∧ Below W.heap.size W w') := fun W hb => by have := l14Put_any s t x W hx; rw [hp] at this; exact this
        have cP : ∀ d os, Calls Try.prog 39 #[.agg #[.int .i64 s, .int .i64 t, .string x]] (Go.Sort.grow (redrawn wA d) os) fun e w'' => e = .returned (.bool true) ∧ ∃ p : Regrown, w'' = Go.Sort.grow (redrawn wA p.d) p.os := fun d os => Calls.regrown_of ((hCP _).out (below_regrown wA d os))
        go_upto_region 2 with fail
        refine wp_region_quiet_below (by kernel_rfl) (by kernel_rfl) ?_
        repeat (go_big_quiet_step (first | (go_at_call 10; exact cL _ _) | (go_at_call 39; exact cP _ _)))
        refine wpQuiet_nil ?_
        intro _ hw'
        obtain ⟨⟨dq, osq⟩, hw''⟩ := hw'
        subst hw''
        have HBQ := hide (below_regrown wA dq osq)
        clear q0 q1 q2 q3 q4 c0 c1 p0 p1 p2 cL hCL cP hCP
        generalize Go.Sort.grow (redrawn wA dq) osq = wq at *
        have hsq := HBQ.out.size
        have HSQ := hide (jl_later HSA.out HBQ.out (by omega))
        have K0 := hide (block_on H0.out HBQ.out)
        have K1 := hide (block_on H1.out HBQ.out)
        have K2 := hide (block_on H2.out HBQ.out)
        have HR0 : Hid (Below wq.heap.size wq wq) := Below.refl wq.heap.size wq
        have HA1 := hide (app_first (P := Try.prog) (cap := cap) Try.infoPtI Try.underlying27 HSQ.out (show hi ≤ wq.heap.size by omega) (show 0 ≤ 1000 by omega))
        have HA2 := hide (app_next (P := Try.prog) (q := wq) (kd := s) (sq := t) (tx := x) Try.infoPtI Try.underlying27 (show 0 ≤ 1000 by omega) HL.out)
        have HS5 : ∀ W, Hid (Below wq.heap.size wq W → (W.cell? ⟨w.heap.size, 0, none⟩ = some (.int .i64 rm) ∧ W.cell? ⟨w.heap.size, 1, none⟩ = some (.slice a 0 cap) ∧ W.cell? ⟨w.heap.size + 1, 0, none⟩ = some (.int .i64 s) ∧ W.cell? ⟨w.heap.size + 1, 1, none⟩ = some (.int .i64 t) ∧ W.cell? ⟨w.heap.size + 1, 2, none⟩ = some (.string x))) := fun W hb => ⟨(two_cells (block_on K0.out hb)).1, (two_cells (block_on K0.out hb)).2, three_cells (block_on K1.out hb)⟩
        have HQ := hide hsq
        go_upto_region 4 with fail
        go_cut [7] (fun p W => ∃ L g c, p = .pointer (some ⟨L, 0, none⟩) ∧ 0 + 1 ≤ c ∧ wq.heap.size ≤ L ∧ W.heap[L]? = some (.cells #[.int .i64 rm, .slice (some ⟨g, 0, none⟩) (0 + 1) c] 29) ∧ wq.heap.size ≤ g ∧ g ≠ L ∧ OwnJobs g (g + 1) W (some ⟨g, 0, none⟩) (0 + 1) (ps ++ [(s, t, x)]) ∧ Below wq.heap.size wq W)
        case first =>
          go_region_held3 (fun W => W.cell? ⟨w.heap.size, 0, none⟩ = some (.int .i64 rm) ∧ W.cell? ⟨w.heap.size, 1, none⟩ = some (.slice a 0 cap) ∧ W.cell? ⟨w.heap.size + 1, 0, none⟩ = some (.int .i64 s) ∧ W.cell? ⟨w.heap.size + 1, 1, none⟩ = some (.int .i64 t) ∧ W.cell? ⟨w.heap.size + 1, 2, none⟩ = some (.string x))
            (exact (HS5 _).out (by repeat (first | with_reducible exact HR0.out | with_reducible exact HB5.out | with_reducible exact HB7.out | with_reducible apply bq_drew | with_reducible apply bq_alloc | (with_reducible refine bq_set ?_ (by omega) _))))
            (first
              | (refine step_app2 (by rfl) _ _ 27 (by rfl) _ _ (by rfl) (by rfl) (HA1.out _ _ ?ab ?ac ?ad) ?_
                 (case ab => repeat (first | with_reducible exact HR0.out | with_reducible apply bq_drew | with_reducible apply bq_alloc))
                 (case ac => (first | omega | (simp; done) | (simp; omega) | fail))
                 (case ad => (first | (refine heap_at ?_; (first | rfl | (simp; done) | omega | fail)) | (refine heap_old (heap_at ?_); (first | rfl | (simp; done) | omega | fail)) | (refine heap_old (heap_old (heap_at ?_)); (first | rfl | (simp; done) | omega | fail)) | fail))
                 rintro v5 w5 ⟨a5, c5, rfl, hp5, hb5, hk5⟩
                 have HP5 := hide hp5
                 have HB5 := hide hb5
                 have HK5 := hide hk5
                 have hs5 := hb5.size
                 clear hp5 hb5 hk5)
              | (refine step_app2 (by rfl) _ _ 27 (by rfl) _ _ (by rfl) (by rfl) (HA2.out _ _ _ _ ?bb ?bc ?bd) ?_
                 (case bb => repeat (first | with_reducible exact HB5.out | with_reducible apply bq_alloc))
                 (case bc => repeat (first | with_reducible exact HP5.out | with_reducible apply pt_alloc))
                 (case bd => (first | (refine heap_at ?_; (first | rfl | (simp; done) | omega | fail)) | (refine heap_old (heap_at ?_); (first | rfl | (simp; done) | omega | fail)) | (refine HK5.out _ _ ?hin ?hne; (case hin => (first | (refine heap_at ?_; (first | rfl | (simp; done) | omega | fail)) | (refine heap_old (heap_at ?_); (first | rfl | (simp; done) | omega | fail)) | (refine heap_old (heap_old (heap_at ?_)); (first | rfl | (simp; done) | omega | fail)) | fail)); (case hne => (first | omega | (simp; done) | (simp; omega) | fail))) | (refine heap_old (HK5.out _ _ ?hio ?hno); (case hio => (first | (refine heap_at ?_; (first | rfl | (simp; done) | omega | fail)) | (refine heap_old (heap_at ?_); (first | rfl | (simp; done) | omega | fail)) | (refine heap_old (heap_old (heap_at ?_)); (first | rfl | (simp; done) | omega | fail)) | fail)); (case hno => (first | omega | (simp; done) | (simp; omega) | fail))) | fail))
                 rintro v7 w7 ⟨g, c7, cur, rfl, hc7, hg1, hgc, ho7, hb7, hk7⟩
                 have HO7 := hide ho7
                 have HB7 := hide hb7
                 have HGC := hide hgc
                 have hs7 := hb7.size
                 have hgs := (Array.getElem?_eq_some_iff.1 hgc).1
                 try (refine log_fact (k := wq.heap.size) hk7 HGC.out ?hlg0 ?_; (case hlg0 => (first | (refine heap_at ?_; (first | rfl | (simp; done) | omega | fail)) | (refine heap_old (heap_at ?_); (first | rfl | (simp; done) | omega | fail)) | (refine HK5.out _ _ ?hin0 ?hne0; (case hin0 => (first | (refine heap_at ?_; (first | rfl | (simp; done) | omega | fail)) | (refine heap_old (heap_at ?_); (first | rfl | (simp; done) | omega | fail)) | (refine heap_old (heap_old (heap_at ?_)); (first | rfl | (simp; done) | omega | fail)) | fail)); (case hne0 => (first | omega | (simp; done) | (simp; omega) | fail))) | (refine heap_old (HK5.out _ _ ?hio0 ?hno0); (case hio0 => (first | (refine heap_at ?_; (first | rfl | (simp; done) | omega | fail)) | (refine heap_old (heap_at ?_); (first | rfl | (simp; done) | omega | fail)) | (refine heap_old (heap_old (heap_at ?_)); (first | rfl | (simp; done) | omega | fail)) | fail)); (case hno0 => (first | omega | (simp; done) | (simp; omega) | fail))) | fail)); intro hl hne; have HL7 := hide hl; obtain ⟨e0, e1⟩ := two_cells hl; have f0 := four_frozen hl 0; have f1 := four_frozen hl 1; clear hl)
                 try (refine log_fact (k := wq.heap.size + 1) hk7 HGC.out ?hlg1 ?_; (case hlg1 => (first | (refine heap_at ?_; (first | rfl | (simp; done) | omega | fail)) | (refine heap_old (heap_at ?_); (first | rfl | (simp; done) | omega | fail)) | (refine HK5.out _ _ ?hin1 ?hne1; (case hin1 => (first | (refine heap_at ?_; (first | rfl | (simp; done) | omega | fail)) | (refine heap_old (heap_at ?_); (first | rfl | (simp; done) | omega | fail)) | (refine heap_old (heap_old (heap_at ?_)); (first | rfl | (simp; done) | omega | fail)) | fail)); (case hne1 => (first | omega | (simp; done) | (simp; omega) | fail))) | (refine heap_old (HK5.out _ _ ?hio1 ?hno1); (case hio1 => (first | (refine heap_at ?_; (first | rfl | (simp; done) | omega | fail)) | (refine heap_old (heap_at ?_); (first | rfl | (simp; done) | omega | fail)) | (refine heap_old (heap_old (heap_at ?_)); (first | rfl | (simp; done) | omega | fail)) | fail)); (case hno1 => (first | omega | (simp; done) | (simp; omega) | fail))) | fail)); intro hl hne; have HL7 := hide hl; obtain ⟨e0, e1⟩ := two_cells hl; have f0 := four_frozen hl 0; have f1 := four_frozen hl 1; clear hl)
                 try (refine log_fact (k := wq.heap.size + 1 + 1) hk7 HGC.out ?hlg2 ?_; (case hlg2 => (first | (refine heap_at ?_; (first | rfl | (simp; done) | omega | fail)) | (refine heap_old (heap_at ?_); (first | rfl | (simp; done) | omega | fail)) | (refine HK5.out _ _ ?hin2 ?hne2; (case hin2 => (first | (refine heap_at ?_; (first | rfl | (simp; done) | omega | fail)) | (refine heap_old (heap_at ?_); (first | rfl | (simp; done) | omega | fail)) | (refine heap_old (heap_old (heap_at ?_)); (first | rfl | (simp; done) | omega | fail)) | fail)); (case hne2 => (first | omega | (simp; done) | (simp; omega) | fail))) | (refine heap_old (HK5.out _ _ ?hio2 ?hno2); (case hio2 => (first | (refine heap_at ?_; (first | rfl | (simp; done) | omega | fail)) | (refine heap_old (heap_at ?_); (first | rfl | (simp; done) | omega | fail)) | (refine heap_old (heap_old (heap_at ?_)); (first | rfl | (simp; done) | omega | fail)) | fail)); (case hno2 => (first | omega | (simp; done) | (simp; omega) | fail))) | fail)); intro hl hne; have HL7 := hide hl; obtain ⟨e0, e1⟩ := two_cells hl; have f0 := four_frozen hl 0; have f1 := four_frozen hl 1; clear hl)
                 try (refine log_fact (k := w5.heap.size) hk7 HGC.out ?hlg3 ?_; (case hlg3 => (first | (refine heap_at ?_; (first | rfl | (simp; done) | omega | fail)) | (refine heap_old (heap_at ?_); (first | rfl | (simp; done) | omega | fail)) | (refine HK5.out _ _ ?hin3 ?hne3; (case hin3 => (first | (refine heap_at ?_; (first | rfl | (simp; done) | omega | fail)) | (refine heap_old (heap_at ?_); (first | rfl | (simp; done) | omega | fail)) | (refine heap_old (heap_old (heap_at ?_)); (first | rfl | (simp; done) | omega | fail)) | fail)); (case hne3 => (first | omega | (simp; done) | (simp; omega) | fail))) | (refine heap_old (HK5.out _ _ ?hio3 ?hno3); (case hio3 => (first | (refine heap_at ?_; (first | rfl | (simp; done) | omega | fail)) | (refine heap_old (heap_at ?_); (first | rfl | (simp; done) | omega | fail)) | (refine heap_old (heap_old (heap_at ?_)); (first | rfl | (simp; done) | omega | fail)) | fail)); (case hno3 => (first | omega | (simp; done) | (simp; omega) | fail))) | fail)); intro hl hne; have HL7 := hide hl; obtain ⟨e0, e1⟩ := two_cells hl; have f0 := four_frozen hl 0; have f1 := four_frozen hl 1; clear hl)
                 try (refine log_fact (k := w5.heap.size + 1) hk7 HGC.out ?hlg4 ?_; (case hlg4 => (first | (refine heap_at ?_; (first | rfl | (simp; done) | omega | fail)) | (refine heap_old (heap_at ?_); (first | rfl | (simp; done) | omega | fail)) | (refine HK5.out _ _ ?hin4 ?hne4; (case hin4 => (first | (refine heap_at ?_; (first | rfl | (simp; done) | omega | fail)) | (refine heap_old (heap_at ?_); (first | rfl | (simp; done) | omega | fail)) | (refine heap_old (heap_old (heap_at ?_)); (first | rfl | (simp; done) | omega | fail)) | fail)); (case hne4 => (first | omega | (simp; done) | (simp; omega) | fail))) | (refine heap_old (HK5.out _ _ ?hio4 ?hno4); (case hio4 => (first | (refine heap_at ?_; (first | rfl | (simp; done) | omega | fail)) | (refine heap_old (heap_at ?_); (first | rfl | (simp; done) | omega | fail)) | (refine heap_old (heap_old (heap_at ?_)); (first | rfl | (simp; done) | omega | fail)) | fail)); (case hno4 => (first | omega | (simp; done) | (simp; omega) | fail))) | fail)); intro hl hne; have HL7 := hide hl; obtain ⟨e0, e1⟩ := two_cells hl; have f0 := four_frozen hl 0; have f1 := four_frozen hl 1; clear hl)
                 clear ho7 hb7 hgc hk7)
              | fail)
          all_goals
            go_wp2_with fail
            go_meet
            first
              | exact ⟨w7.heap.size, g, c7, rfl, hc7, hs7, heap_new _ _, hg1, Nat.ne_of_lt hgs, oj_later HO7.out ((Below.refl _ _).alloc (Nat.le_refl _) _) HO7.out.2.1, bq_alloc HB7.out _⟩
              | exact ⟨_, g, c7, rfl, hc7, by omega, two_set HL7.out _ _, hg1, hne, oj_set2 HO7.out hne _ _, bq_set (bq_set HB7.out (by omega) _) (by omega) _⟩
        case rest =>
          obtain ⟨L, g, c, rfl, hcN, hLq, hXL, hgq, hgL, hOJ, hbW⟩ := hcut
          have HX := hide hXL
          have HOJ := hide hOJ
          have HBW := hide hbW
          have J0 := hide (block_on K0.out hbW)
          have J2 := hide (block_on K2.out hbW)
          have HBT := hide (below_here (below_here HBA.out HBQ.out) hbW)
          have HL1 : Hid ((ps ++ [(s, t, x)]).length = 0 + 1) := by show _ = _; rw [List.length_append, HL.out]; rfl
          clear hXL hOJ hbW HA1 HA2 HS5 HR0 HSQ K0 K1 K2
          obtain ⟨i0, i1⟩ := two_cells J0.out
          obtain ⟨e0, e1⟩ := two_cells HX.out
          have ef0 := four_frozen HX.out 0
          have ef1 := four_frozen HX.out 1
          obtain ⟨r0, r1⟩ := two_cells J2.out
          have f0 := four_frozen J2.out 0
          have f1 := four_frozen J2.out 1
          by_cases hfull : ((0 : Nat) : Int) = rm
          · exfalso
            have := HLEN.out
            omega
          · have HAD : Hid (addedF rm ps (s, t, x) = ps ++ [(s, t, x)]) := by
              show _ = _
              unfold addedF
              rw [if_neg (by rw [HL.out]; exact hfull)]
            have hfb : (((0 : Nat) : Int) == rm) = false := by rw [beq_eq_false_iff_ne]; exact hfull
            try simp only [show ((0 : Nat) : Int) = 0 from rfl] at hfb
            have HRS := hide (two_set J2.out (.int .i64 rm) (.slice (some ⟨g, 0, none⟩) (0 + 1) c))
            have HAS := hide (two_aside (b := w.heap.size + 1 + 1) (Aside.refl (w.heap.size + 1 + 1) (w.heap.size + 1 + 1 + 1) wc) (Nat.le_refl _) (Nat.lt_succ_self _) (.int .i64 rm) (.slice (some ⟨g, 0, none⟩) (0 + 1) c))
            have HBF := hide (HBT.out.trans (HAS.out.below (B := w.heap.size) (by omega) HBT.out.size))
            have HOF := hide (oj_wide (lo' := w.heap.size) (oj_aside HOJ.out HAS.out (.inr (by omega))) (by omega))
            clear hfull
            go_wp2_with fail
            refine bodyPost_ret (results_ct rfl rfl (run_loadVar_row _ _ _ _ _ _ _ HRS.out Try.underlying29 rfl (by kernel_rfl))) rfl ⟨some ⟨g, 0, none⟩, c, ?_, ?_, HBF.out⟩
            · rw [HN.out, addR_yes HN.out, HAD.out, HL1.out]; rfl
            · rw [addR_yes HN.out, HAD.out, HL1.out]; exact HOF.out
      · obtain ⟨j, hkj⟩ : ∃ j, n = j + 1 := ⟨n - 1, by omega⟩
        obtain ⟨b, off, rfl, hb1, hb2, hcc⟩ := HSA.out.2.2 (by omega)
        obtain ⟨z0, z1, z2⟩ := job_cells hcc (Below.refl wA.heap.size wA) (show b < wA.heap.size by omega) (show j < n by omega)
        have hub := putOk_in (logOk_at hl (i := j) (by rw [HL.out]; omega))
        have HLQ : Hid (lastSeq ps = (jbAt ps j).1) := by show _ = _; unfold lastSeq; rw [HL.out, hkj]; rfl
        generalize jbAt ps j = u at *
        obtain ⟨ua, ub, ut⟩ := u
        dsimp only at z0 HLQ hub
        have hwj : IntKind.i64.wrap ((n : Int) - 1) = (j : Int) := by rw [IntKind.wrap_i64]; omega
        have hwu : IntKind.i64.wrap (ua + 1) = ua + 1 := by rw [IntKind.wrap_i64]; omega
        have hk0 : (0 : Int) < (n : Int) := by omega
        have hj0 : (0 : Int) ≤ (j : Int) := by omega
        have hjn : (j : Int) < (n : Int) := by omega
        have HKJ := hide hkj
        have HCC := hide hcc
        clear hkj hcc z1 z2 hub
        by_cases hse : s = ua + 1
        · have HN : Hid (mayAdd rm ps (s, t, x) = true) := by show _ = _; unfold mayAdd; rw [hl, hp, HLQ.out, decide_eq_true hse]; simp
          have hsb : (s != ua + 1) = false := by simp [hse]
          clear hse
          have q0 := fun d os => cell_regrown c0 d os
          have q1 := fun d os => cell_regrown c1 d os
          have q2 := fun d os => cell_regrown p0 d os
          have q3 := fun d os => cell_regrown p1 d os
          have q4 := fun d os => cell_regrown p2 d os
          have q5 := fun d os => cell_regrown z0 d os
          have hCL : ∀ W, Hid (Below wA.heap.size wA W → Calls Try.prog 10 #[.agg #[.int .i64 rm, .slice (some ⟨b, off, none⟩) n cap]] W fun r w' => r = .returned (.bool true) ∧ Below W.heap.size W w') := fun W hb => by have := (HCL W).out hb; rw [hl] at this; exact this
          have cL : ∀ d os, Calls Try.prog 10 #[.agg #[.int .i64 rm, .slice (some ⟨b, off, none⟩) n cap]] (Go.Sort.grow (redrawn wA d) os) fun e w'' => e = .returned (.bool true) ∧ ∃ p : Regrown, w'' = Go.Sort.grow (redrawn wA p.d) p.os := fun d os => Calls.regrown_of ((hCL _).out (below_regrown wA d os))
          have hCP : ∀ W, Hid (Below wA.heap.size wA W → Calls Try.prog 39 #[.agg #[.int .i64 s, .int .i64 t, .string x]] W fun r w' => r = .returned (.bool true) ∧ Below W.heap.size W w') := fun W hb => by have := l14Put_any s t x W hx; rw [hp] at this; exact this
          have cP : ∀ d os, Calls Try.prog 39 #[.agg #[.int .i64 s, .int .i64 t, .string x]] (Go.Sort.grow (redrawn wA d) os) fun e w'' => e = .returned (.bool true) ∧ ∃ p : Regrown, w'' = Go.Sort.grow (redrawn wA p.d) p.os := fun d os => Calls.regrown_of ((hCP _).out (below_regrown wA d os))
          go_upto_region 2 with fail
          refine wp_region_quiet_below (by kernel_rfl) (by kernel_rfl) ?_
          repeat (go_big_quiet_step (first | (go_at_call 10; exact cL _ _) | (go_at_call 39; exact cP _ _)))
          refine wpQuiet_nil ?_
          intro _ hw'
          obtain ⟨⟨dq, osq⟩, hw''⟩ := hw'
          subst hw''
          have HBQ := hide (below_regrown wA dq osq)
          clear q0 q1 q2 q3 q4 c0 c1 p0 p1 p2 cL hCL cP hCP
          generalize Go.Sort.grow (redrawn wA dq) osq = wq at *
          clear q5 z0
          have hsq := HBQ.out.size
          have HSQ := hide (jl_later HSA.out HBQ.out (by omega))
          have K0 := hide (block_on H0.out HBQ.out)
          have K1 := hide (block_on H1.out HBQ.out)
          have K2 := hide (block_on H2.out HBQ.out)
          have HR0 : Hid (Below wq.heap.size wq wq) := Below.refl wq.heap.size wq
          have HA1 := hide (app_first (P := Try.prog) (cap := cap) Try.infoPtI Try.underlying27 HSQ.out (show hi ≤ wq.heap.size by omega) (show n ≤ 1000 by omega))
          have HA2 := hide (app_next (P := Try.prog) (q := wq) (kd := s) (sq := t) (tx := x) Try.infoPtI Try.underlying27 (show n ≤ 1000 by omega) HL.out)
          have HS5 : ∀ W, Hid (Below wq.heap.size wq W → (W.cell? ⟨w.heap.size, 0, none⟩ = some (.int .i64 rm) ∧ W.cell? ⟨w.heap.size, 1, none⟩ = some (.slice (some ⟨b, off, none⟩) n cap) ∧ W.cell? ⟨w.heap.size + 1, 0, none⟩ = some (.int .i64 s) ∧ W.cell? ⟨w.heap.size + 1, 1, none⟩ = some (.int .i64 t) ∧ W.cell? ⟨w.heap.size + 1, 2, none⟩ = some (.string x))) := fun W hb => ⟨(two_cells (block_on K0.out hb)).1, (two_cells (block_on K0.out hb)).2, three_cells (block_on K1.out hb)⟩
          have HQ := hide hsq
          go_upto_region 4 with fail
          go_cut [7] (fun p W => ∃ L g c, p = .pointer (some ⟨L, 0, none⟩) ∧ n + 1 ≤ c ∧ wq.heap.size ≤ L ∧ W.heap[L]? = some (.cells #[.int .i64 rm, .slice (some ⟨g, 0, none⟩) (n + 1) c] 29) ∧ wq.heap.size ≤ g ∧ g ≠ L ∧ OwnJobs g (g + 1) W (some ⟨g, 0, none⟩) (n + 1) (ps ++ [(s, t, x)]) ∧ Below wq.heap.size wq W)
          case first =>
            go_region_held3 (fun W => W.cell? ⟨w.heap.size, 0, none⟩ = some (.int .i64 rm) ∧ W.cell? ⟨w.heap.size, 1, none⟩ = some (.slice (some ⟨b, off, none⟩) n cap) ∧ W.cell? ⟨w.heap.size + 1, 0, none⟩ = some (.int .i64 s) ∧ W.cell? ⟨w.heap.size + 1, 1, none⟩ = some (.int .i64 t) ∧ W.cell? ⟨w.heap.size + 1, 2, none⟩ = some (.string x))
              (exact (HS5 _).out (by repeat (first | with_reducible exact HR0.out | with_reducible exact HB5.out | with_reducible exact HB7.out | with_reducible apply bq_drew | with_reducible apply bq_alloc | (with_reducible refine bq_set ?_ (by omega) _))))
              (first
                | (refine step_app2 (by rfl) _ _ 27 (by rfl) _ _ (by rfl) (by rfl) (HA1.out _ _ ?ab ?ac ?ad) ?_
                   (case ab => repeat (first | with_reducible exact HR0.out | with_reducible apply bq_drew | with_reducible apply bq_alloc))
                   (case ac => (first | omega | (simp; done) | (simp; omega) | fail))
                   (case ad => (first | (refine heap_at ?_; (first | rfl | (simp; done) | omega | fail)) | (refine heap_old (heap_at ?_); (first | rfl | (simp; done) | omega | fail)) | (refine heap_old (heap_old (heap_at ?_)); (first | rfl | (simp; done) | omega | fail)) | fail))
                   rintro v5 w5 ⟨a5, c5, rfl, hp5, hb5, hk5⟩
                   have HP5 := hide hp5
                   have HB5 := hide hb5
                   have HK5 := hide hk5
                   have hs5 := hb5.size
                   clear hp5 hb5 hk5)
                | (refine step_app2 (by rfl) _ _ 27 (by rfl) _ _ (by rfl) (by rfl) (HA2.out _ _ _ _ ?bb ?bc ?bd) ?_
                   (case bb => repeat (first | with_reducible exact HB5.out | with_reducible apply bq_alloc))
                   (case bc => repeat (first | with_reducible exact HP5.out | with_reducible apply pt_alloc))
                   (case bd => (first | (refine heap_at ?_; (first | rfl | (simp; done) | omega | fail)) | (refine heap_old (heap_at ?_); (first | rfl | (simp; done) | omega | fail)) | (refine HK5.out _ _ ?hin ?hne; (case hin => (first | (refine heap_at ?_; (first | rfl | (simp; done) | omega | fail)) | (refine heap_old (heap_at ?_); (first | rfl | (simp; done) | omega | fail)) | (refine heap_old (heap_old (heap_at ?_)); (first | rfl | (simp; done) | omega | fail)) | fail)); (case hne => (first | omega | (simp; done) | (simp; omega) | fail))) | (refine heap_old (HK5.out _ _ ?hio ?hno); (case hio => (first | (refine heap_at ?_; (first | rfl | (simp; done) | omega | fail)) | (refine heap_old (heap_at ?_); (first | rfl | (simp; done) | omega | fail)) | (refine heap_old (heap_old (heap_at ?_)); (first | rfl | (simp; done) | omega | fail)) | fail)); (case hno => (first | omega | (simp; done) | (simp; omega) | fail))) | fail))
                   rintro v7 w7 ⟨g, c7, cur, rfl, hc7, hg1, hgc, ho7, hb7, hk7⟩
                   have HO7 := hide ho7
                   have HB7 := hide hb7
                   have HGC := hide hgc
                   have hs7 := hb7.size
                   have hgs := (Array.getElem?_eq_some_iff.1 hgc).1
                   try (refine log_fact (k := wq.heap.size) hk7 HGC.out ?hlg0 ?_; (case hlg0 => (first | (refine heap_at ?_; (first | rfl | (simp; done) | omega | fail)) | (refine heap_old (heap_at ?_); (first | rfl | (simp; done) | omega | fail)) | (refine HK5.out _ _ ?hin0 ?hne0; (case hin0 => (first | (refine heap_at ?_; (first | rfl | (simp; done) | omega | fail)) | (refine heap_old (heap_at ?_); (first | rfl | (simp; done) | omega | fail)) | (refine heap_old (heap_old (heap_at ?_)); (first | rfl | (simp; done) | omega | fail)) | fail)); (case hne0 => (first | omega | (simp; done) | (simp; omega) | fail))) | (refine heap_old (HK5.out _ _ ?hio0 ?hno0); (case hio0 => (first | (refine heap_at ?_; (first | rfl | (simp; done) | omega | fail)) | (refine heap_old (heap_at ?_); (first | rfl | (simp; done) | omega | fail)) | (refine heap_old (heap_old (heap_at ?_)); (first | rfl | (simp; done) | omega | fail)) | fail)); (case hno0 => (first | omega | (simp; done) | (simp; omega) | fail))) | fail)); intro hl hne; have HL7 := hide hl; obtain ⟨e0, e1⟩ := two_cells hl; have f0 := four_frozen hl 0; have f1 := four_frozen hl 1; clear hl)
                   try (refine log_fact (k := wq.heap.size + 1) hk7 HGC.out ?hlg1 ?_; (case hlg1 => (first | (refine heap_at ?_; (first | rfl | (simp; done) | omega | fail)) | (refine heap_old (heap_at ?_); (first | rfl | (simp; done) | omega | fail)) | (refine HK5.out _ _ ?hin1 ?hne1; (case hin1 => (first | (refine heap_at ?_; (first | rfl | (simp; done) | omega | fail)) | (refine heap_old (heap_at ?_); (first | rfl | (simp; done) | omega | fail)) | (refine heap_old (heap_old (heap_at ?_)); (first | rfl | (simp; done) | omega | fail)) | fail)); (case hne1 => (first | omega | (simp; done) | (simp; omega) | fail))) | (refine heap_old (HK5.out _ _ ?hio1 ?hno1); (case hio1 => (first | (refine heap_at ?_; (first | rfl | (simp; done) | omega | fail)) | (refine heap_old (heap_at ?_); (first | rfl | (simp; done) | omega | fail)) | (refine heap_old (heap_old (heap_at ?_)); (first | rfl | (simp; done) | omega | fail)) | fail)); (case hno1 => (first | omega | (simp; done) | (simp; omega) | fail))) | fail)); intro hl hne; have HL7 := hide hl; obtain ⟨e0, e1⟩ := two_cells hl; have f0 := four_frozen hl 0; have f1 := four_frozen hl 1; clear hl)
                   try (refine log_fact (k := wq.heap.size + 1 + 1) hk7 HGC.out ?hlg2 ?_; (case hlg2 => (first | (refine heap_at ?_; (first | rfl | (simp; done) | omega | fail)) | (refine heap_old (heap_at ?_); (first | rfl | (simp; done) | omega | fail)) | (refine HK5.out _ _ ?hin2 ?hne2; (case hin2 => (first | (refine heap_at ?_; (first | rfl | (simp; done) | omega | fail)) | (refine heap_old (heap_at ?_); (first | rfl | (simp; done) | omega | fail)) | (refine heap_old (heap_old (heap_at ?_)); (first | rfl | (simp; done) | omega | fail)) | fail)); (case hne2 => (first | omega | (simp; done) | (simp; omega) | fail))) | (refine heap_old (HK5.out _ _ ?hio2 ?hno2); (case hio2 => (first | (refine heap_at ?_; (first | rfl | (simp; done) | omega | fail)) | (refine heap_old (heap_at ?_); (first | rfl | (simp; done) | omega | fail)) | (refine heap_old (heap_old (heap_at ?_)); (first | rfl | (simp; done) | omega | fail)) | fail)); (case hno2 => (first | omega | (simp; done) | (simp; omega) | fail))) | fail)); intro hl hne; have HL7 := hide hl; obtain ⟨e0, e1⟩ := two_cells hl; have f0 := four_frozen hl 0; have f1 := four_frozen hl 1; clear hl)
                   try (refine log_fact (k := w5.heap.size) hk7 HGC.out ?hlg3 ?_; (case hlg3 => (first | (refine heap_at ?_; (first | rfl | (simp; done) | omega | fail)) | (refine heap_old (heap_at ?_); (first | rfl | (simp; done) | omega | fail)) | (refine HK5.out _ _ ?hin3 ?hne3; (case hin3 => (first | (refine heap_at ?_; (first | rfl | (simp; done) | omega | fail)) | (refine heap_old (heap_at ?_); (first | rfl | (simp; done) | omega | fail)) | (refine heap_old (heap_old (heap_at ?_)); (first | rfl | (simp; done) | omega | fail)) | fail)); (case hne3 => (first | omega | (simp; done) | (simp; omega) | fail))) | (refine heap_old (HK5.out _ _ ?hio3 ?hno3); (case hio3 => (first | (refine heap_at ?_; (first | rfl | (simp; done) | omega | fail)) | (refine heap_old (heap_at ?_); (first | rfl | (simp; done) | omega | fail)) | (refine heap_old (heap_old (heap_at ?_)); (first | rfl | (simp; done) | omega | fail)) | fail)); (case hno3 => (first | omega | (simp; done) | (simp; omega) | fail))) | fail)); intro hl hne; have HL7 := hide hl; obtain ⟨e0, e1⟩ := two_cells hl; have f0 := four_frozen hl 0; have f1 := four_frozen hl 1; clear hl)
                   try (refine log_fact (k := w5.heap.size + 1) hk7 HGC.out ?hlg4 ?_; (case hlg4 => (first | (refine heap_at ?_; (first | rfl | (simp; done) | omega | fail)) | (refine heap_old (heap_at ?_); (first | rfl | (simp; done) | omega | fail)) | (refine HK5.out _ _ ?hin4 ?hne4; (case hin4 => (first | (refine heap_at ?_; (first | rfl | (simp; done) | omega | fail)) | (refine heap_old (heap_at ?_); (first | rfl | (simp; done) | omega | fail)) | (refine heap_old (heap_old (heap_at ?_)); (first | rfl | (simp; done) | omega | fail)) | fail)); (case hne4 => (first | omega | (simp; done) | (simp; omega) | fail))) | (refine heap_old (HK5.out _ _ ?hio4 ?hno4); (case hio4 => (first | (refine heap_at ?_; (first | rfl | (simp; done) | omega | fail)) | (refine heap_old (heap_at ?_); (first | rfl | (simp; done) | omega | fail)) | (refine heap_old (heap_old (heap_at ?_)); (first | rfl | (simp; done) | omega | fail)) | fail)); (case hno4 => (first | omega | (simp; done) | (simp; omega) | fail))) | fail)); intro hl hne; have HL7 := hide hl; obtain ⟨e0, e1⟩ := two_cells hl; have f0 := four_frozen hl 0; have f1 := four_frozen hl 1; clear hl)
                   clear ho7 hb7 hgc hk7)
                | fail)
            all_goals
              go_wp2_with fail
              go_meet
              first
                | exact ⟨w7.heap.size, g, c7, rfl, hc7, hs7, heap_new _ _, hg1, Nat.ne_of_lt hgs, oj_later HO7.out ((Below.refl _ _).alloc (Nat.le_refl _) _) HO7.out.2.1, bq_alloc HB7.out _⟩
                | exact ⟨_, g, c7, rfl, hc7, by omega, two_set HL7.out _ _, hg1, hne, oj_set2 HO7.out hne _ _, bq_set (bq_set HB7.out (by omega) _) (by omega) _⟩
          case rest =>
            obtain ⟨L, g, c, rfl, hcN, hLq, hXL, hgq, hgL, hOJ, hbW⟩ := hcut
            have HX := hide hXL
            have HOJ := hide hOJ
            have HBW := hide hbW
            have J0 := hide (block_on K0.out hbW)
            have J2 := hide (block_on K2.out hbW)
            have HBT := hide (below_here (below_here HBA.out HBQ.out) hbW)
            have HL1 : Hid ((ps ++ [(s, t, x)]).length = n + 1) := by show _ = _; rw [List.length_append, HL.out]; rfl
            clear hXL hOJ hbW HA1 HA2 HS5 HR0 HSQ K0 K1 K2
            obtain ⟨i0, i1⟩ := two_cells J0.out
            obtain ⟨e0, e1⟩ := two_cells HX.out
            have ef0 := four_frozen HX.out 0
            have ef1 := four_frozen HX.out 1
            obtain ⟨r0, r1⟩ := two_cells J2.out
            have f0 := four_frozen J2.out 0
            have f1 := four_frozen J2.out 1
            by_cases hfull : ((n : Nat) : Int) = rm
            · have HAD : Hid (addedF rm ps (s, t, x) = (ps ++ [(s, t, x)]).drop 1) := by
                show _ = _
                unfold addedF
                rw [if_pos (by rw [HL.out]; exact hfull)]
              have HLD : Hid (((ps ++ [(s, t, x)]).drop 1).length = n) := by show _ = _; rw [List.length_drop, HL1.out]; rfl
              have hfb : ((n : Int) == rm) = true := by rw [beq_iff_eq]; exact hfull
              have hn1 : 1 ≤ n := by have := HLEN.out; omega
              have hc1 : ¬ c = 1 := by omega
              have hc2 : ¬ c - 1 = 0 := by omega
              have HFU := hide hfull
              clear hfull
              have HX2 : Hid ((wc.setCell ⟨L, 1, none⟩ (.slice (some ⟨g, 3, none⟩) n (c - 1))).heap[L]? = some (.cells #[.int .i64 rm, .slice (some ⟨g, 3, none⟩) n (c - 1)] 29)) := set_block HX.out 1 (.slice (some ⟨g, 3, none⟩) n (c - 1)) (by simp)
              have J22 := hide (set_other J2.out (show L ≠ w.heap.size + 1 + 1 by omega) (o := 1) (.slice (some ⟨g, 3, none⟩) n (c - 1)))
              have HO2 := hide (own_drop (k := 1) (oj_aside HOJ.out ((Aside.refl L (L + 1) wc).setCell (p := ⟨L, 1, none⟩) (Nat.le_refl _) (Nat.lt_succ_self _) (.slice (some ⟨g, 3, none⟩) n (c - 1))) (by omega)) (by omega))
              have HB2 := hide (HBT.out.setCell (p := ⟨L, 1, none⟩) (show w.heap.size ≤ L by omega) (.slice (some ⟨g, 3, none⟩) n (c - 1)))
              go_upto_region 7 with fail
              obtain ⟨w8, hw8⟩ : ∃ w8, w8 = wc.setCell ⟨L, 1, none⟩ (.slice (some ⟨g, 3, none⟩) n (c - 1)) := ⟨_, rfl⟩
              rw [← hw8] at HX2 J22 HO2 HB2 ⊢
              clear hw8 e0 e1 ef0 ef1 r0 r1 f0 f1 i0 i1
              obtain ⟨e0, e1⟩ := two_cells HX2.out
              obtain ⟨r0, r1⟩ := two_cells J22.out
              have f0 := four_frozen J22.out 0
              have f1 := four_frozen J22.out 1
              have HRS := hide (two_set J22.out (.int .i64 rm) (.slice (some ⟨g, 3, none⟩) n (c - 1)))
              have HAS := hide (two_aside (b := w.heap.size + 1 + 1) (Aside.refl (w.heap.size + 1 + 1) (w.heap.size + 1 + 1 + 1) w8) (Nat.le_refl _) (Nat.lt_succ_self _) (.int .i64 rm) (.slice (some ⟨g, 3, none⟩) n (c - 1)))
              have HBF := hide (HB2.out.trans (HAS.out.below (B := w.heap.size) (by omega) HB2.out.size))
              have HOF := hide (oj_wide (lo' := w.heap.size) (oj_aside HO2.out HAS.out (.inr (by omega))) (by omega))
              go_wp2_with fail
              refine bodyPost_ret (results_ct rfl rfl (run_loadVar_row _ _ _ _ _ _ _ HRS.out Try.underlying29 rfl (by kernel_rfl))) rfl ⟨some ⟨g, 3, none⟩, c - 1, ?_, ?_, HBF.out⟩
              · rw [HN.out, addR_yes HN.out, HAD.out, HLD.out]; rfl
              · rw [addR_yes HN.out, HAD.out, HLD.out]; exact HOF.out
            · have HAD : Hid (addedF rm ps (s, t, x) = ps ++ [(s, t, x)]) := by
                show _ = _
                unfold addedF
                rw [if_neg (by rw [HL.out]; exact hfull)]
              have hfb : (((n : Nat) : Int) == rm) = false := by rw [beq_eq_false_iff_ne]; exact hfull
              try simp only [show ((0 : Nat) : Int) = 0 from rfl] at hfb
              have HRS := hide (two_set J2.out (.int .i64 rm) (.slice (some ⟨g, 0, none⟩) (n + 1) c))
              have HAS := hide (two_aside (b := w.heap.size + 1 + 1) (Aside.refl (w.heap.size + 1 + 1) (w.heap.size + 1 + 1 + 1) wc) (Nat.le_refl _) (Nat.lt_succ_self _) (.int .i64 rm) (.slice (some ⟨g, 0, none⟩) (n + 1) c))
              have HBF := hide (HBT.out.trans (HAS.out.below (B := w.heap.size) (by omega) HBT.out.size))
              have HOF := hide (oj_wide (lo' := w.heap.size) (oj_aside HOJ.out HAS.out (.inr (by omega))) (by omega))
              clear hfull
              go_wp2_with fail
              refine bodyPost_ret (results_ct rfl rfl (run_loadVar_row _ _ _ _ _ _ _ HRS.out Try.underlying29 rfl (by kernel_rfl))) rfl ⟨some ⟨g, 0, none⟩, c, ?_, ?_, HBF.out⟩
              · rw [HN.out, addR_yes HN.out, HAD.out, HL1.out]; rfl
              · rw [addR_yes HN.out, HAD.out, HL1.out]; exact HOF.out
        · have HN : Hid (mayAdd rm ps (s, t, x) = false) := by show _ = _; unfold mayAdd; rw [hl, hp, HLQ.out, decide_eq_false hse, HL.out, decide_eq_false (by omega)]; rfl
          have hsb : (s != ua + 1) = true := by simp [hse]
          clear hse
          have q0 := fun d os => cell_regrown c0 d os
          have q1 := fun d os => cell_regrown c1 d os
          have q2 := fun d os => cell_regrown p0 d os
          have q3 := fun d os => cell_regrown p1 d os
          have q4 := fun d os => cell_regrown p2 d os
          have q5 := fun d os => cell_regrown z0 d os
          have hCL : ∀ W, Hid (Below wA.heap.size wA W → Calls Try.prog 10 #[.agg #[.int .i64 rm, .slice (some ⟨b, off, none⟩) n cap]] W fun r w' => r = .returned (.bool true) ∧ Below W.heap.size W w') := fun W hb => by have := (HCL W).out hb; rw [hl] at this; exact this
          have cL : ∀ d os, Calls Try.prog 10 #[.agg #[.int .i64 rm, .slice (some ⟨b, off, none⟩) n cap]] (Go.Sort.grow (redrawn wA d) os) fun e w'' => e = .returned (.bool true) ∧ ∃ p : Regrown, w'' = Go.Sort.grow (redrawn wA p.d) p.os := fun d os => Calls.regrown_of ((hCL _).out (below_regrown wA d os))
          have hCP : ∀ W, Hid (Below wA.heap.size wA W → Calls Try.prog 39 #[.agg #[.int .i64 s, .int .i64 t, .string x]] W fun r w' => r = .returned (.bool true) ∧ Below W.heap.size W w') := fun W hb => by have := l14Put_any s t x W hx; rw [hp] at this; exact this
          have cP : ∀ d os, Calls Try.prog 39 #[.agg #[.int .i64 s, .int .i64 t, .string x]] (Go.Sort.grow (redrawn wA d) os) fun e w'' => e = .returned (.bool true) ∧ ∃ p : Regrown, w'' = Go.Sort.grow (redrawn wA p.d) p.os := fun d os => Calls.regrown_of ((hCP _).out (below_regrown wA d os))
          go_upto_region 2 with fail
          refine wp_region_quiet_below (by kernel_rfl) (by kernel_rfl) ?_
          repeat (go_big_quiet_step (first | (go_at_call 10; exact cL _ _) | (go_at_call 39; exact cP _ _)))
          refine wpQuiet_nil ?_
          intro _ hw'
          obtain ⟨⟨dq, osq⟩, hw''⟩ := hw'
          subst hw''
          have HBQ := hide (below_regrown wA dq osq)
          clear q0 q1 q2 q3 q4 c0 c1 p0 p1 p2 cL hCL cP hCP
          generalize Go.Sort.grow (redrawn wA dq) osq = wq at *
          clear q5 z0
          have K2 := hide (block_on H2.out HBQ.out)
          obtain ⟨r0, r1⟩ := two_cells K2.out
          have f0 := four_frozen K2.out 0
          have f1 := four_frozen K2.out 1
          have HRS := hide (two_set K2.out (.int .i64 0) (.slice none 0 0))
          have HAS := hide (two_aside (b := w.heap.size + 1 + 1) (Aside.refl (w.heap.size + 1 + 1) (w.heap.size + 1 + 1 + 1) wq) (Nat.le_refl _) (Nat.lt_succ_self _) (.int .i64 0) (.slice none 0 0))
          have HB1 := hide (below_here HBA.out HBQ.out)
          have HBF := hide (HB1.out.trans (HAS.out.below (B := w.heap.size) (by omega) HB1.out.size))
          go_wp2_with fail
          refine bodyPost_ret (results_ct rfl rfl (run_loadVar_row _ _ _ _ _ _ _ HRS.out Try.underlying29 rfl (by kernel_rfl))) rfl ⟨none, 0, ?_, ?_, HBF.out⟩
          · rw [HN.out, addR_no HN.out]; rfl
          · rw [addR_no HN.out]; exact oj_none
end Go.Proofs.Ytckkcimkfhhacaa
