/- Several texts in one: LogImplF, LogVar. -/
import Derived.Test.YtckkcimkfhhacaaLLogImplC
import Derived.Deep.RegionHeld3
import Derived.Test.YtckkcimkfhhacaaLPutOwn
import Derived.Test.YtckkcimkfhhacaaLLogSpecC
section
namespace Go.Proofs.Ytckkcimkfhhacaa
open Go.RowKit
set_option linter.unusedVariables false
set_option linter.unusedSimpArgs false
set_option maxRecDepth 20000

theorem mayAdd_next (rm : Int) (ps : List Jb) (p : Jb) : mayAdd rm ps p = (logOk rm ps && (putOk p && nextOk ps p.1)) := rfl
/-- Two slices in a row of their own. -/
theorem row_two2 {w : World} {b : Nat} {a0 a1 : Option Addr} {n0 c0 n1 c1 : Nat} {t : TypeId} {fr : Nat × Nat} (h : w.heap[b]? = some (.cells #[.slice a0 n0 c0, .slice a1 n1 c1] t fr)) : Reads 0 w.heap.size w (some ⟨b, 0, none⟩) 2 (fun i => .slice (if i = 0 then a0 else a1) (if i = 0 then n0 else n1) (if i = 0 then c0 else c1)) := by
  refine ⟨Nat.le_refl _, fun _ => ⟨b, 0, rfl, Nat.zero_le _, (Array.getElem?_eq_some_iff.1 h).1, fun i hi => ?_⟩⟩
  have : i = 0 ∨ i = 1 := by omega
  rcases this with rfl | rfl <;> simp [World.cell?, h]
set_option maxHeartbeats 800000 in
/-- Puts and one more, joined. -/
theorem joinedTwo_any (a0 : Option Addr) (n0 c0 : Nat) (qs : List Jb) (s t : Int) (x : ByteArray) (w : World) {lo hi : Nat} (h : Jobs lo hi w a0 n0 qs) (hhi : hi ≤ w.heap.size) (hn : n0 ≤ 20) (hts : ∀ y ∈ qs, y.2.2.size ≤ 1048576) (hx : x.size ≤ 1048576) :
    Calls Try.prog 42 #[.slice (some ⟨w.heap.size + 1, 0, none⟩) 2 2] ((w.alloc (.cells #[.int .i64 s, .int .i64 t, .string x] 38)).alloc (.cells #[.slice a0 n0 c0, .slice (some ⟨w.heap.size, 0, none⟩) 1 1] 27)).drew fun r w' => ∃ a2 c2, r = .returned (.slice a2 (n0 + 1) c2) ∧ OwnJobs w.heap.size w'.heap.size w' a2 (n0 + 1) (qs ++ [(s, t, x)]) ∧ Below w.heap.size w w' := by
  have hb1 : Below w.heap.size w (w.alloc (.cells #[.int .i64 s, .int .i64 t, .string x] 38)) := (Below.refl _ _).alloc (Nat.le_refl _) _
  obtain ⟨w1, hw1⟩ : ∃ w1, w1 = w.alloc (.cells #[.int .i64 s, .int .i64 t, .string x] 38) := ⟨_, rfl⟩
  have hz1 : w1.heap.size = w.heap.size + 1 := by rw [hw1]; simp
  have hK1 : w1.heap[w.heap.size]? = some (.cells #[.int .i64 s, .int .i64 t, .string x] 38) := by rw [hw1]; exact heap_new _ _
  rw [← hw1] at hb1 ⊢
  obtain ⟨w2, hw2⟩ : ∃ w2, w2 = (w1.alloc (.cells #[.slice a0 n0 c0, .slice (some ⟨w.heap.size, 0, none⟩) 1 1] 27)).drew := ⟨_, rfl⟩
  have hb2 : Below w1.heap.size w1 w2 := by rw [hw2]; exact ((Below.refl _ _).alloc (Nat.le_refl _) _).drew
  have hK2 : w2.heap[w.heap.size + 1]? = some (.cells #[.slice a0 n0 c0, .slice (some ⟨w.heap.size, 0, none⟩) 1 1] 27) := by rw [hw2]; exact heap_at (w := w1) (by rw [hz1])
  rw [← hw2]
  have hb := below_here hb1 hb2
  have hl : qs.length = n0 := h.1
  have hcat : catF (fun i => if i = 0 then qs else [(s, t, x)]) 2 = qs ++ [(s, t, x)] := rfl
  have hcl : (qs ++ [(s, t, x)]).length = n0 + 1 := by rw [List.length_append, hl]; rfl
  have := joinedPuts_any (some ⟨w.heap.size + 1, 0, none⟩) 2 2 (fun i => if i = 0 then a0 else some ⟨w.heap.size, 0, none⟩) (fun i => if i = 0 then n0 else 1) (fun i => if i = 0 then c0 else 1) (fun i => if i = 0 then qs else [(s, t, x)]) w2 (row_two2 hK2) (Nat.le_refl _) (fun i hi => by
      have : i = 0 ∨ i = 1 := by omega
      rcases this with rfl | rfl
      · exact jobs_wide (jl_later h hb hhi) (Nat.zero_le _)
      · exact jobs_one (block_on hK1 hb2) (Nat.zero_le _)) (by omega) (fun i hi => by
      have : i = 0 ∨ i = 1 := by omega
      rcases this with rfl | rfl
      · exact hts
      · intro y hy; simp at hy; subst hy; exact hx) (by rw [hcat, hcl]; omega)
  rw [hcat, hcl] at this
  exact this.mono fun r w' hh => by
    obtain ⟨a2, c2, h1, h2, h3⟩ := hh
    exact ⟨a2, c2, h1, oj_wide h2 hb.size, below_here hb h3⟩

set_option maxHeartbeats 3200000 in
theorem implAdded_any (rm : Int) (a : Option Addr) (n cap : Nat) (ps : List Jb) (s t : Int) (x : ByteArray) (w : World) {lo hi : Nat} (h : Jobs lo hi w a n ps) (hhi : hi ≤ w.heap.size) (hn : n ≤ 1048576) (hcap : n ≤ cap) (hc2 : cap ≤ 1048576) (hf : ∀ y ∈ ps, jbFits y) (hs : (Lit.int .i64 s).wf = true) (ht : (Lit.int .i64 t).wf = true) (hx : x.size ≤ maxLen) :
    Calls Try.prog 17 #[.agg #[.int .i64 rm, .slice a n cap], .agg #[.int .i64 s, .int .i64 t, .string x]] w fun r w' => ∃ a' c', r = .returned (.tuple #[.agg #[.int .i64 (addR rm ps (s, t, x)).1, .slice a' (addR rm ps (s, t, x)).2.length c'], .bool (mayAdd rm ps (s, t, x))]) ∧ OwnJobs w.heap.size w'.heap.size w' a' (addR rm ps (s, t, x)).2.length (addR rm ps (s, t, x)).2 ∧ Below w.heap.size w w' := by
  obtain ⟨wA, hwA⟩ : ∃ wA, wA = ((w.alloc (.cells #[.int .i64 rm, .slice a n cap] 29)).alloc (.cells #[.int .i64 s, .int .i64 t, .string x] 38)).alloc (.cells #[.int .i64 0, .slice none 0 0] 29) := ⟨_, rfl⟩
  have hzA : wA.heap.size = w.heap.size + 1 + 1 + 1 := by rw [hwA]; simp
  have HBA : Hid (Below w.heap.size w wA) := by rw [hwA]; exact ((((Below.refl _ _).alloc (Nat.le_refl _) _).alloc (by simp) _).alloc (by simp; omega) _)
  have H0 : Hid (wA.heap[w.heap.size]? = some (.cells #[.int .i64 rm, .slice a n cap] 29)) := by rw [hwA]; exact heap_old (heap_old (heap_new _ _))
  have H1 : Hid (wA.heap[w.heap.size + 1]? = some (.cells #[.int .i64 s, .int .i64 t, .string x] 38)) := by rw [hwA]; exact heap_old (heap_at (by simp))
  have H2 : Hid (wA.heap[w.heap.size + 1 + 1]? = some (.cells #[.int .i64 0, .slice none 0 0] 29)) := by rw [hwA]; exact heap_at (by simp)
  have HSA := hide (jl_later h HBA.out hhi)
  have HL := hide h.1
  have HF := hide hf
  have HZA := hide hzA
  have HNO : ∀ W, Hid (mayAdd rm ps (s, t, x) = false → Below wA.heap.size wA W → ∃ a' c', (Ending.returned (.tuple #[.agg #[.int .i64 0, .slice none 0 0], .bool false])) = .returned (.tuple #[.agg #[.int .i64 (addR rm ps (s, t, x)).1, .slice a' (addR rm ps (s, t, x)).2.length c'], .bool (mayAdd rm ps (s, t, x))]) ∧ OwnJobs w.heap.size ((W.setCell ⟨w.heap.size + 1 + 1, 0, none⟩ (.int .i64 0)).setCell ⟨w.heap.size + 1 + 1, 1, none⟩ (.slice none 0 0)).heap.size ((W.setCell ⟨w.heap.size + 1 + 1, 0, none⟩ (.int .i64 0)).setCell ⟨w.heap.size + 1 + 1, 1, none⟩ (.slice none 0 0)) a' (addR rm ps (s, t, x)).2.length (addR rm ps (s, t, x)).2 ∧ Below w.heap.size w ((W.setCell ⟨w.heap.size + 1 + 1, 0, none⟩ (.int .i64 0)).setCell ⟨w.heap.size + 1 + 1, 1, none⟩ (.slice none 0 0))) := fun W hN hb => by
    refine ⟨none, 0, by rw [hN, addR_no hN]; rfl, by rw [addR_no hN]; exact oj_none, ?_⟩
    exact ((below_here HBA.out hb).setCell (p := ⟨w.heap.size + 1 + 1, 0, none⟩) (by show _ ≤ w.heap.size + 1 + 1; omega) _).setCell (p := ⟨w.heap.size + 1 + 1, 1, none⟩) (by show _ ≤ w.heap.size + 1 + 1; omega) _
  clear h hf
  obtain ⟨c0, c1⟩ := two_cells H0.out
  obtain ⟨p0, p1, p2⟩ := three_cells H1.out
  go_enter Try.func17, Try.ntmps17
  go_upto_region 1 with fail
  rw [← hwA]
  clear hwA
  go_wp2_with fail
  refine (implLogOk_any rm a n cap ps wA HSA.out (by omega) hn hcap hc2 HF.out).mono ?_
  cases hl : logOk rm ps
  · have HN : Hid (mayAdd rm ps (s, t, x) = false) := by show _ = _; unfold mayAdd; rw [hl]; rfl
    rintro r w1 ⟨rfl, b1⟩
    have HB1 := hide b1
    have K2 := hide (block_on H2.out b1)
    obtain ⟨r0, r1⟩ := two_cells K2.out
    have f0 := four_frozen K2.out 0
    have f1 := four_frozen K2.out 1
    have HRS := hide (two_set K2.out (.int .i64 0) (.slice none 0 0))
    clear b1 c0 c1 p0 p1 p2
    go_wp2_with fail
    refine bodyPost_ret (results_ct rfl rfl (run_loadVar_row _ _ _ _ _ _ _ HRS.out Try.underlying29 rfl (by kernel_rfl))) rfl ?_
    exact (HNO _).out HN.out HB1.out
  · rintro r w1 ⟨rfl, b1⟩
    have HB1 := hide b1
    have K0 := hide (block_on H0.out b1)
    have K1 := hide (block_on H1.out b1)
    have K2 := hide (block_on H2.out b1)
    have hlen := logOk_len hl
    rw [HL.out] at hlen
    have hn20 : n ≤ 20 := by omega
    have hs1 := b1.size
    clear b1 c0 c1 p0 p1 p2
    obtain ⟨c0, c1⟩ := two_cells K0.out
    obtain ⟨p0, p1, p2⟩ := three_cells K1.out
    obtain ⟨w2, hw2⟩ : ∃ w2, w2 = w1.alloc (.cells #[.int .i64 s, .int .i64 t, .string x] 38) := ⟨_, rfl⟩
    have HB2 : Hid (Below w1.heap.size w1 w2) := by rw [hw2]; exact (Below.refl _ _).alloc (Nat.le_refl _) _
    have HONE : Hid (Jobs 0 w2.heap.size w2 (some ⟨w1.heap.size, 0, none⟩) 1 [(s, t, x)]) := by rw [hw2]; exact jobs_one (heap_new _ _) (Nat.zero_le _)
    have hput : putsAll [(s, t, x)] 1 = putOk (s, t, x) := by show (true && putOk (s, t, x)) = _; rfl
    have hlen2 := hlen
    clear hlen
    go_wp2_with fail
    rw [← hw2]
    refine (arePuts_any _ 1 1 [(s, t, x)] w2 HONE.out (Nat.le_refl _) (by omega) (fun y hy => by simp only [List.mem_singleton] at hy; subst hy; exact ⟨hs, ht, hx⟩)).mono ?_
    rw [hput]
    clear hput hw2
    cases hp : putOk (s, t, x)
    · have HN : Hid (mayAdd rm ps (s, t, x) = false) := by show _ = _; unfold mayAdd; rw [hl, hp]; rfl
      rintro r w3 ⟨rfl, b3⟩
      have HB3 := hide (below_here HB1.out (below_here HB2.out b3))
      have J2 := hide (block_on (block_on K2.out HB2.out) b3)
      obtain ⟨r0, r1⟩ := two_cells J2.out
      have f0 := four_frozen J2.out 0
      have f1 := four_frozen J2.out 1
      have HRS := hide (two_set J2.out (.int .i64 0) (.slice none 0 0))
      clear b3 c0 c1 p0 p1 p2
      go_wp2_with fail
      refine bodyPost_ret (results_ct rfl rfl (run_loadVar_row _ _ _ _ _ _ _ HRS.out Try.underlying29 rfl (by kernel_rfl))) rfl ?_
      exact (HNO _).out HN.out HB3.out
    · rintro r w3 ⟨rfl, b3⟩
      have HB3 := hide (below_here HB1.out (below_here HB2.out b3))
      have J0 := hide (block_on (block_on K0.out HB2.out) b3)
      have J1 := hide (block_on (block_on K1.out HB2.out) b3)
      have J2 := hide (block_on (block_on K2.out HB2.out) b3)
      have HS3 := hide (jl_later HSA.out HB3.out (by omega))
      have hs3 := HB3.out.size
      clear b3 c0 c1 p0 p1 p2 K0 K1 K2 HB1 HB2
      obtain ⟨c0, c1⟩ := two_cells J0.out
      obtain ⟨p0, p1, p2⟩ := three_cells J1.out
      go_wp2_with fail
      refine (isNext_any a n cap ps s t x w3 HS3.out (by omega) hn (fun h0 => by
        have := putOk_in (logOk_at hl (i := ps.length - 1) (by rw [HL.out]; omega))
        unfold lastSeq
        omega)).mono ?_
      cases hnx : nextOk ps s
      · have HN : Hid (mayAdd rm ps (s, t, x) = false) := by show _ = _; rw [mayAdd_next, hl, hp, hnx]; rfl
        rintro r w4 ⟨rfl, b4⟩
        have HB4 := hide (below_here HB3.out b4)
        have I2 := hide (block_on J2.out b4)
        obtain ⟨r0, r1⟩ := two_cells I2.out
        have f0 := four_frozen I2.out 0
        have f1 := four_frozen I2.out 1
        have HRS := hide (two_set I2.out (.int .i64 0) (.slice none 0 0))
        clear b4 c0 c1 p0 p1 p2
        go_wp2_with fail
        refine bodyPost_ret (results_ct rfl rfl (run_loadVar_row _ _ _ _ _ _ _ HRS.out Try.underlying29 rfl (by kernel_rfl))) rfl ?_
        exact (HNO _).out HN.out HB4.out
      · have HN : Hid (mayAdd rm ps (s, t, x) = true) := by show _ = _; rw [mayAdd_next, hl, hp, hnx]; rfl
        rintro r w4 ⟨rfl, b4⟩
        have HB4 := hide (below_here HB3.out b4)
        have I0 := hide (block_on J0.out b4)
        have I1 := hide (block_on J1.out b4)
        have I2 := hide (block_on J2.out b4)
        have HS4 := hide (jl_later HS3.out b4 (by omega))
        have hs4 := HB4.out.size
        have hxs : x.size ≤ 1048576 := by have := (putOk_in hp).2.2.2.2; dsimp only at this; omega
        have HFP := hide (fits_drop hl 0)
        have HFD := hide (fits_drop hl 1)
        rw [List.drop_zero] at HFP
        clear b4 c0 c1 p0 p1 p2 J0 J1 J2 hnx hp hl HNO HB3 HS3 HONE
        obtain ⟨c0, c1⟩ := two_cells I0.out
        obtain ⟨p0, p1, p2⟩ := three_cells I1.out
        by_cases hfull : (n : Int) = rm
        · have hn1 : 1 ≤ n := by omega
          obtain ⟨b, off, rfl, hb1, hb2, hcc⟩ := HS4.out.2.2 (by omega)
          have HAD : Hid (addedF rm ps (s, t, x) = ps.drop 1 ++ [(s, t, x)]) := by
            show _ = _
            unfold addedF
            rw [if_pos (by rw [HL.out]; exact hfull), List.drop_append_of_le_length (by rw [HL.out]; exact hn1)]
          have HLD : Hid ((ps.drop 1 ++ [(s, t, x)]).length = n) := by show _ = _; rw [List.length_append, List.length_drop, HL.out]; show n - 1 + 1 = n; omega
          have hfb : ((n : Int) == rm) = true := by simp [hfull]
          have hn1i : (1 : Int) ≤ (n : Int) := by omega
          have HFU := hide hfull
          clear hcc hfull hlen2
          rcases Nat.lt_or_ge 1 cap with hdc | hdc
          · have hnd : ¬ cap = 1 := by omega
            have hnd2 : ¬ cap - 1 = 0 := by omega
            have HJ := joinedTwo_any (some ⟨b, off + 1 * 3, none⟩) (n - 1) (cap - 1) (ps.drop 1) s t x w4 (jobs_drop HS4.out hn1) (by omega) (by omega) HFD.out (by omega)
            rw [show n - 1 + 1 = n by omega] at HJ
            have HJ := hide HJ
            have HS5 : ∀ W, Hid (Below w4.heap.size w4 W → (W.cell? ⟨w.heap.size, 0, none⟩ = some (.int .i64 rm) ∧ W.cell? ⟨w.heap.size + 1, 0, none⟩ = some (.int .i64 s) ∧ W.cell? ⟨w.heap.size + 1, 1, none⟩ = some (.int .i64 t) ∧ W.cell? ⟨w.heap.size + 1, 2, none⟩ = some (.string x))) := fun W hb => ⟨(two_cells (block_on I0.out hb)).1, three_cells (block_on I1.out hb)⟩
            have HR0 : Hid (Below w4.heap.size w4 w4.drew) := (Below.refl w4.heap.size w4).drew
            have HR1 : Hid (Below w4.heap.size w4 (w4.alloc (.cells #[.int .i64 s, .int .i64 t, .string x] 38)).drew) := ((Below.refl w4.heap.size w4).alloc (Nat.le_refl _) _).drew
            have HR2 : Hid (Below w4.heap.size w4 ((w4.alloc (.cells #[.int .i64 s, .int .i64 t, .string x] 38)).alloc (.cells #[.slice (some ⟨b, off + 1 * 3, none⟩) (n - 1) (cap - 1), .slice (some ⟨w4.heap.size, 0, none⟩) 1 1] 27)).drew) := (((Below.refl w4.heap.size w4).alloc (Nat.le_refl _) _).alloc (by simp) _).drew
            go_upto_region 6 with fail
            clear c0 c1 p0 p1 p2
            go_region_held3 (fun W => W.cell? ⟨w.heap.size, 0, none⟩ = some (.int .i64 rm) ∧ W.cell? ⟨w.heap.size + 1, 0, none⟩ = some (.int .i64 s) ∧ W.cell? ⟨w.heap.size + 1, 1, none⟩ = some (.int .i64 t) ∧ W.cell? ⟨w.heap.size + 1, 2, none⟩ = some (.string x))
              (first | with_reducible exact HS6.out | with_reducible exact (HS5 _).out HR3.out | with_reducible exact (HS5 _).out HR0.out | with_reducible exact (HS5 _).out HR1.out | with_reducible exact (HS5 _).out HR2.out | exact (HS5 _).out HR0.out | exact (HS5 _).out HR1.out | exact (HS5 _).out HR2.out | fail)
              (first
                | (go_at_call 42; refine (HJ.out).mono ?_; rintro e w5 ⟨a2, c2, rfl, o2, b5⟩; have HR3 := hide b5; have HO2 := hide o2; have E2 := hide (block_on I2.out b5); obtain ⟨r0, r1⟩ := two_cells E2.out; have f0 := four_frozen E2.out 0; have f1 := four_frozen E2.out 1; have HRS := hide (two_set E2.out (.int .i64 rm) (.slice a2 (n) c2)); have HAS := hide (two_aside (b := w.heap.size + 1 + 1) (Aside.refl (w.heap.size + 1 + 1) (w.heap.size + 1 + 1 + 1) w5) (Nat.le_refl _) (Nat.lt_succ_self _) (.int .i64 rm) (.slice a2 (n) c2)); have HS6 := hide (And.intro (two_cells (set_other (set_other (block_on I0.out b5) (show w.heap.size + 1 + 1 ≠ w.heap.size by omega) (o := 0) (.int .i64 rm)) (show w.heap.size + 1 + 1 ≠ w.heap.size by omega) (o := 1) (.slice a2 (n) c2))).1 (three_cells (set_other (set_other (block_on I1.out b5) (show w.heap.size + 1 + 1 ≠ w.heap.size + 1 by omega) (o := 0) (.int .i64 rm)) (show w.heap.size + 1 + 1 ≠ w.heap.size + 1 by omega) (o := 1) (.slice a2 (n) c2)))); clear b5 o2)
                | fail)
            have HBF : Hid (Below w.heap.size w w5) := below_here (below_here HBA.out HB4.out) HR3.out
            have HBG := hide (HBF.out.trans (HAS.out.below (B := w.heap.size) (by omega) HBF.out.size))
            have HOF := hide (oj_wide (lo' := w.heap.size) (oj_aside HO2.out HAS.out (.inr (by have := HB4.out.size; omega))) (by have := HB4.out.size; omega))
            go_wp2_with fail
            refine bodyPost_ret (results_ct rfl rfl (run_loadVar_row _ _ _ _ _ _ _ HRS.out Try.underlying29 rfl (by kernel_rfl))) rfl ⟨a2, c2, ?_, ?_, HBG.out⟩
            · rw [HN.out, addR_yes HN.out, HAD.out, HLD.out]; rfl
            · rw [addR_yes HN.out, HAD.out, HLD.out]; exact HOF.out
          · obtain rfl : cap = 1 := by omega
            obtain rfl : n = 1 := by omega
            have HE0 : Hid (Jobs lo hi w4 (some ⟨b, off, none⟩) (1 - 1) (ps.drop 1)) := by
              have e1 : ps.drop 1 = [] := List.eq_nil_of_length_eq_zero (by rw [List.length_drop, HL.out])
              show Jobs _ _ _ _ _ _
              rw [e1]
              exact ⟨rfl, by omega, fun h => absurd h (by decide)⟩
            have HJ := joinedTwo_any (some ⟨b, off, none⟩) (0) (0) (ps.drop 1) s t x w4 HE0.out (by omega) (by omega) HFD.out (by omega)
            have HJ := hide HJ
            have HS5 : ∀ W, Hid (Below w4.heap.size w4 W → (W.cell? ⟨w.heap.size, 0, none⟩ = some (.int .i64 rm) ∧ W.cell? ⟨w.heap.size + 1, 0, none⟩ = some (.int .i64 s) ∧ W.cell? ⟨w.heap.size + 1, 1, none⟩ = some (.int .i64 t) ∧ W.cell? ⟨w.heap.size + 1, 2, none⟩ = some (.string x))) := fun W hb => ⟨(two_cells (block_on I0.out hb)).1, three_cells (block_on I1.out hb)⟩
            have HR0 : Hid (Below w4.heap.size w4 w4.drew) := (Below.refl w4.heap.size w4).drew
            have HR1 : Hid (Below w4.heap.size w4 (w4.alloc (.cells #[.int .i64 s, .int .i64 t, .string x] 38)).drew) := ((Below.refl w4.heap.size w4).alloc (Nat.le_refl _) _).drew
            have HR2 : Hid (Below w4.heap.size w4 ((w4.alloc (.cells #[.int .i64 s, .int .i64 t, .string x] 38)).alloc (.cells #[.slice (some ⟨b, off, none⟩) (0) (0), .slice (some ⟨w4.heap.size, 0, none⟩) 1 1] 27)).drew) := (((Below.refl w4.heap.size w4).alloc (Nat.le_refl _) _).alloc (by simp) _).drew
            go_upto_region 6 with fail
            clear c0 c1 p0 p1 p2
            go_region_held3 (fun W => W.cell? ⟨w.heap.size, 0, none⟩ = some (.int .i64 rm) ∧ W.cell? ⟨w.heap.size + 1, 0, none⟩ = some (.int .i64 s) ∧ W.cell? ⟨w.heap.size + 1, 1, none⟩ = some (.int .i64 t) ∧ W.cell? ⟨w.heap.size + 1, 2, none⟩ = some (.string x))
              (first | with_reducible exact HS6.out | with_reducible exact (HS5 _).out HR3.out | with_reducible exact (HS5 _).out HR0.out | with_reducible exact (HS5 _).out HR1.out | with_reducible exact (HS5 _).out HR2.out | exact (HS5 _).out HR0.out | exact (HS5 _).out HR1.out | exact (HS5 _).out HR2.out | fail)
              (first
                | (go_at_call 42; refine (HJ.out).mono ?_; rintro e w5 ⟨a2, c2, rfl, o2, b5⟩; have HR3 := hide b5; have HO2 := hide o2; have E2 := hide (block_on I2.out b5); obtain ⟨r0, r1⟩ := two_cells E2.out; have f0 := four_frozen E2.out 0; have f1 := four_frozen E2.out 1; have HRS := hide (two_set E2.out (.int .i64 rm) (.slice a2 (0 + 1) c2)); have HAS := hide (two_aside (b := w.heap.size + 1 + 1) (Aside.refl (w.heap.size + 1 + 1) (w.heap.size + 1 + 1 + 1) w5) (Nat.le_refl _) (Nat.lt_succ_self _) (.int .i64 rm) (.slice a2 (0 + 1) c2)); have HS6 := hide (And.intro (two_cells (set_other (set_other (block_on I0.out b5) (show w.heap.size + 1 + 1 ≠ w.heap.size by omega) (o := 0) (.int .i64 rm)) (show w.heap.size + 1 + 1 ≠ w.heap.size by omega) (o := 1) (.slice a2 (0 + 1) c2))).1 (three_cells (set_other (set_other (block_on I1.out b5) (show w.heap.size + 1 + 1 ≠ w.heap.size + 1 by omega) (o := 0) (.int .i64 rm)) (show w.heap.size + 1 + 1 ≠ w.heap.size + 1 by omega) (o := 1) (.slice a2 (0 + 1) c2)))); clear b5 o2)
                | fail)
            have HBF : Hid (Below w.heap.size w w5) := below_here (below_here HBA.out HB4.out) HR3.out
            have HBG := hide (HBF.out.trans (HAS.out.below (B := w.heap.size) (by omega) HBF.out.size))
            have HOF := hide (oj_wide (lo' := w.heap.size) (oj_aside HO2.out HAS.out (.inr (by have := HB4.out.size; omega))) (by have := HB4.out.size; omega))
            go_wp2_with fail
            refine bodyPost_ret (results_ct rfl rfl (run_loadVar_row _ _ _ _ _ _ _ HRS.out Try.underlying29 rfl (by kernel_rfl))) rfl ⟨a2, c2, ?_, ?_, HBG.out⟩
            · rw [HN.out, addR_yes HN.out, HAD.out, HLD.out]; rfl
            · rw [addR_yes HN.out, HAD.out, HLD.out]; exact HOF.out
        · have HAD : Hid (addedF rm ps (s, t, x) = ps ++ [(s, t, x)]) := by
            show _ = _
            unfold addedF
            rw [if_neg (by rw [HL.out]; exact hfull)]
          have HLD : Hid ((ps ++ [(s, t, x)]).length = n + 1) := by show _ = _; rw [List.length_append, HL.out]; rfl
          have hfb : ((n : Int) == rm) = false := by simp [hfull]
          clear hfull
          have HJ := joinedTwo_any a (n) (cap) (ps) s t x w4 HS4.out (by omega) (by omega) HFP.out (by omega)
          have HJ := hide HJ
          have HS5 : ∀ W, Hid (Below w4.heap.size w4 W → (W.cell? ⟨w.heap.size, 0, none⟩ = some (.int .i64 rm) ∧ W.cell? ⟨w.heap.size + 1, 0, none⟩ = some (.int .i64 s) ∧ W.cell? ⟨w.heap.size + 1, 1, none⟩ = some (.int .i64 t) ∧ W.cell? ⟨w.heap.size + 1, 2, none⟩ = some (.string x))) := fun W hb => ⟨(two_cells (block_on I0.out hb)).1, three_cells (block_on I1.out hb)⟩
          have HR0 : Hid (Below w4.heap.size w4 w4.drew) := (Below.refl w4.heap.size w4).drew
          have HR1 : Hid (Below w4.heap.size w4 (w4.alloc (.cells #[.int .i64 s, .int .i64 t, .string x] 38)).drew) := ((Below.refl w4.heap.size w4).alloc (Nat.le_refl _) _).drew
          have HR2 : Hid (Below w4.heap.size w4 ((w4.alloc (.cells #[.int .i64 s, .int .i64 t, .string x] 38)).alloc (.cells #[.slice a (n) (cap), .slice (some ⟨w4.heap.size, 0, none⟩) 1 1] 27)).drew) := (((Below.refl w4.heap.size w4).alloc (Nat.le_refl _) _).alloc (by simp) _).drew
          go_upto_region 6 with fail
          clear c0 c1 p0 p1 p2
          go_region_held3 (fun W => W.cell? ⟨w.heap.size, 0, none⟩ = some (.int .i64 rm) ∧ W.cell? ⟨w.heap.size + 1, 0, none⟩ = some (.int .i64 s) ∧ W.cell? ⟨w.heap.size + 1, 1, none⟩ = some (.int .i64 t) ∧ W.cell? ⟨w.heap.size + 1, 2, none⟩ = some (.string x))
            (first | with_reducible exact HS6.out | with_reducible exact (HS5 _).out HR3.out | with_reducible exact (HS5 _).out HR0.out | with_reducible exact (HS5 _).out HR1.out | with_reducible exact (HS5 _).out HR2.out | exact (HS5 _).out HR0.out | exact (HS5 _).out HR1.out | exact (HS5 _).out HR2.out | fail)
            (first
              | (go_at_call 42; refine (HJ.out).mono ?_; rintro e w5 ⟨a2, c2, rfl, o2, b5⟩; have HR3 := hide b5; have HO2 := hide o2; have E2 := hide (block_on I2.out b5); obtain ⟨r0, r1⟩ := two_cells E2.out; have f0 := four_frozen E2.out 0; have f1 := four_frozen E2.out 1; have HRS := hide (two_set E2.out (.int .i64 rm) (.slice a2 (n + 1) c2)); have HAS := hide (two_aside (b := w.heap.size + 1 + 1) (Aside.refl (w.heap.size + 1 + 1) (w.heap.size + 1 + 1 + 1) w5) (Nat.le_refl _) (Nat.lt_succ_self _) (.int .i64 rm) (.slice a2 (n + 1) c2)); have HS6 := hide (And.intro (two_cells (set_other (set_other (block_on I0.out b5) (show w.heap.size + 1 + 1 ≠ w.heap.size by omega) (o := 0) (.int .i64 rm)) (show w.heap.size + 1 + 1 ≠ w.heap.size by omega) (o := 1) (.slice a2 (n + 1) c2))).1 (three_cells (set_other (set_other (block_on I1.out b5) (show w.heap.size + 1 + 1 ≠ w.heap.size + 1 by omega) (o := 0) (.int .i64 rm)) (show w.heap.size + 1 + 1 ≠ w.heap.size + 1 by omega) (o := 1) (.slice a2 (n + 1) c2)))); clear b5 o2)
              | fail)
          have HBF : Hid (Below w.heap.size w w5) := below_here (below_here HBA.out HB4.out) HR3.out
          have HBG := hide (HBF.out.trans (HAS.out.below (B := w.heap.size) (by omega) HBF.out.size))
          have HOF := hide (oj_wide (lo' := w.heap.size) (oj_aside HO2.out HAS.out (.inr (by have := HB4.out.size; omega))) (by have := HB4.out.size; omega))
          go_wp2_with fail
          refine bodyPost_ret (results_ct rfl rfl (run_loadVar_row _ _ _ _ _ _ _ HRS.out Try.underlying29 rfl (by kernel_rfl))) rfl ⟨a2, c2, ?_, ?_, HBG.out⟩
          · rw [HN.out, addR_yes HN.out, HAD.out, HLD.out]; rfl
          · rw [addR_yes HN.out, HAD.out, HLD.out]; exact HOF.out
end Go.Proofs.Ytckkcimkfhhacaa
end

section
namespace Go.Proofs.Ytckkcimkfhhacaa
open Go.RowKit
set_option linter.unusedVariables false
set_option maxRecDepth 20000

theorem Jobs.later {lo hi n B : Nat} {w w' : World} {a : Option Addr} {js : List Jb} (h : Jobs lo hi w a n js) (hb : Below B w w') (hB : hi ≤ B) : Jobs lo hi w' a n js := jl_later h hb hB
theorem OwnJobs.squares {lo hi n : Nat} {w : World} {a : Option Addr} {js : List Jb} (h : OwnJobs lo hi w a n js) : Jobs lo hi w a n js := jl_own h
def AnsL (lo hi : Nat) (w : World) (a : Option Addr) (n : Nat) (qs : List Jb) : Prop := hi ≤ w.heap.size ∧ OwnJobs lo hi w a n qs
section
variable {lo hi n : Nat} {w w' : World} {a : Option Addr} {qs : List Jb}
theorem AnsL.squares (h : AnsL lo hi w a n qs) : Jobs lo hi w a n qs := jl_own h.2
theorem AnsL.later (h : AnsL lo hi w a n qs) {B : Nat} (hb : Below B w w') (hB : hi ≤ B) : AnsL lo hi w' a n qs := ⟨Nat.le_trans h.1 hb.size, oj_later h.2 hb hB⟩
theorem AnsL.aside (h : AnsL lo hi w a n qs) {l r : Nat} (hb : Aside l r w w') (hB : r ≤ lo ∨ hi ≤ l) : AnsL lo hi w' a n qs := ⟨Nat.le_trans h.1 hb.size, oj_aside h.2 hb hB.symm⟩
end
def LogAns (w : World) (z : Int) (qs : List Jb) (v : Value) (w' : World) : Prop := ∃ a c, v = .agg #[.int .i64 z, .slice a qs.length c] ∧ AnsL w.heap.size w'.heap.size w' a qs.length qs ∧ Below w.heap.size w w'
theorem specAdded_ans (rm : Int) (a : Option Addr) (n cap : Nat) (ps : List Jb) (s t : Int) (x : ByteArray) (w : World) {lo hi : Nat} (h : Jobs lo hi w a n ps) (hhi : hi ≤ w.heap.size) (hn : n ≤ 1048576) (hf : ∀ y ∈ ps, jbFits y) (hx : x.size ≤ maxLen) :
    Calls Try.prog 15 #[.agg #[.int .i64 rm, .slice a n cap], .agg #[.int .i64 s, .int .i64 t, .string x]] w fun e w' => ∃ v, e = .returned (.tuple #[v, .bool (mayAdd rm ps (s, t, x))]) ∧ LogAns w (addR rm ps (s, t, x)).1 (addR rm ps (s, t, x)).2 v w' :=
  (specAdded_any rm a n cap ps s t x w h hhi hn hf hx).mono fun e w' hh => by
    obtain ⟨a', c', h1, h2, h3⟩ := hh
    exact ⟨_, h1, a', c', rfl, ⟨Nat.le_refl _, h2⟩, h3⟩
theorem implAdded_ans (rm : Int) (a : Option Addr) (n cap : Nat) (ps : List Jb) (s t : Int) (x : ByteArray) (w : World) {lo hi : Nat} (h : Jobs lo hi w a n ps) (hhi : hi ≤ w.heap.size) (hn : n ≤ 1048576) (hcap : n ≤ cap) (hc2 : cap ≤ 1048576) (hf : ∀ y ∈ ps, jbFits y) (hs : (Lit.int .i64 s).wf = true) (ht : (Lit.int .i64 t).wf = true) (hx : x.size ≤ maxLen) :
    Calls Try.prog 17 #[.agg #[.int .i64 rm, .slice a n cap], .agg #[.int .i64 s, .int .i64 t, .string x]] w fun e w' => ∃ v, e = .returned (.tuple #[v, .bool (mayAdd rm ps (s, t, x))]) ∧ LogAns w (addR rm ps (s, t, x)).1 (addR rm ps (s, t, x)).2 v w' :=
  (implAdded_any rm a n cap ps s t x w h hhi hn hcap hc2 hf hs ht hx).mono fun e w' hh => by
    obtain ⟨a', c', h1, h2, h3⟩ := hh
    exact ⟨_, h1, a', c', rfl, ⟨Nat.le_refl _, h2⟩, h3⟩
theorem addR_len (rm : Int) (ps : List Jb) (p : Jb) : (addR rm ps p).2.length ≤ 1048576 := by
  unfold addR
  split
  · rename_i hmm
    have hok : logOk rm ps = true := by
      unfold mayAdd at hmm
      simp only [Bool.and_eq_true] at hmm
      exact hmm.1
    have := logOk_len hok
    show (addedF rm ps p).length ≤ _
    unfold addedF
    split
    · rw [List.length_drop, List.length_append]; simp; omega
    · rw [List.length_append]; simp; omega
  · simp
theorem markLog_ans (z : Int) (a : Option Addr) (n cap : Nat) (ps : List Jb) (w : World) {lo hi : Nat} (h : AnsL lo hi w a n ps) (hn : n ≤ 1048576) :
    Calls Try.prog 18 #[.agg #[.int .i64 z, .slice a n cap], .int .i64 1] w fun e w' => e = .returned (.int .i64 ((1 + 3 * n : Nat) : Int)) ∧ AnsL lo hi w' a n (jbMark 1 n) ∧ Aside lo hi w w' :=
  (markLog_any z a n cap ps w h.2 h.1 hn).mono fun e w' hh => ⟨hh.1, ⟨Nat.le_trans h.1 hh.2.2.size, hh.2.1⟩, hh.2.2⟩

/-- A variable's zero Log. -/
abbrev zL : Obj := .cells #[.int .i64 0, .slice none 0 0] 29
/-- A Log in a variable: it lies in block b, its Items in blocks from lo to below hi, all made behind s. -/
structure VarL (s b lo hi : Nat) (z : Int) (qs : List Jb) (a : Option Addr) (c : Nat) (w : World) : Prop where
  var : w.heap[b]? = some (.cells #[.int .i64 z, .slice a qs.length c] 29)
  ans : AnsL lo hi w a qs.length qs
  apart : b < lo ∨ hi ≤ b
  atB : s ≤ b
  atL : s ≤ lo
section
variable {s b lo hi c : Nat} {z : Int} {qs : List Jb} {a : Option Addr} {w w' : World}
theorem VarL.lt (h : VarL s b lo hi z qs a c w) : b < w.heap.size := (Array.getElem?_eq_some_iff.1 h.var).1
theorem VarL.on (h : VarL s b lo hi z qs a c w) (hb : Below w.heap.size w w') : VarL s b lo hi z qs a c w' := ⟨block_on h.var hb, h.ans.later hb h.ans.1, h.apart, h.atB, h.atL⟩
theorem VarL.aside (h : VarL s b lo hi z qs a c w) {l r : Nat} (hb : Aside l r w w') (h1 : b < l ∨ r ≤ b) (h2 : r ≤ lo ∨ hi ≤ l) : VarL s b lo hi z qs a c w' :=
  ⟨(hb.block b h.lt h1).trans h.var, h.ans.aside hb h2, h.apart, h.atB, h.atL⟩
theorem VarL.cells (h : VarL s b lo hi z qs a c w) : w.cell? ⟨b, 0, none⟩ = some (.int .i64 z) ∧ w.cell? ⟨b, 1, none⟩ = some (.slice a qs.length c) := two_cells h.var
theorem VarL.squares (h : VarL s b lo hi z qs a c w) : Jobs lo hi w a qs.length qs := h.ans.squares
theorem VarL.hi_le (h : VarL s b lo hi z qs a c w) : hi ≤ w.heap.size := h.ans.1
/-- A Log that was answered in w1 and laid into a variable that had been made before. -/
theorem varL_store {w1 : World} {z : Int} {qs : List Jb} {a : Option Addr} {c : Nat} (hv : w'.heap[b]? = some zL) (hq : AnsL w1.heap.size w'.heap.size w' a qs.length qs) (hs : s ≤ b) (hb : b < w1.heap.size) (hl : s ≤ w1.heap.size) :
    VarL s b w1.heap.size w'.heap.size z qs a c ((w'.setCell ⟨b, 0, none⟩ (.int .i64 z)).setCell ⟨b, 1, none⟩ (.slice a qs.length c)) :=
  ⟨two_set hv _ _, hq.aside (two_aside (b := b) (Aside.refl b (b + 1) w') (Nat.le_refl _) (Nat.lt_succ_self _) _ _) (.inl (by omega)), .inl hb, hs, hl⟩
theorem varL_new {w1 : World} {z : Int} {qs : List Jb} {a : Option Addr} {c : Nat} (hq : AnsL w1.heap.size w'.heap.size w' a qs.length qs) (hs : s ≤ w1.heap.size) (h1 : w1.heap.size ≤ w'.heap.size) :
    VarL s w'.heap.size w1.heap.size w'.heap.size z qs a c (w'.alloc (.cells #[.int .i64 z, .slice a qs.length c] 29)) :=
  ⟨heap_new _ _, hq.later ((Below.refl w'.heap.size w').alloc (Nat.le_refl _) _) (Nat.le_refl _), .inr (Nat.le_refl _), Nat.le_trans hs h1, hs⟩
/-- A Log answered and laid into a variable, wherever among the calls the variable was made. -/
theorem store_belowL {B b : Nat} {w w' : World} (h : Below B w w') (hb : B ≤ b) (u v : Value) : Below B w ((w'.setCell ⟨b, 0, none⟩ u).setCell ⟨b, 1, none⟩ v) := (h.setCell (p := ⟨b, 0, none⟩) hb u).setCell (p := ⟨b, 1, none⟩) hb v
end
/-- The boxes of a Log and of a Put that came in. -/
structure BoxLP (w : World) (z : Int) (a : Option Addr) (n cap : Nat) (k j : Int) (x : ByteArray) (w' : World) : Prop where
  chip : w'.heap[w.heap.size]? = some (.cells #[.int .i64 z, .slice a n cap] 24)
  job : w'.heap[w.heap.size + 1]? = some (.cells #[.int .i64 k, .int .i64 j, .string x] 34)
  below : Below w.heap.size w w'
theorem BoxLP.on {w : World} {z : Int} {a : Option Addr} {n cap : Nat} {k j : Int} {x : ByteArray} {w1 w2 : World} (h : BoxLP w z a n cap k j x w1) (hb : Below w1.heap.size w1 w2) : BoxLP w z a n cap k j x w2 :=
  ⟨block_on h.chip hb, block_on h.job hb, below_here h.below hb⟩
theorem BoxLP.size {w : World} {z : Int} {a : Option Addr} {n cap : Nat} {k j : Int} {x : ByteArray} {w1 : World} (h : BoxLP w z a n cap k j x w1) : w.heap.size + 2 ≤ w1.heap.size := by
  have := (Array.getElem?_eq_some_iff.1 h.job).1; omega
theorem BoxLP.aside {w : World} {z : Int} {a : Option Addr} {n cap : Nat} {k j : Int} {x : ByteArray} {w1 w2 : World} (h : BoxLP w z a n cap k j x w1) {l r : Nat} (hb : Aside l r w1 w2) (hl : w.heap.size + 2 ≤ l) : BoxLP w z a n cap k j x w2 :=
  ⟨(hb.block _ (by have := h.size; omega) (.inl (by omega))).trans h.chip, (hb.block _ (by have := h.size; omega) (.inl (by omega))).trans h.job, h.below.trans (hb.below (by omega) (by have := h.size; omega))⟩
theorem BoxLP.cells {w : World} {z : Int} {a : Option Addr} {n cap : Nat} {k j : Int} {x : ByteArray} {w1 : World} (h : BoxLP w z a n cap k j x w1) :
    w1.cell? ⟨w.heap.size, 0, none⟩ = some (.int .i64 z) ∧ w1.cell? ⟨w.heap.size, 1, none⟩ = some (.slice a n cap) ∧ w1.cell? ⟨w.heap.size + 1, 0, none⟩ = some (.int .i64 k) ∧ w1.cell? ⟨w.heap.size + 1, 1, none⟩ = some (.int .i64 j) ∧ w1.cell? ⟨w.heap.size + 1, 2, none⟩ = some (.string x) := by
  obtain ⟨h1, h2⟩ := two_cells h.chip
  obtain ⟨h3, h4, h5⟩ := three_cells h.job
  exact ⟨h1, h2, h3, h4, h5⟩
end Go.Proofs.Ytckkcimkfhhacaa
end

