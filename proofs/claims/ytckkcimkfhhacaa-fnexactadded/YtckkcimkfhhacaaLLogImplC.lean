/- Several texts in one: LogImplC, LogImplD. -/
import Derived.Test.YtckkcimkfhhacaaLLogImplA
import Derived.Test.YtckkcimkfhhacaaLCloneW
section
namespace Go.Proofs.Ytckkcimkfhhacaa
open Go.RowKit
set_option linter.unusedVariables false
set_option linter.unusedSimpArgs false
set_option maxRecDepth 20000

def catF (P : Nat → List Jb) : Nat → List Jb
  | 0 => []
  | k + 1 => catF P k ++ P k
theorem catF_le (P : Nat → List Jb) {k m : Nat} (h : k ≤ m) : (catF P k).length ≤ (catF P m).length := by
  induction m with
  | zero => rw [show k = 0 by omega]; exact Nat.le_refl _
  | succ m ih =>
    rcases Nat.lt_or_ge k (m + 1) with h1 | h1
    · have := ih (by omega)
      show _ ≤ (catF P m ++ P m).length
      rw [List.length_append]; omega
    · rw [show k = m + 1 by omega]; exact Nat.le_refl _
theorem takeJ_snoc (l : List Jb) {j : Nat} (h : j < l.length) : l.take (j + 1) = l.take j ++ [jbAt l j] := by
  unfold jbAt
  rw [List.take_add_one, List.getD_eq_getElem?_getD, List.getElem?_eq_getElem h]
  rfl

set_option maxHeartbeats 3200000 in
theorem joinedPuts_any (a : Option Addr) (m cap : Nat) (A : Nat → Option Addr) (N C : Nat → Nat) (P : Nat → List Jb) (w : World) {lo hi : Nat} (hr : Reads lo hi w a m (fun i => .slice (A i) (N i) (C i))) (hhi : hi ≤ w.heap.size) (hj : ∀ i, i < m → Jobs lo hi w (A i) (N i) (P i)) (hm : m ≤ 1000) (hts : ∀ i, i < m → ∀ x ∈ P i, x.2.2.size ≤ 1048576) (htot : (catF P m).length ≤ 1000) :
    Calls Try.prog 42 #[.slice a m cap] w fun r w' => ∃ a' c', r = .returned (.slice a' (catF P m).length c') ∧ OwnJobs w.heap.size w'.heap.size w' a' (catF P m).length (catF P m) ∧ Below w.heap.size w w' := by
  have HR := hide hr
  have HJ := hide hj
  have HTS := hide hts
  have HTOT := hide htot
  clear hr hj hts htot
  have HM0 := hide (pt_made0 w)
  have HB0 : Hid (Below w.heap.size w (w.alloc (.cells #[] 38))) := (Below.refl _ _).alloc (Nat.le_refl _) _
  go_enter Try.func42, Try.ntmps42
  go_wp2_with fail
  go_loopw [3, 11] (fun v i wr => ∃ k : Nat, k ≤ m ∧ i = .int .i64 (k : Int) ∧ PtOwn w.heap.size wr v (catF P k) ∧ Below w.heap.size w wr) (fun _ i _ => m - (intOf i).toNat)
  case atStart => exact ⟨0, Nat.zero_le _, rfl, HM0.out, HB0.out⟩
  case round =>
    obtain ⟨k, hk, rfl, how, hbl⟩ := hrel
    clear HM0 HB0
    by_cases hlt : k < m
    · obtain ⟨b, off, rfl, hb1, hb2, hcc⟩ := HR.out.2 (by omega)
      have hck : wr.cell? ⟨b, off + k, none⟩ = some (.slice (A k) (N k) (C k)) := (hbl.cell (p := ⟨b, off + k, none⟩) (by show b < _; omega)).trans (hcc k hlt)
      have HJK := hide (HJ.out k hlt)
      have hNk : (P k).length = N k := HJK.out.1
      have HTK := hide (HTS.out k hlt)
      have hLE : (catF P k).length + N k ≤ 1000 := by
        have h1 := catF_le P (show k + 1 ≤ m by omega)
        have h2 := HTOT.out
        have h3 : (catF P (k + 1)).length = (catF P k).length + (P k).length := by show (catF P k ++ P k).length = _; rw [List.length_append]
        omega
      have HNK := hide hNk
      have HOW := hide how
      have HBL := hide hbl
      clear how hbl hcc hNk
      generalize A k = Ak at *
      generalize N k = Nk at *
      generalize C k = Ck at *
      go_wp2_with fail
      clear hck
      go_loopw [3, 17] (fun v i wr => ∃ j : Nat, j ≤ Nk ∧ i = .int .i64 (j : Int) ∧ PtOwn w.heap.size wr v (catF P k ++ (P k).take j) ∧ Below w.heap.size w wr) (fun _ i _ => Nk - (intOf i).toNat)
      case atStart => exact ⟨0, Nat.zero_le _, rfl, by rw [List.take_zero, List.append_nil]; exact HOW.out, HBL.out⟩
      case round =>
        obtain ⟨j, hj, rfl, how, hbl⟩ := hrel
        clear HOW HBL
        by_cases hjl : j < Nk
        · obtain ⟨b', off', rfl, hb1', hb2', hcc⟩ := HJK.out.2.2 (by omega)
          obtain ⟨x0, x1, x2⟩ := job_cells hcc hbl (show b' < w.heap.size by omega) hjl
          have hys : (jbAt (P k) j).2.2.size ≤ 1048576 := HTK.out _ (by
            unfold jbAt
            rw [List.getD_eq_getElem?_getD, List.getElem?_eq_getElem (by rw [HNK.out]; exact hjl)]
            exact List.getElem_mem _)
          have HSN := hide (takeJ_snoc (P k) (show j < (P k).length by rw [HNK.out]; exact hjl))
          have hlj : (catF P k ++ (P k).take j).length = (catF P k).length + j := by rw [List.length_append, List.length_take, HNK.out]; omega
          generalize jbAt (P k) j = y at *
          obtain ⟨ya, yb, yt⟩ := y
          dsimp only at x0 x1 x2 hys
          obtain ⟨a0, c0, e0, hc0⟩ := pt_form how
          subst e0
          obtain ⟨n0, hn0⟩ : ∃ n0, n0 = (catF P k ++ (P k).take j).length := ⟨_, rfl⟩
          rw [← hn0]
          have HOW : Hid (PtOwn w.heap.size wr (.slice a0 n0 c0) (catF P k ++ (P k).take j)) := by rw [hn0]; exact how
          have HN0 := hide hn0
          have hn1 : n0 ≤ 1000 := by omega
          have HBL := hide hbl
          have HHJ := hide hlj
          clear how hbl hcc hc0 hn0 hlj
          obtain ⟨w1, hw1⟩ : ∃ w1, w1 = wr.alloc (.cells #[.int .i64 ya, .int .i64 yb, .string yt] 38) := ⟨_, rfl⟩
          have HB1 : Hid (Below wr.heap.size wr w1) := by rw [hw1]; exact (Below.refl _ _).alloc (Nat.le_refl _) _
          have HK1 : Hid (w1.heap[wr.heap.size]? = some (.cells #[.int .i64 ya, .int .i64 yb, .string yt] 38)) := by rw [hw1]; exact heap_new _ _
          obtain ⟨d0, d1, d2⟩ := three_cells HK1.out
          go_upto_region 8 with fail
          rw [← hw1]
          clear hw1 x0 x1 x2
          go_wp2_with fail
          refine (cloneT_any yt w1 hys).mono ?_
          rintro e w2 ⟨rfl, b2⟩
          have HK2 := hide (block_on HK1.out b2)
          have HB2 := hide (below_here HB1.out b2)
          have HK3 := hide (set_block HK2.out 2 (.string yt) (by simp))
          have HB3 := hide (HB2.out.setCell (p := ⟨wr.heap.size, 2, none⟩) (Nat.le_refl _) (.string yt))
          clear b2 d0 d1 d2 HB1 HK1
          obtain ⟨d0, d1, d2⟩ := three_cells HK2.out
          have fz := four_frozen HK2.out 2
          clear HK2 HB2
          go_upto_region 9 with fail
          obtain ⟨w3, hw3⟩ : ∃ w3, w3 = w2.setCell ⟨wr.heap.size, 2, none⟩ (.string yt) := ⟨_, rfl⟩
          rw [← hw3] at HK3 HB3
          rw [← hw3]
          clear hw3 d0 d1 d2 fz
          obtain ⟨d0, d1, d2⟩ := three_cells (show w3.heap[wr.heap.size]? = some (.cells #[.int .i64 ya, .int .i64 yb, .string yt] 38) from HK3.out)
          have HB4 : Hid (Below wr.heap.size wr (w3.alloc (.cells #[.int .i64 ya, .int .i64 yb, .string yt] 38))) := HB3.out.alloc HB3.out.size _
          have hone : Jobs w3.heap.size (w3.alloc (.cells #[.int .i64 ya, .int .i64 yb, .string yt] 38)).heap.size (w3.alloc (.cells #[.int .i64 ya, .int .i64 yb, .string yt] 38)) (some ⟨w3.heap.size, 0, none⟩) 1 [(ya, yb, yt)] := jobs_one (heap_new _ _) (Nat.le_refl _)
          have hpo4 := pt_later HOW.out HB4.out
          have hszr := HBL.out.size
          obtain ⟨a7, c7, w7, hap7, hpo7, hgr7, _⟩ := append_puts (P := Try.prog) Try.infoPtI Try.underlying27 hpo4 (by have := HB4.out.size; omega) (c := 1) hone (by omega)
          have HB7 : Hid (Below w.heap.size w w7) := (below_here HBL.out HB4.out).grown hgr7 (by have := HB4.out.size; omega) (fun q e => (World.ownsRow.lt hpo4 q e).1)
          rw [List.append_assoc, ← HSN.out] at hpo7
          have HPO := hide hpo7
          have HAP := hide hap7
          clear hap7 hpo7 hgr7 hpo4 hone HSN HK3
          go_wp2_with (at_builtin; refine wpList_append_eq rfl _ _ 27 rfl _ _ _ w7 rfl rfl HAP.out ?_)
          go_roundw
          case rel => exact ⟨j + 1, by omega, by go_num, HPO.out, HB7.out⟩
          case measure => simp [intOf]; omega
        · obtain rfl : j = Nk := by omega
          rw [List.take_of_length_le (by rw [HNK.out]; exact Nat.le_refl _)] at how
          have HPO := hide (show PtOwn w.heap.size wr _ (catF P (k + 1)) from how)
          have HBL := hide hbl
          clear how hbl
          go_wp2_with fail
          go_roundw
          case rel => exact ⟨k + 1, by omega, by go_num, HPO.out, HBL.out⟩
          case measure => simp [intOf]; omega
    · obtain rfl : k = m := by omega
      obtain ⟨a', c', rfl, _⟩ := pt_form how
      have HPO := hide (pt_own how)
      have HBL := hide hbl
      clear how hbl
      go_wp2_with fail
      go_ret
      exact ⟨a', c', rfl, HPO.out, HBL.out⟩
end Go.Proofs.Ytckkcimkfhhacaa
end

section
namespace Go.Proofs.Ytckkcimkfhhacaa
open Go.RowKit
set_option linter.unusedVariables false
set_option linter.unusedSimpArgs false
set_option maxRecDepth 20000

/-- One slice in a row of its own. -/
theorem row_one1 {w : World} {b : Nat} {v : Value} {t : TypeId} {fr : Nat × Nat} (h : w.heap[b]? = some (.cells #[v] t fr)) : Reads 0 w.heap.size w (some ⟨b, 0, none⟩) 1 (fun _ => v) := by
  refine ⟨Nat.le_refl _, fun _ => ⟨b, 0, rfl, Nat.zero_le _, (Array.getElem?_eq_some_iff.1 h).1, fun i hi => ?_⟩⟩
  rw [show i = 0 by omega]
  simp [World.cell?, h]
theorem fits_drop {ps : List Jb} {rm : Int} (h : logOk rm ps = true) (d : Nat) : ∀ x ∈ ps.drop d, x.2.2.size ≤ 1048576 := fun x hx => by
  have hm := List.mem_of_mem_drop hx
  obtain ⟨i, hi, e⟩ := List.getElem_of_mem hm
  have := putOk_in (logOk_at h hi)
  have e2 : jbAt ps i = x := by unfold jbAt; rw [List.getD_eq_getElem?_getD, List.getElem?_eq_getElem hi, e]; rfl
  rw [e2] at this
  omega

set_option maxHeartbeats 3200000 in
theorem implSince_any (rm : Int) (a : Option Addr) (n cap : Nat) (ps : List Jb) (s : Int) (w : World) {lo hi : Nat} (h : Jobs lo hi w a n ps) (hhi : hi ≤ w.heap.size) (hn : n ≤ 1048576) (hcap : n ≤ cap) (hc2 : cap ≤ 1048576) (hf : ∀ x ∈ ps, jbFits x) (hs : (Lit.int .i64 s).wf = true) :
    Calls Try.prog 21 #[.agg #[.int .i64 rm, .slice a n cap], .int .i64 s] w fun r w' => ∃ a' c', r = .returned (.tuple #[.slice a' (sinceR rm ps s).length c', .bool (hasSince rm ps s)]) ∧ OwnJobs w.heap.size w'.heap.size w' a' (sinceR rm ps s).length (sinceR rm ps s) ∧ Below w.heap.size w w' := by
  obtain ⟨wA, hwA⟩ : ∃ wA, wA = w.alloc (.cells #[.int .i64 rm, .slice a n cap] 29) := ⟨_, rfl⟩
  have HBA : Hid (Below w.heap.size w wA) := by rw [hwA]; exact (Below.refl _ _).alloc (Nat.le_refl _) _
  have H0 : Hid (wA.heap[w.heap.size]? = some (.cells #[.int .i64 rm, .slice a n cap] 29)) := by rw [hwA]; exact heap_new _ _
  have HH := hide h
  have HL := hide h.1
  have HF := hide hf
  have HSA := hide (jl_later h HBA.out hhi)
  have hsr : -9223372036854775808 ≤ s ∧ s ≤ 9223372036854775807 := by simpa [Lit.wf, IntKind.min, IntKind.max, IntKind.signed, IntKind.bits] using hs
  clear h hf hs
  obtain ⟨c0, c1⟩ := two_cells H0.out
  go_enter Try.func21, Try.ntmps21
  go_upto_region 1 with fail
  rw [← hwA]
  clear hwA
  have HSZ := hide HBA.out.size
  go_wp2_with fail
  refine (implLogOk_any rm a n cap ps wA HSA.out (by have := HSZ.out; omega) hn hcap hc2 HF.out).mono ?_
  cases hl : logOk rm ps
  · have HN : Hid (hasSince rm ps s = false) := by show _ = _; unfold hasSince; rw [hl]; rfl
    rintro r w1 ⟨rfl, b1⟩
    have HB1 := hide (below_here HBA.out b1)
    clear b1 c0 c1
    go_wp2_with fail
    go_ret2
    exact ⟨none, 0, by rw [HN.out, sinceR_no HN.out]; rfl, by rw [sinceR_no HN.out]; exact oj_none, HB1.out⟩
  · rintro r w1 ⟨rfl, b1⟩
    have HB1 := hide (below_here HBA.out b1)
    have H1 := hide (block_on H0.out b1)
    have HS1 := hide (jl_later HSA.out b1 HSA.out.2.1)
    have hlen := logOk_len hl
    rw [HL.out] at hlen
    have hn20 : n ≤ 20 := by omega
    clear b1 c0 c1 H0 HSA hlen
    obtain ⟨c0, c1⟩ := two_cells H1.out
    rcases Nat.eq_zero_or_pos n with h0 | h0
    · subst h0
      have HN : Hid (hasSince rm ps s = false) := by show _ = _; unfold hasSince; rw [hl, HL.out]; rfl
      go_wp2_with fail
      go_ret2
      exact ⟨none, 0, by rw [HN.out, sinceR_no HN.out]; rfl, by rw [sinceR_no HN.out]; exact oj_none, HB1.out⟩
    · have hz1 := HS1.out.2.1
      obtain ⟨b, off, rfl, hb1, hb2, hcc⟩ := HS1.out.2.2 (by omega)
      obtain ⟨z0, z1, z2⟩ := job_cells hcc (Below.refl w1.heap.size w1) (show b < w1.heap.size by omega) h0
      have hub := putOk_in (logOk_at hl (i := 0) (by rw [HL.out]; omega))
      have HHS : Hid (hasSince rm ps s = (decide (0 ≤ s) && (decide ((jbAt ps 0).1 ≤ s + 1) && decide (s ≤ lastSeq ps)))) := by show _ = _; unfold hasSince; rw [hl, HL.out, decide_eq_true (by omega : n ≠ 0)]; rfl
      have HSF : Hid (sinceF ps s = ps.drop (s + 1 - (jbAt ps 0).1).toNat) := rfl
      have HOK := hide hl
      simp only [Nat.zero_mul, Nat.add_zero] at z0
      have hub1 := hub.1
      have hub2 := hub.2.1
      have HLS : Hid (lastSeq ps - (jbAt ps 0).1 ≤ n - 1 ∧ lastSeq ps ≤ 1000000) := by
        have := logOk_last hl (by rw [HL.out]; omega)
        rw [HL.out] at this
        exact this
      generalize (jbAt ps 0).1 = f at *
      clear hcc z1 z2 hub hl
      have hnz : ((n : Int) == 0) = false := by simp; omega
      have hn0 : (0 : Int) < (n : Int) := by omega
      have hwf : IntKind.i64.wrap (f - 1) = f - 1 := by rw [IntKind.wrap_i64]; omega
      by_cases t1 : s < f - 1
      · have HN : Hid (hasSince rm ps s = false) := by show _ = _; rw [HHS.out, decide_eq_false (by omega : ¬ f ≤ s + 1), Bool.false_and, Bool.and_false]
        go_wp2_with fail
        go_ret2
        exact ⟨none, 0, by rw [HN.out, sinceR_no HN.out]; rfl, by rw [sinceR_no HN.out]; exact oj_none, HB1.out⟩
      · go_wp2_with fail
        refine (lastSeq_any _ n cap ps w1 HS1.out hn h0).mono ?_
        have HL2 := hide HLS.out
        generalize lastSeq ps = q at *
        rintro r w2 ⟨rfl, rfl⟩
        by_cases t2 : q < s
        · have HN : Hid (hasSince rm ps s = false) := by show _ = _; rw [HHS.out, decide_eq_false (by omega : ¬ s ≤ q), Bool.and_false, Bool.and_false]
          go_wp2_with fail
          go_ret2
          exact ⟨none, 0, by rw [HN.out, sinceR_no HN.out]; rfl, by rw [sinceR_no HN.out]; exact oj_none, HB1.out⟩
        · have HN : Hid (hasSince rm ps s = true) := by show _ = _; rw [HHS.out, decide_eq_true (by omega : 0 ≤ s), decide_eq_true (by omega : f ≤ s + 1), decide_eq_true (by omega : s ≤ q)]; rfl
          obtain ⟨d, hd⟩ : ∃ d : Nat, d = (s + 1 - f).toNat := ⟨_, rfl⟩
          rw [← hd] at HSF
          have hdn : d ≤ n := by have := HL2.out; omega
          have hwd : IntKind.i64.wrap (s - (f - 1)) = (d : Int) := by rw [IntKind.wrap_i64]; have := HL2.out; omega
          have hd0 : (0 : Int) ≤ (d : Int) := by omega
          have hdi : (d : Int) ≤ (n : Int) := by omega
          have HR : Hid (sinceR rm ps s = ps.drop d) := by show _ = _; rw [sinceR_yes HN.out, HSF.out]
          have HJD := hide (jobs_drop HS1.out hdn)
          have HFD := hide (fits_drop HOK.out d)
          have HLD : Hid ((ps.drop d).length = n - d) := by show _ = _; rw [List.length_drop, HL.out]
          have HC : ∀ (A' : Option Addr) (c' : Nat), Hid (Jobs lo hi w1 A' (n - d) (ps.drop d) → Calls Try.prog 42 #[.slice (some ⟨w1.heap.size, 0, none⟩) 1 1] (w1.alloc (.cells #[.slice A' (n - d) c'] 27)) fun r w' => ∃ a2 c2, r = .returned (.slice a2 (n - d) c2) ∧ OwnJobs w1.heap.size w'.heap.size w' a2 (n - d) (ps.drop d) ∧ Below w1.heap.size w1 w') := fun A' c' hJ => by
            have hbx : Below w1.heap.size w1 (w1.alloc (.cells #[.slice A' (n - d) c'] 27)) := (Below.refl _ _).alloc (Nat.le_refl _) _
            have := joinedPuts_any (some ⟨w1.heap.size, 0, none⟩) 1 1 (fun _ => A') (fun _ => n - d) (fun _ => c') (fun _ => ps.drop d) _ (row_one1 (heap_new w1 (.cells #[.slice A' (n - d) c'] 27))) (Nat.le_refl _) (fun _ _ => jobs_wide (jl_later hJ hbx hz1) (Nat.zero_le _)) (by omega) (fun _ _ => HFD.out) (by show (ps.drop d).length ≤ _; rw [HLD.out]; omega)
            rw [show catF (fun _ => ps.drop d) 1 = ps.drop d from rfl, HLD.out] at this
            exact this.mono fun r w' hh => by
              obtain ⟨a2, c2, h1, h2, h3⟩ := hh
              exact ⟨a2, c2, h1, oj_wide h2 (by simp), below_here hbx h3⟩
          clear hd HL2 HLS
          rcases Nat.lt_or_ge d cap with hdc | hdc
          · have hnd : ¬ cap = d := by omega
            have hnd2 : ¬ cap - d = 0 := by omega
            go_wp2_with fail
            refine ((HC _ _).out HJD.out).mono ?_
            rintro r w3 ⟨a2, c2, rfl, o2, b3⟩
            have HB3 := hide (below_here HB1.out b3)
            have HO3 := hide (oj_wide (lo' := w.heap.size) o2 HB1.out.size)
            clear o2 b3 c0 c1 z0
            go_wp2_with fail
            go_ret2
            exact ⟨a2, c2, by rw [HN.out, HR.out, HLD.out]; rfl, by rw [HR.out, HLD.out]; exact HO3.out, HB3.out⟩
          · obtain rfl : cap = d := by omega
            have HE0 : Hid (Jobs lo hi w1 (some ⟨b, off, none⟩) (n - cap) (ps.drop cap)) := by
              have e0 : n - cap = 0 := by omega
              have e1 : ps.drop cap = [] := List.eq_nil_of_length_eq_zero (by rw [HLD.out]; exact e0)
              show Jobs _ _ _ _ _ _
              rw [e0, e1]
              exact ⟨rfl, hz1, fun h => absurd h (by decide)⟩
            have e0 : n - cap = 0 := by omega
            simp only [e0] at HC HE0 HLD
            clear e0
            go_wp2_with fail
            refine ((HC _ _).out HE0.out).mono ?_
            rintro r w3 ⟨a2, c2, rfl, o2, b3⟩
            have HB3 := hide (below_here HB1.out b3)
            have HO3 := hide (oj_wide (lo' := w.heap.size) o2 HB1.out.size)
            clear o2 b3 c0 c1 z0
            go_wp2_with fail
            go_ret2
            exact ⟨a2, c2, by rw [HN.out, HR.out, HLD.out]; rfl, by rw [HR.out, HLD.out]; exact HO3.out, HB3.out⟩

set_option maxHeartbeats 800000 in
theorem implBehind_any (rm : Int) (a : Option Addr) (n cap : Nat) (ps : List Jb) (s : Int) (w : World) {lo hi : Nat} (h : Jobs lo hi w a n ps) (hhi : hi ≤ w.heap.size) (hn : n ≤ 1048576) (hcap : n ≤ cap) (hc2 : cap ≤ 1048576) (hf : ∀ x ∈ ps, jbFits x) (hs : (Lit.int .i64 s).wf = true) :
    Calls Try.prog 26 #[.agg #[.int .i64 rm, .slice a n cap], .int .i64 s] w fun r w' => r = .returned (.int .i64 (behindI rm ps s)) ∧ Below w.heap.size w w' := by
  obtain ⟨wA, hwA⟩ : ∃ wA, wA = w.alloc (.cells #[.int .i64 rm, .slice a n cap] 29) := ⟨_, rfl⟩
  have HBA : Hid (Below w.heap.size w wA) := by rw [hwA]; exact (Below.refl _ _).alloc (Nat.le_refl _) _
  have H0 : Hid (wA.heap[w.heap.size]? = some (.cells #[.int .i64 rm, .slice a n cap] 29)) := by rw [hwA]; exact heap_new _ _
  have HSA := hide (jl_later h HBA.out hhi)
  have HF := hide hf
  clear h hf
  obtain ⟨c0, c1⟩ := two_cells H0.out
  go_enter Try.func26, Try.ntmps26
  go_upto_region 1 with fail
  rw [← hwA]
  clear hwA
  go_wp2_with fail
  refine (implSince_any rm a n cap ps s wA HSA.out (by have := HBA.out.size; omega) hn hcap hc2 HF.out hs).mono ?_
  cases hh : hasSince rm ps s
  · have HE : Hid (behindI rm ps s = -1) := by show _ = _; unfold behindI; rw [hh]; rfl
    rintro r w1 ⟨a', c', rfl, o1, b1⟩
    have HB1 := hide (below_here HBA.out b1)
    clear o1 b1 c0 c1
    generalize (sinceR rm ps s).length = L at *
    go_wp2_with fail
    go_ret
    exact ⟨by rw [HE.out]; rfl, HB1.out⟩
  · have HE : Hid (behindI rm ps s = ((sinceR rm ps s).length : Int)) := by show _ = _; unfold behindI; rw [hh, sinceR_yes hh]; rfl
    rintro r w1 ⟨a', c', rfl, o1, b1⟩
    have HB1 := hide (below_here HBA.out b1)
    clear o1 b1 c0 c1
    generalize (sinceR rm ps s).length = L at *
    go_wp2_with fail
    go_ret
    exact ⟨by rw [HE.out]; rfl, HB1.out⟩
end Go.Proofs.Ytckkcimkfhhacaa
end

