/- Several texts in one: LogImplA, LogImplB, LogSpecD. -/
import Derived.Test.YtckkcimkfhhacaaLLogMath
import Derived.Test.YtckkcimkfhhacaaLPutOwn
import Derived.Test.YtckkcimkfhhacaaLTextWalk
import Derived.Lib.QuietBelow
import Derived.BigQuiet
import Derived.Deep.Cut
import Derived.Test.YtckkcimkfhhacaaLLogSpecA
import Derived.Deep.RegionHeld3
import Derived.Deep.RegionLaw
section
namespace Go.Proofs.Ytckkcimkfhhacaa
open Go.RowKit
set_option linter.unusedVariables false
set_option linter.unusedSimpArgs false
set_option maxRecDepth 20000

theorem jl_fit {js : List Jb} {k : Nat} (h : ∀ x ∈ js, jbFits x) (hk : k < js.length) : jbFits (jbAt js k) := by
  unfold jbAt
  rw [List.getD_eq_getElem?_getD, List.getElem?_eq_getElem hk]
  exact h _ (List.getElem_mem hk)
theorem putOk_five (s a : Int) (x : ByteArray) : putOk (s, a, x) = (!(decide (s < 1) || decide (1000000 < s) || decide (a < 0) || decide (64 ≤ a) || decide (24 < (x.size : Int)))) := by
  unfold putOk inB
  rw [Bool.eq_iff_iff]
  simp
  omega

set_option maxHeartbeats 3200000 in
theorem arePuts_any (a : Option Addr) (n cap : Nat) (ps : List Jb) (w : World) {lo hi : Nat} (h : Jobs lo hi w a n ps) (hhi : hi ≤ w.heap.size) (hn : n ≤ 1048576) (hf : ∀ x ∈ ps, jbFits x) :
    Calls Try.prog 40 #[.slice a n cap] w fun r w' => r = .returned (.bool (putsAll ps n)) ∧ Below w.heap.size w w' := by
  have HH := hide h
  have HL := hide h.1
  have HF := hide hf
  clear h hf
  go_enter Try.func40, Try.ntmps40
  go_wp2_with fail
  go_loopw [7] (fun i wr => ∃ k : Nat, k ≤ n ∧ i = .int .i64 (k : Int) ∧ putsAll ps k = true ∧ Below w.heap.size w wr) (fun i _ => n - (intOf i).toNat)
  case atStart => exact ⟨0, Nat.zero_le _, rfl, rfl, Below.refl _ _⟩
  case round =>
    obtain ⟨k, hk, rfl, hpk, hbl⟩ := hrel
    have HPK := hide hpk
    have HBL := hide hbl
    clear hpk hbl
    by_cases hlt : k < n
    · obtain ⟨b, off, rfl, hb1, hb2, hcc⟩ := HH.out.2.2 (by omega)
      obtain ⟨x0, x1, x2⟩ := job_cells hcc HBL.out (show b < w.heap.size by omega) hlt
      have HNX : Hid (putsAll ps (k + 1) = putOk (jbAt ps k)) := by show _ = _; unfold putsAll; rw [HPK.out]; rfl
      have HNO : Hid (putsAll ps (k + 1) = false → putsAll ps n = false) := fun h => by
        have := putsAll_no h (n - (k + 1))
        rwa [show k + 1 + (n - (k + 1)) = n by omega] at this
      have hfx : (jbAt ps k).2.2.size ≤ maxLen := (jl_fit HF.out (by rw [HL.out]; exact hlt)).2.2
      generalize jbAt ps k = y at *
      obtain ⟨ya, yb, yt⟩ := y
      dsimp only at x0 x1 x2 HNX hfx
      have HB2 : Hid (Below w.heap.size w (wr.alloc (.cells #[.int .i64 ya, .int .i64 yb, .string yt] 38))) := HBL.out.alloc HBL.out.size _
      rw [putOk_five] at HNX
      clear hcc
      by_cases t1 : ya < 1
      · have HX : Hid (putsAll ps (k + 1) = false) := by show _ = _; rw [HNX.out, decide_eq_true t1]; simp
        go_wp2_with fail
        go_ret
        exact ⟨by rw [HNO.out HX.out]; rfl, HB2.out⟩
      · by_cases t2 : 1000000 < ya
        · have HX : Hid (putsAll ps (k + 1) = false) := by show _ = _; rw [HNX.out, decide_eq_true t2]; simp
          go_wp2_with fail
          go_ret
          exact ⟨by rw [HNO.out HX.out]; rfl, HB2.out⟩
        · by_cases t3 : yb < 0
          · have HX : Hid (putsAll ps (k + 1) = false) := by show _ = _; rw [HNX.out, decide_eq_true t3]; simp
            go_wp2_with fail
            go_ret
            exact ⟨by rw [HNO.out HX.out]; rfl, HB2.out⟩
          · by_cases t4 : 64 ≤ yb
            · have HX : Hid (putsAll ps (k + 1) = false) := by show _ = _; rw [HNX.out, decide_eq_true t4]; simp
              go_wp2_with fail
              go_ret
              exact ⟨by rw [HNO.out HX.out]; rfl, HB2.out⟩
            · by_cases t5 : 24 < (yt.size : Int)
              · have HX : Hid (putsAll ps (k + 1) = false) := by show _ = _; rw [HNX.out, decide_eq_true t5]; simp
                go_wp2_with fail
                go_ret
                exact ⟨by rw [HNO.out HX.out]; rfl, HB2.out⟩
              · have HX : Hid (putsAll ps (k + 1) = true) := by show _ = _; rw [HNX.out, decide_eq_false t1, decide_eq_false t2, decide_eq_false t3, decide_eq_false t4, decide_eq_false t5]; rfl
                go_wp2_with fail
                go_roundw
                case rel => exact ⟨k + 1, by omega, by go_num, HX.out, HB2.out⟩
                case measure => simp [intOf]; omega
    · obtain rfl : k = n := by omega
      go_wp2_with fail
      go_ret
      exact ⟨by rw [HPK.out]; rfl, HBL.out⟩

set_option maxHeartbeats 1600000 in
theorem areValues_any (a : Option Addr) (n cap : Nat) (ts : List ByteArray) (w : World) {lo hi : Nat} (h : Texts lo hi w a n ts) (hn : n ≤ 1048576) (hts : ∀ s ∈ ts, s.size ≤ 1048576) :
    Calls Try.prog 47 #[.slice a n cap] w fun r w' => r = .returned (.bool (valuesOk ts)) ∧ w = w' := by
  obtain ⟨hl, hsz, hx⟩ := h
  have HL : Hid (ts.length = n) := hl
  have HTS := hide hts
  clear hl hts
  by_cases h64 : 64 < (n : Int)
  · have HE : Hid (valuesOk ts = false) := by show _ = _; unfold valuesOk; rw [HL.out, decide_eq_false (by omega)]; rfl
    go_enter Try.func47, Try.ntmps47
    go_wp2_with fail
    go_ret
    exact ⟨by rw [HE.out]; rfl, rfl⟩
  · have HE : Hid (valuesOk ts = shortAll ts n) := by show _ = _; unfold valuesOk; rw [HL.out, decide_eq_true (by omega)]; rfl
    go_enter Try.func47, Try.ntmps47
    go_wp2_with fail
    go_loopw [10] (fun i wr => ∃ k : Nat, k ≤ n ∧ i = .int .i64 (k : Int) ∧ shortAll ts k = true ∧ w = wr) (fun i _ => n - (intOf i).toNat)
    case atStart => exact ⟨0, Nat.zero_le _, rfl, rfl, rfl⟩
    case round =>
      obtain ⟨k, hk, rfl, hpk, rfl⟩ := hrel
      have HPK := hide hpk
      clear hpk
      by_cases hlt : k < n
      · obtain ⟨b, off, rfl, _, hb, hc⟩ := hx (by omega)
        have hck : w.cell? ⟨b, off + k, none⟩ = some (.string (ts.getD k ByteArray.empty)) := hc k hlt
        have HNX : Hid (shortAll ts (k + 1) = decide ((ts.getD k ByteArray.empty).size ≤ 24)) := by show _ = _; unfold shortAll; rw [HPK.out]; rfl
        have HNO : Hid (shortAll ts (k + 1) = false → shortAll ts n = false) := fun h => by
          have := shortAll_no h (n - (k + 1))
          rwa [show k + 1 + (n - (k + 1)) = n by omega] at this
        have hfx : (ts.getD k ByteArray.empty).size ≤ 1048576 := HTS.out _ (by
          rw [List.getD_eq_getElem?_getD, List.getElem?_eq_getElem (by rw [HL.out]; exact hlt)]
          exact List.getElem_mem _)
        clear hc hx
        generalize ts.getD k ByteArray.empty = z at *
        by_cases t1 : 24 < (z.size : Int)
        · have HX : Hid (shortAll ts (k + 1) = false) := by show _ = _; rw [HNX.out, decide_eq_false (by omega)]
          go_wp2_with fail
          go_ret
          exact ⟨by rw [HE.out, HNO.out HX.out]; rfl, rfl⟩
        · have HX : Hid (shortAll ts (k + 1) = true) := by show _ = _; rw [HNX.out, decide_eq_true (by omega)]
          go_wp2_with fail
          go_roundw
          case rel => exact ⟨k + 1, by omega, by go_num, HX.out, trivial⟩
          case measure => simp [intOf]; omega
      · obtain rfl : k = n := by omega
        go_wp2_with fail
        go_ret
        exact ⟨by rw [HE.out, HPK.out]; rfl, rfl⟩

set_option maxHeartbeats 800000 in
theorem lastSeq_any (a : Option Addr) (n cap : Nat) (ps : List Jb) (w : World) {lo hi : Nat} (h : Jobs lo hi w a n ps) (hn : n ≤ 1048576) (h1 : 1 ≤ n) :
    Calls Try.prog 43 #[.slice a n cap] w fun r w' => r = .returned (.int .i64 (lastSeq ps)) ∧ w = w' := by
  obtain ⟨j, hkj⟩ : ∃ j, n = j + 1 := ⟨n - 1, by omega⟩
  have HLQ : Hid (lastSeq ps = (jbAt ps j).1) := by show _ = _; unfold lastSeq; rw [h.1, hkj]; rfl
  have hz := h.2.1
  obtain ⟨b, off, rfl, hb1, hb2, hcc⟩ := h.2.2 (by omega)
  obtain ⟨z0, z1, z2⟩ := job_cells hcc (Below.refl w.heap.size w) (show b < w.heap.size by omega) (show j < n by omega)
  have hwj : IntKind.i64.wrap ((n : Int) - 1) = (j : Int) := by rw [IntKind.wrap_i64]; omega
  have hj0 : (0 : Int) ≤ (j : Int) := by omega
  have hjn : (j : Int) < (n : Int) := by omega
  have HKJ := hide hkj
  clear h hcc z1 z2 hkj
  generalize (jbAt ps j).1 = q at *
  go_enter Try.func43, Try.ntmps43
  go_wp2_with fail
  go_ret
  exact ⟨by rw [HLQ.out]; rfl, rfl⟩

def nextOk (ps : List Jb) (s : Int) : Bool := decide (ps.length = 0) || decide (s = lastSeq ps + 1)
set_option maxHeartbeats 1600000 in
theorem isNext_any (a : Option Addr) (n cap : Nat) (ps : List Jb) (s t : Int) (x : ByteArray) (w : World) {lo hi : Nat} (h : Jobs lo hi w a n ps) (hhi : hi ≤ w.heap.size) (hn : n ≤ 1048576) (hp : n ≠ 0 → 1 ≤ lastSeq ps ∧ lastSeq ps ≤ 1000000) :
    Calls Try.prog 41 #[.slice a n cap, .agg #[.int .i64 s, .int .i64 t, .string x]] w fun r w' => r = .returned (.bool (nextOk ps s)) ∧ Below w.heap.size w w' := by
  obtain ⟨wA, hwA⟩ : ∃ wA, wA = w.alloc (.cells #[.int .i64 s, .int .i64 t, .string x] 38) := ⟨_, rfl⟩
  have HBA : Hid (Below w.heap.size w wA) := by rw [hwA]; exact (Below.refl _ _).alloc (Nat.le_refl _) _
  have H0 : Hid (wA.heap[w.heap.size]? = some (.cells #[.int .i64 s, .int .i64 t, .string x] 38)) := by rw [hwA]; exact heap_new _ _
  have HSA := hide (jl_later h HBA.out hhi)
  have HL := hide h.1
  obtain ⟨c0, c1, c2⟩ := three_cells H0.out
  clear h
  go_enter Try.func41, Try.ntmps41
  go_upto_region 1 with fail
  rw [← hwA]
  clear hwA
  have q0 := fun d os => cell_regrown c0 d os
  rcases Nat.eq_zero_or_pos n with h0 | h0
  · subst h0
    have HE : Hid (nextOk ps s = true) := by show _ = _; unfold nextOk; rw [HL.out]; rfl
    refine wp_region_quiet_below (by kernel_rfl) (by kernel_rfl) ?_
    repeat (go_big_quiet_step (fail))
    refine wpQuiet_nil ?_
    intro _ hw'
    obtain ⟨⟨dq, osq⟩, hw''⟩ := hw'
    subst hw''
    have HBQ := hide (below_here HBA.out (below_regrown wA dq osq))
    go_wp2_with fail
    go_ret
    exact ⟨by rw [HE.out]; rfl, HBQ.out⟩
  · obtain ⟨p1, p2⟩ := hp (by omega)
    have hwu : IntKind.i64.wrap (lastSeq ps + 1) = lastSeq ps + 1 := by rw [IntKind.wrap_i64]; omega
    have hnz : ((n : Int) == 0) = false := by simp; omega
    have HCL : ∀ d os, Calls Try.prog 43 #[.slice a n cap] (Go.Sort.grow (redrawn wA d) os) fun e w'' => e = .returned (.int .i64 (lastSeq ps)) ∧ ∃ p : Regrown, w'' = Go.Sort.grow (redrawn wA p.d) p.os := fun d os => Calls.regrown_of ((lastSeq_any a n cap ps _ (jl_later HSA.out (below_regrown wA d os) HSA.out.2.1) hn h0).mono fun e w' hh => ⟨hh.1, hh.2 ▸ Below.refl _ _⟩)
    have HE : Hid (nextOk ps s = decide (s = lastSeq ps + 1)) := by show _ = _; unfold nextOk; rw [HL.out, decide_eq_false (by omega)]; rfl
    clear p1 p2 hp
    generalize lastSeq ps = q at *
    refine wp_region_quiet_below (by kernel_rfl) (by kernel_rfl) ?_
    repeat (go_big_quiet_step ((go_at_call 43; exact HCL _ _)))
    refine wpQuiet_nil ?_
    intro _ hw'
    obtain ⟨⟨dq, osq⟩, hw''⟩ := hw'
    subst hw''
    have HBQ := hide (below_here HBA.out (below_regrown wA dq osq))
    go_wp2_with fail
    go_ret
    exact ⟨by rw [HE.out]; rfl, HBQ.out⟩
end Go.Proofs.Ytckkcimkfhhacaa
end

section
namespace Go.Proofs.Ytckkcimkfhhacaa
open Go.RowKit
set_option linter.unusedVariables false
set_option linter.unusedSimpArgs false
set_option maxRecDepth 20000

theorem jbAt_take (ps : List Jb) {k i : Nat} (h : i < k) : jbAt (ps.take k) i = jbAt ps i := by
  unfold jbAt
  rw [List.getD_eq_getElem?_getD, List.getD_eq_getElem?_getD, List.getElem?_take_of_lt h]
theorem jobs_take {lo hi n k : Nat} {w : World} {a : Option Addr} {ps : List Jb} (h : Jobs lo hi w a n ps) (hk : k ≤ n) : Jobs lo hi w a k (ps.take k) := by
  refine ⟨by rw [List.length_take, h.1]; omega, h.2.1, fun h0 => ?_⟩
  obtain ⟨b, off, e, h1, h2, h3⟩ := h.2.2 (by omega)
  refine ⟨b, off, e, h1, h2, fun i hi => ?_⟩
  rw [h3 i (by omega)]
  unfold cellJ
  rw [jbAt_take ps (show i / 3 < k by omega)]
theorem lastSeq_take (ps : List Jb) {k : Nat} (h : k ≤ ps.length) (h1 : 1 ≤ k) : lastSeq (ps.take k) = (jbAt ps (k - 1)).1 := by
  unfold lastSeq
  rw [List.length_take, show min k ps.length = k by omega, jbAt_take ps (by omega)]
theorem nextOk_take (ps : List Jb) {k : Nat} (h : k ≤ ps.length) (s : Int) : nextOk (ps.take k) s = (decide (k = 0) || decide (s = (jbAt ps (k - 1)).1 + 1)) := by
  unfold nextOk
  rw [List.length_take, show min k ps.length = k by omega]
  rcases Nat.eq_zero_or_pos k with h0 | h0
  · subst h0; rfl
  · rw [lastSeq_take ps h h0]

set_option maxHeartbeats 3200000 in
theorem implLogOk_any (rm : Int) (a : Option Addr) (n cap : Nat) (ps : List Jb) (w : World) {lo hi : Nat} (h : Jobs lo hi w a n ps) (hhi : hi ≤ w.heap.size) (hn : n ≤ 1048576) (hcap : n ≤ cap) (hc2 : cap ≤ 1048576) (hf : ∀ x ∈ ps, jbFits x) :
    Calls Try.prog 12 #[.agg #[.int .i64 rm, .slice a n cap]] w fun r w' => r = .returned (.bool (logOk rm ps)) ∧ Below w.heap.size w w' := by
  obtain ⟨wA, hwA⟩ : ∃ wA, wA = w.alloc (.cells #[.int .i64 rm, .slice a n cap] 29) := ⟨_, rfl⟩
  have HBA : Hid (Below w.heap.size w wA) := by rw [hwA]; exact (Below.refl _ _).alloc (Nat.le_refl _) _
  have H0 : Hid (wA.heap[w.heap.size]? = some (.cells #[.int .i64 rm, .slice a n cap] 29)) := by rw [hwA]; exact heap_new _ _
  have HH := hide h
  have HL := hide h.1
  have HF := hide hf
  have HSA := hide (jl_later h HBA.out hhi)
  clear h hf
  obtain ⟨c0, c1⟩ := two_cells H0.out
  go_enter Try.func12, Try.ntmps12
  go_upto_region 1 with fail
  rw [← hwA]
  clear hwA
  by_cases t1 : rm < 1
  · have HE : Hid (logOk rm ps = false) := by show _ = _; unfold logOk inB; rw [decide_eq_false (by omega : ¬ 1 ≤ rm)]; rfl
    go_wp2_with fail
    go_ret
    exact ⟨by rw [HE.out]; rfl, HBA.out⟩
  · by_cases t2 : 20 < rm
    · have HE : Hid (logOk rm ps = false) := by show _ = _; unfold logOk inB; rw [decide_eq_false (by omega : ¬ rm ≤ 20), Bool.and_false]; rfl
      go_wp2_with fail
      go_ret
      exact ⟨by rw [HE.out]; rfl, HBA.out⟩
    · by_cases t3 : rm < (n : Int)
      · have HE : Hid (logOk rm ps = false) := by show _ = _; unfold logOk; rw [HL.out, decide_eq_false (by omega : ¬ (n : Int) ≤ rm), Bool.false_and, Bool.and_false]
        go_wp2_with fail
        go_ret
        exact ⟨by rw [HE.out]; rfl, HBA.out⟩
      · have HE : Hid (logOk rm ps = putsOk ps n) := by show _ = _; unfold logOk inB; rw [HL.out, decide_eq_true (by omega : (n : Int) ≤ rm), decide_eq_true (by omega : 1 ≤ rm), decide_eq_true (by omega : rm ≤ 20)]; rfl
        rw [putsOk_two] at HE
        have HSZ := hide HBA.out.size
        go_wp2_with fail
        refine (arePuts_any a n cap ps wA HSA.out (by have := HSZ.out; omega) hn HF.out).mono ?_
        cases hpa : putsAll ps n
        · rintro r w1 ⟨rfl, b1⟩
          have HB1 := hide (below_here HBA.out b1)
          clear b1 c0 c1
          go_wp2_with fail
          go_ret
          exact ⟨by rw [HE.out, hpa]; rfl, HB1.out⟩
        · rintro r w1 ⟨rfl, b1⟩
          have HB1 := hide (below_here HBA.out b1)
          have H1 := hide (block_on H0.out b1)
          have HPA := hide hpa
          clear b1 c0 c1 H0 HBA HSA hpa
          obtain ⟨c0, c1⟩ := two_cells H1.out
          go_wp2_with fail
          clear c0 c1
          go_loopw [29] (fun i wr => ∃ k : Nat, k ≤ n ∧ i = .int .i64 (k : Int) ∧ rowOk ps k = true ∧ Below w1.heap.size w1 wr) (fun i _ => n - (intOf i).toNat)
          case atStart => exact ⟨0, Nat.zero_le _, rfl, rfl, Below.refl _ _⟩
          case round =>
            obtain ⟨k, hk, rfl, hpk, hbl⟩ := hrel
            have HPK := hide hpk
            have HBL := hide hbl
            have HBW := hide (below_here HB1.out hbl)
            obtain ⟨c0, c1⟩ := two_cells (block_on H1.out hbl)
            clear hpk hbl
            by_cases hlt : k < n
            · obtain ⟨b, off, rfl, hb1, hb2, hcc⟩ := HH.out.2.2 (by omega)
              obtain ⟨x0, x1, x2⟩ := job_cells hcc HBW.out (show b < w.heap.size by omega) hlt
              have hkn : (k : Int) < (n : Int) := by omega
              have hkc : (k : Int) ≤ (cap : Int) := by omega
              have hk0 : (0 : Int) ≤ (k : Int) := by omega
              have hp1 : k ≠ 0 → 1 ≤ lastSeq (ps.take k) ∧ lastSeq (ps.take k) ≤ 1000000 := fun h0 => by
                rw [lastSeq_take ps (by rw [HL.out]; exact hk) (by omega)]
                have := putOk_in (putsAll_at HPA.out (i := k - 1) (by omega))
                omega
              have HNX : Hid (rowOk ps (k + 1) = nextOk (ps.take k) (jbAt ps k).1) := by show _ = _; rw [nextOk_take ps (by rw [HL.out]; exact hk)]; unfold rowOk; rw [HPK.out]; rfl
              have HNO : Hid (rowOk ps (k + 1) = false → rowOk ps n = false) := fun h => by
                have := rowOk_no h (n - (k + 1))
                rwa [show k + 1 + (n - (k + 1)) = n by omega] at this
              generalize jbAt ps k = y at *
              obtain ⟨ya, yb, yt⟩ := y
              dsimp only at x0 x1 x2 HNX
              have hCN : ∀ W, Hid (Below wr.heap.size wr W → Calls Try.prog 41 #[.slice (some ⟨b, off, none⟩) k cap, .agg #[.int .i64 ya, .int .i64 yb, .string yt]] W fun r w' => r = .returned (.bool (nextOk (ps.take k) ya)) ∧ Below W.heap.size W w') := fun W hb => isNext_any _ k cap (ps.take k) ya yb yt W (jl_later (jobs_take HH.out (by omega)) (below_here HBW.out hb) hhi) (by have := (below_here HBW.out hb).size; omega) (by omega) hp1
              have q0 := fun d os => cell_regrown c0 d os
              have q1 := fun d os => cell_regrown c1 d os
              have q2 := fun d os => cell_regrown x0 d os
              have q3 := fun d os => cell_regrown x1 d os
              have q4 := fun d os => cell_regrown x2 d os
              clear hp1 hcc
              cases hnx : nextOk (ps.take k) ya
              · have cP : ∀ d os, Calls Try.prog 41 #[.slice (some ⟨b, off, none⟩) k cap, .agg #[.int .i64 ya, .int .i64 yb, .string yt]] (Go.Sort.grow (redrawn wr d) os) fun e w'' => e = .returned (.bool false) ∧ ∃ p : Regrown, w'' = Go.Sort.grow (redrawn wr p.d) p.os := fun d os => Calls.regrown_of (((hCN _).out (below_regrown wr d os)).mono fun e w' hh => by rw [hnx] at hh; exact hh)
                have HX : Hid (rowOk ps (k + 1) = false) := by show _ = _; rw [HNX.out, hnx]
                clear hnx
                go_upto_region 6 with fail
                refine wp_region_quiet_below (by kernel_rfl) (by kernel_rfl) ?_
                repeat (go_big_quiet_step ((go_at_call 41; exact cP _ _)))
                refine wpQuiet_nil ?_
                intro _ hw'
                obtain ⟨⟨dq, osq⟩, hw''⟩ := hw'
                subst hw''
                have HBQ := hide (below_here HBW.out (below_regrown wr dq osq))
                clear q0 q1 q2 q3 q4 cP hCN
                generalize Go.Sort.grow (redrawn wr dq) osq = wq at *
                go_wp2_with fail
                go_ret
                exact ⟨by rw [HE.out, HNO.out HX.out, Bool.and_false]; rfl, HBQ.out⟩
              · have cP : ∀ d os, Calls Try.prog 41 #[.slice (some ⟨b, off, none⟩) k cap, .agg #[.int .i64 ya, .int .i64 yb, .string yt]] (Go.Sort.grow (redrawn wr d) os) fun e w'' => e = .returned (.bool true) ∧ ∃ p : Regrown, w'' = Go.Sort.grow (redrawn wr p.d) p.os := fun d os => Calls.regrown_of (((hCN _).out (below_regrown wr d os)).mono fun e w' hh => by rw [hnx] at hh; exact hh)
                have HX : Hid (rowOk ps (k + 1) = true) := by show _ = _; rw [HNX.out, hnx]
                clear hnx
                go_upto_region 6 with fail
                refine wp_region_quiet_below (by kernel_rfl) (by kernel_rfl) ?_
                repeat (go_big_quiet_step ((go_at_call 41; exact cP _ _)))
                refine wpQuiet_nil ?_
                intro _ hw'
                obtain ⟨⟨dq, osq⟩, hw''⟩ := hw'
                subst hw''
                have HBQ := hide (below_here HBL.out (below_regrown wr dq osq))
                clear q0 q1 q2 q3 q4 cP hCN
                generalize Go.Sort.grow (redrawn wr dq) osq = wq at *
                go_wp2_with fail
                go_roundw
                case rel => exact ⟨k + 1, by omega, by go_num, HX.out, HBQ.out⟩
                case measure => simp [intOf]; omega
            · obtain rfl : k = n := by omega
              go_wp2_with fail
              go_ret
              exact ⟨by rw [HE.out, HPA.out, HPK.out]; rfl, HBW.out⟩
end Go.Proofs.Ytckkcimkfhhacaa
end

section
namespace Go.Proofs.Ytckkcimkfhhacaa
open Go.RowKit
set_option linter.unusedVariables false
set_option linter.unusedSimpArgs false
set_option maxRecDepth 20000

set_option maxHeartbeats 3200000 in
theorem specSince_any (rm : Int) (a : Option Addr) (n cap : Nat) (ps : List Jb) (s : Int) (w : World) {lo hi : Nat} (h : Jobs lo hi w a n ps) (hhi : hi ≤ w.heap.size) (hn : n ≤ 1048576) (hcap : n ≤ cap) (hc2 : cap ≤ 1048576) (hf : ∀ x ∈ ps, jbFits x) (hs : (Lit.int .i64 s).wf = true) :
    Calls Try.prog 20 #[.agg #[.int .i64 rm, .slice a n cap], .int .i64 s] w fun r w' => ∃ a' c', r = .returned (.tuple #[.slice a' (sinceR rm ps s).length c', .bool (hasSince rm ps s)]) ∧ OwnJobs w.heap.size w'.heap.size w' a' (sinceR rm ps s).length (sinceR rm ps s) ∧ Below w.heap.size w w' := by
  obtain ⟨wA, hwA⟩ : ∃ wA, wA = w.alloc (.cells #[.int .i64 rm, .slice a n cap] 29) := ⟨_, rfl⟩
  have HBA : Hid (Below w.heap.size w wA) := by rw [hwA]; exact (Below.refl _ _).alloc (Nat.le_refl _) _
  have H0 : Hid (wA.heap[w.heap.size]? = some (.cells #[.int .i64 rm, .slice a n cap] 29)) := by rw [hwA]; exact heap_new _ _
  have HL := hide h.1
  have HF := hide hf
  have HSA := hide (jl_later h HBA.out hhi)
  have hsr : -9223372036854775808 ≤ s ∧ s ≤ 9223372036854775807 := by simpa [Lit.wf, IntKind.min, IntKind.max, IntKind.signed, IntKind.bits] using hs
  clear h hf hs
  obtain ⟨c0, c1⟩ := two_cells H0.out
  go_enter Try.func20, Try.ntmps20
  go_upto_region 1 with fail
  rw [← hwA]
  clear hwA
  have HSZ := hide HBA.out.size
  go_wp2_with fail
  refine (specLogOk_any rm a n cap ps wA HSA.out (by have := HSZ.out; omega) hn HF.out).mono ?_
  cases hl : logOk rm ps
  · have HN : Hid (hasSince rm ps s = false) := by show _ = _; unfold hasSince; rw [hl]; rfl
    rintro r w1 ⟨rfl, b1⟩
    have HB1 := hide (below_here HBA.out b1)
    have HB2 : Hid (Below w.heap.size w (w1.alloc (.cells #[] 38))) := HB1.out.alloc HB1.out.size _
    clear b1 c0 c1
    go_wp2_with fail
    go_ret2
    exact ⟨_, _, by rw [HN.out, sinceR_no HN.out]; rfl, by rw [sinceR_no HN.out]; exact oj_nil, HB2.out⟩
  · rintro r w1 ⟨rfl, b1⟩
    have HB1 := hide (below_here HBA.out b1)
    have HB2 : Hid (Below w.heap.size w (w1.alloc (.cells #[] 38))) := HB1.out.alloc HB1.out.size _
    have H1 := hide (block_on H0.out b1)
    have HS1 := hide (jl_later HSA.out b1 HSA.out.2.1)
    have hlen := logOk_len hl
    rw [HL.out] at hlen
    have hn20 : n ≤ 20 := by omega
    have hszb := b1.size
    have hwA1 : w.heap.size < w1.heap.size := by have := (Array.getElem?_eq_some_iff.1 H1.out).1; omega
    clear b1 c0 c1 H0 HSA hlen
    obtain ⟨c0, c1⟩ := two_cells H1.out
    rcases Nat.eq_zero_or_pos n with h0 | h0
    · subst h0
      have HN : Hid (hasSince rm ps s = false) := by show _ = _; unfold hasSince; rw [hl, HL.out]; rfl
      go_wp2_with fail
      go_ret2
      exact ⟨_, _, by rw [HN.out, sinceR_no HN.out]; rfl, by rw [sinceR_no HN.out]; exact oj_nil, HB2.out⟩
    · have hz1 := HS1.out.2.1
      obtain ⟨b, off, rfl, hb1, hb2, hcc⟩ := HS1.out.2.2 (by omega)
      obtain ⟨z0, z1, z2⟩ := job_cells hcc (Below.refl w1.heap.size w1) (show b < w1.heap.size by omega) h0
      obtain ⟨j, hkj⟩ : ∃ j, n = j + 1 := ⟨n - 1, by omega⟩
      obtain ⟨y0, y1, y2⟩ := job_cells hcc (Below.refl w1.heap.size w1) (show b < w1.heap.size by omega) (show j < n by omega)
      have HLQ : lastSeq ps = (jbAt ps j).1 := by unfold lastSeq; rw [HL.out, hkj]; rfl
      have hub := putOk_in (logOk_at hl (i := 0) (by rw [HL.out]; omega))
      have HHS : Hid (hasSince rm ps s = (decide (0 ≤ s) && (decide ((jbAt ps 0).1 ≤ s + 1) && decide (s ≤ lastSeq ps)))) := by show _ = _; unfold hasSince; rw [hl, HL.out, decide_eq_true (by omega : n ≠ 0)]; rfl
      have HSF : Hid (sinceF ps s = ps.drop (s + 1 - (jbAt ps 0).1).toNat) := rfl
      have HOK := hide hl
      simp only [Nat.zero_mul, Nat.add_zero] at z0
      have hub1 := hub.1
      have hub2 := hub.2.1
      have HLS : Hid (lastSeq ps - (jbAt ps 0).1 ≤ n - 1 ∧ lastSeq ps ≤ 1000000) := by
        have := logOk_last hl (by rw [HL.out]; omega)
        rw [HL.out] at this
        exact this
      rw [← HLQ] at y0
      generalize (jbAt ps 0).1 = f at *
      clear hcc z1 z2 hub hl HLQ y1 y2
      generalize lastSeq ps = q at *
      have hwj : IntKind.i64.wrap ((n : Int) - 1) = (j : Int) := by rw [IntKind.wrap_i64]; omega
      have hj0 : (0 : Int) ≤ (j : Int) := by omega
      have hjn : (j : Int) < (n : Int) := by omega
      have HKJ := hide hkj
      clear hkj
      have hnz : ((n : Int) == 0) = false := by simp; omega
      have hn0 : (0 : Int) < (n : Int) := by omega
      by_cases hmx : s = 9223372036854775807
      · have HN : Hid (hasSince rm ps s = false) := by
          show _ = _
          have h2 := HLS.out
          rw [HHS.out, decide_eq_false (by omega : ¬ s ≤ q), Bool.and_false, Bool.and_false]
        subst hmx
        have hw1 : IntKind.i64.wrap 9223372036854775808 = -9223372036854775808 := by decide
        have ht9 : -9223372036854775808 < f := by omega
        go_wp2_with fail
        go_ret2
        exact ⟨_, _, by rw [HN.out, sinceR_no HN.out]; rfl, by rw [sinceR_no HN.out]; exact oj_nil, HB2.out⟩
      have hw1 : IntKind.i64.wrap (s + 1) = s + 1 := by rw [IntKind.wrap_i64]; omega
      by_cases t1 : s + 1 < f
      · have HN : Hid (hasSince rm ps s = false) := by
          show _ = _
          rw [HHS.out, decide_eq_false (by omega : ¬ f ≤ s + 1), Bool.false_and, Bool.and_false]
        go_wp2_with fail
        go_ret2
        exact ⟨_, _, by rw [HN.out, sinceR_no HN.out]; rfl, by rw [sinceR_no HN.out]; exact oj_nil, HB2.out⟩
      · by_cases t2 : q < s
        · have HN : Hid (hasSince rm ps s = false) := by show _ = _; rw [HHS.out, decide_eq_false (by omega : ¬ s ≤ q), Bool.and_false, Bool.and_false]
          go_wp2_with fail
          go_ret2
          exact ⟨_, _, by rw [HN.out, sinceR_no HN.out]; rfl, by rw [sinceR_no HN.out]; exact oj_nil, HB2.out⟩
        · by_cases t3 : s < 0
          · omega
          · have HN : Hid (hasSince rm ps s = true) := by show _ = _; rw [HHS.out, decide_eq_true (by omega : 0 ≤ s), decide_eq_true (by omega : f ≤ s + 1), decide_eq_true (by omega : s ≤ q)]; rfl
            obtain ⟨d, hd⟩ : ∃ d : Nat, d = (s + 1 - f).toNat := ⟨_, rfl⟩
            rw [← hd] at HSF
            have hdn : d ≤ n := by have := HLS.out; omega
            have hwd : IntKind.i64.wrap (s + 1 - f) = (d : Int) := by rw [IntKind.wrap_i64]; have := HLS.out; omega
            have hd0 : (0 : Int) ≤ (d : Int) := by omega
            have hdi : (d : Int) ≤ (n : Int) := by omega
            have HR : Hid (sinceR rm ps s = ps.drop d) := by show _ = _; rw [sinceR_yes HN.out, HSF.out]
            have HLD : Hid ((ps.drop d).length = n - d) := by show _ = _; rw [List.length_drop, HL.out]
            have HJD := hide (jobs_drop HS1.out hdn)
            have HMD : Hid (PtOwn w1.heap.size (w1.alloc (.cells #[] 38)).drew (.slice (some ⟨w1.heap.size, 0, none⟩) 0 0) []) := World.ownsRow.drew (pt_made0 w1)
            have HB1d : Hid (Below w1.heap.size w1 (w1.alloc (.cells #[] 38)).drew) := ((Below.refl w1.heap.size w1).alloc (Nat.le_refl _) _).drew
            have HR0 : Hid (Below w1.heap.size w1 w1.drew) := (Below.refl w1.heap.size w1).drew
            have HSC : ∀ W, Hid (Below w1.heap.size w1 W → (W.cell? ⟨w.heap.size, 1, none⟩ = some (.slice (some ⟨b, off, none⟩) n cap) ∧ W.cell? ⟨b, off, none⟩ = some (.int .i64 f))) := fun W hb => ⟨(hb.cell (p := ⟨w.heap.size, 1, none⟩) hwA1).trans c1, (hb.cell (p := ⟨b, off, none⟩) (by show b < _; omega)).trans z0⟩
            have HAP : ∀ (A' : Option Addr) (c' : Nat), Jobs lo hi w1 A' (n - d) (ps.drop d) → ∃ a5 c5 w5, (Builtin.append_ #[27, 27] 27 #[.slice (some ⟨w1.heap.size, 0, none⟩) 0 0, .slice A' (n - d) c']).run Try.prog (w1.alloc (.cells #[] 38)).drew = .ok (.slice a5 (n - d) c5) w5 ∧ OwnJobs w1.heap.size w5.heap.size w5 a5 (n - d) (ps.drop d) ∧ Below w1.heap.size w1 w5 := fun A' c' hJ => by
              obtain ⟨a5, c5, w5, hap, hpo, hgr, hat⟩ := append_puts (P := Try.prog) Try.infoPtI Try.underlying27 HMD.out HB1d.out.size (c := c') (jl_later hJ HB1d.out hz1) (by omega)
              rw [Nat.zero_add] at hap hpo
              rw [List.nil_append] at hpo
              have := pt_own hpo
              rw [HLD.out] at this
              exact ⟨a5, c5, w5, hap, this, HB1d.out.grown hgr HB1d.out.size (fun k e => by have e' : some w1.heap.size = some k := e; simp only [Option.some.injEq] at e'; omega)⟩
            clear hd HLS HHS
            rcases Nat.lt_or_ge d cap with hdc | hdc
            · have hnd : ¬ cap = d := by omega
              have hnd2 : ¬ cap - d = 0 := by omega
              obtain ⟨a5, c5, w5, hap, ho5, hb5⟩ := HAP _ (cap - d) HJD.out
              have HRN := hide hap
              have HO5 := hide ho5
              have HB5 := hide hb5
              clear hap ho5 hb5 HAP
              go_upto_region 4 with fail
              clear c0 c1 z0 y0
              go_region_held3 (fun W => W.cell? ⟨w.heap.size, 1, none⟩ = some (.slice (some ⟨b, off, none⟩) n cap) ∧ W.cell? ⟨b, off, none⟩ = some (.int .i64 f))
                (first | with_reducible exact (HSC _).out HR0.out | with_reducible exact (HSC _).out HB1d.out | with_reducible exact (HSC _).out HB5.out | exact (HSC _).out HR0.out | exact (HSC _).out HB1d.out | fail)
                (first
                  | (refine step_app (by rfl) _ _ 27 (by rfl) (.slice (some ⟨w1.heap.size, 0, none⟩) 0 0) (.slice (some ⟨b, off + d * 3, none⟩) (n - d) (cap - d)) (.slice a5 (n - d) c5) w5 (by rfl) (by rfl) ?h5 ?_; (case h5 => exact HRN.out))
                  | fail)
              have HBF := hide (below_here HB1.out HB5.out)
              have HOF := hide (oj_wide (lo' := w.heap.size) HO5.out HB1.out.size)
              go_wp2_with fail
              go_ret2
              exact ⟨a5, c5, by rw [HN.out, HR.out, HLD.out]; rfl, by rw [HR.out, HLD.out]; exact HOF.out, HBF.out⟩
            · obtain rfl : cap = d := by omega
              have HE0 : Jobs lo hi w1 (some ⟨b, off, none⟩) (n - cap) (ps.drop cap) := by
                have e0 : n - cap = 0 := by omega
                have e1 : ps.drop cap = [] := List.eq_nil_of_length_eq_zero (by rw [HLD.out]; exact e0)
                rw [e0, e1]
                exact ⟨rfl, hz1, fun h => absurd h (by decide)⟩
              obtain ⟨a5, c5, w5, hap, ho5, hb5⟩ := HAP _ 0 HE0
              have e0 : n - cap = 0 := by omega
              rw [e0] at hap ho5 HLD
              have HRN := hide hap
              have HO5 := hide ho5
              have HB5 := hide hb5
              clear hap ho5 hb5 HAP HE0 e0
              go_upto_region 4 with fail
              clear c0 c1 z0 y0
              go_region_held3 (fun W => W.cell? ⟨w.heap.size, 1, none⟩ = some (.slice (some ⟨b, off, none⟩) n cap) ∧ W.cell? ⟨b, off, none⟩ = some (.int .i64 f))
                (first | with_reducible exact (HSC _).out HR0.out | with_reducible exact (HSC _).out HB1d.out | with_reducible exact (HSC _).out HB5.out | exact (HSC _).out HR0.out | exact (HSC _).out HB1d.out | fail)
                (first
                  | (refine step_app (by rfl) _ _ 27 (by rfl) (.slice (some ⟨w1.heap.size, 0, none⟩) 0 0) (.slice (some ⟨b, off, none⟩) 0 0) (.slice a5 0 c5) w5 (by rfl) (by rfl) ?h6 ?_; (case h6 => exact HRN.out))
                  | fail)
              have HBF := hide (below_here HB1.out HB5.out)
              have HOF := hide (oj_wide (lo' := w.heap.size) HO5.out HB1.out.size)
              go_wp2_with fail
              go_ret2
              exact ⟨a5, c5, by rw [HN.out, HR.out, HLD.out]; rfl, by rw [HR.out, HLD.out]; exact HOF.out, HBF.out⟩

set_option maxHeartbeats 800000 in
theorem specBehind_any (rm : Int) (a : Option Addr) (n cap : Nat) (ps : List Jb) (s : Int) (w : World) {lo hi : Nat} (h : Jobs lo hi w a n ps) (hhi : hi ≤ w.heap.size) (hn : n ≤ 1048576) (hcap : n ≤ cap) (hc2 : cap ≤ 1048576) (hf : ∀ x ∈ ps, jbFits x) (hs : (Lit.int .i64 s).wf = true) :
    Calls Try.prog 25 #[.agg #[.int .i64 rm, .slice a n cap], .int .i64 s] w fun r w' => r = .returned (.int .i64 (behindI rm ps s)) ∧ Below w.heap.size w w' := by
  obtain ⟨wA, hwA⟩ : ∃ wA, wA = w.alloc (.cells #[.int .i64 rm, .slice a n cap] 29) := ⟨_, rfl⟩
  have HBA : Hid (Below w.heap.size w wA) := by rw [hwA]; exact (Below.refl _ _).alloc (Nat.le_refl _) _
  have H0 : Hid (wA.heap[w.heap.size]? = some (.cells #[.int .i64 rm, .slice a n cap] 29)) := by rw [hwA]; exact heap_new _ _
  have HSA := hide (jl_later h HBA.out hhi)
  have HF := hide hf
  clear h hf
  obtain ⟨c0, c1⟩ := two_cells H0.out
  go_enter Try.func25, Try.ntmps25
  go_upto_region 1 with fail
  rw [← hwA]
  clear hwA
  go_wp2_with fail
  refine (specSince_any rm a n cap ps s wA HSA.out (by have := HBA.out.size; omega) hn hcap hc2 HF.out hs).mono ?_
  cases hh : hasSince rm ps s
  · have HE : Hid (behindI rm ps s = -1) := by show _ = _; unfold behindI; rw [hh]; rfl
    rintro r w1 ⟨a', c', rfl, o1, b1⟩
    have HB1 := hide (below_here HBA.out b1)
    clear o1 b1 c0 c1
    generalize (sinceR rm ps s).length = L at *
    go_wp2_with fail
    go_ret
    exact ⟨by rw [HE.out]; rfl, HB1.out⟩
  · have HE : Hid (behindI rm ps s = ((sinceR rm ps s).length : Int)) := by show _ = _; unfold behindI; rw [hh, sinceR_yes hh]; rfl
    rintro r w1 ⟨a', c', rfl, o1, b1⟩
    have HB1 := hide (below_here HBA.out b1)
    clear o1 b1 c0 c1
    generalize (sinceR rm ps s).length = L at *
    go_wp2_with fail
    go_ret
    exact ⟨by rw [HE.out]; rfl, HB1.out⟩
end Go.Proofs.Ytckkcimkfhhacaa
end

