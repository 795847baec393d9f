/- The model's Caught. -/
import Derived.Test.YtckkcimkfhhacaaLLogSpecE
import Derived.Lib.QuietBelow
import Derived.BigQuiet
namespace Go.Proofs.Ytckkcimkfhhacaa
open Go.RowKit
set_option linter.unusedVariables false
set_option linter.unusedSimpArgs false
set_option maxRecDepth 20000

set_option maxHeartbeats 1600000 in
theorem specCaught_any (rm : Int) (a : Option Addr) (n cap : Nat) (ps : List Jb) (a1 : Option Addr) (m cap1 : Nat) (ts : List ByteArray) (s : Int) (w : World) {lo hi lo' hi' : Nat} (h : Jobs lo hi w a n ps) (hhi : hi ≤ w.heap.size) (hn : n ≤ 1048576) (hcap : n ≤ cap) (hc2 : cap ≤ 1048576) (hf : ∀ x ∈ ps, jbFits x) (ht : Texts lo' hi' w a1 m ts) (hm : m ≤ 1048576) (hts : ∀ s ∈ ts, s.size ≤ 1048576) (hs : (Lit.int .i64 s).wf = true) :
    Calls Try.prog 36 #[.agg #[.int .i64 rm, .slice a n cap], .slice a1 m cap1, .int .i64 s] w fun r w' => ∃ a' c', r = .returned (.tuple #[.slice a' (catchR rm ps ts s).length c', .int .i64 (catchI rm ps ts s), .bool (mayCatch rm ps ts s)]) ∧ OwnTexts w.heap.size w'.heap.size w' a' (catchR rm ps ts s).length (catchR rm ps ts s) ∧ Below w.heap.size w w' := by
  obtain ⟨wA, hwA⟩ : ∃ wA, wA = w.alloc (.cells #[.int .i64 rm, .slice a n cap] 29) := ⟨_, rfl⟩
  have HBA : Hid (Below w.heap.size w wA) := by rw [hwA]; exact (Below.refl _ _).alloc (Nat.le_refl _) _
  have H0 : Hid (wA.heap[w.heap.size]? = some (.cells #[.int .i64 rm, .slice a n cap] 29)) := by rw [hwA]; exact heap_new _ _
  have HSA := hide (jl_later h HBA.out hhi)
  have HL := hide h.1
  have HT := hide ht
  have HTS := hide hts
  have HF := hide hf
  clear h hf ht hts
  obtain ⟨c0, c1⟩ := two_cells H0.out
  go_enter Try.func36, Try.ntmps36
  go_upto_region 1 with fail
  rw [← hwA]
  clear hwA
  go_wp2_with fail
  refine (specSince_any rm a n cap ps s wA HSA.out (by have := HBA.out.size; omega) hn hcap hc2 HF.out hs).mono ?_
  cases hh : hasSince rm ps s
  · have HN : Hid (mayCatch rm ps ts s = false) := by show _ = _; unfold mayCatch; rw [hh]; rfl
    rintro r w1 ⟨a', c', rfl, o1, b1⟩
    have HB1 := hide (below_here HBA.out b1)
    have HB1n : Hid (Below w.heap.size w (w1.alloc (.cells #[] 9))) := HB1.out.alloc HB1.out.size _
    clear o1 b1 c0 c1
    generalize (sinceR rm ps s).length = L at *
    go_wp2_with fail
    go_ret3
    exact ⟨_, _, by unfold catchR catchI; rw [HN.out]; rfl, by unfold catchR; rw [HN.out]; exact st_nil, HB1n.out⟩
  · rintro r w1 ⟨a', c', rfl, o1, b1⟩
    rw [sinceR_yes hh] at o1 ⊢
    have HB1 := hide (below_here HBA.out b1)
    have H1 := hide (block_on H0.out b1)
    have hok : logOk rm ps = true := by
      unfold hasSince at hh
      simp only [Bool.and_eq_true] at hh
      exact hh.1
    have hn1 : n ≠ 0 := by
      unfold hasSince at hh
      simp only [Bool.and_eq_true, decide_eq_true_eq] at hh
      rw [HL.out] at hh
      exact hh.2.1
    have hlen := logOk_len hok
    rw [HL.out] at hlen
    have hsl : (sinceF ps s).length ≤ n := by unfold sinceF; rw [List.length_drop, HL.out]; omega
    have HFS : Hid (∀ x ∈ sinceF ps s, jbFits x) := fun x hx => HF.out x (List.mem_of_mem_drop hx)
    have HCR : Hid (mayPlay ts (sinceF ps s) = true → catchR rm ps ts s = playR ts (sinceF ps s)) := fun hp => by unfold catchR mayCatch; rw [hh, hp, playR_yes hp]; rfl
    have HMC : Hid (mayCatch rm ps ts s = mayPlay ts (sinceF ps s)) := by show _ = _; unfold mayCatch; rw [hh]; rfl
    have HO1 := hide o1
    have HS1 := hide (jl_later HSA.out b1 HSA.out.2.1)
    have hszA := HBA.out.size
    clear o1 b1 c0 c1 hh hlen hok HSA H0
    generalize sinceF ps s = F at *
    obtain ⟨L, hL⟩ : ∃ L, L = F.length := ⟨_, rfl⟩
    rw [← hL] at HO1 ⊢ hsl
    have HLL := hide hL
    clear hL
    go_wp2_with fail
    refine (specPlayed_any a1 m cap1 ts a' L c' F w1 (HT.out.later HB1.out HT.out.2.1) hm HTS.out (jl_own HO1.out) (Nat.le_refl _) (by omega) HFS.out).mono ?_
    cases hp : mayPlay ts F
    · have HN : Hid (mayCatch rm ps ts s = false) := by show _ = _; rw [HMC.out, hp]
      rintro r w2 ⟨a2, c2, rfl, o2, b2⟩
      have HB2 := hide (below_here HB1.out b2)
      have HB2n : Hid (Below w.heap.size w (w2.alloc (.cells #[] 9))) := HB2.out.alloc HB2.out.size _
      clear o2 b2
      generalize (playR ts F).length = M at *
      go_wp2_with fail
      go_ret3
      exact ⟨_, _, by unfold catchR catchI; rw [HN.out]; rfl, by unfold catchR; rw [HN.out]; exact st_nil, HB2n.out⟩
    · have HN : Hid (mayCatch rm ps ts s = true) := by show _ = _; rw [HMC.out, hp]
      rintro r w2 ⟨a2, c2, rfl, o2, b2⟩
      have HB2 := hide (below_here HB1.out b2)
      have H2 := hide (block_on H1.out b2)
      have HS2 := hide (jl_later HS1.out b2 (by have := HS1.out.2.1; omega))
      have HO2 := hide (own_wide (lo' := w.heap.size) o2 HB1.out.size)
      clear o2 b2
      have HCT := hide (HCR.out hp)
      have HCI : Hid (catchI rm ps ts s = lastSeq ps) := by show _ = _; unfold catchI; rw [HN.out]; rfl
      have HLP : Hid ((catchR rm ps ts s).length = (playR ts F).length) := by show _ = _; rw [HCT.out]
      clear hp
      generalize playR ts F = R at *
      obtain ⟨e0, e1⟩ := two_cells H2.out
      obtain ⟨j, hkj⟩ : ∃ j, n = j + 1 := ⟨n - 1, by omega⟩
      obtain ⟨b, off, rfl, hb1, hb2, hcc⟩ := HS2.out.2.2 (by omega)
      have hz2 := HS2.out.2.1
      obtain ⟨y0, y1, y2⟩ := job_cells hcc (Below.refl w2.heap.size w2) (show b < w2.heap.size by omega) (show j < n by omega)
      have HLQ : lastSeq ps = (jbAt ps j).1 := by unfold lastSeq; rw [HL.out, hkj]; rfl
      rw [← HLQ] at y0
      have hwj : IntKind.i64.wrap ((n : Int) - 1) = (j : Int) := by rw [IntKind.wrap_i64]; omega
      have hj0 : (0 : Int) ≤ (j : Int) := by omega
      have hjn : (j : Int) < (n : Int) := by omega
      have HKJ := hide hkj
      clear hkj hcc y1 y2 HLQ
      generalize lastSeq ps = q at *
      have q0 := fun d os => cell_regrown e0 d os
      have q1 := fun d os => cell_regrown e1 d os
      have q2 := fun d os => cell_regrown y0 d os
      go_upto_region 7 with fail
      refine wp_region_quiet_below (by kernel_rfl) (by kernel_rfl) ?_
      repeat (go_big_quiet_step (fail))
      refine wpQuiet_nil ?_
      intro _ hw'
      obtain ⟨⟨dq, osq⟩, hw''⟩ := hw'
      subst hw''
      have HBQ := hide (below_here HB2.out (below_regrown w2 dq osq))
      have HOQ := hide (own_end (HO2.out.later (below_regrown w2 dq osq) HO2.out.2.1))
      clear q0 q1 q2
      generalize Go.Sort.grow (redrawn w2 dq) osq = wq at *
      go_wp2_with fail
      go_ret3
      exact ⟨a2, c2, by rw [HLP.out, HCI.out, HN.out]; rfl, by rw [HCT.out]; exact HOQ.out, HBQ.out⟩
end Go.Proofs.Ytckkcimkfhhacaa
