/- Chapter 14's program: Played, Caught. -/
import Derived.Test.YtckkcimkfhhacaaLLogImplC
import Derived.Test.YtckkcimkfhhacaaLTextCopy
import Derived.Test.YtckkcimkfhhacaaLTextPut
import Derived.Deep.RegionHeld3
namespace Go.Proofs.Ytckkcimkfhhacaa
open Go.RowKit
set_option linter.unusedVariables false
set_option linter.unusedSimpArgs false
set_option maxRecDepth 20000

theorem ot_none {lo : Nat} {w : World} : OwnTexts lo w.heap.size w none 0 [] := ⟨rfl, Nat.le_refl _, fun h => absurd h (by decide)⟩
theorem ot_nil {lo : Nat} {w : World} {a : Option Addr} : OwnTexts lo w.heap.size w a 0 [] := ⟨rfl, Nat.le_refl _, fun h => absurd h (by decide)⟩

set_option maxHeartbeats 3200000 in
theorem implPlayed_any (a : Option Addr) (n cap : Nat) (ts : List ByteArray) (a1 : Option Addr) (m cap1 : Nat) (ps : List Jb) (w : World) {lo hi lo' hi' : Nat} (h : Texts lo hi w a n ts) (hn : n ≤ 1048576) (hts : ∀ s ∈ ts, s.size ≤ 1048576) (hj : Jobs lo' hi' w a1 m ps) (hhi' : hi' ≤ w.heap.size) (hm : m ≤ 1048576) (hf : ∀ x ∈ ps, jbFits x) :
    Calls Try.prog 32 #[.slice a n cap, .slice a1 m cap1] w fun r w' => ∃ a' c', r = .returned (.tuple #[.slice a' (playR ts ps).length c', .bool (mayPlay ts ps)]) ∧ OwnTexts w.heap.size w'.heap.size w' a' (playR ts ps).length (playR ts ps) ∧ Below w.heap.size w w' := by
  have HT := hide h
  have HL := hide h.1
  have HTS := hide hts
  have HJ := hide hj
  have HLJ := hide hj.1
  have HF := hide hf
  clear h hts hj hf
  go_enter Try.func32, Try.ntmps32
  go_wp2_with fail
  refine (areValues_any a n cap ts w HT.out hn HTS.out).mono ?_
  cases hv : valuesOk ts
  · have HN : Hid (mayPlay ts ps = false) := by show _ = _; unfold mayPlay; rw [hv]; rfl
    rintro r w1 ⟨rfl, rfl⟩
    go_wp2_with fail
    go_ret2
    exact ⟨none, 0, by rw [HN.out, playR_no HN.out]; rfl, by rw [playR_no HN.out]; exact ot_none, Below.refl _ _⟩
  · have HMP : Hid (mayPlay ts ps = (putsAll ps m && atsOk n ps m)) := by show _ = _; unfold mayPlay; rw [hv, HL.out, HLJ.out, playOk_two]; rfl
    have hn64 : n ≤ 64 := by
      unfold valuesOk at hv
      simp only [Bool.and_eq_true, decide_eq_true_eq] at hv
      rw [HL.out] at hv
      exact hv.1
    clear hv
    rintro r w1 ⟨rfl, rfl⟩
    go_wp2_with fail
    refine (arePuts_any a1 m cap1 ps w HJ.out hhi' hm HF.out).mono ?_
    cases hpa : putsAll ps m
    · have HN : Hid (mayPlay ts ps = false) := by show _ = _; rw [HMP.out, hpa]; rfl
      rintro r w1 ⟨rfl, b1⟩
      have HB1 := hide b1
      clear b1
      go_wp2_with fail
      go_ret2
      exact ⟨none, 0, by rw [HN.out, playR_no HN.out]; rfl, by rw [playR_no HN.out]; exact ot_none, HB1.out⟩
    · have HPA := hide hpa
      rintro r w1 ⟨rfl, b1⟩
      have HB1 := hide b1
      clear b1 hpa
      go_wp2_with fail
      refine (copyOfTexts_any a n cap ts w1 (HT.out.later HB1.out HT.out.2.1) hn HTS.out).mono ?_
      rintro r w2 ⟨g, rfl, o2, b2⟩
      have HB2 := hide (below_here HB1.out b2)
      have HO2 := hide (own_wide (lo' := w.heap.size) o2 HB1.out.size)
      clear o2 b2 HB1
      go_wp2_with fail
      go_loopw [21] (fun i wr => ∃ k : Nat, k ≤ m ∧ i = .int .i64 (k : Int) ∧ atsOk n ps k = true ∧ OwnTexts w.heap.size wr.heap.size wr g n (playL ts ps k) ∧ Below w.heap.size w wr) (fun i _ => m - (intOf i).toNat)
      case atStart => exact ⟨0, Nat.zero_le _, rfl, rfl, own_end HO2.out, HB2.out⟩
      case round =>
        obtain ⟨k, hk, rfl, hpk, how, hbl⟩ := hrel
        clear HO2 HB2
        by_cases hlt : k < m
        · obtain ⟨b, off, rfl, hb1, hb2, hcc⟩ := HJ.out.2.2 (by omega)
          obtain ⟨x0, x1, x2⟩ := job_cells hcc hbl (show b < w.heap.size by omega) hlt
          have hok := putOk_in (putsAll_at HPA.out hlt)
          have HNX : Hid (atsOk n ps (k + 1) = decide ((jbAt ps k).2.1 < (n : Int))) := by show _ = _; unfold atsOk; rw [hpk]; rfl
          have HNO : Hid (atsOk n ps (k + 1) = false → atsOk n ps m = false) := fun h => by
            have := atsOk_no h (m - (k + 1))
            rwa [show k + 1 + (m - (k + 1)) = m by omega] at this
          have HPL : Hid (playL ts ps (k + 1) = (playL ts ps k).set (jbAt ps k).2.1.toNat (jbAt ps k).2.2) := rfl
          have HOW := hide how
          have HBL := hide hbl
          generalize jbAt ps k = y at *
          obtain ⟨ya, yb, yt⟩ := y
          dsimp only at x0 x1 x2 HNX HPL hok
          obtain ⟨hy1, hy2, hy3, hy4, hy5⟩ := hok
          obtain ⟨t, ht⟩ : ∃ t : Nat, yb = (t : Int) := ⟨yb.toNat, by omega⟩
          subst ht
          clear hcc how hbl hpk hy1 hy2 hy3
          obtain ⟨w3, hw3⟩ : ∃ w3, w3 = wr.alloc (.cells #[.int .i64 ya, .int .i64 (t : Int), .string yt] 38) := ⟨_, rfl⟩
          have HB3 : Hid (Below wr.heap.size wr w3) := by rw [hw3]; exact (Below.refl _ _).alloc (Nat.le_refl _) _
          have HK3 : Hid (w3.heap[wr.heap.size]? = some (.cells #[.int .i64 ya, .int .i64 (t : Int), .string yt] 38)) := by rw [hw3]; exact heap_new _ _
          have hz3 : w3.heap.size = wr.heap.size + 1 := by rw [hw3]; simp
          obtain ⟨d0, d1, d2⟩ := three_cells HK3.out
          go_upto_region 7 with fail
          rw [← hw3]
          clear hw3 x0 x1 x2
          by_cases ht : (n : Int) ≤ (t : Int)
          · have HX : Hid (atsOk n ps (k + 1) = false) := by show _ = _; rw [HNX.out, decide_eq_false (by omega)]
            have HN : Hid (mayPlay ts ps = false) := by show _ = _; rw [HMP.out, HNO.out HX.out, Bool.and_false]
            have HBF := hide (below_here HBL.out HB3.out)
            go_wp2_with fail
            go_ret2
            exact ⟨none, 0, by rw [HN.out, playR_no HN.out]; rfl, by rw [playR_no HN.out]; exact ot_none, HBF.out⟩
          · have HX : Hid (atsOk n ps (k + 1) = true) := by show _ = _; rw [HNX.out, decide_eq_true (by omega)]
            have htn : t < n := by omega
            have HO3 := hide (own_end (HOW.out.later HB3.out (Nat.le_refl _)))
            obtain ⟨bb, ob, rfl, hlo, hhib, hco⟩ := HOW.out.2.2 (by omega)
            have hbne : bb ≠ wr.heap.size := by omega
            have HRR : Hid (Below w3.heap.size w3 w3.drew) := (Below.refl w3.heap.size w3).drew
            have HSP : ∀ W, Hid (Below w3.heap.size w3 W → (W.cell? ⟨wr.heap.size, 0, none⟩ = some (.int .i64 ya) ∧ W.cell? ⟨wr.heap.size, 1, none⟩ = some (.int .i64 (t : Int)) ∧ W.cell? ⟨wr.heap.size, 2, none⟩ = some (.string yt))) := fun W hb => three_cells (block_on HK3.out hb)
            have HSO : ∀ W, Hid (Below w3.heap.size w3 W → (W.cell? ⟨bb, ob + t, none⟩ = some (cellT (playL ts ps k) t) ∧ W.frozen? ⟨bb, ob + t, none⟩ = false)) := fun W hb => by
              obtain ⟨b5, o5, e5, _, _, hc5⟩ := (HO3.out.later hb (Nat.le_refl _)).2.2 (by omega)
              simp only [Option.some.injEq, Addr.mk.injEq, and_true] at e5
              obtain ⟨rfl, rfl⟩ := e5
              exact hc5 t htn
            have HBF := hide (below_here HBL.out HB3.out)
            clear hco HOW d0 d1 d2
            have htI : (t : Int) < (n : Int) := by omega
            have ht0 : (0 : Int) ≤ (t : Int) := by omega
            obtain ⟨d0, d1, d2⟩ := (HSP _).out (Below.refl w3.heap.size w3)
            go_upto_region 9 with fail
            clear d0 d1 d2
            go_region_held3 (fun W => W.cell? ⟨wr.heap.size, 0, none⟩ = some (.int .i64 ya) ∧ W.cell? ⟨wr.heap.size, 1, none⟩ = some (.int .i64 (t : Int)) ∧ W.cell? ⟨wr.heap.size, 2, none⟩ = some (.string yt))
              (first | with_reducible exact HS4.out | with_reducible exact (HSP _).out HR1.out | with_reducible exact (HSP _).out HRR.out | fail)
              (first | (go_at_call 49; refine (cloneT_any yt _ (by omega)).mono ?_; rintro e w4 ⟨rfl, bb4⟩; have HR1 := hide (below_here HRR.out bb4); have HS4 : Hid ((w4.setCell ⟨bb, ob + t, none⟩ (.string yt)).cell? ⟨wr.heap.size, 0, none⟩ = some (.int .i64 ya) ∧ (w4.setCell ⟨bb, ob + t, none⟩ (.string yt)).cell? ⟨wr.heap.size, 1, none⟩ = some (.int .i64 (t : Int)) ∧ (w4.setCell ⟨bb, ob + t, none⟩ (.string yt)).cell? ⟨wr.heap.size, 2, none⟩ = some (.string yt)) := three_cells (set_other (block_on HK3.out HR1.out) hbne (o := ob + t) (.string yt)); obtain ⟨d3, d4⟩ := (HSO _).out HR1.out; clear bb4) | fail)
            have HO4 := hide (own_end (HO3.out.later HR1.out (Nat.le_refl _)))
            have HP := hide (own_set (OwnTexts.put HO4.out htn yt))
            have HBG := hide ((below_here HBF.out HR1.out).setCell (p := ⟨bb, ob + t, none⟩) hlo (.string yt))
            have htt : (t : Int).toNat = t := by omega
            rw [htt] at HPL
            rw [← HPL.out] at HP
            clear htt HR1 HRR HO3 HO4 HS4 HSP HSO HPL
            go_wp2_with fail
            go_roundw
            case rel => exact ⟨k + 1, by omega, by go_num, HX.out, HP.out, HBG.out⟩
            case measure => simp [intOf]; omega
        · obtain rfl : k = m := by omega
          have HN : Hid (mayPlay ts ps = true) := by show _ = _; rw [HMP.out, HPA.out, hpk]; rfl
          have HR : Hid (playR ts ps = playL ts ps k) := by show _ = _; rw [playR_yes HN.out, HLJ.out]
          have HLR : Hid ((playL ts ps k).length = n) := by show _ = _; rw [playL_len]; exact HL.out
          have HOW := hide how
          have HBL := hide hbl
          clear how hbl hpk
          go_wp2_with fail
          go_ret2
          exact ⟨g, n, by rw [HN.out, HR.out, HLR.out]; rfl, by rw [HR.out, HLR.out]; exact HOW.out, HBL.out⟩

set_option maxHeartbeats 1600000 in
theorem implCaught_any (rm : Int) (a : Option Addr) (n cap : Nat) (ps : List Jb) (a1 : Option Addr) (m cap1 : Nat) (ts : List ByteArray) (s : Int) (w : World) {lo hi lo' hi' : Nat} (h : Jobs lo hi w a n ps) (hhi : hi ≤ w.heap.size) (hn : n ≤ 1048576) (hcap : n ≤ cap) (hc2 : cap ≤ 1048576) (hf : ∀ x ∈ ps, jbFits x) (ht : Texts lo' hi' w a1 m ts) (hm : m ≤ 1048576) (hts : ∀ s ∈ ts, s.size ≤ 1048576) (hs : (Lit.int .i64 s).wf = true) :
    Calls Try.prog 37 #[.agg #[.int .i64 rm, .slice a n cap], .slice a1 m cap1, .int .i64 s] w fun r w' => ∃ a' c', r = .returned (.tuple #[.slice a' (catchR rm ps ts s).length c', .int .i64 (catchI rm ps ts s), .bool (mayCatch rm ps ts s)]) ∧ OwnTexts w.heap.size w'.heap.size w' a' (catchR rm ps ts s).length (catchR rm ps ts s) ∧ Below w.heap.size w w' := by
  obtain ⟨wA, hwA⟩ : ∃ wA, wA = w.alloc (.cells #[.int .i64 rm, .slice a n cap] 29) := ⟨_, rfl⟩
  have HBA : Hid (Below w.heap.size w wA) := by rw [hwA]; exact (Below.refl _ _).alloc (Nat.le_refl _) _
  have H0 : Hid (wA.heap[w.heap.size]? = some (.cells #[.int .i64 rm, .slice a n cap] 29)) := by rw [hwA]; exact heap_new _ _
  have HSA := hide (jl_later h HBA.out hhi)
  have HL := hide h.1
  have HT := hide ht
  have HTS := hide hts
  have HF := hide hf
  clear h hf ht hts
  obtain ⟨c0, c1⟩ := two_cells H0.out
  go_enter Try.func37, Try.ntmps37
  go_upto_region 1 with fail
  rw [← hwA]
  clear hwA
  go_wp2_with fail
  refine (implSince_any rm a n cap ps s wA HSA.out (by have := HBA.out.size; omega) hn hcap hc2 HF.out hs).mono ?_
  cases hh : hasSince rm ps s
  · have HN : Hid (mayCatch rm ps ts s = false) := by show _ = _; unfold mayCatch; rw [hh]; rfl
    rintro r w1 ⟨a', c', rfl, o1, b1⟩
    have HB1 := hide (below_here HBA.out b1)
    clear o1 b1 c0 c1
    generalize (sinceR rm ps s).length = L at *
    go_wp2_with fail
    go_ret3
    exact ⟨none, 0, by unfold catchR catchI; rw [HN.out]; rfl, by unfold catchR; rw [HN.out]; exact ot_none, HB1.out⟩
  · rintro r w1 ⟨a', c', rfl, o1, b1⟩
    rw [sinceR_yes hh] at o1 ⊢
    have HB1 := hide (below_here HBA.out b1)
    have H1 := hide (block_on H0.out b1)
    have hok : logOk rm ps = true := by
      unfold hasSince at hh
      simp only [Bool.and_eq_true] at hh
      exact hh.1
    have hn1 : n ≠ 0 := by
      unfold hasSince at hh
      simp only [Bool.and_eq_true, decide_eq_true_eq] at hh
      rw [HL.out] at hh
      exact hh.2.1
    have hlen := logOk_len hok
    rw [HL.out] at hlen
    have hsl : (sinceF ps s).length ≤ n := by unfold sinceF; rw [List.length_drop, HL.out]; omega
    have HFS : Hid (∀ x ∈ sinceF ps s, jbFits x) := fun x hx => HF.out x (List.mem_of_mem_drop hx)
    have HCR : Hid (mayPlay ts (sinceF ps s) = true → catchR rm ps ts s = playR ts (sinceF ps s)) := fun hp => by unfold catchR mayCatch; rw [hh, hp, playR_yes hp]; rfl
    have HMC : Hid (mayCatch rm ps ts s = mayPlay ts (sinceF ps s)) := by show _ = _; unfold mayCatch; rw [hh]; rfl
    have HO1 := hide o1
    have HS1 := hide (jl_later HSA.out b1 HSA.out.2.1)
    have hszA := HBA.out.size
    clear o1 b1 c0 c1 hh hlen hok HSA H0
    generalize sinceF ps s = F at *
    obtain ⟨L, hL⟩ : ∃ L, L = F.length := ⟨_, rfl⟩
    rw [← hL] at HO1 ⊢ hsl
    have HLL := hide hL
    clear hL
    go_wp2_with fail
    refine (implPlayed_any a1 m cap1 ts a' L c' F w1 (HT.out.later HB1.out HT.out.2.1) hm HTS.out (jl_own HO1.out) (Nat.le_refl _) (by omega) HFS.out).mono ?_
    cases hp : mayPlay ts F
    · have HN : Hid (mayCatch rm ps ts s = false) := by show _ = _; rw [HMC.out, hp]
      rintro r w2 ⟨a2, c2, rfl, o2, b2⟩
      have HB2 := hide (below_here HB1.out b2)
      clear o2 b2
      generalize (playR ts F).length = M at *
      go_wp2_with fail
      go_ret3
      exact ⟨none, 0, by unfold catchR catchI; rw [HN.out]; rfl, by unfold catchR; rw [HN.out]; exact ot_none, HB2.out⟩
    · have HN : Hid (mayCatch rm ps ts s = true) := by show _ = _; rw [HMC.out, hp]
      rintro r w2 ⟨a2, c2, rfl, o2, b2⟩
      have HB2 := hide (below_here HB1.out b2)
      have H2 := hide (block_on H1.out b2)
      have HS2 := hide (jl_later HS1.out b2 (by have := HS1.out.2.1; omega))
      have HO2 := hide (own_wide (lo' := w.heap.size) o2 HB1.out.size)
      clear o2 b2
      have HCT := hide (HCR.out hp)
      have HCI : Hid (catchI rm ps ts s = lastSeq ps) := by show _ = _; unfold catchI; rw [HN.out]; rfl
      have HLP : Hid ((catchR rm ps ts s).length = (playR ts F).length) := by show _ = _; rw [HCT.out]
      clear hp
      generalize playR ts F = R at *
      obtain ⟨e0, e1⟩ := two_cells H2.out
      go_wp2_with fail
      refine (lastSeq_any a n cap ps w2 HS2.out hn (by omega)).mono ?_
      rintro r w3 ⟨rfl, rfl⟩
      go_wp2_with fail
      go_ret3
      exact ⟨a2, c2, by rw [HLP.out, HCI.out, HN.out]; rfl, by rw [HCT.out]; exact HO2.out, HB2.out⟩
end Go.Proofs.Ytckkcimkfhhacaa
