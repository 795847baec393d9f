/- The model's l14Values, Played, Caught. -/
import Derived.Test.YtckkcimkfhhacaaLLogImplA
import Derived.Test.YtckkcimkfhhacaaLChipGrow
import Derived.Test.YtckkcimkfhhacaaLTextPut
import Derived.Deep.RegionHeld3
namespace Go.Proofs.Ytckkcimkfhhacaa
open Go.RowKit
set_option linter.unusedVariables false
set_option linter.unusedSimpArgs false
set_option maxRecDepth 20000

theorem st_nil {lo : Nat} {w : World} {a : Option Addr} : OwnTexts lo w.heap.size w a 0 [] := ⟨rfl, Nat.le_refl _, fun h => absurd h (by decide)⟩
theorem ownT_of {w : World} {base B n : Nat} {v : Value} {ts : List ByteArray} (h : w.ownsRow base 9 1 v n (ts.map Value.string)) (hB : B ≤ base) : ∃ a cap, v = .slice a n cap ∧ n ≤ cap ∧ OwnTexts B w.heap.size w a n ts := by
  obtain ⟨a, cap, rfl, hcap, hlen, _, how⟩ := owned_of_own h
  have hl : ts.length = n := by simpa using hlen
  refine ⟨a, cap, rfl, hcap, hl, how.1, fun hn => ?_⟩
  obtain ⟨b, off, rfl, h1, h2, h3⟩ := how.2 hn
  refine ⟨b, off, rfl, by omega, h2, fun i hi => ?_⟩
  obtain ⟨h4, h5⟩ := h3 i hi
  refine ⟨?_, h5⟩
  rw [h4]
  unfold cellT
  dsimp only
  rw [List.getD_eq_getElem?_getD, List.getD_eq_getElem?_getD, List.getElem?_map, List.getElem?_eq_getElem (by omega)]
  rfl


set_option maxHeartbeats 1600000 in
theorem l14Values_any (a : Option Addr) (n cap : Nat) (ts : List ByteArray) (w : World) {lo hi : Nat} (h : Texts lo hi w a n ts) (hn : n ≤ 1048576) (hts : ∀ s ∈ ts, s.size ≤ 1048576) :
    Calls Try.prog 46 #[.slice a n cap] w fun r w' => r = .returned (.bool (valuesOk ts)) ∧ w = w' := by
  obtain ⟨hl, hsz, hx⟩ := h
  have HL : Hid (ts.length = n) := hl
  have HTS := hide hts
  clear hl hts
  by_cases h64 : 64 < (n : Int)
  · have HE : Hid (valuesOk ts = false) := by show _ = _; unfold valuesOk; rw [HL.out, decide_eq_false (by omega)]; rfl
    go_enter Try.func46, Try.ntmps46
    go_wp2_with fail
    go_ret
    exact ⟨by rw [HE.out]; rfl, rfl⟩
  · have HE : Hid (valuesOk ts = shortAll ts n) := by show _ = _; unfold valuesOk; rw [HL.out, decide_eq_true (by omega)]; rfl
    go_enter Try.func46, Try.ntmps46
    go_wp2_with fail
    go_loopw [3] (fun i wr => ∃ k : Nat, k ≤ n ∧ i = .int .i64 (k : Int) ∧ shortAll ts k = true ∧ w = wr) (fun i _ => n - (intOf i).toNat)
    case atStart => exact ⟨0, Nat.zero_le _, rfl, rfl, rfl⟩
    case round =>
      obtain ⟨k, hk, rfl, hpk, rfl⟩ := hrel
      have HPK := hide hpk
      clear hpk
      by_cases hlt : k < n
      · obtain ⟨b, off, rfl, _, hb, hc⟩ := hx (by omega)
        have hck : w.cell? ⟨b, off + k, none⟩ = some (.string (ts.getD k ByteArray.empty)) := hc k hlt
        have HNX : Hid (shortAll ts (k + 1) = decide ((ts.getD k ByteArray.empty).size ≤ 24)) := by show _ = _; unfold shortAll; rw [HPK.out]; rfl
        have HNO : Hid (shortAll ts (k + 1) = false → shortAll ts n = false) := fun h => by
          have := shortAll_no h (n - (k + 1))
          rwa [show k + 1 + (n - (k + 1)) = n by omega] at this
        have hfx : (ts.getD k ByteArray.empty).size ≤ 1048576 := HTS.out _ (by
          rw [List.getD_eq_getElem?_getD, List.getElem?_eq_getElem (by rw [HL.out]; exact hlt)]
          exact List.getElem_mem _)
        clear hc hx
        generalize ts.getD k ByteArray.empty = z at *
        by_cases t1 : 24 < (z.size : Int)
        · have HX : Hid (shortAll ts (k + 1) = false) := by show _ = _; rw [HNX.out, decide_eq_false (by omega)]
          go_wp2_with fail
          go_ret
          exact ⟨by rw [HE.out, HNO.out HX.out]; rfl, rfl⟩
        · have HX : Hid (shortAll ts (k + 1) = true) := by show _ = _; rw [HNX.out, decide_eq_true (by omega)]
          go_wp2_with fail
          go_roundw
          case rel => exact ⟨k + 1, by omega, by go_num, HX.out, trivial⟩
          case measure => simp [intOf]; omega
      · obtain rfl : k = n := by omega
        go_wp2_with fail
        go_ret
        exact ⟨by rw [HE.out, HPK.out]; rfl, rfl⟩

set_option maxHeartbeats 3200000 in
theorem specPlayed_any (a : Option Addr) (n cap : Nat) (ts : List ByteArray) (a1 : Option Addr) (m cap1 : Nat) (ps : List Jb) (w : World) {lo hi lo' hi' : Nat} (h : Texts lo hi w a n ts) (hn : n ≤ 1048576) (hts : ∀ s ∈ ts, s.size ≤ 1048576) (hj : Jobs lo' hi' w a1 m ps) (hhi' : hi' ≤ w.heap.size) (hm : m ≤ 1048576) (hf : ∀ x ∈ ps, jbFits x) :
    Calls Try.prog 29 #[.slice a n cap, .slice a1 m cap1] w fun r w' => ∃ a' c', r = .returned (.tuple #[.slice a' (playR ts ps).length c', .bool (mayPlay ts ps)]) ∧ OwnTexts w.heap.size w'.heap.size w' a' (playR ts ps).length (playR ts ps) ∧ Below w.heap.size w w' := by
  have HT := hide h
  have HL := hide h.1
  have HTS := hide hts
  have HJ := hide hj
  have HLJ := hide hj.1
  have HF := hide hf
  clear h hts hj hf
  go_enter Try.func29, Try.ntmps29
  go_wp2_with fail
  refine (l14Values_any a n cap ts w HT.out hn HTS.out).mono ?_
  cases hv : valuesOk ts
  · have HN : Hid (mayPlay ts ps = false) := by show _ = _; unfold mayPlay; rw [hv]; rfl
    have HB2 : Hid (Below w.heap.size w (w.alloc (.cells #[] 9))) := (Below.refl _ _).alloc (Nat.le_refl _) _
    rintro r w1 ⟨rfl, rfl⟩
    go_wp2_with fail
    go_ret2
    exact ⟨_, _, by rw [HN.out, playR_no HN.out]; rfl, by rw [playR_no HN.out]; exact st_nil, HB2.out⟩
  · have HMP : Hid (mayPlay ts ps = playOk n ps m) := by show _ = _; unfold mayPlay; rw [hv, HL.out, HLJ.out]; rfl
    have hn64 : n ≤ 64 := by
      unfold valuesOk at hv
      simp only [Bool.and_eq_true, decide_eq_true_eq] at hv
      rw [HL.out] at hv
      exact hv.1
    clear hv
    rintro r w1 ⟨rfl, rfl⟩
    obtain rfl : n = ts.length := HL.out.symm
    obtain ⟨wB, hwB⟩ : ∃ wB, wB = w.alloc (.cells #[] 9) := ⟨_, rfl⟩
    have hzB : wB.heap.size = w.heap.size + 1 := by rw [hwB]; simp
    have hbB : Below w.heap.size w wB := by rw [hwB]; exact (Below.refl _ _).alloc (Nat.le_refl _) _
    have hmade : wB.ownsRow w.heap.size 9 1 (.slice (some ⟨w.heap.size, 0, none⟩) 0 0) 0 [] := by rw [hwB]; exact own_made0 w 9
    obtain ⟨g, c', w2, hap, hpo, hgr, hfr⟩ := append_pages (P := Try.prog) Try.infoStrC Try.underlying48 hmade (by omega) (c := cap) (HT.out.later hbB HT.out.2.1) hn
    have HAP := hide hap
    have HB2 := hide (hbB.grown hgr (by omega) (fun m hm => by simp only [Option.some.injEq] at hm; omega))
    obtain ⟨a'', c'', e1, _, hot⟩ := ownT_of (B := w.heap.size) (ts := ts) hpo (Nat.le_refl _)
    cases e1
    have HO2 := hide hot
    clear hap hpo hgr hfr hmade hot hbB hzB
    go_upto_region 4 with (at_builtin; (first | rw [← hwB] | skip); refine wpList_append_eq rfl (.tmp 12) (.tmp 13) 48 rfl _ _ _ w2 rfl rfl HAP.out ?_)
    clear hwB HAP
    obtain ⟨n, hnn⟩ : ∃ n, n = ts.length := ⟨_, rfl⟩
    rw [← hnn] at hn HO2 HMP hn64 ⊢
    have HNN := hide hnn
    clear hnn HL
    go_wp2_with fail
    go_loopw [7] (fun i wr => ∃ k : Nat, k ≤ m ∧ i = .int .i64 (k : Int) ∧ playOk n ps k = true ∧ OwnTexts w.heap.size wr.heap.size wr g n (playL ts ps k) ∧ Below w.heap.size w wr) (fun i _ => m - (intOf i).toNat)
    case atStart => exact ⟨0, Nat.zero_le _, rfl, rfl, own_end HO2.out, HB2.out⟩
    case round =>
      obtain ⟨k, hk, rfl, hpk, how, hbl⟩ := hrel
      clear HO2 HB2
      by_cases hlt : k < m
      · obtain ⟨b, off, rfl, hb1, hb2, hcc⟩ := HJ.out.2.2 (by omega)
        obtain ⟨x0, x1, x2⟩ := job_cells hcc hbl (show b < w.heap.size by omega) hlt
        have HNX : Hid (playOk n ps (k + 1) = (putOk (jbAt ps k) && decide ((jbAt ps k).2.1 < (n : Int)))) := by show _ = _; unfold playOk; rw [hpk]; rfl
        have HNO : Hid (playOk n ps (k + 1) = false → playOk n ps m = false) := fun h => by
          have := playOk_no h (m - (k + 1))
          rwa [show k + 1 + (m - (k + 1)) = m by omega] at this
        have HPL : Hid (playL ts ps (k + 1) = (playL ts ps k).set (jbAt ps k).2.1.toNat (jbAt ps k).2.2) := rfl
        have hfx : (jbAt ps k).2.2.size ≤ maxLen := (jb_fit HF.out (by rw [HLJ.out]; exact hlt)).2.2
        have HOW := hide how
        have HBL := hide hbl
        have hszr := hbl.size
        generalize jbAt ps k = y at *
        obtain ⟨ya, yb, yt⟩ := y
        dsimp only at x0 x1 x2 HNX HPL hfx
        clear hcc how hbl hpk
        have HXC : ∀ W, Hid (Below wr.heap.size wr W → (W.cell? ⟨b, off + k * 3, none⟩ = some (.int .i64 ya) ∧ W.cell? ⟨b, off + k * 3 + 1, none⟩ = some (.int .i64 yb) ∧ W.cell? ⟨b, off + k * 3 + 2, none⟩ = some (.string yt))) := fun W hb => ⟨(hb.cell (p := ⟨b, off + k * 3, none⟩) (by show b < _; omega)).trans x0, (hb.cell (p := ⟨b, off + k * 3 + 1, none⟩) (by show b < _; omega)).trans x1, (hb.cell (p := ⟨b, off + k * 3 + 2, none⟩) (by show b < _; omega)).trans x2⟩
        go_wp2_with fail
        refine (l14Put_any ya yb yt wr hfx).mono ?_
        cases hpo : putOk (ya, yb, yt)
        · have HX : Hid (playOk n ps (k + 1) = false) := by show _ = _; rw [HNX.out, hpo]; rfl
          have HN : Hid (mayPlay ts ps = false) := by show _ = _; rw [HMP.out, HNO.out HX.out]
          rintro r w3 ⟨rfl, b3⟩
          have HB3 := hide (below_here HBL.out b3)
          have HB4 : Hid (Below w.heap.size w (w3.alloc (.cells #[] 9))) := HB3.out.alloc HB3.out.size _
          clear b3 x0 x1 x2 hpo
          go_wp2_with fail
          go_ret2
          exact ⟨_, _, by rw [HN.out, playR_no HN.out]; rfl, by rw [playR_no HN.out]; exact st_nil, HB4.out⟩
        · obtain ⟨hy1, hy2, hy3, hy4, hy5⟩ := putOk_in hpo
          dsimp only at hy3 hy4 hy5
          rw [hpo] at HNX
          clear hpo hy1 hy2
          obtain ⟨t, ht⟩ : ∃ t : Nat, yb = (t : Int) := ⟨yb.toNat, by omega⟩
          subst ht
          rintro r w3 ⟨rfl, b3⟩
          have HR3 := hide b3
          clear b3 x0 x1 x2
          obtain ⟨x0, x1, x2⟩ := (HXC _).out HR3.out
          by_cases ht : (n : Int) ≤ (t : Int)
          · have HX : Hid (playOk n ps (k + 1) = false) := by show _ = _; rw [HNX.out, decide_eq_false (by omega)]; rfl
            have HN : Hid (mayPlay ts ps = false) := by show _ = _; rw [HMP.out, HNO.out HX.out]
            have HB3 := hide (below_here HBL.out HR3.out)
            have HB4 : Hid (Below w.heap.size w (w3.alloc (.cells #[] 9))) := HB3.out.alloc HB3.out.size _
            go_wp2_with fail
            go_ret2
            exact ⟨_, _, by rw [HN.out, playR_no HN.out]; rfl, by rw [playR_no HN.out]; exact st_nil, HB4.out⟩
          · have HX : Hid (playOk n ps (k + 1) = true) := by show _ = _; rw [HNX.out, decide_eq_true (by omega)]; rfl
            have htn : t < n := by omega
            have HO3 := hide (own_end (HOW.out.later HR3.out (Nat.le_refl _)))
            have HBF := hide (below_here HBL.out HR3.out)
            obtain ⟨bb, ob, rfl, hlo, hhib, hco⟩ := HOW.out.2.2 (by omega)
            have hbne : bb ≠ b := by omega
            have hs3 := HR3.out.size
            have HRR : Hid (Below wr.heap.size wr w3.drew) := HR3.out.drew
            obtain ⟨d3, d4⟩ : w3.drew.cell? ⟨bb, ob + t, none⟩ = some (cellT (playL ts ps k) t) ∧ w3.drew.frozen? ⟨bb, ob + t, none⟩ = false := by
              obtain ⟨b5, o5, e5, _, _, hc5⟩ := HO3.out.2.2 (by omega)
              simp only [Option.some.injEq, Addr.mk.injEq, and_true] at e5
              obtain ⟨rfl, rfl⟩ := e5
              exact hc5 t htn
            have htI : (t : Int) < (n : Int) := by omega
            have ht0 : (0 : Int) ≤ (t : Int) := by omega
            have HS4 : Hid ((w3.setCell ⟨bb, ob + t, none⟩ (.string yt)).drew.cell? ⟨b, off + k * 3, none⟩ = some (.int .i64 ya) ∧ (w3.setCell ⟨bb, ob + t, none⟩ (.string yt)).drew.cell? ⟨b, off + k * 3 + 1, none⟩ = some (.int .i64 (t : Int)) ∧ (w3.setCell ⟨bb, ob + t, none⟩ (.string yt)).drew.cell? ⟨b, off + k * 3 + 2, none⟩ = some (.string yt)) := by
              obtain ⟨e0, e1, e2⟩ := (HXC _).out HR3.out
              have hq : (w3.setCell ⟨bb, ob + t, none⟩ (.string yt)).drew.heap[b]? = w3.heap[b]? := set_other (W := w3) rfl hbne (o := ob + t) (.string yt)
              refine ⟨?_, ?_, ?_⟩
              · rw [← e0]; simp only [World.cell?, hq]
              · rw [← e1]; simp only [World.cell?, hq]
              · rw [← e2]; simp only [World.cell?, hq]
            clear hco HOW
            go_upto_region 9 with fail
            clear x0 x1 x2
            go_region_held3 (fun W => W.cell? ⟨b, off + k * 3, none⟩ = some (.int .i64 ya) ∧ W.cell? ⟨b, off + k * 3 + 1, none⟩ = some (.int .i64 (t : Int)) ∧ W.cell? ⟨b, off + k * 3 + 2, none⟩ = some (.string yt))
              (first | with_reducible exact HS4.out | with_reducible exact (HXC _).out HRR.out | fail)
              (fail)
            have HP : Hid (OwnTexts w.heap.size (w3.setCell ⟨bb, ob + t, none⟩ (.string yt)).drew.heap.size (w3.setCell ⟨bb, ob + t, none⟩ (.string yt)).drew (some ⟨bb, ob, none⟩) n ((playL ts ps k).set t yt)) := own_end ((own_set (OwnTexts.put HO3.out htn yt)).later (Below.refl _ (w3.setCell ⟨bb, ob + t, none⟩ (.string yt))).drew (Nat.le_refl _))
            have HBG := hide (HBF.out.setCell (p := ⟨bb, ob + t, none⟩) hlo (.string yt)).drew
            have htt : (t : Int).toNat = t := by omega
            rw [htt] at HPL
            rw [← HPL.out] at HP
            clear htt HRR HO3 HS4 HPL HXC
            go_wp2_with fail
            go_roundw
            case rel => exact ⟨k + 1, by omega, by go_num, HX.out, HP.out, HBG.out⟩
            case measure => simp [intOf]; omega
      · obtain rfl : k = m := by omega
        have HN : Hid (mayPlay ts ps = true) := by show _ = _; rw [HMP.out, hpk]
        have HR : Hid (playR ts ps = playL ts ps k) := by show _ = _; rw [playR_yes HN.out, HLJ.out]
        have HLR : Hid ((playL ts ps k).length = n) := by show _ = _; rw [playL_len]; exact HNN.out.symm
        have HOW := hide how
        have HBL := hide hbl
        clear how hbl hpk
        go_wp2_with fail
        go_ret2
        exact ⟨g, _, by rw [HN.out, HR.out, HLR.out]; rfl, by rw [HR.out, HLR.out]; exact HOW.out, HBL.out⟩
end Go.Proofs.Ytckkcimkfhhacaa
