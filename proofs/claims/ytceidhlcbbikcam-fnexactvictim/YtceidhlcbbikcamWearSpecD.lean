/- The model's Live, Victim. -/
import Derived.Test.YtceidhlcbbikcamWearSpecC
namespace Go.Proofs.Ytceidhlcbbikcam
open Go.RowKit
set_option linter.unusedVariables false
set_option maxRecDepth 20000

set_option maxHeartbeats 1600000 in
theorem specLive_any (z : Int) (a : Option Addr) (n cap : Nat) (qs : List Sq) (al : Option Addr) (m capl : Nat) (ps : List Pl) (s : Int) (w : World) {lo hi lo' hi' : Nat} (h : Squares lo hi w a n qs) (hhi : hi ≤ w.heap.size) (hn : n ≤ 1048576) (hf : ∀ x ∈ qs, sqFits x) (hp : Places lo' hi' w al m ps) (hhi' : hi' ≤ w.heap.size) (hm : m ≤ 1048576) :
    Calls Try.prog 25 #[.agg #[.int .i64 z, .slice a n cap], .slice al m capl, .int .i64 s] w fun e w' => e = .returned (.int .i64 (live z qs ps s)) ∧ Below w.heap.size w w' := by
  obtain ⟨wA, hwA⟩ : ∃ wA, wA = w.alloc (.cells #[.int .i64 z, .slice a n cap] 31) := ⟨_, rfl⟩
  have hzA : wA.heap.size = w.heap.size + 1 := by rw [hwA]; simp
  have HBA : Hid (Below w.heap.size w wA) := by rw [hwA]; exact (Below.refl _ _).alloc (Nat.le_refl _) _
  have H1 : Hid (wA.heap[w.heap.size]? = some (.cells #[.int .i64 z, .slice a n cap] 31)) := by rw [hwA]; exact heap_new _ _
  have HSQ := hide (h.later HBA.out hhi)
  have HPL := hide (hp.later HBA.out hhi')
  have HL := hide h.1
  have HF := hide hf
  clear h hf hp
  obtain ⟨a0, a1⟩ := two_cells H1.out
  go_enter Try.func25, Try.ntmps25
  go_upto_region 1 with fail
  rw [← hwA]
  clear hwA
  go_wp2_with fail
  refine (specMapOk_any z a n cap qs al m capl ps wA HSQ.out (by omega) hn HF.out HPL.out (by omega) hm).mono ?_
  rintro e w1 ⟨rfl, b1⟩
  have K1 := hide (block_on H1.out b1)
  have HP1 := hide (HPL.out.later b1 (by omega))
  have HB1 := hide (below_here HBA.out b1)
  have hs1 := b1.size
  clear b1 H1 HSQ HPL HBA a0 a1
  obtain ⟨a0, a1⟩ := two_cells K1.out
  cases hok : mapOk z qs ps with
  | false =>
    have HE : Hid (live z qs ps s = -1) := by show _ = _; unfold live; rw [hok]; rfl
    go_wp2_with fail
    go_ret
    exact ⟨by rw [HE.out]; rfl, HB1.out⟩
  | true =>
    go_wp2_with fail
    refine (l1In_any s 0 ((n : Int) - 1) w1).mono ?_
    rintro e w2 ⟨rfl, rfl⟩
    cases hin : inB s 0 ((n : Int) - 1) with
    | false =>
      have HE : Hid (live z qs ps s = -1) := by show _ = _; unfold live; rw [HL.out, hin]; simp
      go_wp2_with fail
      go_ret
      exact ⟨by rw [HE.out]; rfl, HB1.out⟩
    | true =>
      have HE : Hid (live z qs ps s = (liveN ps s : Int)) := by show _ = _; unfold live; rw [hok, HL.out, hin]; rfl
      go_wp2_with fail
      refine (l9Live_any al m capl ps s w1 HP1.out hm).mono ?_
      rintro e w2 ⟨rfl, rfl⟩
      go_wp2_with fail
      go_ret
      exact ⟨by rw [HE.out]; rfl, HB1.out⟩

def bestV (o : Option Nat) : Int := match o with | none => -1 | some b => (b : Int)
theorem mayV_parts (qs : List Sq) (op : Int) (k : Nat) : mayV qs op k = (!((sqAt qs k).1.length == 0) && (!(sqAt qs k).2.2 && !((k : Int) == op))) := rfl
theorem bestK_no {qs : List Sq} {ps : List Pl} {op : Int} {k : Nat} (h : mayV qs op k = false) : bestK qs ps op (k + 1) = bestK qs ps op k := by
  show (if mayV qs op k then _ else _) = _
  rw [h]; rfl
theorem bestK_first {qs : List Sq} {ps : List Pl} {op : Int} {k : Nat} (h : mayV qs op k = true) (hb : bestK qs ps op k = none) : bestK qs ps op (k + 1) = some k := by
  show (if mayV qs op k then (match bestK qs ps op k with | none => some k | some b => if betterV qs ps k b then some k else some b) else _) = _
  rw [h, hb]; rfl
theorem bestK_next {qs : List Sq} {ps : List Pl} {op : Int} {k b : Nat} (h : mayV qs op k = true) (hb : bestK qs ps op k = some b) : bestK qs ps op (k + 1) = if betterV qs ps k b then some k else some b := by
  show (if mayV qs op k then (match bestK qs ps op k with | none => some k | some b => if betterV qs ps k b then some k else some b) else _) = _
  rw [h, hb]; rfl

set_option maxHeartbeats 3200000 in
theorem l9Victim_any (z : Int) (a : Option Addr) (n cap : Nat) (qs : List Sq) (al : Option Addr) (m capl : Nat) (ps : List Pl) (op : Int) (w : World) {lo hi lo' hi' : Nat} (h : Squares lo hi w a n qs) (hhi : hi ≤ w.heap.size) (hn : n ≤ 12) (hf : ∀ x ∈ qs, sqFits x) (hp : Places lo' hi' w al m ps) (hhi' : hi' ≤ w.heap.size) (hm : m ≤ 64) :
    Calls Try.prog 63 #[.agg #[.int .i64 z, .slice a n cap], .slice al m capl, .int .i64 op] w fun e w' => e = .returned (.int .i64 (victimV z qs ps op)) ∧ Below w.heap.size w w' := by
  obtain ⟨wA, hwA⟩ : ∃ wA, wA = w.alloc (.cells #[.int .i64 z, .slice a n cap] 31) := ⟨_, rfl⟩
  have hzA : wA.heap.size = w.heap.size + 1 := by rw [hwA]; simp
  have HBA : Hid (Below w.heap.size w wA) := by rw [hwA]; exact (Below.refl _ _).alloc (Nat.le_refl _) _
  have H1 : Hid (wA.heap[w.heap.size]? = some (.cells #[.int .i64 z, .slice a n cap] 31)) := by rw [hwA]; exact heap_new _ _
  have HSQ := hide (h.later HBA.out hhi)
  have HPL := hide (hp.later HBA.out hhi')
  have HL := hide h.1
  have HLP := hide hp.1
  have HF := hide hf
  have hlv : ∀ s, liveN ps s ≤ 64 := fun s => by have := liveN_le ps s; rw [HLP.out] at this; omega
  have HLV := hide hlv
  clear h hf hp hlv
  go_enter Try.func63, Try.ntmps63
  go_upto_region 1 with fail
  rw [← hwA]
  clear hwA
  go_wp2_with fail
  go_loopw [7, 8] (fun t i wr => ∃ k : Nat, k ≤ n ∧ i = .int .i64 (k : Int) ∧ t = .int .i64 (bestV (bestK qs ps op k)) ∧ Below wA.heap.size wA wr) (fun _ i _ => n - (intOf i).toNat)
  case atStart => exact ⟨0, Nat.zero_le _, rfl, rfl, Below.refl _ _⟩
  case round =>
    obtain ⟨k, hk, rfl, rfl, hbel⟩ := hrel
    have K1 := hide (block_on H1.out hbel)
    obtain ⟨a0, a1⟩ := two_cells K1.out
    have HBB := hide hbel
    by_cases hlt : k < n
    · have hql : k < qs.length := by rw [HL.out]; exact hlt
      obtain ⟨_, A, C, hx, ht⟩ := HSQ.out
      obtain ⟨b, off, rfl, _, hb, hc⟩ := hx.2 (by omega)
      have HC := hide hc
      obtain ⟨c0, c1, c2⟩ := sq_cells hc hbel (show b < wA.heap.size by omega) hlt
      have hl9 := (sq_fits HF.out hql).2.1
      unfold maxLen at hl9
      have HMV := hide (mayV_parts qs op k)
      have HYY : Hid (sqAt qs k = sqAt qs k) := rfl
      obtain ⟨y, hy⟩ : ∃ y, y = sqAt qs k := ⟨_, rfl⟩
      rw [← hy] at c0 c1 c2 hl9 HMV
      have HY := hide hy
      clear hc hx ht hy HYY
      obtain ⟨ts, zw, bd⟩ := y
      dsimp only at c0 c1 c2 hl9 HMV
      have HBV := hide ((Below.refl wr.heap.size wr).alloc (Nat.le_refl _) (.cells #[.slice (A k) ts.length (C k), .int .i64 zw, .bool bd] 68))
      have HBF := hide (below_here HBB.out HBV.out)
      have hbo : ∀ j, bestV (bestK qs ps op k) = (j : Int) → True := fun _ _ => trivial
      clear hbo hbel
      cases hmay : mayV qs op k with
      | false =>
        have HE : Hid (bestV (bestK qs ps op (k + 1)) = bestV (bestK qs ps op k)) := by show _ = _; rw [bestK_no hmay]
        rw [hmay] at HMV
        generalize bestV (bestK qs ps op k) = bv at *
        by_cases h0 : ts.length = 0
        · have g0 : ((ts.length : Int) == 0) = true := by simp [h0]
          clear h0
          go_wp2_with fail
          exact ⟨⟨k + 1, by omega, by go_num, by rw [HE.out], HBF.out⟩, by simp [intOf]; omega⟩
        · have g0 : ((ts.length : Int) == 0) = false := by simp; exact fun e => h0 (by rw [e]; rfl)
          cases bd with
          | true =>
            go_wp2_with fail
            exact ⟨⟨k + 1, by omega, by go_num, by rw [HE.out], HBF.out⟩, by simp [intOf]; omega⟩
          | false =>
            have hko : (k : Int) = op := by
              have h9 := HMV.out
              have e0 : (ts.length == 0) = false := by simpa using h0
              rw [e0] at h9
              simpa using h9
            have g1 : ((k : Int) == op) = true := by simpa using hko
            clear hko
            go_wp2_with fail
            exact ⟨⟨k + 1, by omega, by go_num, by rw [HE.out], HBF.out⟩, by simp [intOf]; omega⟩
      | true =>
        rw [hmay] at HMV
        have h9 := HMV.out
        simp only [Bool.true_eq, Bool.and_eq_true, Bool.not_eq_true', beq_eq_false_iff_ne, ne_eq] at h9
        obtain ⟨h0, rfl, hko⟩ := h9
        have g0 : ((ts.length : Int) == 0) = false := by simp; exact fun e => h0 (by rw [e]; rfl)
        have g1 : ((k : Int) == op) = false := by simpa using hko
        cases hbk : bestK qs ps op k with
        | none =>
          have HE : Hid (bestV (bestK qs ps op (k + 1)) = (k : Int)) := by show _ = _; rw [bestK_first hmay hbk]; rfl
          rw [show bestV none = -1 from rfl]
          go_wp2_with fail
          exact ⟨⟨k + 1, by omega, by go_num, by rw [HE.out], HBF.out⟩, by simp [intOf]; omega⟩
        | some j =>
          have hjk := bestK_lt hbk
          have HE := hide (bestK_next hmay hbk)
          rw [show bestV (some j) = (j : Int) from rfl]
          have gj : decide ((j : Int) < 0) = false := by simp
          clear hbk hmay
          obtain ⟨wV, hwV⟩ : ∃ wV, wV = wr.alloc (.cells #[.slice (A k) ts.length (C k), .int .i64 zw, .bool false] 68) := ⟨_, rfl⟩
          have HV0 : Hid (wV.heap[wr.heap.size]? = some (.cells #[.slice (A k) ts.length (C k), .int .i64 zw, .bool false] 68)) := by rw [hwV]; exact heap_new _ _
          rw [← hwV] at HBV HBF
          go_upto_region 9 with fail
          rw [← hwV]
          clear hwV
          have HPV := hide (HPL.out.later HBF.out (by omega))
          obtain ⟨d0, d1⟩ := two_cells (block_on K1.out HBV.out)
          obtain ⟨e0, e1, e2⟩ := three_cells HV0.out
          obtain ⟨f0, f1, f2⟩ := sq_cells HC.out HBF.out (show b < wA.heap.size by omega) (show j < n by omega)
          have hla := HLV.out (k : Int)
          have hlb := HLV.out (j : Int)
          have HBT : Hid (betterV qs ps k j = (decide (liveN ps (k : Int) < liveN ps (j : Int)) || (decide (liveN ps (k : Int) = liveN ps (j : Int)) && decide (zw < (sqAt qs j).2.1)))) := by
            show _ = _
            unfold betterV
            rw [← HY.out]
          clear a0 a1 c0 c1 c2 f0 f2 d0 e0 e2
          go_wp2_with fail
          refine (l9Live_any al m capl ps (k : Int) wV HPV.out (by omega)).mono ?_
          rintro e w3 ⟨rfl, rfl⟩
          go_wp2_with fail
          refine (l9Live_any al m capl ps (j : Int) wV HPV.out (by omega)).mono ?_
          rintro e w3 ⟨rfl, rfl⟩
          generalize liveN ps (k : Int) = la at *
          generalize liveN ps (j : Int) = lb at *
          generalize (sqAt qs j).2.1 = zj at *
          have hjn : (j : Int) < (n : Int) := by omega
          have HBW : ∀ nq, Hid (Below wA.heap.size wA (wV.drewN nq)) := fun nq => ⟨HBF.out.os, HBF.out.tape, HBF.out.output, HBF.out.size, HBF.out.block⟩
          by_cases h1 : la < lb
          · have g2 : decide ((la : Int) < (lb : Int)) = true := by simp; omega
            have HE2 : Hid (bestV (bestK qs ps op (k + 1)) = (k : Int)) := by
              show _ = _
              rw [HE.out, HBT.out, decide_eq_true h1]
              rfl
            go_wp2_with fail
            go_quiet (fail)
            go_wp2_with fail
            go_roundw
            case rel => exact ⟨k + 1, by omega, by go_num, by rw [HE2.out], (HBW _).out⟩
            case measure => simp [intOf]; omega
          · have g2 : decide ((la : Int) < (lb : Int)) = false := by simp; omega
            by_cases h2 : la = lb
            · have g3 : ((la : Int) == (lb : Int)) = true := by simp [h2]
              by_cases h3 : zw < zj
              · have g4 : decide (zw < zj) = true := by simpa using h3
                have HE2 : Hid (bestV (bestK qs ps op (k + 1)) = (k : Int)) := by
                  show _ = _
                  rw [HE.out, HBT.out, decide_eq_true h2, g4]
                  simp [bestV]
                go_wp2_with fail
                go_quiet (fail)
                go_wp2_with fail
                go_roundw
                case rel => exact ⟨k + 1, by omega, by go_num, by rw [HE2.out], (HBW _).out⟩
                case measure => simp [intOf]; omega
              · have g4 : decide (zw < zj) = false := by simpa using h3
                have HE2 : Hid (bestV (bestK qs ps op (k + 1)) = (j : Int)) := by
                  show _ = _
                  rw [HE.out, HBT.out, decide_eq_false h1, g4]
                  simp [bestV]
                go_wp2_with fail
                go_quiet (fail)
                go_wp2_with fail
                go_roundw
                case rel => exact ⟨k + 1, by omega, by go_num, by rw [HE2.out], (HBW _).out⟩
                case measure => simp [intOf]; omega
            · have g3 : ((la : Int) == (lb : Int)) = false := by simp; omega
              have HE2 : Hid (bestV (bestK qs ps op (k + 1)) = (j : Int)) := by
                show _ = _
                rw [HE.out, HBT.out, decide_eq_false h1, decide_eq_false h2]
                simp [bestV]
              go_wp2_with fail
              go_quiet (fail)
              go_wp2_with fail
              go_roundw
              case rel => exact ⟨k + 1, by omega, by go_num, by rw [HE2.out], (HBW _).out⟩
              case measure => simp [intOf]; omega
    · obtain rfl : k = n := by omega
      have HE : Hid (victimV z qs ps op = (match bestK qs ps op k with | none => -1 | some b => if (liveN ps (b : Int) : Int) = z then -1 else (b : Int))) := by show _ = _; unfold victimV; rw [HL.out]; rfl
      have HPV := hide (HPL.out.later HBB.out (by omega))
      have HBW : ∀ nq, Hid (Below w.heap.size w (wr.drewN nq)) := fun nq => by have hh := below_here HBA.out HBB.out; exact ⟨hh.os, hh.tape, hh.output, hh.size, hh.block⟩
      cases hbk : bestK qs ps op k with
      | none =>
        rw [show bestV none = -1 from rfl]
        have HE2 : Hid (victimV z qs ps op = -1) := by show _ = _; rw [HE.out, hbk]
        clear hbk
        go_wp2_with fail
        go_quiet (fail)
        go_wp2_with fail
        go_ret
        exact ⟨by rw [HE2.out]; rfl, (HBW _).out⟩
      | some j =>
        rw [show bestV (some j) = (j : Int) from rfl]
        have gj : decide ((j : Int) ≥ 0) = true := by simp
        have HE2 : Hid (victimV z qs ps op = if (liveN ps (j : Int) : Int) = z then -1 else (j : Int)) := by show _ = _; rw [HE.out, hbk]
        have HLC : ∀ w9, Hid (Places lo' hi' w9 al m ps → Calls Try.prog 56 #[.slice al m capl, .int .i64 (j : Int)] w9 fun e w' => e = .returned (.int .i64 (liveN ps (j : Int) : Int)) ∧ w9 = w') := fun w9 h9 => l9Live_any al m capl ps (j : Int) w9 h9 (by omega)
        clear hbk
        generalize liveN ps (j : Int) = la at *
        by_cases hz : (la : Int) = z
        · have g2 : ((la : Int) == z) = true := by simpa using hz
          go_wp2_with fail
          go_quiet ((go_at_call 56; exact Calls.quiet_of_same (((HLC _).out (by exact HPV.out)).mono fun e w' hh => ⟨hh.1, hh.2.symm⟩)))
          go_wp2_with fail
          go_ret
          exact ⟨by rw [HE2.out, if_pos hz]; rfl, (HBW _).out⟩
        · have g2 : ((la : Int) == z) = false := by simpa using hz
          go_wp2_with fail
          go_quiet ((go_at_call 56; exact Calls.quiet_of_same (((HLC _).out (by exact HPV.out)).mono fun e w' hh => ⟨hh.1, hh.2.symm⟩)))
          go_wp2_with fail
          go_ret
          exact ⟨by rw [HE2.out, if_neg hz]; rfl, (HBW _).out⟩

set_option maxHeartbeats 1600000 in
theorem specVictim_any (z : Int) (a : Option Addr) (n cap : Nat) (qs : List Sq) (al : Option Addr) (m capl : Nat) (ps : List Pl) (op : Int) (w : World) {lo hi lo' hi' : Nat} (h : Squares lo hi w a n qs) (hhi : hi ≤ w.heap.size) (hn : n ≤ 1048576) (hf : ∀ x ∈ qs, sqFits x) (hp : Places lo' hi' w al m ps) (hhi' : hi' ≤ w.heap.size) (hm : m ≤ 1048576) :
    Calls Try.prog 32 #[.agg #[.int .i64 z, .slice a n cap], .slice al m capl, .int .i64 op] w fun e w' => e = .returned (.int .i64 (victim z qs ps op)) ∧ Below w.heap.size w w' := by
  obtain ⟨wA, hwA⟩ : ∃ wA, wA = w.alloc (.cells #[.int .i64 z, .slice a n cap] 31) := ⟨_, rfl⟩
  have hzA : wA.heap.size = w.heap.size + 1 := by rw [hwA]; simp
  have HBA : Hid (Below w.heap.size w wA) := by rw [hwA]; exact (Below.refl _ _).alloc (Nat.le_refl _) _
  have H1 : Hid (wA.heap[w.heap.size]? = some (.cells #[.int .i64 z, .slice a n cap] 31)) := by rw [hwA]; exact heap_new _ _
  have HSQ := hide (h.later HBA.out hhi)
  have HPL := hide (hp.later HBA.out hhi')
  have HL := hide h.1
  have HLP := hide hp.1
  have HF := hide hf
  clear h hf hp
  obtain ⟨a0, a1⟩ := two_cells H1.out
  go_enter Try.func32, Try.ntmps32
  go_upto_region 1 with fail
  rw [← hwA]
  clear hwA
  go_wp2_with fail
  refine (specMapOk_any z a n cap qs al m capl ps wA HSQ.out (by omega) hn HF.out HPL.out (by omega) hm).mono ?_
  rintro e w1 ⟨rfl, b1⟩
  have K1 := hide (block_on H1.out b1)
  have HS1 := hide (HSQ.out.later b1 (by omega))
  have HP1 := hide (HPL.out.later b1 (by omega))
  have HB1 := hide (below_here HBA.out b1)
  have hs1 := b1.size
  clear b1 H1 HSQ HPL HBA a0 a1
  obtain ⟨a0, a1⟩ := two_cells K1.out
  cases hok : mapOk z qs ps with
  | false =>
    have HE : Hid (victim z qs ps op = -1) := by show _ = _; unfold victim; rw [hok]; rfl
    go_wp2_with fail
    go_ret
    exact ⟨by rw [HE.out]; rfl, HB1.out⟩
  | true =>
    have HE : Hid (victim z qs ps op = victimV z qs ps op) := by show _ = _; unfold victim; rw [hok]; rfl
    have hn12 : n ≤ 12 := by have := (chipOk_parts (mapOk_chip hok)).2.2.2.1; rw [HL.out] at this; exact this
    have hm64 : m ≤ 64 := by have := (mapOk_len hok).2; rw [HLP.out] at this; exact this
    go_wp2_with fail
    refine (l9Victim_any z a n cap qs al m capl ps op w1 HS1.out (by omega) hn12 HF.out HP1.out (by omega) hm64).mono ?_
    rintro e w2 ⟨rfl, b2⟩
    have HB2 := hide (below_here HB1.out b2)
    clear b2
    go_wp2_with fail
    go_ret
    exact ⟨by rw [HE.out]; rfl, HB2.out⟩
end Go.Proofs.Ytceidhlcbbikcam
