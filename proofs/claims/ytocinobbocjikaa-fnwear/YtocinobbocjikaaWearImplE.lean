/- The program's Victim: Squares by a heap. -/
import Derived.Test.YtocinobbocjikaaJChipDoS
import Derived.Test.YtocinobbocjikaaWearImplB
import Derived.Deep.RegionWith
namespace Go.Proofs.Ytocinobbocjikaa
open Go.RowKit
set_option linter.unusedVariables false
set_option maxRecDepth 20000

set_option maxHeartbeats 3200000 in
theorem implVictim_any (z : Int) (a : Option Addr) (n cap : Nat) (qs : List Sq) (al : Option Addr) (nl capl : Nat) (ps : List Pl) (op : Int) (w : World) {lo hi lo' hi' : Nat} (h : Squares lo hi w a n qs) (hhi : hi ≤ w.heap.size) (hn : n ≤ 1048576) (hf : ∀ x ∈ qs, sqFits x) (hp : Places lo' hi' w al nl ps) (hhi' : hi' ≤ w.heap.size) (hm : nl ≤ 1048576) (hcl : nl ≤ capl) :
    Calls Try.prog 7 #[.agg #[.int .i64 z, .slice a n cap], .slice al nl capl, .int .i64 op] w fun e w' => e = .returned (.int .i64 (victim z qs ps op)) ∧ Below w.heap.size w w' := by
  obtain ⟨wA, hwA⟩ : ∃ wA, wA = w.alloc (.cells #[.int .i64 z, .slice a n cap] 26) := ⟨_, rfl⟩
  have hzA : wA.heap.size = w.heap.size + 1 := by rw [hwA]; simp
  have HBA : Hid (Below w.heap.size w wA) := by rw [hwA]; exact (Below.refl _ _).alloc (Nat.le_refl _) _
  have H1 : Hid (wA.heap[w.heap.size]? = some (.cells #[.int .i64 z, .slice a n cap] 26)) := by rw [hwA]; exact heap_new _ _
  have HSQ := hide (h.later HBA.out hhi)
  have HPL := hide (hp.later HBA.out hhi')
  have HL := hide h.1
  have HF := hide hf
  clear h hf hp
  obtain ⟨a0, a1⟩ := two_cells H1.out
  go_enter Try.func7, Try.ntmps7
  go_wp2_with fail
  rw [← hwA]
  clear hwA
  refine (implMapOk_any z a n cap qs al nl capl ps wA HSQ.out (by omega) hn HF.out HPL.out (by omega) hm hcl).mono ?_
  rintro e w1 ⟨rfl, b1⟩
  have K1 := hide (block_on H1.out b1)
  have HS1 := hide (HSQ.out.later b1 (by omega))
  have HP1 := hide (HPL.out.later b1 (by omega))
  have HB1 := hide (below_here HBA.out b1)
  have hs1 := b1.size
  clear b1 H1 HSQ HPL HBA a0 a1
  cases hok : mapOk z qs ps with
  | false =>
    have HE : Hid (victim z qs ps op = -1) := by show _ = _; unfold victim; rw [hok]; rfl
    go_wp2_with fail
    go_ret
    exact ⟨by rw [HE.out]; rfl, HB1.out⟩
  | true =>
    have HE : Hid (victim z qs ps op = victimV z qs ps op) := by show _ = _; unfold victim; rw [hok]; rfl
    have hn12 : n ≤ 12 := by have := (chipOk_parts (mapOk_chip hok)).2.2.2.1; rw [HL.out] at this; exact this
    clear hok
    obtain ⟨wP, hwP⟩ : ∃ wP, wP = (w1.alloc (.cells #[] 54)).alloc (.cells #[.slice (some ⟨w1.heap.size, 0, none⟩) 0 0] 50) := ⟨_, rfl⟩
    have hzP : wP.heap.size = w1.heap.size + 2 := by rw [hwP]; simp
    have HBP : Hid (Below w1.heap.size w1 wP) := by rw [hwP]; exact ((Below.refl _ _).alloc (Nat.le_refl _) _).alloc (by simp) _
    have HRP : Hid (Rkg w1.heap.size wP (w1.heap.size + 1) w1.heap.size 0 0 (fun _ => (0, 0, 0))) := by rw [hwP]; exact rkg_made0 w1 _
    obtain ⟨a0, a1⟩ := two_cells (block_on K1.out HBP.out)
    rw [hwP] at a0 a1
    go_wp2_with fail
    rw [← hwP]
    clear hwP a0 a1
    go_loopw [21] (fun i wr => ∃ (k m g c : Nat) (f : Nat → Rk), k ≤ n ∧ i = .int .i64 (k : Int) ∧ Rkg w1.heap.size wr (w1.heap.size + 1) g m c f ∧ HeapR m f ∧ Gath (mayV qs op) (rkV9 qs ps) k m f ∧ Below w1.heap.size w1 wr) (fun i _ => n - (intOf i).toNat)
    case atStart => exact ⟨0, 0, _, _, _, Nat.zero_le _, rfl, HRP.out, HeapR.none _, Gath.nil _ _ _, HBP.out⟩
    case round =>
      obtain ⟨k, m, g, c, f, hk, rfl, hR, hH, hG, hbel⟩ := hrel
      have HRR := hide hR
      have HHH := hide hH
      have HGG := hide hG
      have HBB := hide hbel
      clear hR hH hG HRP HBP
      by_cases hlt : k < n
      · have hql : k < qs.length := by rw [HL.out]; exact hlt
        obtain ⟨_, A, C, hx, ht⟩ := HS1.out
        obtain ⟨b, off, rfl, _, hb, hc⟩ := hx.2 (by omega)
        obtain ⟨c0, c1, c2⟩ := sq_cells hc hbel (show b < w1.heap.size by omega) hlt
        have hl9 := (sq_fits HF.out hql).2.1
        unfold maxLen at hl9
        have HMV : Hid (mayV qs op k = (!((sqAt qs k).1.length == 0) && (!(sqAt qs k).2.2 && !((k : Int) == op)))) := rfl
        have HSK : Hid (mayV qs op k = false → Gath (mayV qs op) (rkV9 qs ps) (k + 1) m f) := fun hh => HGG.out.skip hh
        have HPU : Hid (mayV qs op k = true → ∀ f', SameR (m + 1) (upd f m (rkV9 qs ps k)) f' → Gath (mayV qs op) (rkV9 qs ps) (k + 1) (m + 1) f') := fun hh f' hs => HGG.out.push (rkV9_inj qs ps) hh hs
        have HER : Hid (rkV9 qs ps k = ((liveN ps (k : Int) : Int), (sqAt qs k).2.1, (k : Int))) := rfl
        have hmk := HGG.out.le
        have HPR := hide (HP1.out.later hbel HP1.out.2.1)
        clear hc hx ht
        generalize sqAt qs k = y at *
        obtain ⟨ts, zw, bd⟩ := y
        dsimp only at c0 c1 c2 hl9 HMV HER
        obtain ⟨wX, hwX⟩ : ∃ wX, wX = wr.alloc (.cells #[.slice (A k) ts.length (C k), .int .i64 zw, .bool bd] 40) := ⟨_, rfl⟩
        have hzX : wX.heap.size = wr.heap.size + 1 := by rw [hwX]; simp
        have HBX : Hid (Below wr.heap.size wr wX) := by rw [hwX]; exact (Below.refl _ _).alloc (Nat.le_refl _) _
        have HXX : Hid (wX.heap[wr.heap.size]? = some (.cells #[.slice (A k) ts.length (C k), .int .i64 zw, .bool bd] 40)) := by rw [hwX]; exact heap_new _ _
        have HRX := hide (HRR.out.later HBX.out)
        have HBF := hide (below_here HBB.out HBX.out)
        have HPX := hide (HPR.out.later HBX.out HPR.out.2.1)
        have hsr := hbel.size
        clear hbel
        cases bd with
        | true =>
          have HG2 := hide (HSK.out (by rw [HMV.out]; simp))
          go_wp2_with fail
          rw [← hwX]
          exact ⟨⟨k + 1, m, g, c, f, by omega, by go_num, HRX.out, HHH.out, HG2.out, HBF.out⟩, by simp [intOf]; omega⟩
        | false =>
          by_cases h0 : ts.length = 0
          · have HG2 := hide (HSK.out (by rw [HMV.out, h0]; rfl))
            rw [h0] at c0 hwX
            go_wp2_with fail
            rw [← hwX]
            exact ⟨⟨k + 1, m, g, c, f, by omega, by go_num, HRX.out, HHH.out, HG2.out, HBF.out⟩, by simp [intOf]; omega⟩
          · have g0 : decide ((ts.length : Int) > 0) = true := by simp; omega
            have g1 : (ts.length == 0) = false := by simpa using h0
            by_cases hop : (k : Int) = op
            · have HG2 := hide (HSK.out (by rw [HMV.out, g1]; simp [hop]))
              subst hop
              go_wp2_with fail
              rw [← hwX]
              exact ⟨⟨k + 1, m, g, c, f, by omega, by go_num, HRX.out, HHH.out, HG2.out, HBF.out⟩, by simp [intOf]; omega⟩
            · have HG2 := hide (HPU.out (by rw [HMV.out, g1]; simp [hop]))
              obtain ⟨x0, x1, x2⟩ := three_cells HXX.out
              rw [hwX] at x0 x1 x2
              go_upto_region 9 with fail
              rw [← hwX] at x0 x1 x2
              rw [← hwX]
              clear hwX c0 c1 c2
              go_region_with (first
                | (go_at_call 26; refine (placesIn_any al nl capl ps (k : Int) _ (by exact HPX.out) hm).mono ?_; rintro e w8 ⟨rfl, b8⟩; have B8 := hide ((Below.refl wX.heap.size wX).drew.trans b8); clear b8; obtain ⟨y0, y1, y2⟩ := three_cells (block_on HXX.out B8.out); have HR8 := hide (HRX.out.later B8.out); have hs8 := B8.out.size)
                | (go_at_call 25; refine (heapPush_any w1.heap.size (w1.heap.size + 1) g m c f ((liveN ps (k : Int) : Int), zw, (k : Int)) w8 HR8.out HHH.out (by omega) (by omega)).mono ?_; rintro e w2 ⟨rfl, g', c', f', r2, h2, s2, b2⟩; have HR2 := hide r2; have HH2 := hide h2; have HG3 := hide (HG2.out f' (by rw [HER.out]; exact s2)); have HB2 := hide ((below_here HBF.out B8.out).trans b2); clear r2 h2 s2 b2))
              all_goals
                go_wp2_with fail
                exact ⟨⟨k + 1, m + 1, g', c', f', by omega, by go_num, HR2.out, HH2.out, HG3.out, HB2.out⟩, by simp [intOf]; omega⟩
      · obtain rfl : k = n := by omega
        have hmk := HGG.out.le
        have hcell := rk_cell1 HRR.out.cell
        have hsr := hbel.size
        clear hbel
        cases m with
        | zero =>
          have HE2 : Hid (victim z qs ps op = -1) := by show _ = _; rw [HE.out]; unfold victimV; rw [HL.out, HGG.out.none]
          go_wp2_with fail
          refine (rkLen_any _ 0 c wr (by omega)).mono ?_
          rintro e w2 ⟨rfl, rfl⟩
          simp only [show ((0 : Nat) : Int) = 0 from rfl]
          go_wp2_with fail
          go_ret
          exact ⟨by rw [HE2.out]; rfl, below_here HB1.out HBB.out⟩
        | succ q =>
          obtain ⟨b, hb, hfb⟩ := HGG.out.best HHH.out
          have HE2 : Hid (victim z qs ps op = if (liveN ps (b : Int) : Int) = z then -1 else (b : Int)) := by show _ = _; rw [HE.out]; unfold victimV; rw [HL.out, hb]
          have HFB := hide hfb
          have g9 : ¬ ((q : Int) + 1 = 0) := by omega
          clear hb hfb
          go_wp2_with fail
          refine (rkLen_any _ (q + 1) c wr (by omega)).mono ?_
          rintro e w2 ⟨rfl, rfl⟩
          clear hcell
          go_wp2_with fail
          refine (takeNext_any w1.heap.size (w1.heap.size + 1) g q c f wr.heap.size wr HRR.out HHH.out (by omega) HRR.out.ltP (rk_lt HRR.out.row).2).mono ?_
          rintro e w3 ⟨rfl, f'', r3, h3, s3, a3⟩
          have HB3 := hide (HBB.out.trans (a3.below (Nat.le_refl _) hsr))
          clear r3 h3 s3 a3
          rw [HFB.out]
          unfold rkV rkV9
          dsimp only
          obtain ⟨wX, hwX⟩ : ∃ wX, wX = w3.alloc (.cells #[.int .i64 (liveN ps (b : Int) : Int), .int .i64 (sqAt qs b).2.1, .int .i64 (b : Int)] 54) := ⟨_, rfl⟩
          have HBX : Hid (Below w1.heap.size w1 wX) := by rw [hwX]; exact HB3.out.alloc HB3.out.size _
          obtain ⟨a0, a1⟩ := two_cells (block_on K1.out HBX.out)
          rw [hwX] at a0
          clear a1
          by_cases hz : (liveN ps (b : Int) : Int) = z
          · have HE3 : Hid (victim z qs ps op = -1) := by show _ = _; rw [HE2.out, if_pos hz]
            subst hz
            go_wp2_with fail
            rw [← hwX]
            go_ret
            exact ⟨by rw [HE3.out]; rfl, below_here HB1.out HBX.out⟩
          · have HE3 : Hid (victim z qs ps op = (b : Int)) := by show _ = _; rw [HE2.out, if_neg hz]
            go_wp2_with fail
            rw [← hwX]
            go_ret
            exact ⟨by rw [HE3.out]; rfl, below_here HB1.out HBX.out⟩
end Go.Proofs.Ytocinobbocjikaa
