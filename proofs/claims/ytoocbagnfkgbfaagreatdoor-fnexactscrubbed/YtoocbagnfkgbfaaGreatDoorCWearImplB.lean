/- The program's MapOk and Live. -/
import Derived.Test.YtoocbagnfkgbfaaGreatDoorCWearSpecE
import Derived.Test.YtoocbagnfkgbfaaGreatDoorCChipImplB
namespace Go.Proofs.YtoocbagnfkgbfaaGreatDoor
open Go.RowKit
set_option linter.unusedVariables false
set_option maxRecDepth 20000

theorem plAt_take (ps : List Pl) (k : Nat) {j : Nat} (h : j < k) : plAt (ps.take k) j = plAt ps j := by
  unfold plAt
  rw [List.getD_eq_getElem?_getD, List.getD_eq_getElem?_getD, List.getElem?_take, if_pos h]
theorem noneOf_take (ps : List Pl) (k : Nat) (v : Pl) : noneOf (ps.take k) k v = noneOf ps k v := by
  unfold noneOf
  rw [Bool.eq_iff_iff, List.all_eq_true, List.all_eq_true]
  constructor
  · intro h j hj
    have := h j hj
    rwa [plAt_take ps k (List.mem_range.1 hj)] at this
  · intro h j hj
    rw [plAt_take ps k (List.mem_range.1 hj)]
    exact h j hj
theorem Places.take {lo hi n : Nat} {w : World} {a : Option Addr} {ps : List Pl} (h : Places lo hi w a n ps) {k : Nat} (hk : k ≤ n) : Places lo hi w a k (ps.take k) := by
  obtain ⟨hl, hz, hx⟩ := h
  refine ⟨by rw [List.length_take]; omega, hz, fun h0 => ?_⟩
  obtain ⟨b, off, e, h1, h2, h3⟩ := hx (by omega)
  refine ⟨b, off, e, h1, h2, fun i hi => ?_⟩
  rw [h3 i (by omega)]
  unfold cellP
  rw [plAt_take ps k (show i / 2 < k by omega)]

set_option maxHeartbeats 3200000 in
theorem implMapOk_any (z : Int) (a : Option Addr) (n cap : Nat) (qs : List Sq) (al : Option Addr) (m capl : Nat) (ps : List Pl) (w : World) {lo hi lo' hi' : Nat} (h : Squares lo hi w a n qs) (hhi : hi ≤ w.heap.size) (hn : n ≤ 1048576) (hf : ∀ x ∈ qs, sqFits x) (hp : Places lo' hi' w al m ps) (hhi' : hi' ≤ w.heap.size) (hm : m ≤ 1048576) (hcl : m ≤ capl) :
    Calls Tryz.prog 73 #[.agg #[.int .i64 z, .slice a n cap], .slice al m capl] w fun e w' => e = .returned (.bool (mapOk z qs ps)) ∧ Below w.heap.size w w' := by
  obtain ⟨wA, hwA⟩ : ∃ wA, wA = w.alloc (.cells #[.int .i64 z, .slice a n cap] 26) := ⟨_, rfl⟩
  have hzA : wA.heap.size = w.heap.size + 1 := by rw [hwA]; simp
  have HBA : Hid (Below w.heap.size w wA) := by rw [hwA]; exact (Below.refl _ _).alloc (Nat.le_refl _) _
  have H1 : Hid (wA.heap[w.heap.size]? = some (.cells #[.int .i64 z, .slice a n cap] 26)) := by rw [hwA]; exact heap_new _ _
  have HSQ := hide (h.later HBA.out hhi)
  have HPL := hide (hp.later HBA.out hhi')
  have HL := hide h.1
  have HLP := hide hp.1
  have HF := hide hf
  clear h hf hp
  obtain ⟨a0, a1⟩ := two_cells H1.out
  go_enter Tryz.func73, Tryz.ntmps73
  go_wp2_with fail
  rw [← hwA]
  clear hwA
  refine (implChipOk_any z a n cap qs wA HSQ.out (by omega) hn HF.out).mono ?_
  rintro e w1 ⟨rfl, b1⟩
  have K1 := hide (block_on H1.out b1)
  have HS1 := hide (HSQ.out.later b1 (by omega))
  have HP1 := hide (HPL.out.later b1 (by omega))
  have HB1 := hide (below_here HBA.out b1)
  have hs1 := b1.size
  clear b1 H1 HSQ HPL HBA a0 a1
  cases hok : chipOk z qs with
  | false =>
    have HE : Hid (mapOk z qs ps = false) := by show _ = _; unfold mapOk; rw [hok]; rfl
    go_wp2_with fail
    go_ret
    exact ⟨ret_bool HE.out.symm, HB1.out⟩
  | true =>
    by_cases h1 : 1 ≤ m
    · have g1 : decide ((m : Int) < 1) = false := by simp; omega
      by_cases h64 : m ≤ 64
      · have g2 : decide ((m : Int) > 64) = false := by simp; omega
        have HE : Hid (mapOk z qs ps = (List.range ps.length).all (plOk qs ps)) := by
          show _ = _
          unfold mapOk
          rw [hok, HLP.out, decide_eq_true h1, decide_eq_true h64]
          rfl
        clear hok
        go_wp2_with fail
        clear g1 g2
        go_loopw [22, 5] (fun i _ wr => ∃ k : Nat, k ≤ m ∧ i = .int .i64 (k : Int) ∧ (List.range k).all (plOk qs ps) = true ∧ Below w1.heap.size w1 wr) (fun i _ _ => m - (intOf i).toNat)
        case atStart => exact ⟨0, Nat.zero_le _, rfl, rfl, Below.refl _ _⟩
        case round =>
          obtain ⟨k, hk, rfl, hall, hbel⟩ := hrel
          have HAL := hide hall
          have HBB := hide hbel
          clear hall
          by_cases hlt : k < m
          · have hpl : k < ps.length := by rw [HLP.out]; exact hlt
            obtain ⟨b, off, rfl, _, hb, hc⟩ := HP1.out.2.2 (by omega)
            obtain ⟨c0, c1⟩ := pl_cells hc hbel (show b < w1.heap.size by have := HP1.out.2.1; omega) hlt
            have HFA : Hid (plOk qs ps k = false → mapOk z qs ps = false) := fun hh => mapOk_fall hpl hh
            have HST : Hid (plOk qs ps k = true → (List.range (k + 1)).all (plOk qs ps) = true) := fun hh => all_range_step HAL.out hh
            have HPO : Hid (plOk qs ps k = ((((plAt ps k).1 == -1) && ((plAt ps k).2 == 0)) || (plThere qs (plAt ps k) && noneOf ps k (plAt ps k)))) := by
              show _ = _
              unfold plOk
              rw [pl_eq]
              rfl
            have HTK := hide (HP1.out.take (show k ≤ m by omega))
            clear hc
            generalize plAt ps k = y at *
            obtain ⟨p, q⟩ := y
            dsimp only at c0 c1 HPO
            obtain ⟨wX, hwX⟩ : ∃ wX, wX = wr.alloc (.cells #[.int .i64 p, .int .i64 q] 48) := ⟨_, rfl⟩
            have hzX : wX.heap.size = wr.heap.size + 1 := by rw [hwX]; simp
            have HBX : Hid (Below wr.heap.size wr wX) := by rw [hwX]; exact (Below.refl _ _).alloc (Nat.le_refl _) _
            have HX1 : Hid (wX.heap[wr.heap.size]? = some (.cells #[.int .i64 p, .int .i64 q] 48)) := by rw [hwX]; exact heap_new _ _
            have hsr := hbel.size
            go_wp2_with fail
            rw [← hwX]
            clear hwX c0 c1 hbel
            refine (isNone_any p q wX).mono ?_
            rintro e w2 ⟨rfl, b2⟩
            have HX2 := hide (block_on HX1.out b2)
            have HB2 := hide (below_here (below_here HBB.out HBX.out) b2)
            have hs2 := b2.size
            clear b2 HBX HX1
            cases hnone : ((p == -1) && (q == 0)) with
            | true =>
              have HOK := hide (HST.out (by rw [HPO.out, hnone]; rfl))
              go_wp2_with fail
              exact ⟨⟨k + 1, by omega, by go_num, HOK.out, HB2.out⟩, by simp [intOf]; omega⟩
            | false =>
              have HPO2 : Hid (plOk qs ps k = (plThere qs (p, q) && noneOf ps k (p, q))) := by show _ = _; rw [HPO.out, hnone]; rfl
              obtain ⟨c0, c1⟩ := two_cells HX2.out
              obtain ⟨a0, a1⟩ := two_cells (block_on K1.out HB2.out)
              have cT : ∀ d os, Calls Tryz.prog 135 #[.agg #[.int .i64 z, .slice a n cap], .int .i64 p, .int .i64 q] (Go.Sort.grow (redrawn w2 d) os) fun e w'' => e = .returned (.bool (plThere qs (p, q))) ∧ ∃ p : Regrown, w'' = Go.Sort.grow (redrawn w2 p.d) p.os := fun d os => Calls.regrown_of ((hasPage_any z a n cap qs p q _ (HS1.out.later (below_here HB2.out (below_regrown w2 d os)) (by omega)) (by have := (below_regrown w2 d os).size; omega) hn HF.out).mono (fun e w' hh => ⟨by rw [hh.1]; unfold plThere; rw [HL.out], hh.2⟩))
              have cC : ∀ d os, Calls Tryz.prog 136 #[.slice (some ⟨b, off, none⟩) k capl, .agg #[.int .i64 p, .int .i64 q]] (Go.Sort.grow (redrawn w2 d) os) fun e w'' => e = .returned (.bool (!(noneOf ps k (p, q)))) ∧ ∃ p : Regrown, w'' = Go.Sort.grow (redrawn w2 p.d) p.os := fun d os => Calls.regrown_of ((containsPl_any (some ⟨b, off, none⟩) k capl (ps.take k) p q _ (HTK.out.later (below_here HB2.out (below_regrown w2 d os)) (by have := HP1.out.2.1; omega)) (by have := (below_regrown w2 d os).size; have := HP1.out.2.1; omega) (by omega)).mono (fun e w' hh => ⟨by rw [hh.1, noneOf_take], hh.2⟩))
              have k0 := cell_regrown a0
              have k1 := cell_regrown a1
              have k2 := cell_regrown c0
              have k3 := cell_regrown c1
              have hkm : (k : Int) ≤ (m : Int) := by omega
              have hkc : (k : Int) ≤ (capl : Int) := by omega
              clear hnone
              cases hth : plThere qs (p, q) with
              | false =>
                have HNO := hide (HFA.out (by rw [HPO2.out, hth]; rfl))
                rw [hth] at cT
                go_upto_region 7 with fail
                go_cut [42] (fun c wx => c = .bool true ∧ Below w2.heap.size w2 wx)
                case first =>
                  refine wp_region_quiet_below (by kernel_rfl) (by kernel_rfl) ?_
                  repeat (go_big_quiet_step ((go_at_call 135; exact cT _ _)))
                  refine wpQuiet_nil ?_
                  intro _ hw'
                  obtain ⟨⟨dq, osq⟩, hw''⟩ := hw'
                  subst hw''
                  have HBQ := hide (below_regrown w2 dq osq)
                  go_wp2_with fail
                  go_meet
                  exact ⟨rfl, HBQ.out⟩
                case rest =>
                  obtain ⟨rfl, hb3⟩ := hcut
                  have HB3 := hide (below_here HB2.out hb3)
                  clear hb3 k0 k1 k2 k3 cT cC c0 c1 a0 a1
                  go_wp2_with fail
                  go_ret
                  exact ⟨ret_bool HNO.out.symm, below_here HB1.out HB3.out⟩
              | true =>
                have HPO3 : Hid (plOk qs ps k = noneOf ps k (p, q)) := by show _ = _; rw [HPO2.out, hth]; rfl
                rw [hth] at cT
                go_upto_region 7 with fail
                go_cut [42] (fun c wx => c = .bool (!(noneOf ps k (p, q))) ∧ Below w2.heap.size w2 wx)
                case first =>
                  refine wp_region_quiet_below (by kernel_rfl) (by kernel_rfl) ?_
                  repeat (go_big_quiet_step ((first | (go_at_call 135; exact cT _ _) | (go_at_call 136; exact cC _ _))))
                  refine wpQuiet_nil ?_
                  intro _ hw'
                  obtain ⟨⟨dq, osq⟩, hw''⟩ := hw'
                  subst hw''
                  have HBQ := hide (below_regrown w2 dq osq)
                  go_wp2_with fail
                  go_meet
                  exact ⟨rfl, HBQ.out⟩
                case rest =>
                  obtain ⟨rfl, hb3⟩ := hcut
                  have HB3 := hide (below_here HB2.out hb3)
                  clear hb3 k0 k1 k2 k3 cT cC c0 c1 a0 a1
                  cases hno : noneOf ps k (p, q) with
                  | false =>
                    have HNO := hide (HFA.out (by rw [HPO3.out, hno]))
                    go_wp2_with fail
                    go_ret
                    exact ⟨ret_bool HNO.out.symm, below_here HB1.out HB3.out⟩
                  | true =>
                    have HOK := hide (HST.out (by rw [HPO3.out, hno]))
                    go_wp2_with fail
                    exact ⟨⟨k + 1, by omega, by go_num, HOK.out, HB3.out⟩, by simp [intOf]; omega⟩
          · obtain rfl : k = m := by omega
            have HE2 : Hid (mapOk z qs ps = true) := by show _ = _; rw [HE.out, HLP.out]; exact HAL.out
            go_wp2_with fail
            go_ret
            exact ⟨ret_bool HE2.out.symm, below_here HB1.out HBB.out⟩
      · have g2 : decide ((m : Int) > 64) = true := by simp; omega
        have HE : Hid (mapOk z qs ps = false) := by show _ = _; unfold mapOk; rw [HLP.out, decide_eq_false h64]; simp
        go_wp2_with fail
        go_ret
        exact ⟨ret_bool HE.out.symm, HB1.out⟩
    · have g1 : decide ((m : Int) < 1) = true := by simp; omega
      have HE : Hid (mapOk z qs ps = false) := by show _ = _; unfold mapOk; rw [HLP.out, decide_eq_false h1]; simp
      go_wp2_with fail
      go_ret
      exact ⟨ret_bool HE.out.symm, HB1.out⟩

end Go.Proofs.YtoocbagnfkgbfaaGreatDoor
