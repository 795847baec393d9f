/- The walk of chapter 6's model: Fits. -/
import Derived.Test.YtbgjagmnpfcfaakSpareSpec3
namespace Go.Proofs.Ytbgjagmnpfcfaak
open Go.RowKit
set_option linter.unusedVariables false
set_option linter.unusedSimpArgs false
set_option maxRecDepth 20000

def fitsB (ts : List ByteArray) (c : Int) : Bool := inB c 1 8 && (inB (ts.length : Int) (c + 1) (c + 4) && (columnsOk (ts.take c.toNat) && decide (sparesT (ts.take c.toNat) ((ts.length : Int) - c) = ts.drop c.toNat)))
theorem Texts.take {lo hi n C : Nat} {w : World} {a : Option Addr} {ts : List ByteArray} (h : Texts lo hi w a n ts) (hC : C ≤ n) : Texts lo hi w a C (ts.take C) := by
  obtain ⟨h1, h2, h3⟩ := h
  refine ⟨by rw [List.length_take]; omega, h2, fun hn => ?_⟩
  obtain ⟨b, off, rfl, h4, h5, h6⟩ := h3 (by omega)
  refine ⟨b, off, rfl, h4, h5, fun i hi => ?_⟩
  rw [h6 i (by omega)]
  unfold cellT
  rw [List.getD_eq_getElem?_getD, List.getD_eq_getElem?_getD, List.getElem?_take, if_pos hi]
theorem sparesT_length {ts : List ByteArray} {D : Nat} (h : columnsOk ts = true) (h1 : 1 ≤ D) (h4 : D ≤ 4) : (sparesT ts (D : Int)).length = D := by rw [sparesT_yes h h1 h4]; simp

set_option maxHeartbeats 1600000 in
theorem specFits_any (a : Option Addr) (n cap : Nat) (ts : List ByteArray) (c : Int) (w : World) {lo hi : Nat} (h : Texts lo hi w a n ts) (hn : n ≤ 1048576) (hcap : n ≤ cap) (hc9 : (Lit.int .i64 c).wf = true) (hts : ∀ s ∈ ts, s.size ≤ 1048576) :
    Calls Try.prog 30 #[.slice a n cap, .int .i64 c] w fun e w' => e = .returned (.bool (fitsB ts c)) ∧ Below w.heap.size w w' := by
  have hc8 : -9223372036854775808 ≤ c ∧ c ≤ 9223372036854775807 := by
    simp [Lit.wf] at hc9
    exact hc9
  have HH := hide h
  have HL := hide h.1
  have HTS := hide hts
  have hhi := h.2.1
  clear h hts hc9
  cases h1 : inB c 1 8
  · have HE : Hid (fitsB ts c = false) := by show _ = _; simp [fitsB, h1]
    go_enter Try.func30, Try.ntmps30
    go_wp2_with fail
    refine (l1In_any _ _ _ _).mono ?_
    rw [h1]
    rintro e w1 ⟨rfl, rfl⟩
    go_wp2_with fail
    go_ret
    exact ⟨ret_bool HE.out.symm, Below.refl _ _⟩
  · obtain ⟨C, rfl, hC1, hC8⟩ : ∃ C : Nat, c = (C : Int) ∧ 1 ≤ C ∧ C ≤ 8 := by
      have h1' := h1
      simp [inB] at h1'
      exact ⟨c.toNat, by omega, by omega, by omega⟩
    cases h2 : inB (n : Int) ((C : Int) + 1) ((C : Int) + 4)
    · have HE : Hid (fitsB ts (C : Int) = false) := by show _ = _; simp [fitsB, HL.out, h2]
      go_enter Try.func30, Try.ntmps30
      go_wp2_with fail
      refine (l1In_any _ _ _ _).mono ?_
      rw [h1]
      rintro e w1 ⟨rfl, rfl⟩
      go_wp2_with fail
      refine (l1In_any _ _ _ _).mono ?_
      rw [h2]
      rintro e w1 ⟨rfl, rfl⟩
      go_wp2_with fail
      go_ret
      exact ⟨ret_bool HE.out.symm, Below.refl _ _⟩
    · obtain ⟨D, hnD, hD1, hD4⟩ : ∃ D : Nat, n = C + D ∧ 1 ≤ D ∧ D ≤ 4 := by
        have h2' := h2
        simp [inB] at h2'
        exact ⟨n - C, by omega, by omega, by omega⟩
      have HF : Hid (fitsB ts (C : Int) = (columnsOk (ts.take C) && decide (sparesT (ts.take C) (D : Int) = ts.drop C))) := by
        show _ = _
        unfold fitsB
        rw [h1, HL.out, h2, show (n : Int) - (C : Int) = (D : Int) by omega]
        simp
      have hx := HH.out.2.2 (by omega)
      obtain ⟨b, off, rfl, _, hb, hcells⟩ := hx
      have H1 := hide h1
      have H2 := hide h2
      have HC := hide hcells
      have HND := hide hnD
      have hCn : C + 1 ≤ n := by omega
      have hn12 : n ≤ 12 := by omega
      have HDn : Hid ((n : Int) - (C : Int) = (D : Int)) := by show _ = _; omega
      clear h1 h2 hcells hnD
      go_enter Try.func30, Try.ntmps30
      go_wp2_with fail
      refine (l1In_any _ _ _ _).mono ?_
      rw [H1.out]
      rintro e w1 ⟨rfl, rfl⟩
      go_wp2_with fail
      refine (l1In_any _ _ _ _).mono ?_
      rw [H2.out]
      rintro e w1 ⟨rfl, rfl⟩
      go_wp2_with fail
      refine (specSpares_any (some ⟨b, off, none⟩) C cap (ts.take C) _ w (HH.out.take (by omega)) (by omega) (fun s hs => HTS.out s (List.mem_of_mem_take hs))).mono ?_
      rintro e w1 ⟨a', m, c', rfl, hm4, hot, b1⟩
      rw [HDn.out] at hot
      obtain ⟨S, hS⟩ : ∃ S, S = sparesT (ts.take C) (D : Int) := ⟨_, rfl⟩
      have hSm : S.length = m := by rw [hS]; exact hot.1
      have HS := hide hS
      rw [← hS] at HF hot
      have HSM := hide hSm
      have HOT := hide hot
      have HB1 := hide b1
      have HSO : Hid (m = 0 → columnsOk (ts.take C) = false) := by
        intro h0
        cases e : columnsOk (ts.take C)
        · rfl
        · have := sparesT_length e hD1 hD4
          rw [← hS] at this; omega
      have HSY : Hid (0 < m → columnsOk (ts.take C) = true ∧ m = D) := by
        intro h0
        cases e : columnsOk (ts.take C)
        · have := sparesT_no (d := (D : Int)) (.inl e)
          rw [← hS] at this
          rw [this] at hSm
          simp at hSm; omega
        · have := sparesT_length e hD1 hD4
          rw [← hS] at this; exact ⟨rfl, by omega⟩
      clear hS hSm hot b1
      go_wp2_with fail
      go_loopw [7] (fun i wr => ∃ k : Nat, k ≤ m ∧ i = .int .i64 (k : Int) ∧ S.take k = (ts.drop C).take k ∧ Below w.heap.size w wr ∧ OwnTexts w.heap.size w1.heap.size wr a' m S) (fun i _ => m - (intOf i).toNat)
      case atStart => exact ⟨0, Nat.zero_le _, rfl, by simp, HB1.out, HOT.out⟩
      case round =>
        obtain ⟨k, hk, rfl, hall, hbel, hot⟩ := hrel
        have HA := hide hall
        have HBW := hide hbel
        clear hall HB1 HOT
        by_cases hlt : k < m
        · obtain ⟨hcok, hmD⟩ := HSY.out (by omega)
          obtain ⟨b2, off2, rfl, _, _, hc2⟩ := hot.2.2 (by omega)
          have hck2 : wr.cell? ⟨b2, off2 + k, none⟩ = some (.string (S.getD k ByteArray.empty)) := (hc2 k hlt).1
          have hck : wr.cell? ⟨b, off + (C + k), none⟩ = some (.string (ts.getD (C + k) ByteArray.empty)) := (hbel.cell (p := ⟨b, off + (C + k), none⟩) (by show b < _; omega)).trans (HC.out (C + k) (by have := HND.out; omega))
          have hCk : C + k < n := by have := HND.out; omega
          have hdr : ts.getD (C + k) ByteArray.empty = (ts.drop C).getD k ByteArray.empty := by
            rw [List.getD_eq_getElem?_getD, List.getD_eq_getElem?_getD, List.getElem?_drop]
          have HOT := hide hot
          have hld : (ts.drop C).length = m := by rw [List.length_drop, HL.out]; have := HND.out; omega
          have HST : Hid (S.getD k ByteArray.empty = ts.getD (C + k) ByteArray.empty → S.take (k + 1) = (ts.drop C).take (k + 1)) := fun e => takeT_step HSM.out hld hlt HA.out (e.trans hdr)
          have HNO : Hid (S.getD k ByteArray.empty ≠ ts.getD (C + k) ByteArray.empty → fitsB ts (C : Int) = false) := fun e => by
            rw [HF.out, takeT_fall (k := k) (by rw [← hdr]; exact e)]; simp
          clear hot hbel hc2 hdr hcok HA hmD
          generalize S.getD k ByteArray.empty = x at *
          generalize ts.getD (C + k) ByteArray.empty = y at *
          by_cases hxy : x = y
          · subst hxy
            have e0 := text_same x
            have HST2 := hide (HST.out rfl)
            clear HST
            go_wp2_with fail
            go_quiet (fail)
            go_wp2_with fail
            exact ⟨⟨k + 1, by omega, by go_num, HST2.out, below_drewN HBW.out _, HOT.out⟩, by simp [intOf]; omega⟩
          · have e0 := text_other hxy
            have HN := hide (HNO.out hxy)
            go_wp2_with fail
            go_quiet (fail)
            go_wp2_with fail
            go_ret
            exact ⟨ret_bool HN.out.symm, below_drewN HBW.out _⟩
        · obtain rfl : k = m := by omega
          by_cases hm0 : k = 0
          · have HN : Hid (fitsB ts (C : Int) = false) := by show _ = _; rw [HF.out, HSO.out hm0]; rfl
            clear hot hbel
            subst hm0
            go_wp2_with fail
            go_ret
            exact ⟨ret_bool HN.out.symm, HBW.out⟩
          · obtain ⟨hcok, hmD⟩ := HSY.out (by omega)
            have HY : Hid (fitsB ts (C : Int) = true) := by
              show _ = _
              rw [HF.out, hcok, takeT_whole (n := k) HSM.out (by rw [List.length_drop, HL.out]; have := HND.out; omega) (Nat.le_refl _) HA.out]; rfl
            have hk0 : 0 < k := by omega
            clear hot hbel hcok hmD
            go_wp2_with fail
            go_ret
            exact ⟨ret_bool HY.out.symm, HBW.out⟩
end Go.Proofs.Ytbgjagmnpfcfaak
