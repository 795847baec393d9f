/- The walks of chapter 6's program: are there columns and spares, are two slices of texts the same, Fits. -/
import Derived.Test.YtbgjagmnpfcfaakSpareImplB
import Derived.Test.YtbgjagmnpfcfaakSpareSpec4
namespace Go.Proofs.Ytbgjagmnpfcfaak
open Go.RowKit
set_option linter.unusedVariables false
set_option linter.unusedSimpArgs false
set_option maxRecDepth 20000

def spareB (n : Nat) (c : Int) : Bool := inB c 1 8 && inB (n : Int) (c + 1) (c + 4)
set_option maxHeartbeats 400000 in
theorem hasSpares_any (a : Option Addr) (n cap : Nat) (c : Int) (w : World) (hn : n ≤ 1048576) (hc9 : (Lit.int .i64 c).wf = true) :
    Calls Try.prog 54 #[.slice a n cap, .int .i64 c] w fun e w' => e = .returned (.bool (spareB n c)) ∧ w = w' := by
  have hc8 : -9223372036854775808 ≤ c ∧ c ≤ 9223372036854775807 := by
    simp [Lit.wf] at hc9
    exact hc9
  clear hc9
  by_cases h1 : c < 1
  · have HE : Hid (spareB n c = false) := by show _ = _; simp [spareB, inB]; omega
    go_enter Try.func54, Try.ntmps54
    go_wp2_with fail
    go_ret
    exact ⟨ret_bool HE.out.symm, rfl⟩
  · by_cases h8 : 8 < c
    · have HE : Hid (spareB n c = false) := by show _ = _; simp [spareB, inB]; omega
      go_enter Try.func54, Try.ntmps54
      go_wp2_with fail
      go_ret
      exact ⟨ret_bool HE.out.symm, rfl⟩
    · obtain ⟨C, rfl, hC1, hC8⟩ : ∃ C : Nat, c = (C : Int) ∧ 1 ≤ C ∧ C ≤ 8 := ⟨c.toNat, by omega, by omega, by omega⟩
      clear h1 h8 hc8
      by_cases h2 : n < C + 1
      · have HE : Hid (spareB n (C : Int) = false) := by show _ = _; simp [spareB, inB]; omega
        go_enter Try.func54, Try.ntmps54
        go_wp2_with fail
        go_ret
        exact ⟨ret_bool HE.out.symm, rfl⟩
      · by_cases h3 : n ≤ C + 4
        · have HE : Hid (spareB n (C : Int) = true) := by show _ = _; simp [spareB, inB]; omega
          go_enter Try.func54, Try.ntmps54
          go_wp2_with fail
          go_ret
          exact ⟨ret_bool (by rw [HE.out]; simp; omega), rfl⟩
        · have HE : Hid (spareB n (C : Int) = false) := by show _ = _; simp [spareB, inB]; omega
          go_enter Try.func54, Try.ntmps54
          go_wp2_with fail
          go_ret
          exact ⟨ret_bool (by rw [HE.out]; simp; omega), rfl⟩

set_option maxHeartbeats 800000 in
theorem equalTexts_any (a : Option Addr) (n cap : Nat) (ts : List ByteArray) (a' : Option Addr) (n' cap' : Nat) (us : List ByteArray) (w : World) {lo hi lo' hi' : Nat} (h : Texts lo hi w a n ts) (h' : Texts lo' hi' w a' n' us) (hn : n ≤ 1048576) (hn' : n' ≤ 1048576) :
    Calls Try.prog 60 #[.slice a n cap, .slice a' n' cap'] w fun e w' => e = .returned (.bool (decide (ts = us))) ∧ Below w.heap.size w w' := by
  have HH := hide h
  have HH' := hide h'
  have HL := hide h.1
  have HL' := hide h'.1
  have hhi := h.2.1
  have hhi' := h'.2.1
  clear h h'
  by_cases hnn : n = n'
  · subst hnn
    go_enter Try.func60, Try.ntmps60
    go_wp2_with fail
    go_loopw [13, 5] (fun i _ wr => ∃ k : Nat, k ≤ n ∧ i = .int .i64 (k : Int) ∧ ts.take k = us.take k ∧ Below w.heap.size w wr) (fun i _ _ => n - (intOf i).toNat)
    case atStart => exact ⟨0, Nat.zero_le _, rfl, by simp, Below.refl _ _⟩
    case round =>
      obtain ⟨k, hk, rfl, hall, hbel⟩ := hrel
      have HA := hide hall
      have HBW := hide hbel
      clear hall
      by_cases hlt : k < n
      · obtain ⟨b, off, rfl, _, _, hc⟩ := (HH.out.later hbel hhi).2.2 (by omega)
        obtain ⟨b2, off2, rfl, _, _, hc2⟩ := (HH'.out.later hbel hhi').2.2 (by omega)
        have hck : wr.cell? ⟨b, off + k, none⟩ = some (.string (ts.getD k ByteArray.empty)) := hc k hlt
        have hck2 : wr.cell? ⟨b2, off2 + k, none⟩ = some (.string (us.getD k ByteArray.empty)) := hc2 k hlt
        have HST : Hid (ts.getD k ByteArray.empty = us.getD k ByteArray.empty → ts.take (k + 1) = us.take (k + 1)) := fun e => takeT_step HL.out HL'.out hlt HA.out e
        have HNO : Hid (ts.getD k ByteArray.empty ≠ us.getD k ByteArray.empty → decide (ts = us) = false) := fun e => takeT_fall e
        clear hbel hc hc2 HA
        generalize ts.getD k ByteArray.empty = x at *
        generalize us.getD k ByteArray.empty = y at *
        by_cases hxy : x = y
        · subst hxy
          have e0 := text_same x
          have HST2 := hide (HST.out rfl)
          clear HST
          go_wp2_with fail
          go_quiet (fail)
          go_wp2_with fail
          exact ⟨⟨k + 1, by omega, by go_num, HST2.out, below_drewN HBW.out _⟩, by simp [intOf]; omega⟩
        · have e0 := text_other hxy
          have HN := hide (HNO.out hxy)
          go_wp2_with fail
          go_quiet (fail)
          go_wp2_with fail
          go_ret
          exact ⟨ret_bool HN.out.symm, below_drewN HBW.out _⟩
      · obtain rfl : k = n := by omega
        have HY : Hid (decide (ts = us) = true) := takeT_whole (n := k) HL.out HL'.out (Nat.le_refl _) HA.out
        clear hbel
        go_wp2_with fail
        go_ret
        exact ⟨ret_bool HY.out.symm, HBW.out⟩
  · have e0 : ((n : Int) != (n' : Int)) = true := by simp; omega
    have HE : Hid (decide (ts = us) = false) := by
      show _ = _
      simp
      intro e
      rw [e] at HL
      exact hnn (HL.out.symm.trans HL'.out)
    go_enter Try.func60, Try.ntmps60
    go_wp2_with fail
    go_ret
    exact ⟨ret_bool HE.out.symm, Below.refl _ _⟩

theorem Texts.drop {lo hi n C b off : Nat} {w : World} {ts : List ByteArray} (h : Texts lo hi w (some ⟨b, off, none⟩) n ts) (hC : C ≤ n) : Texts lo hi w (some ⟨b, off + C, none⟩) (n - C) (ts.drop C) := by
  refine ⟨by rw [List.length_drop, h.1], (h.2.drop C).congr fun i _ => ?_⟩
  unfold cellT
  rw [List.getD_eq_getElem?_getD, List.getD_eq_getElem?_getD, List.getElem?_drop]
set_option maxHeartbeats 800000 in
theorem implFits_any (a : Option Addr) (n cap : Nat) (ts : List ByteArray) (c : Int) (w : World) {lo hi : Nat} (h : Texts lo hi w a n ts) (hn : n ≤ 1048576) (hcap : n ≤ cap) (hc9 : (Lit.int .i64 c).wf = true) (hts : ∀ s ∈ ts, s.size ≤ 1048576) :
    Calls Try.prog 31 #[.slice a n cap, .int .i64 c] w fun e w' => e = .returned (.bool (fitsB ts c)) ∧ Below w.heap.size w w' := by
  have HH := hide h
  have HL := hide h.1
  have HTS := hide hts
  have hhi := h.2.1
  have HC9 := hide hc9
  clear h hts hc9
  have HF0 : Hid (fitsB ts c = (spareB n c && (columnsOk (ts.take c.toNat) && decide (sparesT (ts.take c.toNat) ((ts.length : Int) - c) = ts.drop c.toNat)))) := by
    show _ = _
    unfold fitsB spareB
    rw [HL.out, Bool.and_assoc]
  cases h1 : spareB n c
  · have HE : Hid (fitsB ts c = false) := by show _ = _; rw [HF0.out, h1]; rfl
    go_enter Try.func31, Try.ntmps31
    go_wp2_with fail
    refine (hasSpares_any _ _ _ _ _ hn HC9.out).mono ?_
    rw [h1]
    rintro e w1 ⟨rfl, rfl⟩
    go_wp2_with fail
    go_ret
    exact ⟨ret_bool HE.out.symm, Below.refl _ _⟩
  · obtain ⟨C, D, rfl, hC1, hC8, hnD, hD1, hD4⟩ : ∃ C D : Nat, c = (C : Int) ∧ 1 ≤ C ∧ C ≤ 8 ∧ n = C + D ∧ 1 ≤ D ∧ D ≤ 4 := by
      have h1' := h1
      simp [spareB, inB] at h1'
      exact ⟨c.toNat, n - c.toNat, by omega, by omega, by omega, by omega, by omega, by omega⟩
    have HF : Hid (fitsB ts (C : Int) = decide (ts.drop C = sparesT (ts.take C) (D : Int))) := by
      show _ = _
      rw [HF0.out, h1, HL.out, show (n : Int) - (C : Int) = (D : Int) by omega]
      simp only [Int.toNat_natCast, Bool.true_and]
      rw [Bool.eq_iff_iff]
      simp only [Bool.and_eq_true, decide_eq_true_eq]
      constructor
      · rintro ⟨_, e⟩; exact e.symm
      · intro e
        refine ⟨?_, e.symm⟩
        cases hok : columnsOk (ts.take C)
        · exfalso
          rw [sparesT_no (d := (D : Int)) (.inl hok)] at e
          have h3 : (ts.drop C).length = D := by rw [List.length_drop, HL.out]; omega
          rw [e] at h3
          simp at h3
          omega
        · rfl
    have hx := HH.out.2.2 (by omega)
    obtain ⟨b, off, rfl, _, hb, _⟩ := hx
    have H1 := hide h1
    subst hnD
    clear h1 HF0
    go_enter Try.func31, Try.ntmps31
    go_wp2_with fail
    refine (hasSpares_any _ _ _ _ _ hn HC9.out).mono ?_
    rw [H1.out]
    rintro e w1 ⟨rfl, rfl⟩
    go_wp2_with fail
    refine (implSpares_any (some ⟨b, off, none⟩) C C (ts.take C) (D : Int) w (HH.out.take (by omega)) (by omega) (fun s hs => HTS.out s (List.mem_of_mem_take hs))).mono ?_
    rintro e w1 ⟨a', m, c', rfl, hm4, hot, b1⟩
    have HOT := hide hot
    have HB1 := hide b1
    clear hot b1
    go_wp2_with fail
    refine (equalTexts_any _ D _ (ts.drop C) a' m c' (sparesT (ts.take C) (D : Int)) w1 (by have := (HH.out.later HB1.out hhi).drop (C := C) (by omega); rw [Nat.add_sub_cancel_left] at this; exact this) HOT.out.texts (by omega) (by omega)).mono ?_
    rintro e w2 ⟨rfl, b2⟩
    have HB2 := hide (below_here HB1.out b2)
    clear b2
    go_wp2_with fail
    go_ret
    exact ⟨ret_bool HF.out.symm, HB2.out⟩
end Go.Proofs.Ytbgjagmnpfcfaak
