/- The walks of chapter 6's program: are texts of one length, ColumnsOk. -/
import Derived.Test.YtbgjagmnpfcfaakSpareSpec
namespace Go.Proofs.Ytbgjagmnpfcfaak
open Go.RowKit
set_option linter.unusedVariables false
set_option maxRecDepth 20000

set_option maxHeartbeats 400000 in
theorem ofOneLength_any (a : Option Addr) (n cap : Nat) (ts : List ByteArray) (w : World) {lo hi : Nat} (h : Texts lo hi w a n ts) (hn : n ≤ 1048576) (hts : ∀ s ∈ ts, s.size ≤ 1048576) :
    Calls Try.prog 55 #[.slice a n cap] w fun e w' => e = .returned (.bool (alikeB ts)) ∧ w = w' := by
  obtain ⟨hl, hsz, hx⟩ := h
  have HL := hide hl
  have HT := hide hts
  clear hl hts
  go_enter Try.func55, Try.ntmps55
  go_wp2_with fail
  go_loop [7, 4] (fun i _ => ∃ k : Nat, k ≤ n ∧ i = .int .i64 k ∧ (∀ j, j < k → (ts.getD j ByteArray.empty).size = (ts.getD 0 ByteArray.empty).size ∧ (ts.getD j ByteArray.empty).size ≤ 300)) (fun i _ => n - (intOf i).toNat)
  case atStart => exact ⟨0, Nat.zero_le _, rfl, fun j hj => absurd hj (by omega)⟩
  case round =>
    obtain ⟨k, hk, rfl, hall⟩ := hrel
    have HA := hide hall
    clear hall
    by_cases hlt : k < n
    · obtain ⟨b, off, rfl, _, hb, hc⟩ := hx (by omega)
      have hck : w.cell? ⟨b, off + k, none⟩ = some (.string (ts.getD k ByteArray.empty)) := hc k hlt
      have hc0 : w.cell? ⟨b, off, none⟩ = some (.string (ts.getD 0 ByteArray.empty)) := hc 0 (by omega)
      have hzk := HT.out _ (getD_mem (show k < ts.length by rw [HL.out]; exact hlt))
      have hz0 := HT.out _ (getD_mem (show 0 < ts.length by rw [HL.out]; omega))
      have HNO : Hid ((ts.getD k ByteArray.empty).size ≠ (ts.getD 0 ByteArray.empty).size ∨ 300 < (ts.getD k ByteArray.empty).size → alikeB ts = false) := fun h => alikeB_no (by rw [HL.out]; exact hlt) h
      have HYES : Hid ((ts.getD k ByteArray.empty).size = (ts.getD 0 ByteArray.empty).size ∧ (ts.getD k ByteArray.empty).size ≤ 300 → ∀ j, j < k + 1 → (ts.getD j ByteArray.empty).size = (ts.getD 0 ByteArray.empty).size ∧ (ts.getD j ByteArray.empty).size ≤ 300) := by
        intro h j hj
        rcases Nat.lt_or_ge j k with h' | h'
        · exact HA.out j h'
        · obtain rfl : j = k := by omega
          exact h
      clear hc hx HA
      generalize ts.getD k ByteArray.empty = z at *
      generalize ts.getD 0 ByteArray.empty = y at *
      by_cases he : z.size = y.size
      · have e0 : ((z.size : Int) != (y.size : Int)) = false := by simp; omega
        by_cases h3 : z.size ≤ 300
        · go_wp2_with fail
          exact ⟨⟨k + 1, by omega, by go_num, HYES.out ⟨he, h3⟩⟩, by simp [intOf]; omega⟩
        · have HN : Hid (alikeB ts = false) := HNO.out (.inr (by omega))
          go_wp2_with fail
          go_ret
          exact ⟨ret_bool HN.out.symm, rfl⟩
      · have e0 : ((z.size : Int) != (y.size : Int)) = true := by simp; omega
        have HN : Hid (alikeB ts = false) := HNO.out (.inl he)
        go_wp2_with fail
        go_ret
        exact ⟨ret_bool HN.out.symm, rfl⟩
    · have HY : Hid (alikeB ts = true) := alikeB_iff.2 (fun j hj => HA.out j (by rw [HL.out] at hj; omega))
      go_wp2_with fail
      go_ret
      exact ⟨ret_bool HY.out.symm, rfl⟩

set_option maxHeartbeats 400000 in
theorem implColumnsOk_any (a : Option Addr) (n cap : Nat) (ts : List ByteArray) (w : World) {lo hi : Nat} (h : Texts lo hi w a n ts) (hn : n ≤ 1048576) (hts : ∀ s ∈ ts, s.size ≤ 1048576) :
    Calls Try.prog 39 #[.slice a n cap] w fun e w' => e = .returned (.bool (columnsOk ts)) ∧ Below w.heap.size w w' := by
  have hl := h.1
  have HC := hide (ofOneLength_any a n cap ts w h hn hts)
  by_cases h1 : 1 ≤ n
  · by_cases h8 : n ≤ 8
    · have HE : Hid (columnsOk ts = alikeB ts) := by show _ = _; simp [columnsOk, hl, h1, h8]
      clear h hts hl
      go_enter Try.func39, Try.ntmps39
      go_wp2_with fail
      refine HC.out.mono ?_
      rintro e w1 ⟨rfl, rfl⟩
      go_wp2_with fail
      go_ret
      exact ⟨ret_bool HE.out.symm, Below.refl _ _⟩
    · have HE : Hid (columnsOk ts = false) := by show _ = _; simp [columnsOk, hl]; omega
      clear h hts hl
      go_enter Try.func39, Try.ntmps39
      go_wp2_with fail
      go_ret
      exact ⟨ret_bool HE.out.symm, Below.refl _ _⟩
  · have HE : Hid (columnsOk ts = false) := by show _ = _; simp [columnsOk, hl]; omega
    clear h hts hl
    go_enter Try.func39, Try.ntmps39
    go_wp2_with fail
    go_ret
    exact ⟨ret_bool HE.out.symm, Below.refl _ _⟩
end Go.Proofs.Ytbgjagmnpfcfaak
