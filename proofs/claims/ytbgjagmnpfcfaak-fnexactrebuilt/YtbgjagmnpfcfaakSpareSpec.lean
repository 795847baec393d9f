/- The walks of chapter 6's model: are columns alike, ColumnsOk. -/
import Derived.Test.YtbgjagmnpfcfaakTextWalk
namespace Go.Proofs.Ytbgjagmnpfcfaak
open Go.RowKit
set_option linter.unusedVariables false
set_option maxRecDepth 20000

/-- All texts are as long as the first, and no longer than 300 bytes. -/
def alikeB (ts : List ByteArray) : Bool := ts.all fun s => decide (s.size = (ts.getD 0 ByteArray.empty).size) && decide (s.size ≤ 300)
def columnsOk (ts : List ByteArray) : Bool := decide (1 ≤ ts.length) && decide (ts.length ≤ 8) && alikeB ts
theorem getD_mem {ts : List ByteArray} {k : Nat} (h : k < ts.length) : ts.getD k ByteArray.empty ∈ ts := by
  rw [List.getD_eq_getElem?_getD, List.getElem?_eq_getElem h]; exact List.getElem_mem _
theorem alikeB_iff {ts : List ByteArray} : alikeB ts = true ↔ ∀ k, k < ts.length → (ts.getD k ByteArray.empty).size = (ts.getD 0 ByteArray.empty).size ∧ (ts.getD k ByteArray.empty).size ≤ 300 := by
  unfold alikeB
  rw [List.all_eq_true]
  constructor
  · intro h k hk
    have := h _ (getD_mem hk)
    simpa using this
  · intro h s hs
    obtain ⟨k, hk, e⟩ := List.getElem_of_mem hs
    have := h k hk
    rw [List.getD_eq_getElem?_getD, List.getElem?_eq_getElem hk] at this
    simp only [Option.getD_some, e] at this
    simpa using this
theorem alikeB_no {ts : List ByteArray} {k : Nat} (hk : k < ts.length) (h : (ts.getD k ByteArray.empty).size ≠ (ts.getD 0 ByteArray.empty).size ∨ 300 < (ts.getD k ByteArray.empty).size) : alikeB ts = false := by
  cases e : alikeB ts
  · rfl
  · have := alikeB_iff.1 e k hk
    omega

set_option maxHeartbeats 400000 in
theorem l6Alike_any (a : Option Addr) (n cap : Nat) (ts : List ByteArray) (w : World) {lo hi : Nat} (h : Texts lo hi w a n ts) (hn : n ≤ 1048576) (hts : ∀ s ∈ ts, s.size ≤ 1048576) :
    Calls Try.prog 52 #[.slice a n cap] w fun e w' => e = .returned (.bool (alikeB ts)) ∧ Below w.heap.size w w' := by
  obtain ⟨hl, hsz, hx⟩ := h
  have HL := hide hl
  have HT := hide hts
  clear hl hts
  go_enter Try.func52, Try.ntmps52
  go_wp2_with fail
  go_loopw [3] (fun i wr => ∃ k : Nat, k ≤ n ∧ i = .int .i64 k ∧ (∀ j, j < k → (ts.getD j ByteArray.empty).size = (ts.getD 0 ByteArray.empty).size ∧ (ts.getD j ByteArray.empty).size ≤ 300) ∧ Below w.heap.size w wr) (fun i _ => n - (intOf i).toNat)
  case atStart => exact ⟨0, Nat.zero_le _, rfl, fun j hj => absurd hj (by omega), Below.refl _ _⟩
  case round =>
    obtain ⟨k, hk, rfl, hall, hbel⟩ := hrel
    have HA := hide hall
    clear hall
    by_cases hlt : k < n
    · obtain ⟨b, off, rfl, _, hb, hc⟩ := hx (by omega)
      have hck : wr.cell? ⟨b, off + k, none⟩ = some (.string (ts.getD k ByteArray.empty)) := (hbel.cell (p := ⟨b, off + k, none⟩) (by show b < _; omega)).trans (hc k hlt)
      have hc0 : wr.cell? ⟨b, off, none⟩ = some (.string (ts.getD 0 ByteArray.empty)) := (hbel.cell (p := ⟨b, off, none⟩) (by show b < _; omega)).trans (hc 0 (by omega))
      have hzk := HT.out _ (getD_mem (show k < ts.length by rw [HL.out]; exact hlt))
      have hz0 := HT.out _ (getD_mem (show 0 < ts.length by rw [HL.out]; omega))
      have HNO : Hid ((ts.getD k ByteArray.empty).size ≠ (ts.getD 0 ByteArray.empty).size ∨ 300 < (ts.getD k ByteArray.empty).size → alikeB ts = false) := fun h => alikeB_no (by rw [HL.out]; exact hlt) h
      have HYES : Hid ((ts.getD k ByteArray.empty).size = (ts.getD 0 ByteArray.empty).size ∧ (ts.getD k ByteArray.empty).size ≤ 300 → ∀ j, j < k + 1 → (ts.getD j ByteArray.empty).size = (ts.getD 0 ByteArray.empty).size ∧ (ts.getD j ByteArray.empty).size ≤ 300) := by
        intro h j hj
        rcases Nat.lt_or_ge j k with h' | h'
        · exact HA.out j h'
        · obtain rfl : j = k := by omega
          exact h
      clear hc hx HA
      generalize ts.getD k ByteArray.empty = z at *
      generalize ts.getD 0 ByteArray.empty = y at *
      have HBB := hide hbel
      clear hbel
      by_cases he : z.size = y.size
      · have e0 : ((z.size : Int) != (y.size : Int)) = false := by simp; omega
        by_cases h3 : z.size ≤ 300
        · go_wp2_with fail
          go_quiet (fail)
          go_wp2_with fail
          exact ⟨⟨k + 1, by omega, by go_num, HYES.out ⟨he, h3⟩, below_drewN HBB.out _⟩, by simp [intOf]; omega⟩
        · have HN : Hid (alikeB ts = false) := HNO.out (.inr (by omega))
          go_wp2_with fail
          go_quiet (fail)
          go_wp2_with fail
          go_ret
          exact ⟨ret_bool HN.out.symm, below_drewN HBB.out _⟩
      · have e0 : ((z.size : Int) != (y.size : Int)) = true := by simp; omega
        have HN : Hid (alikeB ts = false) := HNO.out (.inl he)
        go_wp2_with fail
        go_quiet (fail)
        go_wp2_with fail
        go_ret
        exact ⟨ret_bool HN.out.symm, below_drewN HBB.out _⟩
    · have HY : Hid (alikeB ts = true) := alikeB_iff.2 (fun j hj => HA.out j (by rw [HL.out] at hj; omega))
      go_wp2_with fail
      go_ret
      exact ⟨ret_bool HY.out.symm, hbel⟩

set_option maxHeartbeats 400000 in
theorem specColumnsOk_any (a : Option Addr) (n cap : Nat) (ts : List ByteArray) (w : World) {lo hi : Nat} (h : Texts lo hi w a n ts) (hn : n ≤ 1048576) (hts : ∀ s ∈ ts, s.size ≤ 1048576) :
    Calls Try.prog 36 #[.slice a n cap] w fun e w' => e = .returned (.bool (columnsOk ts)) ∧ Below w.heap.size w w' := by
  have hl := h.1
  have HC := hide (l6Alike_any a n cap ts w h hn hts)
  by_cases h1 : 1 ≤ n
  · by_cases h8 : n ≤ 8
    · have HE : Hid (columnsOk ts = alikeB ts) := by show _ = _; simp [columnsOk, hl, h1, h8]
      clear h hts hl
      go_enter Try.func36, Try.ntmps36
      go_wp2_with fail
      refine HC.out.mono ?_
      rintro e w1 ⟨rfl, b1⟩
      have HB := hide b1
      clear b1
      go_wp2_with fail
      go_ret
      exact ⟨ret_bool HE.out.symm, HB.out⟩
    · have HE : Hid (columnsOk ts = false) := by show _ = _; simp [columnsOk, hl]; omega
      clear h hts hl
      go_enter Try.func36, Try.ntmps36
      go_wp2_with fail
      go_ret
      exact ⟨ret_bool HE.out.symm, Below.refl _ _⟩
  · have HE : Hid (columnsOk ts = false) := by show _ = _; simp [columnsOk, hl]; omega
    clear h hts hl
    go_enter Try.func36, Try.ntmps36
    go_wp2_with fail
    go_ret
    exact ⟨ret_bool HE.out.symm, Below.refl _ _⟩
end Go.Proofs.Ytbgjagmnpfcfaak
