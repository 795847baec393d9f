/- The program's Free and Worn. -/
import Derived.Test.YtocinobbocjikaaGreatDoorRWearImplD
import Derived.Test.YtocinobbocjikaaGreatDoorRChipOkS
namespace Go.Proofs.YtocinobbocjikaaGreatDoor
open Go.RowKit
set_option linter.unusedVariables false
set_option maxRecDepth 20000

theorem leastK_ge {z : Int} {qs : List Sq} (h : chipOk z qs = true) : ∀ k, k ≤ qs.length → -1 ≤ leastK qs k
  | 0, _ => by simp [leastK]
  | k + 1, hk => by
    have h1 := leastK_ge h k (by omega)
    have h2 := sqOk_parts (chipOk_at h (show k < qs.length by omega))
    unfold leastK
    split
    · exact h1
    · split
      · have := h2.2.1; omega
      · exact h1

set_option maxHeartbeats 1600000 in
theorem implWorn_any (z : Int) (a : Option Addr) (n cap : Nat) (qs : List Sq) (w : World) {lo hi : Nat} (h : Squares lo hi w a n qs) (hhi : hi ≤ w.heap.size) (hn : n ≤ 1048576) (hf : ∀ x ∈ qs, sqFits x) :
    Calls Tryz.prog 75 #[.agg #[.int .i64 z, .slice a n cap]] w fun e w' => e = .returned (.tuple #[.int .i64 (worn z qs).1, .int .i64 (worn z qs).2]) ∧ Below w.heap.size w w' := by
  obtain ⟨wA, hwA⟩ : ∃ wA, wA = w.alloc (.cells #[.int .i64 z, .slice a n cap] 26) := ⟨_, rfl⟩
  have hzA : wA.heap.size = w.heap.size + 1 := by rw [hwA]; simp
  have HBA : Hid (Below w.heap.size w wA) := by rw [hwA]; exact (Below.refl _ _).alloc (Nat.le_refl _) _
  have H1 : Hid (wA.heap[w.heap.size]? = some (.cells #[.int .i64 z, .slice a n cap] 26)) := by rw [hwA]; exact heap_new _ _
  have HSQ := hide (h.later HBA.out hhi)
  have HL := hide h.1
  have HF := hide hf
  clear h hf
  obtain ⟨a0, a1⟩ := two_cells H1.out
  go_enter Tryz.func75, Tryz.ntmps75
  go_wp2_with fail
  rw [← hwA]
  clear hwA
  refine (implChipOk_any z a n cap qs wA HSQ.out (by omega) hn HF.out).mono ?_
  rintro e w1 ⟨rfl, b1⟩
  have K1 := hide (block_on H1.out b1)
  have HS1 := hide (HSQ.out.later b1 (by omega))
  have HB1 := hide (below_here HBA.out b1)
  have hs1 := b1.size
  clear b1 H1 HSQ HBA a0 a1
  obtain ⟨a0, a1⟩ := two_cells K1.out
  cases hok : chipOk z qs with
  | false =>
    have HE : Hid (worn z qs = (-1, -1)) := by show _ = _; unfold worn; rw [hok]; rfl
    go_wp2_with fail
    go_ret2
    exact ⟨by rw [HE.out]; rfl, HB1.out⟩
  | true =>
    have HE : Hid (worn z qs = (leastK qs qs.length, mostK qs qs.length)) := by show _ = _; unfold worn; rw [hok]; rfl
    have hn12 : n ≤ 12 := by have := (chipOk_parts hok).2.2.2.1; rw [HL.out] at this; exact this
    have HGE := hide (leastK_ge hok)
    clear hok
    go_wp2_with fail
    go_loopw [4, 5, 14] (fun l m i wr => ∃ k : Nat, k ≤ n ∧ i = .int .i64 (k : Int) ∧ l = .int .i64 (leastK qs k) ∧ m = .int .i64 (mostK qs k) ∧ Below w1.heap.size w1 wr) (fun _ _ i _ => n - (intOf i).toNat)
    case atStart => exact ⟨0, Nat.zero_le _, rfl, rfl, rfl, Below.refl _ _⟩
    case round =>
      obtain ⟨k, hk, rfl, rfl, rfl, hbel⟩ := hrel
      have HBB := hide hbel
      by_cases hlt : k < n
      · have hql : k < qs.length := by rw [HL.out]; exact hlt
        obtain ⟨_, A, C, hx, ht⟩ := HS1.out
        obtain ⟨b, off, rfl, _, hb, hc⟩ := hx.2 (by omega)
        obtain ⟨c0, c1, c2⟩ := sq_cells hc hbel (show b < w1.heap.size by omega) hlt
        have hge := HGE.out k (by omega)
        have HLS : Hid (leastK qs (k + 1) = if (sqAt qs k).2.2 then leastK qs k else if leastK qs k < 0 ∨ (sqAt qs k).2.1 < leastK qs k then (sqAt qs k).2.1 else leastK qs k) := rfl
        have HMS : Hid (mostK qs (k + 1) = if (sqAt qs k).2.2 then mostK qs k else if (sqAt qs k).2.1 < mostK qs k then mostK qs k else (sqAt qs k).2.1) := rfl
        clear hc hx ht hbel
        generalize leastK qs k = l at *
        generalize mostK qs k = m at *
        generalize sqAt qs k = y at *
        obtain ⟨ts, zw, bd⟩ := y
        dsimp only at c0 c1 c2 HLS HMS
        have HBV := hide ((Below.refl wr.heap.size wr).alloc (Nat.le_refl _) (.cells #[.slice (A k) ts.length (C k), .int .i64 zw, .bool bd] 90))
        have HBF := hide (below_here HBB.out HBV.out)
        cases bd with
        | true =>
          have HL2 : Hid (leastK qs (k + 1) = l) := HLS.out
          have HM2 : Hid (mostK qs (k + 1) = m) := HMS.out
          go_wp2_with fail
          exact ⟨⟨k + 1, by omega, by go_num, by rw [HL2.out], by rw [HM2.out], HBF.out⟩, by simp [intOf]; omega⟩
        | false =>
          have HM2 : Hid (mostK qs (k + 1) = if zw < m then m else zw) := HMS.out
          have HMX : Hid ((if m < zw then zw else m) = mostK qs (k + 1)) := by show _ = _; rw [HM2.out]; split <;> split <;> omega
          by_cases hl : l = -1
          · subst hl
            have HL2 : Hid (leastK qs (k + 1) = zw) := by show _ = _; rw [HLS.out]; simp only [Bool.false_eq_true, if_false]; rw [if_pos (by omega)]
            go_wp2_with fail
            exact ⟨⟨k + 1, by omega, by go_num, by rw [HL2.out], by rw [← HMX.out], HBF.out⟩, by simp [intOf]; omega⟩
          · have hl0 : ¬ l < 0 := by omega
            by_cases hz : zw < l
            · have HL2 : Hid (leastK qs (k + 1) = zw) := by show _ = _; rw [HLS.out]; simp [hz]
              clear hge hl0
              go_wp2_with fail
              exact ⟨⟨k + 1, by omega, by go_num, by rw [HL2.out], by rw [← HMX.out], HBF.out⟩, by simp [intOf]; omega⟩
            · have HL2 : Hid (leastK qs (k + 1) = l) := by show _ = _; rw [HLS.out]; simp [hl0, hz]
              have g2 : decide (zw < l) = false := by simpa using hz
              clear hge hl0
              go_wp2_with fail
              exact ⟨⟨k + 1, by omega, by go_num, by rw [HL2.out], by rw [← HMX.out], HBF.out⟩, by simp [intOf]; omega⟩
      · obtain rfl : k = n := by omega
        have HE2 : Hid (worn z qs = (leastK qs k, mostK qs k)) := by show _ = _; rw [HE.out, HL.out]
        generalize leastK qs k = l at *
        generalize mostK qs k = m at *
        go_wp2_with fail
        go_ret2
        exact ⟨by rw [HE2.out]; rfl, below_here HB1.out HBB.out⟩
end Go.Proofs.YtocinobbocjikaaGreatDoor
