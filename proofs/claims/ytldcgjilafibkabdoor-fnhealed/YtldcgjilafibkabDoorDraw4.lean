/- The walks of the draws of the fourth chapter. -/
import Derived.Test.YtldcgjilafibkabDoorHamSpec3
import Derived.Test.YtldcgjilafibkabDoorDraw2
import Derived.Test.YtldcgjilafibkabDoorCopyBase
import Derived.Deep.RegionWith
namespace Go.Proofs.YtldcgjilafibkabDoor
open Go.RowKit
set_option linter.unusedVariables false
set_option maxRecDepth 20000

theorem five_at : ∀ q, q < 5 → ∃ v : Int, (#[.int .i64 (-1), .int .i64 0, .int .i64 8191, .int .i64 8192, .int .i64 4611686018427387904] : Array Value)[q]? = some (.int .i64 v) := by
  intro q h
  match q, h with
  | 0, _ | 1, _ | 2, _ | 3, _ | 4, _ => exact ⟨_, rfl⟩
set_option maxHeartbeats 800000 in
theorem drawSpreadAll_any (a : Option Addr) (n cap : Nat) (l : List UInt8) (w : World) {lo hi : Nat} (hB : Bytes lo hi w a n l) (hn : n ≤ 4096) :
    Calls Tryd.prog 5 #[.slice a n cap] w fun e w' => ∃ s : ByteArray, e = .returned (.string s) ∧ s.size ≤ 301 ∧ Below w.heap.size w w' := by
  go_enter Tryd.func5, Tryd.ntmps5
  go_wp2_with fail
  refine (l1New_any a n cap l w hB hn).mono ?_
  rintro e w1 ⟨p, rfl, hp, c1, b1⟩
  have HB1 := hide b1
  clear b1
  go_wp2_with fail
  refine (l1Once_any p 20 w1 c1 (by omega)).mono ?_
  rintro e w2 ⟨b, rfl, c2, s2⟩
  have HB2 := hide (HB1.out.trans (s2.below hp HB1.out.size))
  clear s2 HB1 c1
  cases b
  · go_wp2_with fail
    refine (drawText_any p 6 w2 c2 (by omega) (by omega)).mono ?_
    rintro e w3 ⟨s, rfl, hs, c3, s3⟩
    have HB3 := hide (HB2.out.trans (s3.below hp HB2.out.size))
    clear s3 HB2 c2
    go_wp2_with fail
    go_ret
    exact ⟨_, rfl, by omega, HB3.out⟩
  · go_wp2_with fail
    refine (l1Below_any p 2 w2 c2 (by omega)).mono ?_
    rintro e w3 ⟨d, rfl, d0, d1, c3, s3⟩
    obtain ⟨q, rfl⟩ := Int.eq_ofNat_of_zero_le d0
    have hq : q < 2 := by omega
    have HB3 := hide (HB2.out.trans (s3.below hp HB2.out.size))
    have hmk := make_row (P := Tryd.prog) 22 5 (.int .u8 0) 1 Tryd.underlying22 Tryd.infoU8d rfl (300 + (q : Int)) (300 + (q : Int)) (300 + q) (300 + q) (by omega) (by omega) (by omega) (by omega) (by omega) w3
    have hB : Bytes w3.heap.size (w3.heap.size + 1) (w3.alloc (.cells (madeCells #[.int .u8 0] (300 + q)) 5)) (some ⟨w3.heap.size, 0, none⟩) (300 + q) (List.replicate (300 + q) 0) :=
      ⟨by simp, ((owned_of_row (World.rowIs_made w3 (.int .u8 0) (300 + q) 5) (Nat.le_refl _) (Nat.lt_succ_self _) (by simp)).congr (fun i hi => by simp [cellB, List.getD_eq_getElem?_getD, hi])).reads⟩
    have hst := fun cap => string_of (P := Tryd.prog) hB 22 9 5 cap Tryd.underlying22 Tryd.underlying5 Tryd.underlying9
    have HB4 := hide (HB3.out.alloc HB3.out.size (.cells (madeCells #[.int .u8 0] (300 + q)) 5))
    clear s3 HB2 c2 d0 d1 hB HB3
    go_wp2_with fail
    go_ret
    exact ⟨_, rfl, by rw [size_mk]; simp; omega, HB4.out⟩

theorem keeps_cell {w w' : World} {p g q : Nat} {v : Value} (h : w.cell? ⟨g, q, none⟩ = some v) (hs : Aside p (p + 1) w w') (hg : p + 1 ≤ g) : w'.cell? ⟨g, q, none⟩ = some v :=
  (World.cell?_of_block (a := ⟨g, q, none⟩) (hs.block g (World.block_lt_of_cell? _ _ h) (.inr hg))).trans h
theorem keeps_free {w w' : World} {p g q : Nat} {v : Value} {b : Bool} (h : w.cell? ⟨g, q, none⟩ = some v) (hf : w.frozen? ⟨g, q, none⟩ = b) (hs : Aside p (p + 1) w w') (hg : p + 1 ≤ g) : w'.frozen? ⟨g, q, none⟩ = b :=
  (World.frozen?_of_block (a := ⟨g, q, none⟩) (hs.block g (World.block_lt_of_cell? _ _ h) (.inr hg))).trans hf
theorem xor_u8 (a b : Int) : ∃ u : UInt8, bits .xor .u8 a b = (u.toNat : Int) := by
  have h : ∀ N : Nat, ∃ u : UInt8, IntKind.u8.wrap (N : Int) = (u.toNat : Int) := fun N => by
    apply byte_of
    · simp [IntKind.wrap, IntKind.bits, IntKind.signed]; omega
    · simp [IntKind.wrap, IntKind.bits, IntKind.signed]; omega
  exact h _
set_option maxRecDepth 100000 in
set_option maxHeartbeats 1600000 in
theorem drawTurned_any (p : Nat) (s : ByteArray) (w : World) (hc : Cur w p) (hs : s.size ≤ 65536) :
    Calls Tryd.prog 17 #[.pointer (some ⟨p, 0, none⟩), .string s] w fun e w' => ∃ t : ByteArray, e = .returned (.string t) ∧ t.size = s.size ∧ Cur w' p ∧ Aside p (p + 1) w w' := by
  have hpl := hc.lt
  have hcv := run_bytes_of_string (P := Tryd.prog) w 9 22 5 s Tryd.underlying9 Tryd.underlying22 Tryd.underlying5
  obtain ⟨cap, hcap⟩ : ∃ c, c = grownCap w s.size 0 5 := ⟨_, rfl⟩
  rw [← hcap] at hcv
  have HM := bytes_made w s 5 cap ((bytesRow s cap).size + 1)
  obtain ⟨C, hC⟩ : ∃ C, C = Obj.cells (bytesRow s cap) 5 ((bytesRow s cap).size, (bytesRow s cap).size + 1) := ⟨_, rfl⟩
  rw [← hC] at hcv HM
  have HM' : Hid (OwnBytes w.heap.size (w.heap.size + 1) (w.alloc C).drew (some ⟨w.heap.size, 0, none⟩) s.size s.data.toList) := ⟨by simp, HM⟩
  have HA0 : Hid (Aside p (p + 1) w (w.alloc C).drew) := ((Aside.refl p (p + 1) w).alloc C).drewN 1
  have hc0 : Cur (w.alloc C).drew p := (hc.alloc C).drewN 1
  clear HM hC hcap hc
  go_enter Tryd.func17, Tryd.ntmps17
  go_wp2_with fail
  refine (l1Below_any p 3 _ hc0 (by omega)).mono ?_
  rintro e w1 ⟨x, rfl, x0, x1, c1, s1⟩
  have HO1 := hide (HM'.out.2.aside s1 (.inr (by omega)))
  have HA1 := hide (HA0.out.trans s1)
  clear HM' HA0 s1 hcv hc0
  go_wp2_with fail
  go_loopw [6] (fun i wr => ∃ (l : List UInt8) (k : Int), i = .int .i64 k ∧ 0 ≤ k ∧ k ≤ 3 ∧ OwnBytes w.heap.size (w.heap.size + 1) wr (some ⟨w.heap.size, 0, none⟩) s.size l ∧ Cur wr p ∧ Aside p (p + 1) w wr) (fun i _ => (intOf i).toNat)
  case atStart => exact ⟨s.data.toList, x, rfl, x0, by omega, ⟨by simp, HO1.out⟩, c1, HA1.out⟩
  case round =>
    obtain ⟨l, k, rfl, k0, k3, hown, hcr, hA⟩ := hrel
    have HOWN := hide hown
    have HA := hide hA
    clear hown hA HO1 HA1
    by_cases hlt : 0 < k
    · by_cases hn : 0 < s.size
      · have hnz : (0 : Int) < (s.size : Int) := by omega
        go_wp2_with fail
        refine (l1Below_any p (s.size : Int) wr hcr (by omega)).mono ?_
        rintro e w2 ⟨y, rfl, y0, y1, c2, s2⟩
        obtain ⟨q, rfl⟩ := Int.eq_ofNat_of_zero_le y0
        have hq : q < s.size := by omega
        have HO2 := hide (HOWN.out.2.aside s2 (.inr (by omega)))
        have HA2 := hide (HA.out.trans s2)
        obtain ⟨hco, hfo, _, _⟩ := HO2.out.at0 hq
        obtain ⟨z, hz⟩ : ∃ z, z = (l.getD q 0).toNat := ⟨_, rfl⟩
        rw [cellB, ← hz] at hco
        have hz8 : z < 256 := by rw [hz]; exact UInt8.toNat_lt _
        have hl := hide HOWN.out.1
        have i1 : (0 : Int) ≤ (q : Int) := by omega
        have i2 : (q : Int) < (s.size : Int) := by omega
        have HC := hide c2
        have HCO := hide hco
        have HFO := hide hfo
        clear s2 HOWN HA hcr y0 y1 hz c2
        go_wp2_with fail
        have cont : ∀ (W : World), Cur W p → Calls Tryd.prog 14 #[.pointer (some ⟨p, 0, none⟩), .int .i64 8] W fun e w' => ∃ d : Nat, e = .returned (.int .i64 (d : Int)) ∧ d < 8 ∧ Cur w' p ∧ Aside p (p + 1) W w' := by
          intro W h
          refine (l1Below_any p 8 W h (by omega)).mono ?_
          rintro e w' ⟨x, rfl, x0, x1, c, s⟩
          exact ⟨x.toNat, by rw [Int.toNat_of_nonneg x0], by omega, c, s⟩
        have HCONT := hide cont
        clear cont
        go_region_with (go_at_call 14; refine (HCONT.out w2.drew (HC.out.drewN 1)).mono ?_; rintro e w5 ⟨d, rfl, hd8, c5, s5⟩; have hcs := keeps_cell (w := w2.drew) HCO.out s5 (by omega); have hfs := keeps_free (w := w2.drew) HCO.out HFO.out s5 (by omega))
        all_goals
          obtain ⟨u, hu⟩ := xor_u8 (z : Int) (IntKind.u8.wrap (2 ^ min (IntKind.u64.wrap (d : Int)).toNat 8))
          rw [hu]
          have HO5 := hide ((((HO2.out.aside (w := w2.drew) s5 (.inr (by omega))).set0 hq (.int .u8 (u.toNat : Int))).congr (fun i _ => cellB_set l q i u (by rw [hl.out]; exact hq))))
          have HA5 := hide (((HA2.out.drewN 1).trans s5).set_new (g := w.heap.size) (q := q) (Nat.le_refl _) (.int .u8 (u.toNat : Int)))
          have HC5 := hide (c5.set_new (g := w.heap.size) (q := q) hpl (.int .u8 (u.toNat : Int)))
          clear hu s5 c5 hcs hfs HO2 HA2 HC HCO HFO HCONT hco hfo
          go_wp2_with fail
          go_roundw
          case rel => exact ⟨l.set q u, k - 1, by go_num, by omega, by omega, ⟨by rw [List.length_set]; exact hl.out, HO5.out⟩, HC5.out, HA5.out⟩
          case measure => simp [intOf]; omega
      · have hst := string_of (P := Tryd.prog) (lo := w.heap.size) (hi := w.heap.size + 1) (w := wr) (a := some ⟨w.heap.size, 0, none⟩) (n := s.size) (l := l) ⟨HOWN.out.1, HOWN.out.2.reads⟩ 22 9 5 cap Tryd.underlying22 Tryd.underlying5 Tryd.underlying9
        have hz0 : s.size = 0 := by omega
        have hd0 : decide ((0 : Int) < (s.size : Int)) = false := decide_eq_false (by omega)
        have HL := hide HOWN.out.1
        clear hz0
        go_wp2_with fail
        go_ret
        exact ⟨_, rfl, by rw [size_mk, HL.out], hcr, HA.out⟩
    · have hst := string_of (P := Tryd.prog) (lo := w.heap.size) (hi := w.heap.size + 1) (w := wr) (a := some ⟨w.heap.size, 0, none⟩) (n := s.size) (l := l) ⟨HOWN.out.1, HOWN.out.2.reads⟩ 22 9 5 cap Tryd.underlying22 Tryd.underlying5 Tryd.underlying9
      have HL := hide HOWN.out.1
      go_wp2_with fail
      go_ret
      exact ⟨_, rfl, by rw [size_mk, HL.out], hcr, HA.out⟩

set_option maxHeartbeats 800000 in
theorem drawHealedAll_any (a : Option Addr) (n cap : Nat) (l : List UInt8) (w : World) {lo hi : Nat} (hB : Bytes lo hi w a n l) (hn : n ≤ 4096) (hh : hi ≤ w.heap.size) :
    Calls Tryd.prog 7 #[.slice a n cap] w fun e w' => ∃ s : ByteArray, e = .returned (.string s) ∧ s.size ≤ 601 ∧ Below w.heap.size w w' := by
  go_enter Tryd.func7, Tryd.ntmps7
  go_wp2_with fail
  refine (l1New_any a n cap l w hB hn).mono ?_
  rintro e w1 ⟨p, rfl, hp, c1, b1⟩
  have HB1 := hide b1
  have HBY := hide (hB.later b1 hh)
  clear b1 hB
  go_wp2_with fail
  refine (drawSpreadAll_any a n cap l w1 HBY.out hn).mono ?_
  rintro e w2 ⟨s, rfl, hs, b2⟩
  have HB2 := hide (below_here HB1.out b2)
  have c2 := c1.below b2 c1.lt
  clear b2 HB1 HBY c1
  go_wp2_with fail
  refine (specSpreadAll_any s w2 (by omega)).mono ?_
  rintro e w3 ⟨rfl, b3⟩
  have HB3 := hide (below_here HB2.out b3)
  have c3 := c2.below b3 c2.lt
  have hz := spreadAll_size s
  obtain ⟨t, ht⟩ : ∃ t, t = spreadAll s := ⟨_, rfl⟩
  rw [← ht] at hz ⊢
  clear b3 HB2 c2 ht
  go_wp2_with fail
  refine (drawTurned_any p t w3 c3 (by omega)).mono ?_
  rintro e w4 ⟨u, rfl, hu, c4, s4⟩
  have HB4 := hide (HB3.out.trans (s4.below hp HB3.out.size))
  have hu6 : u.size ≤ 600 := by omega
  clear s4 HB3 c3 hu
  go_wp2_with fail
  refine (l1Once_any p 10 w4 c4 (by omega)).mono ?_
  rintro e w5 ⟨b, rfl, c5, s5⟩
  have HB5 := hide (HB4.out.trans (s5.below hp HB4.out.size))
  clear s5 HB4 c4
  cases b
  · go_wp2_with fail
    go_ret
    exact ⟨_, rfl, by omega, HB5.out⟩
  · go_wp2_with fail
    go_ret
    exact ⟨_, rfl, by rw [ByteArray.size_append]; show u.size + 1 ≤ 601; omega, HB5.out⟩
end Go.Proofs.YtldcgjilafibkabDoor
