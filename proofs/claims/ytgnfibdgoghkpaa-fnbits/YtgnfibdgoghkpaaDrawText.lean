/- The walks that draw a text and a list of bits: what is drawn is some text, some list, within its bounds. -/
import Derived.Test.YtgnfibdgoghkpaaDrawBase
import Derived.Maps.AppendAt
namespace Go.Proofs.Ytgnfibdgoghkpaa
open Go.RowKit
set_option linter.unusedVariables false

theorem Try.infoU8d : (Try.prog.info? 5).map (fun i => (i.zero, i.size, i.bytes)) = some (some (.int .u8 0), 1, 1) := by kernel_rfl
theorem Try.infoI64d : (Try.prog.info? 2).map (fun i => (i.zero, i.size, i.bytes)) = some (some (.int .i64 0), 1, 8) := by kernel_rfl
def byteV (b : UInt8) : Value := .int .u8 (b.toNat : Int)
theorem byte_of (x : Int) (h0 : 0 ≤ x) (h1 : x ≤ 255) : ∃ u : UInt8, x = (u.toNat : Int) := by
  refine ⟨UInt8.ofNat x.toNat, ?_⟩
  rw [UInt8.toNat_ofNat']
  omega
theorem byteV_one (b : UInt8) : ∀ u ∈ [byteV b], u.oneCell' = true := by intro u hu; simp at hu; subst hu; rfl

theorem size_mk (l : List UInt8) : (⟨l.toArray⟩ : ByteArray).size = l.length := rfl

set_option maxHeartbeats 1600000 in
theorem drawText_any (p : Nat) (m : Int) (w : World) (hc : Cur w p) (h0 : 0 ≤ m) (h1 : m ≤ 65536) :
    Calls Try.prog 29 #[.pointer (some ⟨p, 0, none⟩), .int .i64 m] w fun e w' => ∃ s : ByteArray, e = .returned (.string s) ∧ (s.size : Int) ≤ m ∧ Cur w' p ∧ Aside p (p + 1) w w' := by
  obtain ⟨i0, hi0, hz0, hz1, hz2⟩ := info_parts Try.infoU8d
  have hpl := hc.lt
  have HO := hide (own_made0 w 5)
  go_enter Try.func29, Try.ntmps29
  go_wp2_with fail
  refine (l1Below_any p _ _ (hc.alloc _) (by omega)).mono ?_
  rintro e w1 ⟨x, rfl, x0, x1, c1, s1⟩
  have A1 := ((Aside.refl p (p + 1) w).alloc (.cells #[] 5)).trans s1
  have HO1 := hide (own_aside HO.out s1 (by omega))
  have HA1 := hide A1
  clear HO A1 s1
  go_wp2_with fail
  go_loopw [5, 6] (fun v i wr => ∃ (l : List UInt8) (k : Int), i = .int .i64 k ∧ 0 ≤ k ∧ k + l.length ≤ m ∧ wr.ownsRow w.heap.size 5 1 v l.length (l.map byteV) ∧ Cur wr p ∧ Aside p (p + 1) w wr) (fun _ i _ => (intOf i).toNat)
  case atStart => exact ⟨[], x, rfl, x0, by simp; omega, HO1.out, c1, HA1.out⟩
  case round =>
    obtain ⟨l, k, rfl, k0, k1, hown, hcr, hA⟩ := hrel
    clear HO1 HA1
    by_cases hlt : 0 < k
    · have HOWN := hide hown
      have HA := hide hA
      clear hown hA
      go_wp2_with fail
      refine (l1Below_any p 4 wr hcr (by omega)).mono ?_
      rintro e w2 ⟨y, rfl, y0, y1, c2, s2⟩
      obtain ⟨u, hu⟩ := byte_of (97 + y) (by omega) (by omega)
      have A2 := HA.out.trans s2
      have s2' := A2.size
      have HO2 := hide ((own_aside HOWN.out s2 (by omega)).alloc (.cells #[.int .u8 (u.toNat : Int)] 5))
      have HA2 := hide (A2.alloc (.cells #[.int .u8 (u.toNat : Int)] 5))
      have HC2 := hide (c2.alloc (.cells #[.int .u8 (u.toNat : Int)] 5))
      have hl31 : l.length ≤ 65536 := by omega
      clear A2 s2 c2 HOWN HA hcr
      go_wp2_with (at_builtin; (refine wpList_append_own _ rfl (.tmp 16) (.tmp 21) 22 rfl w.heap.size 5 i0 (.int .u8 0) 1 1 Try.underlying22 hi0 hz0 hz1 hz2 rfl (by decide) _ _ _ rfl HO2.out ⟨w2.heap.size, 0, none⟩ 1 1 [.int .u8 (u.toNat : Int)] rfl rfl (cell_one_new _ _ _) (byteV_one u) (by unfold maxLen; omega) (by omega) (by simp; omega) ?_); intro v' w3 hown hgrow _; have HO3 := hide hown; have HA3 := hide (HA2.out.grown hgrow (fun k hk => (HO2.out.lt k hk).1)); have HC3 := hide (HC2.out.grown hgrow (fun k hk => Nat.lt_of_lt_of_le hpl (HO2.out.lt k hk).1)); clear hown hgrow)
      go_roundw
      case rel => exact ⟨l ++ [u], k - 1, by go_num, by omega, by simp; omega, by rw [List.length_append, List.map_append]; exact HO3.out, HC3.out, HA3.out⟩
      case measure => simp [intOf]; omega
    · obtain ⟨a', cap', rfl, hcap', hlen, hsome, how⟩ := owned_of_own hown
      have HHOW := hide how
      have HLEN := hide hlen
      have HA := hide hA
      have hl31 : l.length ≤ 65536 := by omega
      clear hown how hA hlen
      go_wp2_with fail
      refine (l1Once_any p 5 wr hcr (by omega)).mono ?_
      rintro e w2 ⟨b, rfl, c2, s2⟩
      have HOW2 := hide (HHOW.out.aside s2 (.inr (by omega)))
      have HA2 := hide (HA.out.trans s2)
      clear HHOW HA s2
      cases b
      · have hB : Bytes w.heap.size wr.heap.size w2 a' l.length l := ⟨rfl, (HOW2.out.congr (fun i hi => by rw [List.getD_eq_getElem?_getD]; simp [hi, byteV, cellB, List.getD_eq_getElem?_getD])).reads⟩
        have hst := string_of (P := Try.prog) hB 22 9 5 cap' Try.underlying22 Try.underlying5 Try.underlying9
        clear hB
        go_wp2
        go_ret
        exact ⟨_, rfl, by rw [size_mk]; omega, c2, HA2.out⟩
      · by_cases hl0 : l.length = 0
        · obtain rfl : l = [] := List.eq_nil_of_length_eq_zero hl0
          have hB : Bytes w.heap.size wr.heap.size w2 a' 0 [] := ⟨rfl, HOW2.out.1, fun h => absurd h (Nat.lt_irrefl _)⟩
          have hst := string_of (P := Try.prog) hB 22 9 5 cap' Try.underlying22 Try.underlying5 Try.underlying9
          clear hB
          go_wp2
          go_ret
          exact ⟨_, rfl, by rw [size_mk]; simpa using h0, c2, HA2.out⟩
        · have hz : (0 : Int) < (l.length : Int) := by omega
          obtain ⟨g, rfl⟩ := hsome (by omega)
          go_wp2_with fail
          refine (l1Below_any p _ w2 c2 (by omega)).mono ?_
          rintro e w3 ⟨y, rfl, y0, y1, c3, s3⟩
          obtain ⟨q, rfl⟩ := Int.eq_ofNat_of_zero_le y0
          have hq : q < l.length := by omega
          have HOW3 := hide (HOW2.out.aside s3 (.inr (by omega)))
          have HA3 := hide (HA2.out.trans s3)
          clear HOW2 HA2 s3
          go_wp2_with fail
          refine (l1Byte_any p w3 c3).mono ?_
          rintro e w4 ⟨z, rfl, z0, z1, c4, s4⟩
          have how4 := HOW3.out.aside s4 (.inr (by omega))
          have A4 := HA3.out.trans s4
          obtain ⟨u, rfl⟩ := byte_of z z0 z1
          obtain ⟨hco, hfo, hg1, hg2⟩ := how4.at0 (i := q) hq
          have hset := how4.set0 (i := q) hq (.int .u8 (u.toNat : Int))
          have hB : Bytes w.heap.size wr.heap.size (w4.setCell ⟨g, q, none⟩ (.int .u8 (u.toNat : Int))) (some ⟨g, 0, none⟩) l.length (l.set q u) := ⟨by simp, (hset.congr (fun i hi => by
            by_cases e : i = q
            · subst e; rw [if_pos rfl]; simp [cellB, List.getD_eq_getElem?_getD, hi]
            · rw [if_neg e, cellB, List.getD_eq_getElem?_getD, List.getD_eq_getElem?_getD, List.getElem?_set_ne (fun h => e h.symm)]; simp [hi, byteV])).reads⟩
          have hst := string_of (P := Try.prog) hB 22 9 5 cap' Try.underlying22 Try.underlying5 Try.underlying9
          have hcz : w4.cell? ⟨g, q, none⟩ = some (.int .u8 ((l.getD q 0).toNat : Int)) := by rw [hco]; simp [List.getD_eq_getElem?_getD, hq, byteV]
          clear hco
          have AA := hide (A4.set_new (q := q) hg1 (.int .u8 (u.toNat : Int)))
          have hcs := hide (c4.set_new (q := q) (g := g) (by omega) (.int .u8 (u.toNat : Int)))
          clear hB hset how4 A4 HOW3 HA3 s4
          go_wp2
          go_ret
          exact ⟨_, rfl, by rw [size_mk, List.length_set]; omega, hcs.out, AA.out⟩

set_option maxHeartbeats 1600000 in
theorem drawBits_any (p : Nat) (m : Int) (w : World) (hc : Cur w p) (h0 : 0 ≤ m) (h1 : m ≤ 65536) :
    Calls Try.prog 33 #[.pointer (some ⟨p, 0, none⟩), .int .i64 m] w fun e w' => ∃ a' n' cap' L, e = .returned (.slice a' n' cap') ∧ n' ≤ cap' ∧ (n' ≤ 4097 ∨ (n' : Int) ≤ m + 1) ∧ OwnInts w.heap.size w'.heap.size w' a' n' L ∧ Cur w' p ∧ Aside p (p + 1) w w' := by
  obtain ⟨i0, hi0, hz0, hz1, hz2⟩ := info_parts Try.infoI64d
  have hpl := hc.lt
  have HO := hide (own_made0 w 2)
  have HC := hide (hc.alloc (.cells #[] 2))
  have HA := hide ((Aside.refl p (p + 1) w).alloc (.cells #[] 2))
  go_enter Try.func33, Try.ntmps33
  go_wp2
  go_loopw [1, 5] (fun i v wr => ∃ (l : List Int) (k : Int), i = .int .i64 k ∧ 0 ≤ k ∧ k + l.length ≤ m ∧ wr.ownsRow w.heap.size 2 1 v l.length (l.map (Value.int .i64)) ∧ Cur wr p ∧ Aside p (p + 1) w wr) (fun i _ _ => (intOf i).toNat)
  case atStart => exact ⟨[], m, rfl, h0, by simp, HO.out, HC.out, HA.out⟩
  case round =>
    obtain ⟨l, k, rfl, k0, k1, hown, hcr, hA⟩ := hrel
    clear HO HA HC
    by_cases hlt : 0 < k
    · have HOWN := hide hown
      have HA := hide hA
      clear hown hA
      go_wp2_with fail
      refine (l1Below_any p 2 wr hcr (by omega)).mono ?_
      rintro e w2 ⟨y, rfl, y0, y1, c2, s2⟩
      have A2 := HA.out.trans s2
      have s2' := A2.size
      have HO2 := hide ((own_aside HOWN.out s2 (by omega)).alloc (.cells #[.int .i64 y] 2))
      have HA2 := hide (A2.alloc (.cells #[.int .i64 y] 2))
      have HC2 := hide (c2.alloc (.cells #[.int .i64 y] 2))
      have hl31 : l.length ≤ 65536 := by omega
      clear A2 s2 c2 HOWN HA hcr
      go_wp2_with (at_builtin; (refine wpList_append_own _ rfl (.tmp 11) (.tmp 14) 25 rfl w.heap.size 2 i0 (.int .i64 0) 1 8 Try.underlying25 hi0 hz0 hz1 hz2 rfl (by decide) _ _ _ rfl HO2.out ⟨w2.heap.size, 0, none⟩ 1 1 [.int .i64 y] rfl rfl (cell_one_new _ _ _) (ints_one [y]) (by unfold maxLen; omega) (by omega) (by simp; omega) ?_); intro v' w3 hown hgrow _; have HO3 := hide hown; have HA3 := hide (HA2.out.grown hgrow (fun k hk => (HO2.out.lt k hk).1)); have HC3 := hide (HC2.out.grown hgrow (fun k hk => Nat.lt_of_lt_of_le hpl (HO2.out.lt k hk).1)); clear hown hgrow)
      go_roundw
      case rel => exact ⟨l ++ [y], k - 1, by go_num, by omega, by simp; omega, by rw [List.length_append, List.map_append]; exact HO3.out, HC3.out, HA3.out⟩
      case measure => simp [intOf]; omega
    · have hl31 : l.length ≤ 65536 := by omega
      have HOWN := hide hown
      have HA := hide hA
      clear hown hA
      go_wp2_with fail
      refine (l1Once_any p 12 wr hcr (by omega)).mono ?_
      rintro e w2 ⟨b, rfl, c2, s2⟩
      have A2 := HA.out.trans s2
      have HO2 := hide (own_aside HOWN.out s2 (by omega))
      have HA2 := hide A2
      have s2' := A2.size
      clear HOWN HA s2 A2
      cases b
      · obtain ⟨a', cap', rfl, hcap', hlen, hsome, how⟩ := owned_of_own HO2.out
        have HOW := hide how
        clear how hlen
        go_wp2_with fail
        go_ret
        exact ⟨_, _, _, l, rfl, hcap', by omega, ⟨rfl, HOW.out.congr (fun i hi => map_cell l i hi)⟩, c2, HA2.out⟩
      · go_wp2_with fail
        refine (l1Below_any p 2 w2 c2 (by omega)).mono ?_
        rintro e w3 ⟨y, rfl, y0, y1, c3, s3⟩
        have A3 := HA2.out.trans s3
        have HO3 := hide (own_aside HO2.out s3 (by omega))
        have HA3 := hide A3
        have s3' := A3.size
        clear HO2 HA2 s3 A3
        rcases (show y = 0 ∨ y = 1 by omega) with rfl | rfl
        · have c4 := c3.alloc (.cells #[.int .i64 (-1), .int .i64 2] 2)
          have A4 := HA3.out.alloc (.cells #[.int .i64 (-1), .int .i64 2] 2)
          have O4 := HO3.out.alloc (.cells #[.int .i64 (-1), .int .i64 2] 2)
          go_wp2_with fail
          refine (l1Below_any p 2 _ c4 (by omega)).mono ?_
          rintro e w5 ⟨z, rfl, z0, z1, c5, s5⟩
          obtain ⟨q, rfl⟩ := Int.eq_ofNat_of_zero_le z0
          have hq : q < 2 := by omega
          obtain ⟨v, hv⟩ : ∃ v : Int, w5.cell? ⟨w3.heap.size, q, none⟩ = some (.int .i64 v) := by
            have hb : w5.heap[w3.heap.size]? = some (.cells #[.int .i64 (-1), .int .i64 2] 2 (0, 0)) :=
              (s5.block w3.heap.size (by show _ < (w3.heap.push _).size; simp) (.inr (by omega))).trans (by show (w3.heap.push _)[w3.heap.size]? = _; simp)
            match q, hq with
            | 0, _ => exact ⟨-1, by simp only [World.cell?, hb]; rfl⟩
            | 1, _ => exact ⟨2, by simp only [World.cell?, hb]; rfl⟩
          have A5 := A4.trans s5
          have s5' := A5.size
          have HO5 := hide ((own_aside O4 s5 (by omega)).alloc (.cells #[.int .i64 v] 2))
          have HA5 := hide (A5.alloc (.cells #[.int .i64 v] 2))
          have HC5 := hide (c5.alloc (.cells #[.int .i64 v] 2))
          clear A5 s5 c5 c4 A4 O4 HO3 HA3
          go_wp2_with (at_builtin; (refine wpList_append_own _ rfl (.tmp 22) (.tmp 28) 25 rfl w.heap.size 2 i0 (.int .i64 0) 1 8 Try.underlying25 hi0 hz0 hz1 hz2 rfl (by decide) _ _ _ rfl HO5.out ⟨w5.heap.size, 0, none⟩ 1 1 [.int .i64 v] rfl rfl (cell_one_new _ _ _) (ints_one [v]) (by unfold maxLen; omega) (by omega) (by simp; omega) ?_); intro v' w6 hown hgrow _; have HA6 := hide (HA5.out.grown hgrow (fun k hk => (HO5.out.lt k hk).1)); have HC6 := hide (HC5.out.grown hgrow (fun k hk => Nat.lt_of_lt_of_le hpl (HO5.out.lt k hk).1)); obtain ⟨a', cap', rfl, hcap', hlen, hsome, how⟩ := owned_of_own hown; have HOW := hide how; clear hown hgrow how hlen hsome)
          go_ret
          exact ⟨_, _, _, l ++ [v], rfl, hcap', by omega, ⟨by simp, HOW.out.congr (fun i hi => by
            rw [show (l.map (Value.int .i64) ++ [.int .i64 v]) = (l ++ [v]).map (Value.int .i64) by simp]
            exact map_cell (l ++ [v]) i (by simpa using hi))⟩, HC6.out, HA6.out⟩
        · go_wp2_with fail
          refine (l1Below_any p 2 w3 c3 (by omega)).mono ?_
          rintro e w5 ⟨z, rfl, z0, z1, c5, s5⟩
          obtain ⟨q, rfl⟩ := Int.eq_ofNat_of_zero_le z0
          have hmk := make_row (P := Try.prog) 25 2 (.int .i64 0) 8 Try.underlying25 Try.infoI64d rfl (4096 + (q : Int)) (4096 + (q : Int)) (4096 + q) (4096 + q) (by omega) (by omega) (by omega) (by omega) (by omega)
          have A5 := (HA3.out.trans s5)
          have s5' := A5.size
          have hrow := World.rowIs_made w5 (.int .i64 0) (4096 + q) 2
          have HOW := hide (show OwnInts w.heap.size (w5.heap.size + 1) (w5.alloc (.cells (madeCells #[.int .i64 0] (4096 + q)) 2)) (some ⟨w5.heap.size, 0, none⟩) (4096 + q) (List.replicate (4096 + q) 0) from
            ⟨by simp, (owned_of_row hrow (by omega) (Nat.lt_succ_self _) (by simp)).congr (fun i hi => by simp [cellI, List.getD_eq_getElem?_getD, hi])⟩)
          have HA5 := hide (A5.alloc (.cells (madeCells #[.int .i64 0] (4096 + q)) 2))
          have HC5 := hide (c5.alloc (.cells (madeCells #[.int .i64 0] (4096 + q)) 2))
          clear hrow A5 s5 c5
          go_wp2_with fail
          go_ret
          exact ⟨_, _, _, _, rfl, Nat.le_refl _, by omega, by simpa using HOW.out, HC5.out, HA5.out⟩
end Go.Proofs.Ytgnfibdgoghkpaa
