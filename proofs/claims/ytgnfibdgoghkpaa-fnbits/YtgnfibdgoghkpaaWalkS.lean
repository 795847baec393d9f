/- The walks of Bits, on both sides. -/
import Derived.Test.YtgnfibdgoghkpaaWalkW
import Derived.Lib.OthersKept
namespace Go.Proofs.Ytgnfibdgoghkpaa
open Go.RowKit
set_option linter.unusedVariables false

def bitsOf (s : ByteArray) : List Int := if s.size ≤ 512 then bitsL s.data.toList else []
theorem bitsOf_yes {s : ByteArray} (h : s.size ≤ 512) : bitsOf s = bitsL s.data.toList := by simp [bitsOf, h]
theorem bitsOf_no {s : ByteArray} (h : ¬ s.size ≤ 512) : bitsOf s = [] := by simp [bitsOf, h]
theorem bitsOf_len (s : ByteArray) : (bitsOf s).length ≤ 4096 := by
  unfold bitsOf; split
  · rw [bitsL_length]; simp; omega
  · simp
theorem empty_owns (w' : World) (a : Option Addr) (lo hi : Nat) (h : hi ≤ w'.heap.size) : OwnInts lo hi w' a 0 [] := ⟨rfl, h, fun h => absurd h (Nat.lt_irrefl _)⟩
theorem shr_rem (n p : Nat) (hp : p < 8) : wrap64 (((n : Int) / 2 ^ p).tmod 2) = bitOf n (7 - p) := by
  unfold bitOf
  rw [show 7 - (7 - p) = p by omega]
  have hq : ((n : Int) / 2 ^ p) = ((n / 2 ^ p : Nat) : Int) := by simp
  rw [hq]
  generalize n / 2 ^ p = q
  rw [Int.tmod_eq_emod_of_nonneg (by omega)]
  unfold wrap64
  omega
theorem bits8_next (n p : Nat) (hp : p < 8) : (bits8 n).take (8 - p) = (bits8 n).take (8 - (p + 1)) ++ [bitOf n (7 - p)] := by
  have h := take_snoc (bits8 n) (7 - p) (by simp [bits8]; omega)
  rw [bits8_at n (7 - p) (by omega)] at h
  rw [show 8 - p = 7 - p + 1 by omega, h, show 8 - (p + 1) = 7 - p by omega]

set_option maxHeartbeats 1600000 in
theorem l1Bits_any (s : ByteArray) (w : World) (hs : s.size ≤ 512) :
    Calls Try.prog 35 #[.string s] w fun e w' => ∃ a' n' cap', e = .returned (.slice a' n' cap') ∧ n' ≤ cap' ∧ OwnInts w.heap.size w'.heap.size w' a' n' (bitsL s.data.toList) ∧ Below w.heap.size w w' := by
  obtain ⟨i0, hi0, hz0, hz1, hz2⟩ := info_parts Try.infoI64
  have HO := hide (own_made0 w 2)
  go_enter Try.func35, Try.ntmps35
  go_wp2
  go_loopw [3, 4] (fun v i wr => ∃ j : Nat, j ≤ s.size ∧ i = .int .i64 j ∧ wr.ownsRow w.heap.size 2 1 v (8 * j) ((bitsL (s.data.toList.take j)).map (Value.int .i64)) ∧ Below w.heap.size w wr) (fun _ i _ => s.size - (intOf i).toNat)
  case atStart => exact ⟨0, Nat.zero_le _, rfl, HO.out, (Below.refl _ _).alloc (Nat.le_refl _) _⟩
  case round =>
    obtain ⟨j, hj, rfl, hown, hbel⟩ := hrel
    clear HO
    by_cases hlt : j < s.size
    · have HOWN := hide hown
      have HB := hide hbel
      clear hown hbel
      go_wp2
      go_loopw [3, 5] (fun v i wi => ∃ q : Nat, q ≤ 8 ∧ i = .int .i64 ((q : Int) - 1) ∧ wi.ownsRow w.heap.size 2 1 v (8 * j + (8 - q)) ((bitsL (s.data.toList.take j) ++ (bits8 s[j].toNat).take (8 - q)).map (Value.int .i64)) ∧ Below w.heap.size w wi) (fun _ i _ => (intOf i + 1).toNat)
      case atStart => exact ⟨8, Nat.le_refl _, rfl, by simpa using HOWN.out, HB.out⟩
      case round =>
        obtain ⟨q, hq, rfl, hown, hbel⟩ := hrel
        clear HOWN HB
        by_cases hq0 : q = 0
        · subst hq0
          have HOWN := hide hown
          have HB := hide hbel
          clear hown hbel
          go_wp2
          go_roundw
          case rel => exact ⟨j + 1, by omega, by go_num, by
            have := HOWN.out
            rw [take_snocB s j hlt, bitsL_snoc]
            rw [show 8 * (j + 1) = 8 * j + (8 - 0) by omega]
            simpa [bits8] using this, HB.out⟩
          case measure => simp [intOf]; omega
        · obtain ⟨p, rfl⟩ : ∃ p, q = p + 1 := ⟨q - 1, by omega⟩
          rw [show (((p + 1 : Nat) : Int) - 1) = (p : Int) by omega]
          have hsl := hbel.size
          have HOWN := hide (hown.alloc (.cells #[.int .i64 (bitOf s[j].toNat (7 - p))] 2))
          have HB := hide (hbel.alloc hsl (.cells #[.int .i64 (bitOf s[j].toNat (7 - p))] 2))
          have hv := shr_rem s[j].toNat p (by omega)
          have hlb := bitOf_bd s[j].toNat (7 - p)
          obtain ⟨l0, l1⟩ := hlb
          clear hown hbel
          go_wp2_with (at_builtin; refine wpList_append_own _ rfl (.tmp 17) (.tmp 26) 25 rfl w.heap.size 2 i0 (.int .i64 0) 1 8 Try.underlying25 hi0 hz0 hz1 hz2 rfl (by decide) _ _ _ rfl HOWN.out ⟨wr.heap.size, 0, none⟩ 1 1 [.int .i64 (bitOf s[j].toNat (7 - p))] rfl rfl (cell_one_new _ _ _) (by intro u hu; simp at hu; subst hu; rfl) (by unfold maxLen; omega) (by omega) (by simp; omega) ?_; intro v' w1 hown hgrow _; have hB := hide (HB.out.grown hgrow (by simp; omega) (fun k hk => (HOWN.out.lt k hk).1)); have HW := hide hown; clear hown hgrow)
          go_roundw
          case rel => exact ⟨p, by omega, by go_num, by
            have := HW.out
            rw [bits8_next _ p (by omega), ← List.append_assoc, List.map_append, show 8 * j + (8 - p) = 8 * j + (8 - (p + 1)) + 1 by omega]
            exact this, hB.out⟩
          case measure => simp [intOf]
    · obtain ⟨a', cap', rfl, hcap', hlen, _, how⟩ := owned_of_own hown
      have hjs : j = s.size := by omega
      rw [List.take_of_length_le (by simp; omega)] at hlen how
      have HLEN := hide hlen
      have HOW := hide how
      clear hown hlen how
      go_wp2
      go_ret
      exact ⟨_, _, _, rfl, hcap', ⟨by have := HLEN.out; rw [List.length_map] at this; exact this, HOW.out.congr (fun i hi => map_cell _ i (by have := HLEN.out; rw [List.length_map] at this; omega))⟩, hbel⟩

set_option maxHeartbeats 400000 in
theorem specBits_any (s : ByteArray) (w : World) (hs : s.size ≤ 1048576) :
    Calls Try.prog 13 #[.string s] w fun e w' => ∃ a' n' cap', e = .returned (.slice a' n' cap') ∧ n' ≤ cap' ∧ OwnInts w.heap.size w'.heap.size w' a' n' (bitsOf s) ∧ Below w.heap.size w w' := by
  by_cases h : s.size ≤ 512
  · rw [bitsOf_yes h]
    go_enter Try.func13, Try.ntmps13
    go_wp2_with fail
    refine (l1Bits_any s w h).mono ?_
    rintro e w1 ⟨a', n', c', rfl, hc, ho, hb⟩
    go_wp2_with fail
    go_ret
    exact ⟨_, _, _, rfl, hc, ho, hb⟩
  · rw [bitsOf_no h]
    go_enter Try.func13, Try.ntmps13
    go_wp2
    go_ret
    exact ⟨_, _, _, rfl, Nat.le_refl _, empty_owns _ _ _ _ (Nat.le_refl _), (Below.refl _ _).alloc (Nat.le_refl _) _⟩

theorem iter_new (w : World) (s : ByteArray) {k : Nat} (hk : w.heap.size = k) : (w.alloc (.stringIter s 0)).heap[k]? = some (.stringIter s 0) := by
  subst hk
  show (w.heap.push _)[w.heap.size]? = _
  simp
theorem decode_pos (s : ByteArray) (p : Nat) (h : p < s.size) : 1 ≤ (Utf8.decode s p).2 := by
  by_cases ha : (s[p]'h).toNat < 128
  · rw [decode_ascii s p h ha]; exact Nat.le_refl _
  · exact (decode_high s p h (by omega)).2

theorem bits_cut (s : ByteArray) (f p : Nat) (h1 : f ≤ p) (h2 : p ≤ s.size) : bitsL (s.data.toList.take f) ++ bitsL (s.extract f p).data.toList = bitsL (s.data.toList.take p) := by
  have e : (s.extract f p).data.toList = (s.data.toList.take p).drop f := by
    rw [ByteArray.data_extract]
    simp [List.drop_take]
  rw [e, bitsL, bitsL, bitsL, ← List.flatMap_append]
  congr 1
  conv => rhs; rw [← List.take_append_drop f (s.data.toList.take p)]
  rw [List.take_take, Nat.min_eq_left h1]

set_option maxHeartbeats 1600000 in
theorem implBits_any (s : ByteArray) (w : World) (hs : s.size ≤ 1048576) :
    Calls Try.prog 6 #[.string s] w fun e w' => ∃ a' n' cap', e = .returned (.slice a' n' cap') ∧ n' ≤ cap' ∧ OwnInts w.heap.size w'.heap.size w' a' n' (bitsOf s) ∧ Below w.heap.size w w' := by
  by_cases h : s.size ≤ 512
  · rw [bitsOf_yes h]
    obtain ⟨N, hN⟩ : ∃ N, N = 8 * s.size := ⟨_, rfl⟩
    have hN2 : N ≤ 4096 := by omega
    have hmk := make_row (P := Try.prog) 25 2 (.int .i64 0) 8 Try.underlying25 Try.infoI64 rfl 0 (8 * (s.size : Int)) 0 N rfl (by omega) (by omega) (by omega) (by omega)
    have HN := hide hN
    clear hN
    have r1 := World.rowIs_made w (.int .i64 0) N 2
    have R1 := hide (r1.alloc (.stringIter s 0))
    clear r1
    go_enter Try.func6, Try.ntmps6
    go_wp2
    go_loopw [3, 4] (fun v i wr => ∃ f p M : Nat, f ≤ p ∧ f ≤ s.size ∧ i = .int .i64 f ∧ Hid (M = 8 * f) ∧ v = .slice (some ⟨w.heap.size, 0, none⟩) M N ∧ Head wr w.heap.size N (bitsL (s.data.toList.take f)) ∧ wr.heap[w.heap.size + 1]? = some (.stringIter s p) ∧ Below w.heap.size w wr) (fun _ _ wr => s.size - wr.iterPos (w.heap.size + 1))
    case atStart =>
      refine ⟨0, 0, 0, Nat.le_refl _, Nat.zero_le _, rfl, rfl, rfl, ⟨_, R1.out, fun i hi => by simp [bitsL] at hi⟩, ?_, ((Below.refl _ _).alloc (Nat.le_refl _) _).alloc (by simp) _⟩
      exact iter_new (w.alloc (.cells (madeCells #[.int .i64 0] N) 2)) s (by simp)
    case round =>
      obtain ⟨f, p, M, hfp, hf, rfl, HM, rfl, hh, hit, hbel⟩ := hrel
      clear R1
      have hlen : (bitsL (s.data.toList.take f)).length = M := by rw [bitsL_length, List.length_take, HM.out]; simp; omega
      have hpos := iterPos_of hit
      by_cases hlt : p < s.size
      · have hnx := fun ty => Go.Lib.run_next_any_at (P := Try.prog) wr (w.heap.size + 1) s p ty hit hlt
        obtain ⟨d, hd⟩ : ∃ d, d = (Utf8.decode s p).2 := ⟨_, rfl⟩
        obtain ⟨r, hr⟩ : ∃ r, r = (Utf8.decode s p).1 := ⟨_, rfl⟩
        have hd1 : 1 ≤ d := by rw [hd]; exact decode_pos s p hlt
        rw [← hd, ← hr] at hnx
        have hit2 := Go.Lib.iterAt_heap wr (w.heap.size + 1) s p (p + d) hit
        have hbel2 := Go.Lib.below_iterAt hbel (k := w.heap.size + 1) (by omega) s (p + d)
        have hh2 : Head (wr.iterAt (w.heap.size + 1) s (p + d)) w.heap.size N (bitsL (s.data.toList.take f)) := by
          obtain ⟨ff, q1, q2⟩ := hh
          exact ⟨ff, q1.of_block (Go.Lib.iterAt_other wr (w.heap.size + 1) w.heap.size s (p + d) (by omega)), q2⟩
        obtain ⟨w2, hw2⟩ : ∃ w2, w2 = wr.iterAt (w.heap.size + 1) s (p + d) := ⟨_, rfl⟩
        rw [← hw2] at hnx hit2 hbel2 hh2
        have HP := hide hpos
        have HIT := hide hit2
        have HBE := hide hbel2
        have HHD := hide hh2
        have HLN := hide hlen
        clear hit hbel hh hit2 hbel2 hh2 hlen hpos hd hr hw2
        go_wp2_with fail
        have hsz : (s.extract f p).size = p - f := by simp; omega
        have hcon := withBytes_any w.heap.size M N _ (s.extract f p) w2 HHD.out HLN.out (by rw [hsz, HM.out, HN.out]; omega) (by omega)
        rw [hsz, bits_cut s f p hfp (by omega)] at hcon
        obtain ⟨M', hM'⟩ : ∃ M', M' = M + 8 * (p - f) := ⟨_, rfl⟩
        rw [← hM'] at hcon
        have HM' : Hid (M' = 8 * p) := by have := HM.out; show M' = 8 * p; omega
        clear hM' hsz
        refine hcon.mono ?_
        rintro e w3 ⟨rfl, hh3, ha3⟩
        have hit3 : w3.heap[w.heap.size + 1]? = some (.stringIter s (p + d)) := (ha3.block _ (Array.getElem?_eq_some_iff.1 HIT.out).1 (.inr (Nat.le_refl _))).trans HIT.out
        have HP3 := hide (iterPos_of hit3)
        have HIT3 := hide hit3
        have HH3 := hide hh3
        have HB3 := hide (HBE.out.trans (ha3.below (Nat.le_refl _) HBE.out.size))
        clear hh3 ha3 hit3 hcon hnx
        go_wp2
        go_roundw
        case rel => exact ⟨p, p + d, M', by omega, by omega, by go_num, HM', rfl, HH3.out, HIT3.out, HB3.out⟩
        case measure =>
          have e1 := HP.out
          have e2 := HP3.out
          simp only [e1, e2]
          omega
      · have hnx := fun ty => Go.Lib.run_next_end_at (P := Try.prog) wr (w.heap.size + 1) s p ty hit hlt
        have HHD := hide hh
        have HLN := hide hlen
        have HB := hide hbel
        clear hh hlen hbel hit hpos
        go_wp2_with fail
        have hsz : (s.extract f s.size).size = s.size - f := by simp
        have hcon := withBytes_any w.heap.size M N _ (s.extract f s.size) wr HHD.out HLN.out (by rw [hsz, HM.out, HN.out]; omega) (by omega)
        rw [hsz, bits_cut s f s.size hf (Nat.le_refl _), List.take_of_length_le (by simp)] at hcon
        have hM' : M + 8 * (s.size - f) = N := by rw [HM.out, HN.out]; omega
        rw [hM'] at hcon
        clear hM' hsz
        refine hcon.mono ?_
        rintro e w3 ⟨rfl, hh3, ha3⟩
        have HB3 := hide (HB.out.trans (ha3.below (Nat.le_refl _) HB.out.size))
        have hlt3 := hh3.lt
        have HO := hide (show OwnInts w.heap.size w3.heap.size w3 (some ⟨w.heap.size, 0, none⟩) N (bitsL s.data.toList) from by
          have hl3 : (bitsL s.data.toList).length = N := by rw [bitsL_length, HN.out]; simp
          obtain ⟨ff, q1, q2⟩ := hh3
          exact ⟨hl3, (owned_of_row q1 (Nat.le_refl _) hlt3 (Nat.le_refl _)).congr (fun i hi => q2 i (by omega))⟩)
        clear hh3 ha3 hcon hnx
        go_wp2
        go_ret
        exact ⟨_, _, _, rfl, Nat.le_refl _, HO.out, HB3.out⟩
  · rw [bitsOf_no h]
    go_enter Try.func6, Try.ntmps6
    go_wp2
    go_ret
    exact ⟨_, _, _, rfl, Nat.le_refl _, empty_owns _ _ _ _ (Nat.le_refl _), (Below.refl _ _).alloc (Nat.le_refl _) _⟩
end Go.Proofs.Ytgnfibdgoghkpaa
