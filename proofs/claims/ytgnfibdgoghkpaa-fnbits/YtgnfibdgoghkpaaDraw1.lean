/- The walks of the draws of the first chapter, and of the small functions of the laws' own file. -/
import Derived.Test.YtgnfibdgoghkpaaDrawText
import Derived.Test.YtgnfibdgoghkpaaWalkOk
namespace Go.Proofs.Ytgnfibdgoghkpaa
open Go.RowKit
set_option linter.unusedVariables false

set_option maxHeartbeats 400000 in
theorem big_any (a : Option Addr) (n cap : Nat) (w : World) (hn : n ≤ 9223372036854775807) :
    Calls Try.prog 4 #[.slice a n cap] w fun e w' => e = .returned (.bool (decide (4096 < n))) ∧ w = w' := by
  by_cases h : 4096 < n
  · go_enter Try.func4, Try.ntmps4
    go_wp2
    go_ret
    exact ⟨by simp [h]; omega, rfl⟩
  · go_enter Try.func4, Try.ntmps4
    go_wp2
    go_ret
    exact ⟨by simp [h]; omega, rfl⟩

set_option maxHeartbeats 800000 in
theorem drawBitsText_any (a : Option Addr) (n cap : Nat) (l : List UInt8) (w : World) {lo hi : Nat} (hB : Bytes lo hi w a n l) (hn : n ≤ 4096) :
    Calls Try.prog 5 #[.slice a n cap] w fun e w' => ∃ s : ByteArray, e = .returned (.string s) ∧ s.size ≤ 513 ∧ Below w.heap.size w w' := by
  go_enter Try.func5, Try.ntmps5
  go_wp2_with fail
  refine (l1New_any a n cap l w hB hn).mono ?_
  rintro e w1 ⟨p, rfl, hp, c1, b1⟩
  go_wp2_with fail
  refine (l1Once_any p 20 w1 c1 (by omega)).mono ?_
  rintro e w2 ⟨b, rfl, c2, s2⟩
  have b2 := b1.trans (s2.below hp b1.size)
  cases b
  · go_wp2_with fail
    refine (drawText_any p 5 w2 c2 (by omega) (by omega)).mono ?_
    rintro e w3 ⟨s, rfl, hs, c3, s3⟩
    have b3 := b2.trans (s3.below hp b2.size)
    go_wp2_with fail
    go_ret
    exact ⟨_, rfl, by omega, b3⟩
  · go_wp2_with fail
    refine (l1Below_any p 2 w2 c2 (by omega)).mono ?_
    rintro e w3 ⟨z, rfl, z0, z1, c3, s3⟩
    obtain ⟨q, rfl⟩ := Int.eq_ofNat_of_zero_le z0
    have b3 := b2.trans (s3.below hp b2.size)
    have hmk := make_row (P := Try.prog) 22 5 (.int .u8 0) 1 Try.underlying22 Try.infoU8d rfl (512 + (q : Int)) (512 + (q : Int)) (512 + q) (512 + q) (by omega) (by omega) (by omega) (by omega) (by omega)
    have hrow := World.rowIs_made w3 (.int .u8 0) (512 + q) 5
    have hB : Bytes w3.heap.size (w3.heap.size + 1) (w3.alloc (.cells (madeCells #[.int .u8 0] (512 + q)) 5)) (some ⟨w3.heap.size, 0, none⟩) (512 + q) (List.replicate (512 + q) 0) :=
      ⟨by simp, ((owned_of_row hrow (Nat.le_refl _) (Nat.lt_succ_self _) (by simp)).congr (fun i hi => by simp [cellB, List.getD_eq_getElem?_getD, hi])).reads⟩
    have hst := string_of (P := Try.prog) hB 22 9 5 (512 + q) Try.underlying22 Try.underlying5 Try.underlying9
    have HB3 := hide (b3.alloc b3.size (.cells (madeCells #[.int .u8 0] (512 + q)) 5))
    obtain ⟨S, hS⟩ : ∃ S : ByteArray, S = ⟨(List.replicate (512 + q) 0).toArray⟩ := ⟨_, rfl⟩
    have hSs : S.size ≤ 513 := by rw [hS, size_mk, List.length_replicate]; omega
    rw [← hS] at hst
    clear hB hrow hS b3 s3
    go_wp2_with fail
    go_ret
    exact ⟨_, rfl, hSs, HB3.out⟩

set_option maxHeartbeats 400000 in
theorem drawBitsOk_any (a : Option Addr) (n cap : Nat) (l : List UInt8) (w : World) {lo hi : Nat} (hB : Bytes lo hi w a n l) (hn : n ≤ 4096) :
    Calls Try.prog 31 #[.slice a n cap] w fun e w' => ∃ a' n' cap' L, e = .returned (.slice a' n' cap') ∧ n' ≤ cap' ∧ n' ≤ 4097 ∧ OwnInts w.heap.size w'.heap.size w' a' n' L ∧ Below w.heap.size w w' := by
  go_enter Try.func31, Try.ntmps31
  go_wp2_with fail
  refine (l1New_any a n cap l w hB hn).mono ?_
  rintro e w1 ⟨p, rfl, hp, c1, b1⟩
  go_wp2_with fail
  refine (l1Below_any p 12 w1 c1 (by omega)).mono ?_
  rintro e w2 ⟨x, rfl, x0, x1, c2, s2⟩
  have b2 := b1.trans (s2.below hp b1.size)
  go_wp2_with fail
  refine (drawBits_any p x w2 c2 (by omega) (by omega)).mono ?_
  rintro e w3 ⟨a', n', cap', L, rfl, hcap, hn', o3, c3, s3⟩
  have b3 := b2.trans (s3.below hp b2.size)
  go_wp2_with fail
  go_ret
  exact ⟨_, _, _, L, rfl, hcap, by omega, ⟨o3.1, o3.2.1, fun h => by obtain ⟨b, off, q1, q2, q3⟩ := o3.2.2 h; exact ⟨b, off, q1, by have := b2.size; omega, q3⟩⟩, b3⟩

set_option maxHeartbeats 400000 in
theorem drawBytes_any (a : Option Addr) (n cap : Nat) (l : List UInt8) (w : World) {lo hi : Nat} (hB : Bytes lo hi w a n l) (hn : n ≤ 4096) :
    Calls Try.prog 7 #[.slice a n cap] w fun e w' => ∃ a' n' cap' L, e = .returned (.slice a' n' cap') ∧ n' ≤ cap' ∧ n' ≤ 4097 ∧ OwnInts w.heap.size w'.heap.size w' a' n' L ∧ Below w.heap.size w w' := by
  go_enter Try.func7, Try.ntmps7
  go_wp2_with fail
  refine (drawBitsOk_any a n cap l w hB hn).mono ?_
  rintro e w1 ⟨a', n', cap', L, rfl, h1, h2, h3, h4⟩
  go_wp2_with fail
  go_ret
  exact ⟨_, _, _, L, rfl, h1, h2, h3, h4⟩

theorem OwnInts.low {lo lo' hi : Nat} {w : World} {a : Option Addr} {n : Nat} {xs : List Int} (h : OwnInts lo hi w a n xs) (hl : lo' ≤ lo) : OwnInts lo' hi w a n xs :=
  ⟨h.1, h.2.1, fun hn => by obtain ⟨b, off, q1, q2, q3⟩ := h.2.2 hn; exact ⟨b, off, q1, Nat.le_trans hl q2, q3⟩⟩
theorem OwnInts.high {lo hi hi' : Nat} {w : World} {a : Option Addr} {n : Nat} {xs : List Int} (h : OwnInts lo hi w a n xs) (hl : hi ≤ hi') (hw : hi' ≤ w.heap.size) : OwnInts lo hi' w a n xs :=
  ⟨h.1, hw, fun hn => by obtain ⟨b, off, q1, q2, q3, q4⟩ := h.2.2 hn; exact ⟨b, off, q1, q2, Nat.lt_of_lt_of_le q3 hl, q4⟩⟩

set_option maxHeartbeats 400000 in
theorem drawFlipped_any (a : Option Addr) (n cap : Nat) (l : List UInt8) (w : World) {lo hi : Nat} (hB : Bytes lo hi w a n l) (hn : n ≤ 4096) :
    Calls Try.prog 10 #[.slice a n cap] w fun e w' => ∃ a' n' cap' L x, e = .returned (.tuple #[.slice a' n' cap', .int .i64 x]) ∧ n' ≤ cap' ∧ n' ≤ 4097 ∧ OwnInts w.heap.size w'.heap.size w' a' n' L ∧ Below w.heap.size w w' := by
  go_enter Try.func10, Try.ntmps10
  go_wp2_with fail
  refine (l1New_any a n cap l w hB hn).mono ?_
  rintro e w1 ⟨p, rfl, hp, c1, b1⟩
  go_wp2_with fail
  refine (l1Below_any p 9 w1 c1 (by omega)).mono ?_
  rintro e w2 ⟨x, rfl, x0, x1, c2, s2⟩
  have b2 := b1.trans (s2.below hp b1.size)
  go_wp2_with fail
  refine (drawBits_any p x w2 c2 (by omega) (by omega)).mono ?_
  rintro e w3 ⟨a', n', cap', L, rfl, hcap, hn', o3, c3, s3⟩
  have b3 := b2.trans (s3.below hp b2.size)
  have hn2 : n' ≤ 4097 := by omega
  go_wp2_with fail
  refine (l1From_any p (-1) _ w3 c3 (by omega) (by omega) (by omega) (by omega)).mono ?_
  rintro e w4 ⟨y, rfl, y0, y1, c4, s4⟩
  have b4 := b3.trans (s4.below hp b3.size)
  have hpl := c2.lt
  have o4 := o3.aside s4 (.inr (by omega))
  go_wp2_with fail
  go_ret2
  exact ⟨_, _, _, L, _, rfl, hcap, hn2, (o4.low b2.size).high s4.size (Nat.le_refl _), b4⟩

set_option maxHeartbeats 400000 in
theorem drawApart_any (a : Option Addr) (n cap : Nat) (l : List UInt8) (w : World) {lo hi : Nat} (hB : Bytes lo hi w a n l) (hn : n ≤ 4096) :
    Calls Try.prog 9 #[.slice a n cap] w fun e w' => ∃ a' n' cap' L a2 n2 cap2 L2, e = .returned (.tuple #[.slice a' n' cap', .slice a2 n2 cap2]) ∧ n' ≤ cap' ∧ n' ≤ 4097 ∧ OwnInts w.heap.size w'.heap.size w' a' n' L ∧ n2 ≤ cap2 ∧ n2 ≤ 4097 ∧ OwnInts w.heap.size w'.heap.size w' a2 n2 L2 ∧ Below w.heap.size w w' := by
  go_enter Try.func9, Try.ntmps9
  go_wp2_with fail
  refine (l1New_any a n cap l w hB hn).mono ?_
  rintro e w1 ⟨p, rfl, hp, c1, b1⟩
  go_wp2_with fail
  refine (l1Below_any p 9 w1 c1 (by omega)).mono ?_
  rintro e w2 ⟨x, rfl, x0, x1, c2, s2⟩
  have b2 := b1.trans (s2.below hp b1.size)
  go_wp2_with fail
  refine (drawBits_any p x w2 c2 (by omega) (by omega)).mono ?_
  rintro e w3 ⟨a', n', cap', L, rfl, hcap, hn', o3, c3, s3⟩
  have b3 := b2.trans (s3.below hp b2.size)
  have hn2 : n' ≤ 4097 := by omega
  have hpl := c2.lt
  go_wp2_with fail
  refine (l1Once_any p 8 w3 c3 (by omega)).mono ?_
  rintro e w4 ⟨b, rfl, c4, s4⟩
  have b4 := b3.trans (s4.below hp b3.size)
  have o4 := o3.aside s4 (.inr (by omega))
  have hpl3 := s3.size
  have hpl4 := s4.size
  have hsz2 := b2.size
  cases b
  · go_wp2_with fail
    refine (drawBits_any p x w4 c4 (by omega) (by omega)).mono ?_
    rintro e w5 ⟨a2, n2, cap2, L2, rfl, hcap2, hn3, o5, c5, s5⟩
    have b5 := b4.trans (s5.below hp b4.size)
    have o45 := o4.aside s5 (.inr (by omega))
    have hn4 : n2 ≤ 4097 := by omega
    have hpl5 := s5.size
    go_wp2_with fail
    go_ret2
    exact ⟨_, _, _, L, _, _, _, L2, rfl, hcap, hn2, (o45.low hsz2).high (by omega) (Nat.le_refl _), hcap2, hn4, o5.low b4.size, b5⟩
  · go_wp2_with fail
    refine (drawBits_any p (x + 1) w4 c4 (by omega) (by omega)).mono ?_
    rintro e w5 ⟨a2, n2, cap2, L2, rfl, hcap2, hn3, o5, c5, s5⟩
    have b5 := b4.trans (s5.below hp b4.size)
    have o45 := o4.aside s5 (.inr (by omega))
    have hn4 : n2 ≤ 4097 := by omega
    have hpl5 := s5.size
    go_wp2_with fail
    go_ret2
    exact ⟨_, _, _, L, _, _, _, L2, rfl, hcap, hn2, (o45.low hsz2).high (by omega) (Nat.le_refl _), hcap2, hn4, o5.low b4.size, b5⟩
set_option maxHeartbeats 400000 in
theorem like_any (a : Option Addr) (n cap : Nat) (xs : List Int) (a' : Option Addr) (n' cap' : Nat) (ys : List Int) (w : World) {lo hi lo' hi' : Nat} (h : Ints lo hi w a n xs) (h' : Ints lo' hi' w a' n' ys) (hn : n ≤ 1048576) (hn' : n' ≤ 1048576) :
    Calls Try.prog 12 #[.slice a n cap, .slice a' n' cap'] w fun e w' => e = .returned (.bool (decide (xs = ys))) ∧ Below w.heap.size w w' := by
  obtain ⟨hl, hsz, hx⟩ := h
  obtain ⟨hl', hsz', hx'⟩ := h'
  have HL : Hid (xs.length = n) := hl
  have HL' : Hid (ys.length = n') := hl'
  clear hl hl'
  by_cases he : n = n'
  · subst he
    go_enter Try.func12, Try.ntmps12
    go_wp2
    go_loopw [5] (fun i wr => ∃ k : Nat, k ≤ n ∧ i = .int .i64 k ∧ xs.take k = ys.take k ∧ Below w.heap.size w wr) (fun i _ => n - (intOf i).toNat)
    case atStart => exact ⟨0, Nat.zero_le _, rfl, rfl, Below.refl _ _⟩
    case round =>
      obtain ⟨k, hk, rfl, hall, hbel⟩ := hrel
      have HA : Hid (xs.take k = ys.take k) := hall
      clear hall
      by_cases hlt : k < n
      · obtain ⟨b, off, rfl, _, hb, hc⟩ := hx (by omega)
        obtain ⟨b', off', rfl, _, hb', hc'⟩ := hx' (by omega)
        have hck : wr.cell? ⟨b, off + k, none⟩ = some (.int .i64 (xs.getD k 0)) := (hbel.cell (p := ⟨b, off + k, none⟩) (by show b < _; omega)).trans (hc k hlt)
        have hck' : wr.cell? ⟨b', off' + k, none⟩ = some (.int .i64 (ys.getD k 0)) := (hbel.cell (p := ⟨b', off' + k, none⟩) (by show b' < _; omega)).trans (hc' k hlt)
        clear hc hx hc' hx'
        obtain ⟨z, hz⟩ : ∃ z, z = xs.getD k 0 := ⟨_, rfl⟩
        rw [← hz] at hck
        have HZ : Hid (z = xs.getD k 0) := hz
        clear hz
        obtain ⟨y, hy⟩ : ∃ z, z = ys.getD k 0 := ⟨_, rfl⟩
        rw [← hy] at hck'
        have HY : Hid (y = ys.getD k 0) := hy
        clear hy
        by_cases h0 : z = y
        · subst h0
          go_wp2
          go_quiet (fail)
          go_wp2
          go_roundw
          case rel => exact ⟨k + 1, by omega, by go_num, take_step HL.out HL'.out hlt HA.out (HZ.out.symm.trans HY.out), below_drewN hbel _⟩
          case measure => simp [intOf]; omega
        · have e0 : (z == y) = false := by simpa using h0
          have e1 : (z != y) = true := by simpa using h0
          go_wp2
          go_quiet (fail)
          go_wp2
          go_ret
          exact ⟨ret_bool (take_fall (k := k) (by rw [← HZ.out, ← HY.out]; exact h0)).symm, below_drewN hbel _⟩
      · go_wp2
        go_ret
        exact ⟨ret_bool (take_whole HL.out HL'.out (by omega) HA.out).symm, hbel⟩
  · have e0 : ((n : Int) == (n' : Int)) = false := by simp; omega
    have e1 : ((n : Int) != (n' : Int)) = true := by simp; omega
    go_enter Try.func12, Try.ntmps12
    go_wp2
    go_ret
    exact ⟨ret_bool (by simp; intro e; subst e; exact he (HL.out.symm.trans HL'.out)), Below.refl _ _⟩


set_option maxHeartbeats 400000 in
theorem pick_any (a : Option Addr) (n cap : Nat) (l : List UInt8) (seed m : Int) (w : World) {lo hi : Nat} (hB : Bytes lo hi w a n l) (hn : n ≤ 4096) (h0 : 0 ≤ seed) (h1 : seed ≤ 65536) (m0 : 0 < m) (m1 : m ≤ 65536) :
    Calls Try.prog 25 #[.slice a n cap, .int .i64 seed, .int .i64 m] w fun e w' => ∃ x : Int, e = .returned (.int .i64 x) ∧ 0 ≤ x ∧ x < m ∧ w = w' := by
  obtain ⟨hl, hsz, hx⟩ := hB
  clear hl
  go_enter Try.func25, Try.ntmps25
  go_wp2
  go_loop [7, 8] (fun t i => ∃ (k : Nat) (h : Int), k ≤ n ∧ i = .int .i64 k ∧ t = .int .i64 h ∧ 0 ≤ h ∧ h ≤ 1000000000) (fun _ i => n - (intOf i).toNat)
  case atStart => exact ⟨0, _, Nat.zero_le _, rfl, rfl, by omega, by omega⟩
  case round =>
    obtain ⟨k, h, hk, rfl, rfl, hh0, hh1⟩ := hrel
    by_cases hlt : k < n
    · obtain ⟨b, off, rfl, _, hb, hc⟩ := hx (by omega)
      have hck : w.cell? ⟨b, off + k, none⟩ = some (.int .u8 ((l.getD k 0).toNat : Int)) := hc k hlt
      obtain ⟨v, hv⟩ : ∃ v, v = (l.getD k 0).toNat := ⟨_, rfl⟩
      have hv2 : v < 256 := by rw [hv]; exact UInt8.toNat_lt _
      rw [← hv] at hck
      clear hc hx hv
      go_wp2
      go_round
      case rel => exact ⟨k + 1, _, by omega, by go_num, rfl, by omega, by omega⟩
      case measure => simp [intOf]; omega
    · have hne : (m == 0) = false := by simp; omega
      go_wp2
      go_ret
      exact ⟨_, rfl, Int.emod_nonneg _ (by omega), Int.emod_lt_of_pos _ m0, rfl⟩

set_option maxHeartbeats 800000 in
theorem drawXored_any (a : Option Addr) (n cap : Nat) (l : List UInt8) (w : World) {lo hi : Nat} (hB : Bytes lo hi w a n l) (hn : n ≤ 4096) :
    Calls Try.prog 8 #[.slice a n cap] w fun e w' => ∃ s t : ByteArray, e = .returned (.tuple #[.string s, .string t]) ∧ s.size ≤ 5 ∧ t.size ≤ 6 ∧ Below w.heap.size w w' := by
  go_enter Try.func8, Try.ntmps8
  go_wp2_with fail
  refine (l1New_any a n cap l w hB hn).mono ?_
  rintro e w1 ⟨p, rfl, hp, c1, b1⟩
  go_wp2_with fail
  refine (drawText_any p 5 w1 c1 (by omega) (by omega)).mono ?_
  rintro e w2 ⟨s, rfl, hs, c2, s2⟩
  have b2 := b1.trans (s2.below hp b1.size)
  have hs5 : s.size ≤ 5 := by omega
  have HB2 := hide b2
  clear b2 s2 hs
  go_wp2_with fail
  go_loopw [6, 7] (fun v i wr => ∃ (k : Nat) (t : ByteArray), k ≤ s.size ∧ i = .int .i64 k ∧ v = .string t ∧ t.size = k ∧ Cur wr p ∧ Below w.heap.size w wr) (fun _ i _ => s.size - (intOf i).toNat)
  case atStart => exact ⟨0, ⟨#[]⟩, Nat.zero_le _, rfl, rfl, rfl, c2, HB2.out⟩
  case round =>
    obtain ⟨k, t, hk, rfl, rfl, ht, hcr, hbel⟩ := hrel
    clear HB2
    by_cases hlt : k < s.size
    · have HB := hide hbel
      have HT := hide ht
      have ht6 : t.size ≤ 5 := by omega
      clear hbel ht
      go_wp2_with fail
      refine (l1Byte_any p wr hcr).mono ?_
      rintro e w3 ⟨z, rfl, z0, z1, c3, s3⟩
      obtain ⟨u, rfl⟩ := byte_of z z0 z1
      have b3 := HB.out.trans (s3.below hp HB.out.size)
      have hB : Bytes w3.heap.size (w3.heap.size + 1) (w3.alloc (.cells #[.int .u8 (u.toNat : Int)] 5)) (some ⟨w3.heap.size, 0, none⟩) 1 [u] := by
        have hb : (w3.alloc (.cells #[.int .u8 (u.toNat : Int)] 5)).heap[w3.heap.size]? = some (.cells #[.int .u8 (u.toNat : Int)] 5 (0, 0)) := by
          show (w3.heap.push _)[w3.heap.size]? = _
          simp
        refine ⟨rfl, by simp, fun _ => ⟨w3.heap.size, 0, rfl, Nat.le_refl _, Nat.lt_succ_self _, fun i hi => ?_⟩⟩
        obtain rfl : i = 0 := by omega
        simp only [World.cell?, Nat.zero_add, hb]
        rfl
      have hst := string_of (P := Try.prog) hB 22 9 5 1 Try.underlying22 Try.underlying5 Try.underlying9
      have HB3 := hide (b3.alloc b3.size (.cells #[.int .u8 (u.toNat : Int)] 5))
      have HC3 := hide (c3.alloc (.cells #[.int .u8 (u.toNat : Int)] 5))
      clear hB b3 s3 HB
      go_wp2_with fail
      go_roundw
      case rel => exact ⟨k + 1, _, by omega, by go_num, rfl, by rw [ByteArray.size_append, HT.out]; rfl, HC3.out, HB3.out⟩
      case measure => simp [intOf]; omega
    · have ht6 : t.size ≤ 5 := by omega
      have HB := hide hbel
      clear ht hbel
      go_wp2_with fail
      refine (l1Once_any p 8 wr hcr (by omega)).mono ?_
      rintro e w3 ⟨b, rfl, c3, s3⟩
      have b3 := HB.out.trans (s3.below hp HB.out.size)
      cases b
      · go_wp2_with fail
        go_ret2
        exact ⟨_, _, rfl, hs5, by omega, b3⟩
      · go_wp2_with fail
        go_ret2
        exact ⟨_, _, rfl, hs5, by rw [ByteArray.size_append]; show t.size + 1 ≤ 6; omega, b3⟩
end Go.Proofs.Ytgnfibdgoghkpaa
