/- The walks of the small functions that the exact laws go through, of slices of texts. -/
import Derived.Test.YtdaemaefkikheaaRows
import Derived.Test.YtdaemaefkikheaaTextBase
import Derived.Test.YtdaemaefkikheaaBytesBase
import Derived.Test.YtdaemaefkikheaaTextEq
import Derived.Deep.QuietTactic
import Derived.BigQuiet
import Derived.RegionTactic
import Derived.BigRegion
import Derived.Deep.RegionWith
namespace Go.Proofs.Ytdaemaefkikheaa
open Go.RowKit
set_option linter.unusedVariables false
set_option maxRecDepth 20000

theorem Try.infoStr : (Try.prog.info? 9).map (fun i => (i.zero, i.size, i.bytes)) = some (some (.string ByteArray.empty), 1, 16) := by kernel_rfl

theorem takeT_step {xs ys : List ByteArray} {n k : Nat} (hx : xs.length = n) (hy : ys.length = n) (hk : k < n) (ht : xs.take k = ys.take k) (he : xs.getD k ByteArray.empty = ys.getD k ByteArray.empty) : xs.take (k + 1) = ys.take (k + 1) := by
  rw [List.getD_eq_getElem?_getD, List.getD_eq_getElem?_getD, List.getElem?_eq_getElem (by omega), List.getElem?_eq_getElem (by omega)] at he
  simp only [Option.getD_some] at he
  rw [List.take_succ_eq_append_getElem (by omega), List.take_succ_eq_append_getElem (by omega), ht, he]
theorem takeT_fall {xs ys : List ByteArray} {k : Nat} (he : xs.getD k ByteArray.empty ≠ ys.getD k ByteArray.empty) : decide (xs = ys) = false := by
  simp; intro e; subst e; exact he rfl
theorem takeT_whole {xs ys : List ByteArray} {n k : Nat} (hx : xs.length = n) (hy : ys.length = n) (hk : n ≤ k) (ht : xs.take k = ys.take k) : decide (xs = ys) = true := by
  rw [List.take_of_length_le (by omega), List.take_of_length_le (by omega)] at ht
  simpa using ht

set_option maxHeartbeats 400000 in
theorem eqT_any (a : Option Addr) (n cap : Nat) (xs : List ByteArray) (a' : Option Addr) (n' cap' : Nat) (ys : List ByteArray) (w : World) {lo hi lo' hi' : Nat} (h : Texts lo hi w a n xs) (h' : Texts lo' hi' w a' n' ys) (hn : n ≤ 1048576) (hn' : n' ≤ 1048576) :
    Calls Try.prog 88 #[.slice a n cap, .slice a' n' cap'] w fun e w' => e = .returned (.bool (decide (xs = ys))) ∧ Below w.heap.size w w' := by
  obtain ⟨hl, hsz, hx⟩ := h
  obtain ⟨hl', hsz', hx'⟩ := h'
  have HL : Hid (xs.length = n) := hl
  have HL' : Hid (ys.length = n') := hl'
  clear hl hl'
  by_cases he : n = n'
  · subst he
    go_enter Try.func88, Try.ntmps88
    go_wp2
    go_loopw [5] (fun i wr => ∃ k : Nat, k ≤ n ∧ i = .int .i64 k ∧ xs.take k = ys.take k ∧ Below w.heap.size w wr) (fun i _ => n - (intOf i).toNat)
    case atStart => exact ⟨0, Nat.zero_le _, rfl, rfl, Below.refl _ _⟩
    case round =>
      obtain ⟨k, hk, rfl, hall, hbel⟩ := hrel
      have HA : Hid (xs.take k = ys.take k) := hall
      clear hall
      by_cases hlt : k < n
      · obtain ⟨b, off, rfl, _, hb, hc⟩ := hx (by omega)
        obtain ⟨b', off', rfl, _, hb', hc'⟩ := hx' (by omega)
        have hck : wr.cell? ⟨b, off + k, none⟩ = some (.string (xs.getD k ByteArray.empty)) := (hbel.cell (p := ⟨b, off + k, none⟩) (by show b < _; omega)).trans (hc k hlt)
        have hck' : wr.cell? ⟨b', off' + k, none⟩ = some (.string (ys.getD k ByteArray.empty)) := (hbel.cell (p := ⟨b', off' + k, none⟩) (by show b' < _; omega)).trans (hc' k hlt)
        clear hc hx hc' hx'
        obtain ⟨z, hz⟩ : ∃ z, z = xs.getD k ByteArray.empty := ⟨_, rfl⟩
        rw [← hz] at hck
        have HZ : Hid (z = xs.getD k ByteArray.empty) := hz
        clear hz
        obtain ⟨y, hy⟩ : ∃ z, z = ys.getD k ByteArray.empty := ⟨_, rfl⟩
        rw [← hy] at hck'
        have HY : Hid (y = ys.getD k ByteArray.empty) := hy
        clear hy
        by_cases h0 : z = y
        · subst h0
          have e0 := text_same z
          go_wp2
          go_quiet (fail)
          go_wp2
          go_roundw
          case rel => exact ⟨k + 1, by omega, by go_num, takeT_step HL.out HL'.out hlt HA.out (HZ.out.symm.trans HY.out), below_drewN hbel _⟩
          case measure => simp [intOf]; omega
        · have e0 := text_other h0
          go_wp2
          go_quiet (fail)
          go_wp2
          go_ret
          exact ⟨ret_bool (takeT_fall (k := k) (by rw [← HZ.out, ← HY.out]; exact h0)).symm, below_drewN hbel _⟩
      · go_wp2
        go_ret
        exact ⟨ret_bool (takeT_whole HL.out HL'.out (by omega) HA.out).symm, hbel⟩
  · have e0 : ((n : Int) == (n' : Int)) = false := by simp; omega
    have e1 : ((n : Int) != (n' : Int)) = true := by simp; omega
    go_enter Try.func88, Try.ntmps88
    go_wp2
    go_ret
    exact ⟨ret_bool (by simp; intro e; subst e; exact he (HL.out.symm.trans HL'.out)), Below.refl _ _⟩

theorem rowT_step (xs : List ByteArray) (k j : Nat) (v : Value) (hv : v = cellT xs k) : (if j = k then v else if j < k then cellT xs j else .string ByteArray.empty) = (if j < k + 1 then cellT xs j else .string ByteArray.empty) := by
  by_cases h1 : j = k
  · subst h1; simp [hv]
  · by_cases h2 : j < k
    · simp [h1, h2, show j < k + 1 by omega]
    · simp [h1, h2, show ¬ j < k + 1 by omega]

set_option maxHeartbeats 400000 in
/-- A copy in new memory. -/
theorem toT_any (a : Option Addr) (n cap : Nat) (xs : List ByteArray) (w : World) {lo hi : Nat} (h : Texts lo hi w a n xs) (hn : n ≤ 1048576) :
    Calls Try.prog 83 #[.slice a n cap] w fun e w' => ∃ a', e = .returned (.slice a' n n) ∧ OwnTexts w.heap.size w'.heap.size w' a' n xs ∧ Below w.heap.size w w' := by
  obtain ⟨hl, hsz, hx⟩ := h
  have HL : Hid (xs.length = n) := hl
  clear hl
  have hmk := run_make_row' (P := Try.prog) 49 9 (.string ByteArray.empty) 16 Try.underlying49 Try.infoStr rfl .i64 .i64 n (by omega) (by omega)
  go_enter Try.func83, Try.ntmps83
  go_wp2
  go_loopw [4] (fun i wr => ∃ k : Nat, k ≤ n ∧ i = .int .i64 k ∧ wr.rowIs w.heap.size 9 n (fun i => if i < k then cellT xs i else .string ByteArray.empty) ∧ Below w.heap.size w wr) (fun i _ => n - (intOf i).toNat)
  case atStart => exact ⟨0, Nat.zero_le _, rfl, (World.rowIs_made w (.string ByteArray.empty) n 9).congr (fun _ _ => by simp), (Below.refl _ _).alloc (Nat.le_refl _) _⟩
  case round =>
    obtain ⟨k, hk, rfl, hrow, hbel⟩ := hrel
    by_cases hlt : k < n
    · obtain ⟨b, off, rfl, _, hb, hc⟩ := hx (by omega)
      have hck : wr.cell? ⟨b, off + k, none⟩ = some (.string (xs.getD k ByteArray.empty)) := (hbel.cell (p := ⟨b, off + k, none⟩) (by show b < _; omega)).trans (hc k hlt)
      clear hc hx
      obtain ⟨z, hz⟩ : ∃ z, z = xs.getD k ByteArray.empty := ⟨_, rfl⟩
      rw [← hz] at hck
      have HZ : Hid (z = xs.getD k ByteArray.empty) := hz
      clear hz
      have hco := hrow.cell hlt
      have hfo := hrow.frozen k
      have hR := (hrow.set k (.string z)).congr (g := fun i => if i < k + 1 then cellT xs i else .string ByteArray.empty) (fun j hj => rowT_step xs k j _ (by rw [HZ.out]; rfl))
      have hB := hbel.setCell (p := ⟨w.heap.size, k, none⟩) (Nat.le_refl _) (.string z)
      have HR := hide (hR)
      have HB := hide (hB)
      clear hR hB hrow hbel
      go_wp2
      go_roundw
      case rel => exact ⟨k + 1, by omega, by go_num, HR.out, HB.out⟩
      case measure => simp [intOf]; omega
    · go_wp2
      go_ret
      have hs := hrow.lt
      exact ⟨_, rfl, ⟨HL.out, owned_of_row (hrow.congr (fun i hi => if_pos (by omega))) (Nat.le_refl _) hs (Nat.le_refl _)⟩, hbel⟩

/-- All bytes of the texts. -/
def total (ts : List ByteArray) : Nat := (ts.map (·.size)).sum
theorem total_take (ts : List ByteArray) (k : Nat) (h : k < ts.length) : total (ts.take (k + 1)) = total (ts.take k) + (ts.getD k ByteArray.empty).size := by
  unfold total
  rw [List.take_succ_eq_append_getElem h, List.getD_eq_getElem?_getD, List.getElem?_eq_getElem h, List.map_append, List.sum_append]
  rfl
theorem total_le {ts : List ByteArray} {s : ByteArray} (h : s ∈ ts) : s.size ≤ total ts := by
  unfold total
  induction ts with
  | nil => cases h
  | cons t ts ih =>
    rw [List.map_cons, List.sum_cons]
    rcases List.mem_cons.1 h with e | e
    · subst e; omega
    · have := ih e; omega

set_option maxHeartbeats 400000 in
/-- What is left of room for them. -/
theorem szT_any (a : Option Addr) (n cap : Nat) (xs : List ByteArray) (w : World) {lo hi : Nat} (h : Texts lo hi w a n xs) (hn : n ≤ maxLen) (hxs : ∀ s ∈ xs, s.size ≤ maxLen) :
    Calls Try.prog 82 #[.slice a n cap, .int .i64 1048576] w fun e w' => (∃ r : Int, e = .returned (.int .i64 r) ∧ -1 ≤ r ∧ r ≤ 1048576 ∧ (0 ≤ r → n + total xs ≤ 1048576)) ∧ w = w' := by
  obtain ⟨hl, hsz, hx⟩ := h
  unfold maxLen at hn hxs
  have HL : Hid (xs.length = n) := hl
  have HX := hide hxs
  clear hl hxs
  by_cases hb : n ≤ 1048576
  · go_enter Try.func82, Try.ntmps82
    go_wp2
    go_loop [1, 5] (fun t i => ∃ k : Nat, k ≤ n ∧ i = .int .i64 k ∧ n + total (xs.take k) ≤ 1048576 ∧ t = .int .i64 (1048576 - (n : Int) - (total (xs.take k) : Int))) (fun _ i => n - (intOf i).toNat)
    case atStart => exact ⟨0, Nat.zero_le _, rfl, by simp [total]; omega, by simp [total]⟩
    case round =>
      obtain ⟨k, hk, rfl, htot, rfl⟩ := hrel
      by_cases hlt : k < n
      · obtain ⟨b, off, rfl, _, hb1, hc⟩ := hx (by omega)
        have hck : w.cell? ⟨b, off + k, none⟩ = some (.string (xs.getD k ByteArray.empty)) := hc k hlt
        clear hc hx
        have HT : Hid (total (xs.take (k + 1)) = total (xs.take k) + (xs.getD k ByteArray.empty).size) := total_take xs k (by rw [HL.out]; exact hlt)
        have hz9 : (xs.getD k ByteArray.empty).size ≤ 9223372036854775807 := by
          refine Nat.le_trans (HX.out _ ?_) (by omega)
          rw [List.getD_eq_getElem?_getD, List.getElem?_eq_getElem (by rw [HL.out]; exact hlt)]
          exact List.getElem_mem _
        have HTL : Hid (total (xs.take (k + 1)) ≤ total xs) := by
          show _ ≤ _
          unfold total
          conv => rhs; rw [← List.take_append_drop (k + 1) xs, List.map_append, List.sum_append]
          omega
        obtain ⟨z, hz⟩ : ∃ z, z = xs.getD k ByteArray.empty := ⟨_, rfl⟩
        rw [← hz] at hck hz9 HT
        clear hz
        generalize total (xs.take k) = q at *
        by_cases h0 : n + q + z.size ≤ 1048576
        · go_wp2
          go_round
          case rel => exact ⟨k + 1, by omega, by go_num, by rw [HT.out]; omega, by rw [HT.out]; go_num⟩
          case measure => simp [intOf]; omega
        · go_wp2
          go_ret
          exact ⟨⟨-1, rfl, by omega, by omega, by omega⟩, rfl⟩
      · have HW : Hid (total (xs.take k) = total xs) := by show _ = _; rw [List.take_of_length_le (by rw [HL.out]; omega)]
        generalize total (xs.take k) = q at *
        go_wp2
        go_ret
        exact ⟨⟨_, rfl, by omega, by omega, fun _ => by have := HW.out; omega⟩, rfl⟩
  · go_enter Try.func82, Try.ntmps82
    go_wp2
    go_ret
    exact ⟨⟨-1, rfl, by omega, by omega, by omega⟩, rfl⟩

/-- The text that marks number k, its digits behind what is there already. -/
def markL : Nat → Nat → List UInt8 → List UInt8
  | 0, _, l => l
  | f + 1, k, l => if k = 0 then l else markL f (k / 10) (UInt8.ofNat (48 + k % 10) :: l)
def markT (k : Nat) : ByteArray := str (109 :: markL k k [])

/-- 'string([]byte{x})'. -/
theorem conv_one {P : Program} (w : World) (src dst e t : TypeId) (hs : P.underlying src = some (.slice e)) (he : P.underlying e = some (.int .u8)) (hd : P.underlying dst = some .string) (x : Int) (u : UInt8) (hx : x = (u.toNat : Int)) :
    (convert src dst (.slice (some ⟨w.heap.size, 0, none⟩) 1 1)).run P (w.alloc (.cells #[.int .u8 x] t)) = .ok (.string (str [u])) (w.alloc (.cells #[.int .u8 x] t)) := by
  refine string_of (l := [u]) (lo := w.heap.size) (hi := w.heap.size + 1) ⟨rfl, by show _ ≤ (w.alloc (.cells #[.int .u8 x] t)).heap.size; simp, fun _ => ⟨w.heap.size, 0, rfl, Nat.le_refl _, Nat.lt_succ_self _, fun i hi => ?_⟩⟩ src dst e 1 hs he hd
  obtain rfl : i = 0 := by simp at hi; omega
  subst hx
  simp [cellB]
theorem str_cons (u : UInt8) (l : List UInt8) : str [u] ++ str l = str (u :: l) := by
  apply ByteArray.ext
  simp [str]
theorem str_size' (l : List UInt8) : (str l).size = l.length := rfl
theorem markL_zero (f : Nat) (l : List UInt8) : markL f 0 l = l := by cases f <;> simp [markL]

set_option maxHeartbeats 400000 in
theorem markText_any (k : Nat) (w : World) (h0 : 1 ≤ k) (h1 : k ≤ 4194304) :
    Calls Try.prog 77 #[.int .i64 (k : Int)] w fun e w' => e = .returned (.string (markT k)) ∧ Below w.heap.size w w' := by
  go_enter Try.func77, Try.ntmps77
  go_wp2_with fail
  go_loopw [0, 3] (fun t o wr => ∃ (f j : Nat) (l : List UInt8), t = .int .i64 (j : Int) ∧ o = .string (str l) ∧ j ≤ f ∧ j ≤ k ∧ markL k k [] = markL f j l ∧ l.length + j ≤ k ∧ Below w.heap.size w wr) (fun t _ _ => (intOf t).toNat)
  case atStart => exact ⟨k, k, [], rfl, rfl, Nat.le_refl _, Nat.le_refl _, rfl, by simp, Below.refl _ _⟩
  case round =>
    obtain ⟨f, j, l, rfl, rfl, hf, hjk, hm, hl, hbel⟩ := hrel
    have HM := hide hm
    clear hm
    have hls := str_size' l
    by_cases hj : 0 < j
    · obtain ⟨u, hu⟩ : ∃ u : UInt8, u = UInt8.ofNat (48 + j % 10) := ⟨_, rfl⟩
      have hst := conv_one (P := Try.prog) wr 108 9 5 5 Try.underlying108 Try.underlying5 Try.underlying9 (48 + (j : Int) % 10) u (by rw [hu]; simp; omega)
      have hls1 : (str [u]).size = 1 := rfl
      have HU := hide hu
      clear hu
      have HB := hide (hbel.alloc hbel.size (.cells #[.int .u8 (48 + (j : Int) % 10)] 5))
      clear hbel
      go_wp2_with fail
      go_roundw
      case rel =>
        refine ⟨f - 1, j / 10, u :: l, by go_num, by rw [str_cons], by omega, by omega, ?_, by simp; omega, HB.out⟩
        rw [HM.out]
        obtain ⟨g, rfl⟩ : ∃ g, f = g + 1 := ⟨f - 1, by omega⟩
        rw [HU.out]
        simp [markL, show j ≠ 0 by omega]
      case measure => simp [intOf]; omega
    · obtain rfl : j = 0 := by omega
      go_wp2_with fail
      go_ret
      exact ⟨ret_str (by unfold markT; rw [HM.out, markL_zero]; exact str_cons 109 l), hbel⟩

theorem markText_to (k : Nat) (x : Int) (hx : x = (k : Int)) (h0 : 1 ≤ k) (h1 : k ≤ 4194304) (w : World) :
    Calls Try.prog 77 #[.int .i64 x] w fun e w' => e = .returned (.string (markT k)) ∧ Below w.heap.size w w' := by subst hx; exact markText_any k w h0 h1
theorem aside_new {lo hi : Nat} {w w' : World} (h : Below w.heap.size w w') : Aside lo hi w w' := ⟨h.os, h.tape, h.output, h.size, fun k hk _ => h.block k hk⟩
/-- The texts that mark the numbers from m on. -/
def marksT (m n : Nat) : List ByteArray := (List.range n).map fun i => markT (m + i)
theorem marksT_length (m n : Nat) : (marksT m n).length = n := by simp [marksT]
theorem marksT_at (m n i : Nat) (h : i < n) : cellT (marksT m n) i = .string (markT (m + i)) := by
  unfold cellT marksT
  rw [List.getD_eq_getElem?_getD, List.getElem?_map, List.getElem?_range h]; rfl
theorem markT_step (xs : List ByteArray) (m k j : Nat) : (if j = k then Value.string (markT (m + k)) else if j < k then .string (markT (m + j)) else cellT xs j) = (if j < k + 1 then .string (markT (m + j)) else cellT xs j) := by
  by_cases h1 : j = k
  · subst h1; simp
  · by_cases h2 : j < k
    · simp [h1, h2, show j < k + 1 by omega]
    · simp [h1, h2, show ¬ j < k + 1 by omega]

set_option maxHeartbeats 400000 in
/-- Marks are written into what is owned. -/
theorem markTS_any (a : Option Addr) (n cap : Nat) (xs : List ByteArray) (m : Nat) (w : World) {lo hi : Nat} (h : OwnTexts lo hi w a n xs) (hn : n ≤ 1048576) (m0 : 1 ≤ m) (m1 : m ≤ 1048577) :
    Calls Try.prog 76 #[.slice a n cap, .int .i64 (m : Int)] w fun e w' => e = .returned (.int .i64 ((m + n : Nat) : Int)) ∧ OwnTexts lo hi w' a n (marksT m n) ∧ Aside lo hi w w' := by
  obtain ⟨hl, hx⟩ := h
  have HL : Hid (xs.length = n) := hl
  clear hl
  go_enter Try.func76, Try.ntmps76
  go_wp2_with fail
  go_loopw [1, 5] (fun t i wr => ∃ k : Nat, k ≤ n ∧ i = .int .i64 k ∧ t = .int .i64 ((m + k : Nat) : Int) ∧ Owned lo hi wr a n (fun i => if i < k then .string (markT (m + i)) else cellT xs i) ∧ Aside lo hi w wr) (fun _ i _ => n - (intOf i).toNat)
  case atStart => exact ⟨0, Nat.zero_le _, rfl, by simp, hx.congr (fun _ _ => by simp), Aside.refl _ _ _⟩
  case round =>
    obtain ⟨k, hk, rfl, rfl, hrow, hasd⟩ := hrel
    have hhi := hrow.1
    have HX := hide hx
    clear hx
    by_cases hlt : k < n
    · have HR0 := hide hrow
      have HA0 := hide hasd
      clear hrow hasd
      go_wp2_with fail
      refine (markText_to (m + k) _ (by omega) (by omega) (by omega) wr).mono ?_
      rintro e w2 ⟨rfl, b2⟩
      have hrow := HR0.out.later b2 hhi
      have hasd := HA0.out.trans (aside_new b2)
      obtain ⟨b, off, rfl, hb1, hb2, hc⟩ := hrow.2 (by omega)
      obtain ⟨hco, hfo⟩ := hc k hlt
      simp only [Nat.lt_irrefl, if_false, cellT] at hco
      have HR := hide ((hrow.set hlt (.string (markT (m + k)))).congr (g := fun i => if i < k + 1 then .string (markT (m + i)) else cellT xs i) (fun j hj => markT_step xs m k j))
      have HB := hide (hasd.setCell (p := ⟨b, off + k, none⟩) hb1 hb2 (.string (markT (m + k))))
      clear hrow hasd hc HR0 HA0 b2
      go_wp2_with fail
      go_roundw
      case rel => exact ⟨k + 1, by omega, by go_num, by go_num, HR.out, HB.out⟩
      case measure => simp [intOf]; omega
    · obtain rfl : k = n := by omega
      go_wp2_with fail
      go_ret
      exact ⟨rfl, ⟨marksT_length m k, hrow.congr (fun i hi => by rw [if_pos hi, marksT_at m k i hi])⟩, hasd⟩

set_option maxHeartbeats 400000 in
/-- They are held as long as they read as marks. -/
theorem heldTS_any (a : Option Addr) (n cap : Nat) (m : Nat) (w : World) {lo hi : Nat} (h : Texts lo hi w a n (marksT m n)) (hn : n ≤ 1048576) (m0 : 1 ≤ m) (m1 : m ≤ 1048577) :
    Calls Try.prog 79 #[.slice a n cap, .int .i64 (m : Int)] w fun e w' => e = .returned (.int .i64 ((m + n : Nat) : Int)) ∧ Below w.heap.size w w' := by
  obtain ⟨_, hsz, hx⟩ := h
  go_enter Try.func79, Try.ntmps79
  go_wp2_with fail
  go_loopw [1, 5] (fun t i wr => ∃ k : Nat, k ≤ n ∧ i = .int .i64 k ∧ t = .int .i64 ((m + k : Nat) : Int) ∧ Below w.heap.size w wr) (fun _ i _ => n - (intOf i).toNat)
  case atStart => exact ⟨0, Nat.zero_le _, rfl, by simp, Below.refl _ _⟩
  case round =>
    obtain ⟨k, hk, rfl, rfl, hbel⟩ := hrel
    by_cases hlt : k < n
    · obtain ⟨b, off, rfl, _, hb, hc⟩ := hx (by omega)
      have hck : wr.cell? ⟨b, off + k, none⟩ = some (.string (markT (m + k))) := (hbel.cell (p := ⟨b, off + k, none⟩) (by show b < _; omega)).trans (by rw [hc k hlt, marksT_at m n k hlt])
      have HW : Hid (b < wr.heap.size) := by have := hbel.size; show b < _; omega
      have HBB := hide hbel
      have HCK := hide hck
      clear hc hx hbel
      have e0 := text_same (markT (m + k))
      go_wp2_with fail
      go_region_with (go_at_call 77; refine (markText_to (m + k) _ (by omega) (by omega) (by omega) _).mono ?_; rintro e w2 ⟨rfl, b2⟩; have hck2 := (b2.cell (p := ⟨b, off + k, none⟩) HW.out).trans HCK.out; have HB2 := hide (below_here (show Below w.heap.size w wr.drew from HBB.out.drew) b2); clear b2)
      all_goals go_wp2_with fail
      all_goals exact ⟨⟨k + 1, by omega, by go_num, by go_num, HB2.out⟩, by simp [intOf]; omega⟩
    · obtain rfl : k = n := by omega
      go_wp2_with fail
      go_ret
      exact ⟨rfl, hbel⟩
end Go.Proofs.Ytdaemaefkikheaa
