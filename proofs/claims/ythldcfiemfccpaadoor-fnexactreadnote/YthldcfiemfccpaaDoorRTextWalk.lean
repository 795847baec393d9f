/- Several texts in one: TextWalk, ChipSz, ChipOwn, SpareSpec, NoteDuo, TextFrom. -/
import Derived.Test.YthldcfiemfccpaaDoorRows
import Derived.Test.YthldcfiemfccpaaDoorRTextBase
import Derived.Test.YthldcfiemfccpaaDoorRBytesBase
import Derived.Test.YthldcfiemfccpaaDoorRTextEq
import Derived.Deep.QuietTactic
import Derived.BigQuiet
import Derived.RegionTactic
import Derived.BigRegion
import Derived.Deep.RegionWith
import Derived.Test.YthldcfiemfccpaaDoorRBase
import Derived.Test.YthldcfiemfccpaaDoorRInfo
import Derived.Maps.AppendAt
section
namespace Go.Proofs.YthldcfiemfccpaaDoor
open Go.RowKit
set_option linter.unusedVariables false
set_option maxRecDepth 20000

theorem Tryd.infoStr : (Tryd.prog.info? 9).map (fun i => (i.zero, i.size, i.bytes)) = some (some (.string ByteArray.empty), 1, 16) := by kernel_rfl

theorem takeT_step {xs ys : List ByteArray} {n k : Nat} (hx : xs.length = n) (hy : ys.length = n) (hk : k < n) (ht : xs.take k = ys.take k) (he : xs.getD k ByteArray.empty = ys.getD k ByteArray.empty) : xs.take (k + 1) = ys.take (k + 1) := by
  rw [List.getD_eq_getElem?_getD, List.getD_eq_getElem?_getD, List.getElem?_eq_getElem (by omega), List.getElem?_eq_getElem (by omega)] at he
  simp only [Option.getD_some] at he
  rw [List.take_succ_eq_append_getElem (by omega), List.take_succ_eq_append_getElem (by omega), ht, he]
theorem takeT_fall {xs ys : List ByteArray} {k : Nat} (he : xs.getD k ByteArray.empty ≠ ys.getD k ByteArray.empty) : decide (xs = ys) = false := by
  simp; intro e; subst e; exact he rfl
theorem takeT_whole {xs ys : List ByteArray} {n k : Nat} (hx : xs.length = n) (hy : ys.length = n) (hk : n ≤ k) (ht : xs.take k = ys.take k) : decide (xs = ys) = true := by
  rw [List.take_of_length_le (by omega), List.take_of_length_le (by omega)] at ht
  simpa using ht

set_option maxHeartbeats 400000 in
theorem eqT_any (a : Option Addr) (n cap : Nat) (xs : List ByteArray) (a' : Option Addr) (n' cap' : Nat) (ys : List ByteArray) (w : World) {lo hi lo' hi' : Nat} (h : Texts lo hi w a n xs) (h' : Texts lo' hi' w a' n' ys) (hn : n ≤ 1048576) (hn' : n' ≤ 1048576) :
    Calls Tryd.prog 25 #[.slice a n cap, .slice a' n' cap'] w fun e w' => e = .returned (.bool (decide (xs = ys))) ∧ Below w.heap.size w w' := by
  obtain ⟨hl, hsz, hx⟩ := h
  obtain ⟨hl', hsz', hx'⟩ := h'
  have HL : Hid (xs.length = n) := hl
  have HL' : Hid (ys.length = n') := hl'
  clear hl hl'
  by_cases he : n = n'
  · subst he
    go_enter Tryd.func25, Tryd.ntmps25
    go_wp2
    go_loopw [5] (fun i wr => ∃ k : Nat, k ≤ n ∧ i = .int .i64 k ∧ xs.take k = ys.take k ∧ Below w.heap.size w wr) (fun i _ => n - (intOf i).toNat)
    case atStart => exact ⟨0, Nat.zero_le _, rfl, rfl, Below.refl _ _⟩
    case round =>
      obtain ⟨k, hk, rfl, hall, hbel⟩ := hrel
      have HA : Hid (xs.take k = ys.take k) := hall
      clear hall
      by_cases hlt : k < n
      · obtain ⟨b, off, rfl, _, hb, hc⟩ := hx (by omega)
        obtain ⟨b', off', rfl, _, hb', hc'⟩ := hx' (by omega)
        have hck : wr.cell? ⟨b, off + k, none⟩ = some (.string (xs.getD k ByteArray.empty)) := (hbel.cell (p := ⟨b, off + k, none⟩) (by show b < _; omega)).trans (hc k hlt)
        have hck' : wr.cell? ⟨b', off' + k, none⟩ = some (.string (ys.getD k ByteArray.empty)) := (hbel.cell (p := ⟨b', off' + k, none⟩) (by show b' < _; omega)).trans (hc' k hlt)
        clear hc hx hc' hx'
        obtain ⟨z, hz⟩ : ∃ z, z = xs.getD k ByteArray.empty := ⟨_, rfl⟩
        rw [← hz] at hck
        have HZ : Hid (z = xs.getD k ByteArray.empty) := hz
        clear hz
        obtain ⟨y, hy⟩ : ∃ z, z = ys.getD k ByteArray.empty := ⟨_, rfl⟩
        rw [← hy] at hck'
        have HY : Hid (y = ys.getD k ByteArray.empty) := hy
        clear hy
        by_cases h0 : z = y
        · subst h0
          have e0 := text_same z
          go_wp2
          go_quiet (fail)
          go_wp2
          go_roundw
          case rel => exact ⟨k + 1, by omega, by go_num, takeT_step HL.out HL'.out hlt HA.out (HZ.out.symm.trans HY.out), below_drewN hbel _⟩
          case measure => simp [intOf]; omega
        · have e0 := text_other h0
          go_wp2
          go_quiet (fail)
          go_wp2
          go_ret
          exact ⟨ret_bool (takeT_fall (k := k) (by rw [← HZ.out, ← HY.out]; exact h0)).symm, below_drewN hbel _⟩
      · go_wp2
        go_ret
        exact ⟨ret_bool (takeT_whole HL.out HL'.out (by omega) HA.out).symm, hbel⟩
  · have e0 : ((n : Int) == (n' : Int)) = false := by simp; omega
    have e1 : ((n : Int) != (n' : Int)) = true := by simp; omega
    go_enter Tryd.func25, Tryd.ntmps25
    go_wp2
    go_ret
    exact ⟨ret_bool (by simp; intro e; subst e; exact he (HL.out.symm.trans HL'.out)), Below.refl _ _⟩

theorem rowT_step (xs : List ByteArray) (k j : Nat) (v : Value) (hv : v = cellT xs k) : (if j = k then v else if j < k then cellT xs j else .string ByteArray.empty) = (if j < k + 1 then cellT xs j else .string ByteArray.empty) := by
  by_cases h1 : j = k
  · subst h1; simp [hv]
  · by_cases h2 : j < k
    · simp [h1, h2, show j < k + 1 by omega]
    · simp [h1, h2, show ¬ j < k + 1 by omega]

set_option maxHeartbeats 400000 in
/-- A copy in new memory. -/
theorem toT_any (a : Option Addr) (n cap : Nat) (xs : List ByteArray) (w : World) {lo hi : Nat} (h : Texts lo hi w a n xs) (hn : n ≤ 1048576) :
    Calls Tryd.prog 18 #[.slice a n cap] w fun e w' => ∃ a', e = .returned (.slice a' n n) ∧ OwnTexts w.heap.size w'.heap.size w' a' n xs ∧ Below w.heap.size w w' := by
  obtain ⟨hl, hsz, hx⟩ := h
  have HL : Hid (xs.length = n) := hl
  clear hl
  have hmk := run_make_row' (P := Tryd.prog) 22 9 (.string ByteArray.empty) 16 Tryd.underlying22 Tryd.infoStr rfl .i64 .i64 n (by omega) (by omega)
  go_enter Tryd.func18, Tryd.ntmps18
  go_wp2
  go_loopw [4] (fun i wr => ∃ k : Nat, k ≤ n ∧ i = .int .i64 k ∧ wr.rowIs w.heap.size 9 n (fun i => if i < k then cellT xs i else .string ByteArray.empty) ∧ Below w.heap.size w wr) (fun i _ => n - (intOf i).toNat)
  case atStart => exact ⟨0, Nat.zero_le _, rfl, (World.rowIs_made w (.string ByteArray.empty) n 9).congr (fun _ _ => by simp), (Below.refl _ _).alloc (Nat.le_refl _) _⟩
  case round =>
    obtain ⟨k, hk, rfl, hrow, hbel⟩ := hrel
    by_cases hlt : k < n
    · obtain ⟨b, off, rfl, _, hb, hc⟩ := hx (by omega)
      have hck : wr.cell? ⟨b, off + k, none⟩ = some (.string (xs.getD k ByteArray.empty)) := (hbel.cell (p := ⟨b, off + k, none⟩) (by show b < _; omega)).trans (hc k hlt)
      clear hc hx
      obtain ⟨z, hz⟩ : ∃ z, z = xs.getD k ByteArray.empty := ⟨_, rfl⟩
      rw [← hz] at hck
      have HZ : Hid (z = xs.getD k ByteArray.empty) := hz
      clear hz
      have hco := hrow.cell hlt
      have hfo := hrow.frozen k
      have hR := (hrow.set k (.string z)).congr (g := fun i => if i < k + 1 then cellT xs i else .string ByteArray.empty) (fun j hj => rowT_step xs k j _ (by rw [HZ.out]; rfl))
      have hB := hbel.setCell (p := ⟨w.heap.size, k, none⟩) (Nat.le_refl _) (.string z)
      have HR := hide (hR)
      have HB := hide (hB)
      clear hR hB hrow hbel
      go_wp2
      go_roundw
      case rel => exact ⟨k + 1, by omega, by go_num, HR.out, HB.out⟩
      case measure => simp [intOf]; omega
    · go_wp2
      go_ret
      have hs := hrow.lt
      exact ⟨_, rfl, ⟨HL.out, owned_of_row (hrow.congr (fun i hi => if_pos (by omega))) (Nat.le_refl _) hs (Nat.le_refl _)⟩, hbel⟩

/-- All bytes of the texts. -/
def total (ts : List ByteArray) : Nat := (ts.map (·.size)).sum
theorem total_take (ts : List ByteArray) (k : Nat) (h : k < ts.length) : total (ts.take (k + 1)) = total (ts.take k) + (ts.getD k ByteArray.empty).size := by
  unfold total
  rw [List.take_succ_eq_append_getElem h, List.getD_eq_getElem?_getD, List.getElem?_eq_getElem h, List.map_append, List.sum_append]
  rfl
theorem total_le {ts : List ByteArray} {s : ByteArray} (h : s ∈ ts) : s.size ≤ total ts := by
  unfold total
  induction ts with
  | nil => cases h
  | cons t ts ih =>
    rw [List.map_cons, List.sum_cons]
    rcases List.mem_cons.1 h with e | e
    · subst e; omega
    · have := ih e; omega

set_option maxHeartbeats 400000 in
/-- What is left of room for them. -/
theorem szT_any (a : Option Addr) (n cap : Nat) (xs : List ByteArray) (w : World) {lo hi : Nat} (h : Texts lo hi w a n xs) (hn : n ≤ maxLen) (hxs : ∀ s ∈ xs, s.size ≤ maxLen) :
    Calls Tryd.prog 14 #[.slice a n cap, .int .i64 1048576] w fun e w' => (∃ r : Int, e = .returned (.int .i64 r) ∧ -1 ≤ r ∧ r ≤ 1048576 ∧ (0 ≤ r → n + total xs ≤ 1048576)) ∧ w = w' := by
  obtain ⟨hl, hsz, hx⟩ := h
  unfold maxLen at hn hxs
  have HL : Hid (xs.length = n) := hl
  have HX := hide hxs
  clear hl hxs
  by_cases hb : n ≤ 1048576
  · go_enter Tryd.func14, Tryd.ntmps14
    go_wp2
    go_loop [1, 5] (fun t i => ∃ k : Nat, k ≤ n ∧ i = .int .i64 k ∧ n + total (xs.take k) ≤ 1048576 ∧ t = .int .i64 (1048576 - (n : Int) - (total (xs.take k) : Int))) (fun _ i => n - (intOf i).toNat)
    case atStart => exact ⟨0, Nat.zero_le _, rfl, by simp [total]; omega, by simp [total]⟩
    case round =>
      obtain ⟨k, hk, rfl, htot, rfl⟩ := hrel
      by_cases hlt : k < n
      · obtain ⟨b, off, rfl, _, hb1, hc⟩ := hx (by omega)
        have hck : w.cell? ⟨b, off + k, none⟩ = some (.string (xs.getD k ByteArray.empty)) := hc k hlt
        clear hc hx
        have HT : Hid (total (xs.take (k + 1)) = total (xs.take k) + (xs.getD k ByteArray.empty).size) := total_take xs k (by rw [HL.out]; exact hlt)
        have hz9 : (xs.getD k ByteArray.empty).size ≤ 9223372036854775807 := by
          refine Nat.le_trans (HX.out _ ?_) (by omega)
          rw [List.getD_eq_getElem?_getD, List.getElem?_eq_getElem (by rw [HL.out]; exact hlt)]
          exact List.getElem_mem _
        have HTL : Hid (total (xs.take (k + 1)) ≤ total xs) := by
          show _ ≤ _
          unfold total
          conv => rhs; rw [← List.take_append_drop (k + 1) xs, List.map_append, List.sum_append]
          omega
        obtain ⟨z, hz⟩ : ∃ z, z = xs.getD k ByteArray.empty := ⟨_, rfl⟩
        rw [← hz] at hck hz9 HT
        clear hz
        generalize total (xs.take k) = q at *
        by_cases h0 : n + q + z.size ≤ 1048576
        · go_wp2
          go_round
          case rel => exact ⟨k + 1, by omega, by go_num, by rw [HT.out]; omega, by rw [HT.out]; go_num⟩
          case measure => simp [intOf]; omega
        · go_wp2
          go_ret
          exact ⟨⟨-1, rfl, by omega, by omega, by omega⟩, rfl⟩
      · have HW : Hid (total (xs.take k) = total xs) := by show _ = _; rw [List.take_of_length_le (by rw [HL.out]; omega)]
        generalize total (xs.take k) = q at *
        go_wp2
        go_ret
        exact ⟨⟨_, rfl, by omega, by omega, fun _ => by have := HW.out; omega⟩, rfl⟩
  · go_enter Tryd.func14, Tryd.ntmps14
    go_wp2
    go_ret
    exact ⟨⟨-1, rfl, by omega, by omega, by omega⟩, rfl⟩

/-- The text that marks number k, its digits behind what is there already. -/
def markL : Nat → Nat → List UInt8 → List UInt8
  | 0, _, l => l
  | f + 1, k, l => if k = 0 then l else markL f (k / 10) (UInt8.ofNat (48 + k % 10) :: l)
def markT (k : Nat) : ByteArray := str (109 :: markL k k [])

/-- 'string([]byte{x})'. -/
theorem conv_one {P : Program} (w : World) (src dst e t : TypeId) (hs : P.underlying src = some (.slice e)) (he : P.underlying e = some (.int .u8)) (hd : P.underlying dst = some .string) (x : Int) (u : UInt8) (hx : x = (u.toNat : Int)) :
    (convert src dst (.slice (some ⟨w.heap.size, 0, none⟩) 1 1)).run P (w.alloc (.cells #[.int .u8 x] t)) = .ok (.string (str [u])) (w.alloc (.cells #[.int .u8 x] t)) := by
  refine string_of (l := [u]) (lo := w.heap.size) (hi := w.heap.size + 1) ⟨rfl, by show _ ≤ (w.alloc (.cells #[.int .u8 x] t)).heap.size; simp, fun _ => ⟨w.heap.size, 0, rfl, Nat.le_refl _, Nat.lt_succ_self _, fun i hi => ?_⟩⟩ src dst e 1 hs he hd
  obtain rfl : i = 0 := by simp at hi; omega
  subst hx
  simp [cellB]
theorem str_cons (u : UInt8) (l : List UInt8) : str [u] ++ str l = str (u :: l) := by
  apply ByteArray.ext
  simp [str]
theorem str_size' (l : List UInt8) : (str l).size = l.length := rfl
theorem markL_zero (f : Nat) (l : List UInt8) : markL f 0 l = l := by cases f <;> simp [markL]

set_option maxHeartbeats 400000 in
theorem markText_any (k : Nat) (w : World) (h0 : 1 ≤ k) (h1 : k ≤ 4194304) :
    Calls Tryd.prog 48 #[.int .i64 (k : Int)] w fun e w' => e = .returned (.string (markT k)) ∧ Below w.heap.size w w' := by
  go_enter Tryd.func48, Tryd.ntmps48
  go_wp2_with fail
  go_loopw [0, 3] (fun t o wr => ∃ (f j : Nat) (l : List UInt8), t = .int .i64 (j : Int) ∧ o = .string (str l) ∧ j ≤ f ∧ j ≤ k ∧ markL k k [] = markL f j l ∧ l.length + j ≤ k ∧ Below w.heap.size w wr) (fun t _ _ => (intOf t).toNat)
  case atStart => exact ⟨k, k, [], rfl, rfl, Nat.le_refl _, Nat.le_refl _, rfl, by simp, Below.refl _ _⟩
  case round =>
    obtain ⟨f, j, l, rfl, rfl, hf, hjk, hm, hl, hbel⟩ := hrel
    have HM := hide hm
    clear hm
    have hls := str_size' l
    by_cases hj : 0 < j
    · obtain ⟨u, hu⟩ : ∃ u : UInt8, u = UInt8.ofNat (48 + j % 10) := ⟨_, rfl⟩
      have hst := conv_one (P := Tryd.prog) wr 52 9 5 5 Tryd.underlying52 Tryd.underlying5 Tryd.underlying9 (48 + (j : Int) % 10) u (by rw [hu]; simp; omega)
      have hls1 : (str [u]).size = 1 := rfl
      have HU := hide hu
      clear hu
      have HB := hide (hbel.alloc hbel.size (.cells #[.int .u8 (48 + (j : Int) % 10)] 5))
      clear hbel
      go_wp2_with fail
      go_roundw
      case rel =>
        refine ⟨f - 1, j / 10, u :: l, by go_num, by rw [str_cons], by omega, by omega, ?_, by simp; omega, HB.out⟩
        rw [HM.out]
        obtain ⟨g, rfl⟩ : ∃ g, f = g + 1 := ⟨f - 1, by omega⟩
        rw [HU.out]
        simp [markL, show j ≠ 0 by omega]
      case measure => simp [intOf]; omega
    · obtain rfl : j = 0 := by omega
      go_wp2_with fail
      go_ret
      exact ⟨ret_str (by unfold markT; rw [HM.out, markL_zero]; exact str_cons 109 l), hbel⟩

theorem markText_to (k : Nat) (x : Int) (hx : x = (k : Int)) (h0 : 1 ≤ k) (h1 : k ≤ 4194304) (w : World) :
    Calls Tryd.prog 48 #[.int .i64 x] w fun e w' => e = .returned (.string (markT k)) ∧ Below w.heap.size w w' := by subst hx; exact markText_any k w h0 h1
theorem aside_new {lo hi : Nat} {w w' : World} (h : Below w.heap.size w w') : Aside lo hi w w' := ⟨h.os, h.tape, h.output, h.size, fun k hk _ => h.block k hk⟩
/-- The texts that mark the numbers from m on. -/
def marksT (m n : Nat) : List ByteArray := (List.range n).map fun i => markT (m + i)
theorem marksT_length (m n : Nat) : (marksT m n).length = n := by simp [marksT]
theorem marksT_at (m n i : Nat) (h : i < n) : cellT (marksT m n) i = .string (markT (m + i)) := by
  unfold cellT marksT
  rw [List.getD_eq_getElem?_getD, List.getElem?_map, List.getElem?_range h]; rfl
theorem markT_step (xs : List ByteArray) (m k j : Nat) : (if j = k then Value.string (markT (m + k)) else if j < k then .string (markT (m + j)) else cellT xs j) = (if j < k + 1 then .string (markT (m + j)) else cellT xs j) := by
  by_cases h1 : j = k
  · subst h1; simp
  · by_cases h2 : j < k
    · simp [h1, h2, show j < k + 1 by omega]
    · simp [h1, h2, show ¬ j < k + 1 by omega]

set_option maxHeartbeats 400000 in
/-- Marks are written into what is owned. -/
theorem markTS_any (a : Option Addr) (n cap : Nat) (xs : List ByteArray) (m : Nat) (w : World) {lo hi : Nat} (h : OwnTexts lo hi w a n xs) (hn : n ≤ 1048576) (m0 : 1 ≤ m) (m1 : m ≤ 1048577) :
    Calls Tryd.prog 30 #[.slice a n cap, .int .i64 (m : Int)] w fun e w' => e = .returned (.int .i64 ((m + n : Nat) : Int)) ∧ OwnTexts lo hi w' a n (marksT m n) ∧ Aside lo hi w w' := by
  obtain ⟨hl, hx⟩ := h
  have HL : Hid (xs.length = n) := hl
  clear hl
  go_enter Tryd.func30, Tryd.ntmps30
  go_wp2_with fail
  go_loopw [1, 5] (fun t i wr => ∃ k : Nat, k ≤ n ∧ i = .int .i64 k ∧ t = .int .i64 ((m + k : Nat) : Int) ∧ Owned lo hi wr a n (fun i => if i < k then .string (markT (m + i)) else cellT xs i) ∧ Aside lo hi w wr) (fun _ i _ => n - (intOf i).toNat)
  case atStart => exact ⟨0, Nat.zero_le _, rfl, by simp, hx.congr (fun _ _ => by simp), Aside.refl _ _ _⟩
  case round =>
    obtain ⟨k, hk, rfl, rfl, hrow, hasd⟩ := hrel
    have hhi := hrow.1
    have HX := hide hx
    clear hx
    by_cases hlt : k < n
    · have HR0 := hide hrow
      have HA0 := hide hasd
      clear hrow hasd
      go_wp2_with fail
      refine (markText_to (m + k) _ (by omega) (by omega) (by omega) wr).mono ?_
      rintro e w2 ⟨rfl, b2⟩
      have hrow := HR0.out.later b2 hhi
      have hasd := HA0.out.trans (aside_new b2)
      obtain ⟨b, off, rfl, hb1, hb2, hc⟩ := hrow.2 (by omega)
      obtain ⟨hco, hfo⟩ := hc k hlt
      simp only [Nat.lt_irrefl, if_false, cellT] at hco
      have HR := hide ((hrow.set hlt (.string (markT (m + k)))).congr (g := fun i => if i < k + 1 then .string (markT (m + i)) else cellT xs i) (fun j hj => markT_step xs m k j))
      have HB := hide (hasd.setCell (p := ⟨b, off + k, none⟩) hb1 hb2 (.string (markT (m + k))))
      clear hrow hasd hc HR0 HA0 b2
      go_wp2_with fail
      go_roundw
      case rel => exact ⟨k + 1, by omega, by go_num, by go_num, HR.out, HB.out⟩
      case measure => simp [intOf]; omega
    · obtain rfl : k = n := by omega
      go_wp2_with fail
      go_ret
      exact ⟨rfl, ⟨marksT_length m k, hrow.congr (fun i hi => by rw [if_pos hi, marksT_at m k i hi])⟩, hasd⟩

set_option maxHeartbeats 400000 in
/-- They are held as long as they read as marks. -/
theorem heldTS_any (a : Option Addr) (n cap : Nat) (m : Nat) (w : World) {lo hi : Nat} (h : Texts lo hi w a n (marksT m n)) (hn : n ≤ 1048576) (m0 : 1 ≤ m) (m1 : m ≤ 1048577) :
    Calls Tryd.prog 31 #[.slice a n cap, .int .i64 (m : Int)] w fun e w' => e = .returned (.int .i64 ((m + n : Nat) : Int)) ∧ Below w.heap.size w w' := by
  obtain ⟨_, hsz, hx⟩ := h
  go_enter Tryd.func31, Tryd.ntmps31
  go_wp2_with fail
  go_loopw [1, 5] (fun t i wr => ∃ k : Nat, k ≤ n ∧ i = .int .i64 k ∧ t = .int .i64 ((m + k : Nat) : Int) ∧ Below w.heap.size w wr) (fun _ i _ => n - (intOf i).toNat)
  case atStart => exact ⟨0, Nat.zero_le _, rfl, by simp, Below.refl _ _⟩
  case round =>
    obtain ⟨k, hk, rfl, rfl, hbel⟩ := hrel
    by_cases hlt : k < n
    · obtain ⟨b, off, rfl, _, hb, hc⟩ := hx (by omega)
      have hck : wr.cell? ⟨b, off + k, none⟩ = some (.string (markT (m + k))) := (hbel.cell (p := ⟨b, off + k, none⟩) (by show b < _; omega)).trans (by rw [hc k hlt, marksT_at m n k hlt])
      have HW : Hid (b < wr.heap.size) := by have := hbel.size; show b < _; omega
      have HBB := hide hbel
      have HCK := hide hck
      clear hc hx hbel
      have e0 := text_same (markT (m + k))
      go_wp2_with fail
      go_region_with (go_at_call 48; refine (markText_to (m + k) _ (by omega) (by omega) (by omega) _).mono ?_; rintro e w2 ⟨rfl, b2⟩; have hck2 := (b2.cell (p := ⟨b, off + k, none⟩) HW.out).trans HCK.out; have HB2 := hide (below_here (show Below w.heap.size w wr.drew from HBB.out.drew) b2); clear b2)
      all_goals go_wp2_with fail
      all_goals exact ⟨⟨k + 1, by omega, by go_num, by go_num, HB2.out⟩, by simp [intOf]; omega⟩
    · obtain rfl : k = n := by omega
      go_wp2_with fail
      go_ret
      exact ⟨rfl, hbel⟩
end Go.Proofs.YthldcfiemfccpaaDoor
end

section
namespace Go.Proofs.YthldcfiemfccpaaDoor
open Go.RowKit
set_option linter.unusedVariables false
set_option maxRecDepth 20000

/-- What a look at the room answers: nothing left, or just what is left behind so much. -/
def Left (L : Int) (z : Nat) (e : Ending) : Prop := ∃ r : Int, e = .returned (.int .i64 r) ∧ -1 ≤ r ∧ r ≤ L ∧ (0 ≤ r → r = L - (z : Int))

set_option maxHeartbeats 800000 in
theorem szTL_any (a : Option Addr) (n cap : Nat) (xs : List ByteArray) (L : Int) (w : World) {lo hi : Nat} (h : Texts lo hi w a n xs) (hn : n ≤ maxLen) (hxs : ∀ s ∈ xs, s.size ≤ maxLen) (hL0 : 0 ≤ L) (hL1 : L ≤ 1048576) :
    Calls Tryd.prog 14 #[.slice a n cap, .int .i64 L] w fun e w' => Left L (n + total xs) e ∧ w = w' := by
  obtain ⟨hl, hsz, hx⟩ := h
  unfold maxLen at hn hxs
  have HL : Hid (xs.length = n) := hl
  have HX := hide hxs
  clear hl hxs
  by_cases hb : (n : Int) ≤ L
  · go_enter Tryd.func14, Tryd.ntmps14
    go_wp2
    go_loop [1, 5] (fun t i => ∃ k : Nat, k ≤ n ∧ i = .int .i64 k ∧ (n : Int) + (total (xs.take k) : Int) ≤ L ∧ t = .int .i64 (L - (n : Int) - (total (xs.take k) : Int))) (fun _ i => n - (intOf i).toNat)
    case atStart => exact ⟨0, Nat.zero_le _, rfl, by simp [total]; omega, by simp [total]⟩
    case round =>
      obtain ⟨k, hk, rfl, htot, rfl⟩ := hrel
      by_cases hlt : k < n
      · obtain ⟨b, off, rfl, _, hb1, hc⟩ := hx (by omega)
        have hck : w.cell? ⟨b, off + k, none⟩ = some (.string (xs.getD k ByteArray.empty)) := hc k hlt
        clear hc hx
        have HT : Hid (total (xs.take (k + 1)) = total (xs.take k) + (xs.getD k ByteArray.empty).size) := total_take xs k (by rw [HL.out]; exact hlt)
        have hz9 : (xs.getD k ByteArray.empty).size ≤ 9223372036854775807 := by
          refine Nat.le_trans (HX.out _ ?_) (by omega)
          rw [List.getD_eq_getElem?_getD, List.getElem?_eq_getElem (by rw [HL.out]; exact hlt)]
          exact List.getElem_mem _
        obtain ⟨z, hz⟩ : ∃ z, z = xs.getD k ByteArray.empty := ⟨_, rfl⟩
        rw [← hz] at hck hz9 HT
        clear hz
        generalize total (xs.take k) = q at *
        by_cases h0 : (n : Int) + (q : Int) + (z.size : Int) ≤ L
        · go_wp2
          go_round
          case rel => exact ⟨k + 1, by omega, by go_num, by rw [HT.out]; omega, by rw [HT.out]; go_num⟩
          case measure => simp [intOf]; omega
        · go_wp2
          go_ret
          exact ⟨⟨-1, rfl, by omega, by omega, by omega⟩, rfl⟩
      · have HW : Hid (total (xs.take k) = total xs) := by show _ = _; rw [List.take_of_length_le (by rw [HL.out]; omega)]
        generalize total (xs.take k) = q at *
        go_wp2
        go_ret
        exact ⟨⟨_, rfl, by omega, by omega, fun _ => by have := HW.out; omega⟩, rfl⟩
  · go_enter Tryd.func14, Tryd.ntmps14
    go_wp2
    go_ret
    exact ⟨⟨-1, rfl, by omega, by omega, by omega⟩, rfl⟩

def weight (qs : List Sq) : Nat := (qs.map fun q => q.1.length + total q.1).sum
theorem weight_take (qs : List Sq) (k : Nat) (h : k < qs.length) : weight (qs.take (k + 1)) = weight (qs.take k) + ((sqAt qs k).1.length + total (sqAt qs k).1) := by
  unfold weight sqAt
  rw [List.take_succ_eq_append_getElem h, List.map_append, List.sum_append, List.getD_eq_getElem?_getD, List.getElem?_eq_getElem h]
  simp
theorem sq_fits {qs : List Sq} {k : Nat} (h : ∀ x ∈ qs, sqFits x) (hk : k < qs.length) : sqFits (sqAt qs k) := by
  unfold sqAt
  rw [List.getD_eq_getElem?_getD, List.getElem?_eq_getElem hk]
  exact h _ (List.getElem_mem hk)

/-- A Chip behind which there is room: all of it is small. -/
theorem left_small {z : Nat} {r : Int} (h : 0 ≤ r → r = 1048576 - (z : Int)) (h0 : 0 ≤ r) : z ≤ 1048576 := by
  have := h h0; omega
end Go.Proofs.YthldcfiemfccpaaDoor
end

section
namespace Go.Proofs.YthldcfiemfccpaaDoor
open Go.RowKit
set_option linter.unusedVariables false
set_option maxRecDepth 20000

/-- Squares whose memory is one's own: the row lies in block g, the Pages of number i in block P i. -/
structure OwnSqs (lo hi : Nat) (w : World) (a : Option Addr) (n : Nat) (qs : List Sq) (g off : Nat) (A : Nat → Option Addr) (C P : Nat → Nat) : Prop where
  len : qs.length = n
  row : Owned g (g + 1) w a (3 * n) (cellQ A C qs)
  addr : 0 < n → a = some ⟨g, off, none⟩
  pages : ∀ i, i < n → OwnTexts (P i) (P i + 1) w (A i) (sqAt qs i).1.length (sqAt qs i).1
  room : ∀ i, i < n → (sqAt qs i).1.length ≤ C i
  atG : lo ≤ g ∧ g < hi
  atP : ∀ i, i < n → lo ≤ P i ∧ P i < hi
  apartG : ∀ i, i < n → 0 < (sqAt qs i).1.length → P i ≠ g
  apartP : ∀ i j, i < n → j < n → i ≠ j → 0 < (sqAt qs i).1.length → 0 < (sqAt qs j).1.length → P i ≠ P j
  top : hi ≤ w.heap.size
def OwnSquares (lo hi : Nat) (w : World) (a : Option Addr) (n : Nat) (qs : List Sq) : Prop := ∃ g off A C P, OwnSqs lo hi w a n qs g off A C P

theorem reads_wide {lo hi lo' hi' n : Nat} {w : World} {a : Option Addr} {f : Nat → Value} (h : Reads lo hi w a n f) (h1 : lo' ≤ lo) (h2 : hi ≤ hi') (h3 : hi' ≤ w.heap.size) : Reads lo' hi' w a n f :=
  ⟨h3, fun hn => by obtain ⟨b, off, e, h4, h5, h6⟩ := h.2 hn; exact ⟨b, off, e, by omega, by omega, h6⟩⟩
theorem OwnSqs.squares {lo hi n g off : Nat} {w : World} {a : Option Addr} {qs : List Sq} {A : Nat → Option Addr} {C P : Nat → Nat} (h : OwnSqs lo hi w a n qs g off A C P) : Squares lo hi w a n qs :=
  ⟨h.len, A, C, reads_wide h.row.reads h.atG.1 (by have := h.atG.2; omega) h.top, fun i hi => ⟨rfl, reads_wide (h.pages i hi).2.reads (h.atP i hi).1 (by have := (h.atP i hi).2; omega) h.top⟩⟩
theorem OwnSquares.squares {lo hi n : Nat} {w : World} {a : Option Addr} {qs : List Sq} (h : OwnSquares lo hi w a n qs) : Squares lo hi w a n qs := by
  obtain ⟨g, off, A, C, P, h⟩ := h
  exact h.squares
theorem OwnSqs.later {lo hi n g off B : Nat} {w w' : World} {a : Option Addr} {qs : List Sq} {A : Nat → Option Addr} {C P : Nat → Nat} (h : OwnSqs lo hi w a n qs g off A C P) (hb : Below B w w') (hB : hi ≤ B) : OwnSqs lo hi w' a n qs g off A C P :=
  ⟨h.len, h.row.later hb (by have := h.atG.2; omega), h.addr, fun i hi => (h.pages i hi).later hb (by have := (h.atP i hi).2; omega), h.room, h.atG, h.atP, h.apartG, h.apartP, Nat.le_trans h.top hb.size⟩
theorem OwnSquares.later {lo hi n B : Nat} {w w' : World} {a : Option Addr} {qs : List Sq} (h : OwnSquares lo hi w a n qs) (hb : Below B w w') (hB : hi ≤ B) : OwnSquares lo hi w' a n qs := by
  obtain ⟨g, off, A, C, P, h⟩ := h
  exact ⟨g, off, A, C, P, h.later hb hB⟩
/-- Texts of one's own lie in one block (where there are none, in whichever one likes). -/
theorem texts_block {lo hi n : Nat} {w : World} {a : Option Addr} {ts : List ByteArray} (h : OwnTexts lo hi w a n ts) (Q : Nat) (hQ : Q < w.heap.size) : ∃ P, (0 < n → lo ≤ P ∧ P < hi) ∧ (¬ 0 < n → P = Q) ∧ OwnTexts P (P + 1) w a n ts := by
  by_cases hn : 0 < n
  · obtain ⟨b, off, e, h1, h2, h3⟩ := h.2.2 hn
    exact ⟨b, fun _ => ⟨h1, h2⟩, fun h' => absurd hn h', h.1, by have := h.2.1; omega, fun _ => ⟨b, off, e, Nat.le_refl _, Nat.lt_succ_self _, h3⟩⟩
  · exact ⟨Q, fun h' => absurd h' hn, fun _ => rfl, h.1, by omega, fun h' => absurd h' hn⟩
theorem texts_aside {P n lo hi : Nat} {w w' : World} {a : Option Addr} {ts : List ByteArray} (h : OwnTexts P (P + 1) w a n ts) (hb : Aside lo hi w w') (hB : 0 < n → P < lo ∨ hi ≤ P) : OwnTexts P (P + 1) w' a n ts := by
  by_cases hn : 0 < n
  · exact h.aside hb (by have := hB hn; omega)
  · exact ⟨h.1, Nat.le_trans h.2.1 hb.size, fun h' => absurd h' hn⟩
theorem three_cells {W : World} {b : Nat} {c0 c1 c2 : Value} {t : TypeId} {fr : Nat × Nat} (h : W.heap[b]? = some (.cells #[c0, c1, c2] t fr)) :
    W.cell? ⟨b, 0, none⟩ = some c0 ∧ W.cell? ⟨b, 1, none⟩ = some c1 ∧ W.cell? ⟨b, 2, none⟩ = some c2 := by
  simp [World.cell?, h]
theorem three_set {W : World} {b : Nat} {c0 c1 c2 : Value} {t : TypeId} {fr : Nat × Nat} (h : W.heap[b]? = some (.cells #[c0, c1, c2] t fr)) (v0 v1 v2 : Value) :
    (((W.setCell ⟨b, 0, none⟩ v0).setCell ⟨b, 1, none⟩ v1).setCell ⟨b, 2, none⟩ v2).heap[b]? = some (.cells #[v0, v1, v2] t fr) :=
  set_block (set_block (set_block h 0 v0 (by simp)) 1 v1 (by simp)) 2 v2 (by simp)
theorem set_other {W : World} {b k o : Nat} {x : Option Obj} (h : W.heap[b]? = x) (hne : k ≠ b) (u : Value) : (W.setCell ⟨k, o, none⟩ u).heap[b]? = x := by
  rw [Go.Deep.blk_setCell_other _ _ _ _ (by exact fun e => hne (by simpa using e.symm))]; exact h
theorem three_other {W : World} {b k : Nat} {x : Option Obj} (h : W.heap[b]? = x) (hne : k ≠ b) (v0 v1 v2 : Value) : (((W.setCell ⟨k, 0, none⟩ v0).setCell ⟨k, 1, none⟩ v1).setCell ⟨k, 2, none⟩ v2).heap[b]? = x :=
  set_other (set_other (set_other h hne v0) hne v1) hne v2
theorem three_aside {lo hi : Nat} {w W : World} {b : Nat} (h : Aside lo hi w W) (h1 : lo ≤ b) (h2 : b < hi) (v0 v1 v2 : Value) : Aside lo hi w (((W.setCell ⟨b, 0, none⟩ v0).setCell ⟨b, 1, none⟩ v1).setCell ⟨b, 2, none⟩ v2) :=
  ((h.setCell (p := ⟨b, 0, none⟩) h1 h2 v0).setCell (p := ⟨b, 1, none⟩) h1 h2 v1).setCell (p := ⟨b, 2, none⟩) h1 h2 v2

end Go.Proofs.YthldcfiemfccpaaDoor
end

section
namespace Go.Proofs.YthldcfiemfccpaaDoor
open Go.RowKit
set_option linter.unusedVariables false
set_option maxRecDepth 20000

/-- All texts are as long as the first, and no longer than 300 bytes. -/
def alikeB (ts : List ByteArray) : Bool := ts.all fun s => decide (s.size = (ts.getD 0 ByteArray.empty).size) && decide (s.size ≤ 300)
def columnsOk (ts : List ByteArray) : Bool := decide (1 ≤ ts.length) && decide (ts.length ≤ 8) && alikeB ts
theorem getD_mem {ts : List ByteArray} {k : Nat} (h : k < ts.length) : ts.getD k ByteArray.empty ∈ ts := by
  rw [List.getD_eq_getElem?_getD, List.getElem?_eq_getElem h]; exact List.getElem_mem _
theorem alikeB_iff {ts : List ByteArray} : alikeB ts = true ↔ ∀ k, k < ts.length → (ts.getD k ByteArray.empty).size = (ts.getD 0 ByteArray.empty).size ∧ (ts.getD k ByteArray.empty).size ≤ 300 := by
  unfold alikeB
  rw [List.all_eq_true]
  constructor
  · intro h k hk
    have := h _ (getD_mem hk)
    simpa using this
  · intro h s hs
    obtain ⟨k, hk, e⟩ := List.getElem_of_mem hs
    have := h k hk
    rw [List.getD_eq_getElem?_getD, List.getElem?_eq_getElem hk] at this
    simp only [Option.getD_some, e] at this
    simpa using this
theorem alikeB_no {ts : List ByteArray} {k : Nat} (hk : k < ts.length) (h : (ts.getD k ByteArray.empty).size ≠ (ts.getD 0 ByteArray.empty).size ∨ 300 < (ts.getD k ByteArray.empty).size) : alikeB ts = false := by
  cases e : alikeB ts
  · rfl
  · have := alikeB_iff.1 e k hk
    omega

end Go.Proofs.YthldcfiemfccpaaDoor
end

section
namespace Go.Proofs.YthldcfiemfccpaaDoor
open Go.RowKit
set_option linter.unusedVariables false
set_option maxRecDepth 20000

theorem step_appn {P : Program} {ops : Array Oper} {o : Oper} {a : Act} {w : World} {K : Act → World → Prop} {Q : Exit → Act → World → Prop} {E : Prop}
    (hg : o.guard = none) (s x : Operand) (t : TypeId) (hop : o.op = Op.call { callee := Callee.builtin Builtin.append, args := #[s, x], argTypes := #[t, t] })
    (v1 v2 v' : Value) (w' : World) (hs : a.eval s = v1) (hx : a.eval x = v2) (hrun : (Builtin.append_ #[t, t] o.type #[v1, v2]).run P w = .ok v' w')
    (hK : K (a.put o.dst v') w') : if Region.wanted o (yielded ops a.tmps) = true then Oper.wp P o a w K Q else E := by
  have hw : Region.wanted o (yielded ops a.tmps) = true := by simp [Region.wanted, hg]
  rw [if_pos hw]
  unfold Oper.wp
  simp [execOp, hop, resolve, invoke, builtin, hs, hx, hrun, Result.andThen]
  exact hK
theorem note_one {W : World} {b : Nat} {c0 : Value} {t : TypeId} {fr : Nat × Nat} (h : W.heap[b]? = some (.cells #[c0] t fr)) : W.cell? ⟨b, 0, none⟩ = some c0 := by simp [World.cell?, h]
theorem Tryd.infoStrN : (Tryd.prog.info? 9).map (fun i => (i.zero, i.size, i.bytes)) = some (some (.string ByteArray.empty), 1, 16) := by kernel_rfl
def TxOwn (B : Nat) (w : World) (v : Value) (ts : List ByteArray) : Prop := w.ownsRow B 9 1 v ts.length (ts.map Value.string)
theorem tx_form {B : Nat} {w : World} {v : Value} {ts : List ByteArray} (h : TxOwn B w v ts) : ∃ a c, v = .slice a ts.length c ∧ ts.length ≤ c := by
  rcases h.2 with ⟨rfl, h0⟩ | ⟨g, cap, cur, rfl, _, _, hc, _⟩
  · exact ⟨none, 0, by rw [h0], by omega⟩
  · exact ⟨_, cap, rfl, hc⟩
theorem tx_later {B : Nat} {w w' : World} {v : Value} {ts : List ByteArray} (h : TxOwn B w v ts) (hb : Below w.heap.size w w') : TxOwn B w' v ts := by
  refine ⟨h.1, ?_⟩
  rcases h.2 with h1 | ⟨g, cap, cur, e, h2, hg, h3⟩
  · exact .inl h1
  · exact .inr ⟨g, cap, cur, e, h2, (hb.block g (Array.getElem?_eq_some_iff.1 hg).1).trans hg, h3⟩
/-- Behind a store into a block of other elements. -/
theorem tx_set {B : Nat} {w : World} {v : Value} {ts : List ByteArray} (h : TxOwn B w v ts) {p o : Nat} {cs : Array Value} {T : TypeId} {fr : Nat × Nat} (hp : w.heap[p]? = some (.cells cs T fr)) (hT : T ≠ 9) (u : Value) : TxOwn B (w.setCell ⟨p, o, none⟩ u) v ts := by
  refine ⟨h.1, ?_⟩
  rcases h.2 with h1 | ⟨g, cap, cur, e, h2, hg, h3⟩
  · exact .inl h1
  · refine .inr ⟨g, cap, cur, e, h2, set_other hg (fun e' => ?_) u, h3⟩
    subst e'
    rw [hp] at hg
    simp only [Option.some.injEq, Obj.cells.injEq] at hg
    exact hT hg.2.1
theorem tx_texts {B : Nat} {w : World} {v : Value} {ts : List ByteArray} (h : TxOwn B w v ts) : ∃ a c, v = .slice a ts.length c ∧ ts.length ≤ c ∧ OwnTexts B w.heap.size w a ts.length ts := by
  rcases h.2 with ⟨rfl, h0⟩ | ⟨g, cap, cur, rfl, hB, hg, hc, hm, hs, ht⟩
  · exact ⟨none, 0, by rw [h0], by omega, rfl, Nat.le_refl _, fun hn => absurd h0 (by omega)⟩
  · refine ⟨_, cap, rfl, hc, rfl, Nat.le_refl _, fun hn => ⟨g, 0, rfl, hB, (Array.getElem?_eq_some_iff.1 hg).1, fun i hi => ?_⟩⟩
    have hl : ts.length * 1 = ts.length := Nat.mul_one _
    have e1 : cur.toList.take ts.length = ts.map Value.string := by rw [← hl]; exact ht
    have e2 : cur[i]? = some (Value.string (ts.getD i ByteArray.empty)) := by
      have h5 := congrArg (fun l : List Value => l[i]?) e1
      simp only [List.getElem?_take, hi, if_true, List.getElem?_map, Array.getElem?_toList] at h5
      rw [h5, List.getD_eq_getElem?_getD, List.getElem?_eq_getElem hi]
      rfl
    refine ⟨?_, by simp [World.frozen?, hg]⟩
    rw [Nat.zero_add]
    simp only [World.cell?, hg]
    exact e2
/-- One text more. -/
theorem tx_app {t : TypeId} (ht : Tryd.prog.underlying t = some (.slice 9)) {B : Nat} {w : World} {v : Value} {ts : List ByteArray} (ho : TxOwn B w v ts) (hB : B ≤ w.heap.size) {L : Nat} {x : ByteArray} (hL : w.heap[L]? = some (.cells #[.string x] 9)) (hn : ts.length ≤ 1048576) :
    ∃ v' w', (Builtin.append_ #[t, t] t #[v, .slice (some ⟨L, 0, none⟩) 1 1]).run Tryd.prog w = .ok v' w' ∧ TxOwn B w' v' (ts ++ [x]) ∧ w.grownBy w' v.ownBlock ∧ (v'.ownBlock = v.ownBlock ∨ v'.ownBlock = some w.heap.size) := by
  obtain ⟨i0, hi0, hz0, hz1, hz2⟩ := info_parts Tryd.infoStrN
  obtain ⟨v', w', h1, h2, h3, _, h5⟩ := run_append_own_at (P := Tryd.prog) w B t t 9 i0 (.string ByteArray.empty) 1 16 ht hi0 hz0 hz1 hz2 rfl (by decide) v ts.length (ts.map Value.string) ho ⟨L, 0, none⟩ 1 1 [.string x] rfl
    (fun j u hj => by
      have : j = 0 := by
        rcases j with _ | j
        · rfl
        · simp at hj
      subst this
      simp only [List.getElem?_cons_zero, Option.some.injEq] at hj
      subst hj
      simp [World.cell?, Addr.add, hL])
    (by intro u hu; simp only [List.mem_singleton] at hu; subst hu; rfl) (by unfold maxLen; omega) (by omega) hB
  refine ⟨v', w', h1, ?_, h3, h5⟩
  show World.ownsRow _ _ _ _ _ (ts ++ [x]).length ((ts ++ [x]).map Value.string)
  rw [List.length_append, List.map_append]
  exact h2
/-- Two rows of texts, each in a variable of its own. -/
def Duo (B pw pt : Nat) (ws ts : List ByteArray) (W : World) : Prop :=
  ∃ vw vt, W.heap[pw]? = some (.cells #[vw] 22) ∧ W.heap[pt]? = some (.cells #[vt] 22) ∧ TxOwn B W vw ws ∧ TxOwn B W vt ts ∧ (∀ k, vw.ownBlock = some k → vt.ownBlock ≠ some k) ∧ B ≤ pw ∧ B ≤ pt ∧ pw ≠ pt
/-- What else lies there stays. -/
structure Duof (B pw pt : Nat) (w w' : World) : Prop where
  below : Below B w w'
  other : ∀ (k : Nat) (cs : Array Value) (T : TypeId) (fr : Nat × Nat), k ≠ pw → k ≠ pt → T ≠ 9 → w.heap[k]? = some (.cells cs T fr) → w'.heap[k]? = some (.cells cs T fr)
theorem Duof.trans {B pw pt : Nat} {w w1 w2 : World} (h : Duof B pw pt w w1) (k : Duof B pw pt w1 w2) : Duof B pw pt w w2 := ⟨h.below.trans k.below, fun q cs T fr h1 h2 h3 h4 => k.other q cs T fr h1 h2 h3 (h.other q cs T fr h1 h2 h3 h4)⟩
theorem Duof.swap {B pw pt : Nat} {w w1 : World} (h : Duof B pw pt w w1) : Duof B pt pw w w1 := ⟨h.below, fun q cs T fr h1 h2 => h.other q cs T fr h2 h1⟩
theorem Duof.refl (B pw pt : Nat) (w : World) : Duof B pw pt w w := ⟨Below.refl _ _, fun _ _ _ _ _ _ _ h => h⟩
theorem Duof.on {B pw pt : Nat} {w w1 w2 : World} (h : Duof B pw pt w w1) (hb : Below w1.heap.size w1 w2) (hB : B ≤ w1.heap.size) : Duof B pw pt w w2 := ⟨h.below.trans (hb.mono hB), fun q cs T fr h1 h2 h3 h4 => block_on (h.other q cs T fr h1 h2 h3 h4) hb⟩
theorem Duo.swap {B pw pt : Nat} {ws ts : List ByteArray} {W : World} (h : Duo B pw pt ws ts W) : Duo B pt pw ts ws W := by
  obtain ⟨vw, vt, h1, h2, h3, h4, h5, h6, h7, h8⟩ := h
  exact ⟨vt, vw, h2, h1, h4, h3, fun k e e' => h5 k e' e, h7, h6, fun e => h8 e.symm⟩
theorem Duo.on {B pw pt : Nat} {ws ts : List ByteArray} {W W' : World} (h : Duo B pw pt ws ts W) (hb : Below W.heap.size W W') : Duo B pw pt ws ts W' := by
  obtain ⟨vw, vt, h1, h2, h3, h4, h5, h6, h7, h8⟩ := h
  exact ⟨vw, vt, block_on h1 hb, block_on h2 hb, tx_later h3 hb, tx_later h4 hb, h5, h6, h7, h8⟩
theorem Duo.size {B pw pt : Nat} {ws ts : List ByteArray} {W : World} (h : Duo B pw pt ws ts W) : B ≤ W.heap.size := by
  obtain ⟨vw, vt, h1, h2, h3, h4, h5, h6, h7, h8⟩ := h
  have := (Array.getElem?_eq_some_iff.1 h1).1
  omega
theorem own_type {B : Nat} {w : World} {v : Value} {ts : List ByteArray} (h : TxOwn B w v ts) {p : Nat} {cs : Array Value} {T : TypeId} {fr : Nat × Nat} (hp : w.heap[p]? = some (.cells cs T fr)) (hT : T ≠ 9) : some p ≠ v.ownBlock := by
  intro e
  rcases h.2 with ⟨e1, _⟩ | ⟨g, cap, cur, e1, h2, hg, h3⟩
  · rw [e1] at e; cases e
  · rw [e1] at e
    have e' : some p = some g := e
    simp only [Option.some.injEq] at e'
    subst e'
    rw [hp] at hg
    simp only [Option.some.injEq, Obj.cells.injEq] at hg
    exact hT hg.2.1
/-- One text more in the first row. -/
theorem duo_app {B pw pt : Nat} {ws ts : List ByteArray} {W W1 : World} (hT : 22 ≠ 9) (h : Duo B pw pt ws ts W) (hb : Below W.heap.size W W1) {vw : Value} (hv : W.heap[pw]? = some (.cells #[vw] 22)) {x : ByteArray} (hn : ws.length ≤ 1048576) :
    ∃ a' c' w', (Builtin.append_ #[22, 22] 22 #[vw, .slice (some ⟨W1.heap.size, 0, none⟩) 1 1]).run Tryd.prog (W1.alloc (.cells #[.string x] 9)) = .ok (.slice a' (ws ++ [x]).length c') w' ∧ w'.heap[pw]? = some (.cells #[vw] 22) ∧ Duo B pw pt (ws ++ [x]) ts (w'.setCell ⟨pw, 0, none⟩ (.slice a' (ws ++ [x]).length c')) ∧ Duof B pw pt W (w'.setCell ⟨pw, 0, none⟩ (.slice a' (ws ++ [x]).length c')) := by
  have hb2 : Below W.heap.size W (W1.alloc (.cells #[.string x] 9)) := hb.alloc hb.size _
  have hB := h.size
  obtain ⟨vw', vt, h1, h2, h3, h4, h5, h6, h7, h8⟩ := h
  have e : vw' = vw := by rw [h1] at hv; simpa using hv
  subst e
  obtain ⟨W2, hW2⟩ : ∃ W2, W2 = W1.alloc (.cells #[.string x] 9) := ⟨_, rfl⟩
  have hL : W2.heap[W1.heap.size]? = some (.cells #[.string x] 9) := by rw [hW2]; exact heap_new _ _
  rw [← hW2] at hb2 ⊢
  have hs2 := hb2.size
  have k1 := block_on h1 hb2
  have k2 := block_on h2 hb2
  have k3 := tx_later h3 hb2
  have k4 := tx_later h4 hb2
  obtain ⟨v', w', r1, r2, r3, r4⟩ := tx_app (t := 22) Tryd.underlying22 k3 (by omega) hL hn
  have q1 : w'.heap[pw]? = some (.cells #[vw'] 22) := (r3.block pw (Array.getElem?_eq_some_iff.1 k1).1 (own_type k3 k1 hT)).trans k1
  have q2 : w'.heap[pt]? = some (.cells #[vt] 22) := (r3.block pt (Array.getElem?_eq_some_iff.1 k2).1 (own_type k3 k2 hT)).trans k2
  have q4 : TxOwn B w' vt ts := World.ownsRow.kept k4 r3 (by
    cases hvt : vt.ownBlock with
    | none => exact .inl rfl
    | some g => exact .inr (fun e => h5 g e.symm hvt))
  have qs : B ≤ w'.heap.size := Nat.le_trans (by omega) r3.size
  obtain ⟨a', c', e', _⟩ := tx_form r2
  subst e'
  refine ⟨a', c', w', r1, q1, ⟨_, vt, ?_, set_other q2 h8 _, tx_set r2 q1 hT _, tx_set q4 q1 hT _, ?_, h6, h7, h8⟩, ?_, ?_⟩
  · have := set_block q1 0 (.slice a' (ws ++ [x]).length c') (by simp)
    simpa using this
  · intro k e1 e2
    rcases r4 with e | e
    · exact h5 k (e.symm.trans e1) e2
    · rw [e] at e1
      simp only [Option.some.injEq] at e1
      have := (World.ownsRow.lt k4 k e2).2
      omega
  · have hgw : Below B W w' := (hb2.mono hB).grown r3 (by omega) (fun k hk => (World.ownsRow.lt k3 k hk).1)
    exact hgw.setCell (p := ⟨pw, 0, none⟩) h6 _
  · intro k cs T fr n1 n2 n3 hk
    have hk2 := block_on hk hb2
    have : w'.heap[k]? = some (.cells cs T fr) := (r3.block k (Array.getElem?_eq_some_iff.1 hk2).1 (own_type k3 hk2 n3)).trans hk2
    exact set_other this (fun e => n1 e.symm) _
end Go.Proofs.YthldcfiemfccpaaDoor
end

section
namespace Go.Proofs.YthldcfiemfccpaaDoor
open Go.RowKit
set_option linter.unusedVariables false
set_option maxRecDepth 20000
set_option maxHeartbeats 800000 in
theorem szT_from (a : Option Addr) (n cap : Nat) (xs : List ByteArray) (L : Int) (w : World) {lo hi : Nat} (h : Texts lo hi w a n xs) (hn : n ≤ maxLen) (hxs : ∀ s ∈ xs, s.size ≤ maxLen) (hL0 : 0 ≤ L) (hL : L ≤ 1048576) :
    Calls Tryd.prog 14 #[.slice a n cap, .int .i64 L] w fun e w' => (∃ r : Int, e = .returned (.int .i64 r) ∧ -1 ≤ r ∧ r ≤ 1048576 ∧ (0 ≤ r → r = L - (n : Int) - (total xs : Int))) ∧ w = w' := by
  obtain ⟨hl, hsz, hx⟩ := h
  unfold maxLen at hn hxs
  have HL : Hid (xs.length = n) := hl
  have HX := hide hxs
  clear hl hxs
  by_cases hb : (n : Int) ≤ L
  · go_enter Tryd.func14, Tryd.ntmps14
    go_wp2
    go_loop [1, 5] (fun t i => ∃ k : Nat, k ≤ n ∧ i = .int .i64 k ∧ (n : Int) + (total (xs.take k) : Int) ≤ L ∧ t = .int .i64 (L - (n : Int) - (total (xs.take k) : Int))) (fun _ i => n - (intOf i).toNat)
    case atStart => exact ⟨0, Nat.zero_le _, rfl, by simp [total]; omega, by simp [total]⟩
    case round =>
      obtain ⟨k, hk, rfl, htot, rfl⟩ := hrel
      by_cases hlt : k < n
      · obtain ⟨b, off, rfl, _, hb1, hc⟩ := hx (by omega)
        have hck : w.cell? ⟨b, off + k, none⟩ = some (.string (xs.getD k ByteArray.empty)) := hc k hlt
        clear hc hx
        have HT : Hid (total (xs.take (k + 1)) = total (xs.take k) + (xs.getD k ByteArray.empty).size) := total_take xs k (by rw [HL.out]; exact hlt)
        have hz9 : (xs.getD k ByteArray.empty).size ≤ 9223372036854775807 := by
          refine Nat.le_trans (HX.out _ ?_) (by omega)
          rw [List.getD_eq_getElem?_getD, List.getElem?_eq_getElem (by rw [HL.out]; exact hlt)]
          exact List.getElem_mem _
        have HTL : Hid (total (xs.take (k + 1)) ≤ total xs) := by
          show _ ≤ _
          unfold total
          conv => rhs; rw [← List.take_append_drop (k + 1) xs, List.map_append, List.sum_append]
          omega
        obtain ⟨z, hz⟩ : ∃ z, z = xs.getD k ByteArray.empty := ⟨_, rfl⟩
        rw [← hz] at hck hz9 HT
        clear hz
        generalize total (xs.take k) = q at *
        by_cases h0 : (n : Int) + (q : Int) + (z.size : Int) ≤ L
        · go_wp2
          go_round
          case rel => exact ⟨k + 1, by omega, by go_num, by rw [HT.out]; omega, by rw [HT.out]; go_num⟩
          case measure => simp [intOf]; omega
        · go_wp2
          go_ret
          exact ⟨⟨-1, rfl, by omega, by omega, by omega⟩, rfl⟩
      · have HW : Hid (total (xs.take k) = total xs) := by show _ = _; rw [List.take_of_length_le (by rw [HL.out]; omega)]
        generalize total (xs.take k) = q at *
        go_wp2
        go_ret
        exact ⟨⟨_, rfl, by omega, by omega, fun _ => by have := HW.out; omega⟩, rfl⟩
  · go_enter Tryd.func14, Tryd.ntmps14
    go_wp2
    go_ret
    exact ⟨⟨-1, rfl, by omega, by omega, by omega⟩, rfl⟩

set_option maxHeartbeats 800000 in
theorem markTS_from (a : Option Addr) (n cap : Nat) (xs : List ByteArray) (m : Nat) (w : World) {lo hi : Nat} (h : OwnTexts lo hi w a n xs) (hn : n ≤ 1048576) (m0 : 1 ≤ m) (m1 : m + n ≤ 4194304) :
    Calls Tryd.prog 30 #[.slice a n cap, .int .i64 (m : Int)] w fun e w' => e = .returned (.int .i64 ((m + n : Nat) : Int)) ∧ OwnTexts lo hi w' a n (marksT m n) ∧ Aside lo hi w w' := by
  obtain ⟨hl, hx⟩ := h
  have HL : Hid (xs.length = n) := hl
  clear hl
  go_enter Tryd.func30, Tryd.ntmps30
  go_wp2_with fail
  go_loopw [1, 5] (fun t i wr => ∃ k : Nat, k ≤ n ∧ i = .int .i64 k ∧ t = .int .i64 ((m + k : Nat) : Int) ∧ Owned lo hi wr a n (fun i => if i < k then .string (markT (m + i)) else cellT xs i) ∧ Aside lo hi w wr) (fun _ i _ => n - (intOf i).toNat)
  case atStart => exact ⟨0, Nat.zero_le _, rfl, by simp, hx.congr (fun _ _ => by simp), Aside.refl _ _ _⟩
  case round =>
    obtain ⟨k, hk, rfl, rfl, hrow, hasd⟩ := hrel
    have hhi := hrow.1
    have HX := hide hx
    clear hx
    by_cases hlt : k < n
    · have HR0 := hide hrow
      have HA0 := hide hasd
      clear hrow hasd
      go_wp2_with fail
      refine (markText_to (m + k) _ (by omega) (by omega) (by omega) wr).mono ?_
      rintro e w2 ⟨rfl, b2⟩
      have hrow := HR0.out.later b2 hhi
      have hasd := HA0.out.trans (aside_new b2)
      obtain ⟨b, off, rfl, hb1, hb2, hc⟩ := hrow.2 (by omega)
      obtain ⟨hco, hfo⟩ := hc k hlt
      simp only [Nat.lt_irrefl, if_false, cellT] at hco
      have HR := hide ((hrow.set hlt (.string (markT (m + k)))).congr (g := fun i => if i < k + 1 then .string (markT (m + i)) else cellT xs i) (fun j hj => markT_step xs m k j))
      have HB := hide (hasd.setCell (p := ⟨b, off + k, none⟩) hb1 hb2 (.string (markT (m + k))))
      clear hrow hasd hc HR0 HA0 b2
      go_wp2_with fail
      go_roundw
      case rel => exact ⟨k + 1, by omega, by go_num, by go_num, HR.out, HB.out⟩
      case measure => simp [intOf]; omega
    · obtain rfl : k = n := by omega
      go_wp2_with fail
      go_ret
      exact ⟨rfl, ⟨marksT_length m k, hrow.congr (fun i hi => by rw [if_pos hi, marksT_at m k i hi])⟩, hasd⟩

end Go.Proofs.YthldcfiemfccpaaDoor
end

