/- Several texts in one: TextWalk, ChipSz, ChipOwn. -/
import Derived.Test.YtkbhcdkfjniafaaGreatDoorRows
import Derived.Test.YtkbhcdkfjniafaaGreatDoorFTextBase
import Derived.Test.YtkbhcdkfjniafaaGreatDoorFBytesBase
import Derived.Test.YtkbhcdkfjniafaaGreatDoorFTextEq
import Derived.Deep.QuietTactic
import Derived.BigQuiet
import Derived.RegionTactic
import Derived.BigRegion
import Derived.Deep.RegionWith
import Derived.Test.YtkbhcdkfjniafaaGreatDoorFBase
section
namespace Go.Proofs.YtkbhcdkfjniafaaGreatDoor
open Go.RowKit
set_option linter.unusedVariables false
set_option maxRecDepth 20000
theorem Tryz.infoStr : (Tryz.prog.info? 9).map (fun i => (i.zero, i.size, i.bytes)) = some (some (.string ByteArray.empty), 1, 16) := by kernel_rfl
theorem takeT_step {xs ys : List ByteArray} {n k : Nat} (hx : xs.length = n) (hy : ys.length = n) (hk : k < n) (ht : xs.take k = ys.take k) (he : xs.getD k ByteArray.empty = ys.getD k ByteArray.empty) : xs.take (k + 1) = ys.take (k + 1) := by
 rw [List.getD_eq_getElem?_getD, List.getD_eq_getElem?_getD, List.getElem?_eq_getElem (by omega), List.getElem?_eq_getElem (by omega)] at he
 simp only [Option.getD_some] at he
 rw [List.take_succ_eq_append_getElem (by omega), List.take_succ_eq_append_getElem (by omega), ht, he]
theorem takeT_fall {xs ys : List ByteArray} {k : Nat} (he : xs.getD k ByteArray.empty ≠ ys.getD k ByteArray.empty) : decide (xs = ys) = false := by
 simp; intro e; subst e; exact he rfl
theorem takeT_whole {xs ys : List ByteArray} {n k : Nat} (hx : xs.length = n) (hy : ys.length = n) (hk : n <= k) (ht : xs.take k = ys.take k) : decide (xs = ys) = true := by
 rw [List.take_of_length_le (by omega), List.take_of_length_le (by omega)] at ht
 simpa using ht
set_option maxHeartbeats 400000 in
theorem eqT_any (a : Option Addr) (n cap : Nat) (xs : List ByteArray) (a' : Option Addr) (n' cap' : Nat) (ys : List ByteArray) (w : World) {lo hi lo' hi' : Nat} (h : Texts lo hi w a n xs) (h' : Texts lo' hi' w a' n' ys) (hn : n <= 1048576) (hn' : n' <= 1048576) :
  Calls Tryz.prog 279 #[.slice a n cap, .slice a' n' cap'] w fun e w' => e = .returned (.bool (decide (xs = ys))) ∧ Below w.heap.size w w' := by
 obtain ⟨hl, hsz, hx⟩ := h
 obtain ⟨hl', hsz', hx'⟩ := h'
 have HL : Hid (xs.length = n) := hl
 have HL' : Hid (ys.length = n') := hl'
 clear hl hl'
 by_cases he : n = n'
 ·subst he
  go_enter Tryz.func279, Tryz.ntmps279
  go_wp2
  go_loopw [5] (fun i wr => ∃ k : Nat, k <= n ∧ i = .int .i64 k ∧ xs.take k = ys.take k ∧ Below w.heap.size w wr) (fun i _ => n - (intOf i).toNat)
  case atStart => exact ⟨0, Nat.zero_le _, rfl, rfl, Below.refl _ _⟩
  case round =>
   obtain ⟨k, hk, rfl, hall, hbel⟩ := hrel
   have HA : Hid (xs.take k = ys.take k) := hall
   clear hall
   by_cases hlt : k < n
   ·obtain ⟨b, off, rfl, _, hb, hc⟩ := hx (by omega)
    obtain ⟨b', off', rfl, _, hb', hc'⟩ := hx' (by omega)
    have hck : wr.cell? ⟨b, off + k, none⟩ = some (.string (xs.getD k ByteArray.empty)) := (hbel.cell (p := ⟨b, off + k, none⟩) (by show b < _; omega)).trans (hc k hlt)
    have hck' : wr.cell? ⟨b', off' + k, none⟩ = some (.string (ys.getD k ByteArray.empty)) := (hbel.cell (p := ⟨b', off' + k, none⟩) (by show b' < _; omega)).trans (hc' k hlt)
    clear hc hx hc' hx'
    obtain ⟨z, hz⟩ : ∃ z, z = xs.getD k ByteArray.empty := ⟨_, rfl⟩
    rw [<- hz] at hck
    have HZ : Hid (z = xs.getD k ByteArray.empty) := hz
    clear hz
    obtain ⟨y, hy⟩ : ∃ z, z = ys.getD k ByteArray.empty := ⟨_, rfl⟩
    rw [<- hy] at hck'
    have HY : Hid (y = ys.getD k ByteArray.empty) := hy
    clear hy
    by_cases h0 : z = y
    ·subst h0
     have e0 := text_same z
     go_wp2
     go_quiet (fail)
     go_wp2
     go_roundw
     case rel => exact ⟨k + 1, by omega, by go_num, takeT_step HL.out HL'.out hlt HA.out (HZ.out.symm.trans HY.out), below_drewN hbel _⟩
     case measure => simp [intOf]; omega
    ·have e0 := text_other h0
     go_wp2
     go_quiet (fail)
     go_wp2
     go_ret
     exact ⟨ret_bool (takeT_fall (k := k) (by rw [<- HZ.out, <- HY.out]; exact h0)).symm, below_drewN hbel _⟩
   ·go_wp2
    go_ret
    exact ⟨ret_bool (takeT_whole HL.out HL'.out (by omega) HA.out).symm, hbel⟩
 ·have e0 : ((n : Int) == (n' : Int)) = false := by simp; omega
  have e1 : ((n : Int) != (n' : Int)) = true := by simp; omega
  go_enter Tryz.func279, Tryz.ntmps279
  go_wp2
  go_ret
  exact ⟨ret_bool (by simp; intro e; subst e; exact he (HL.out.symm.trans HL'.out)), Below.refl _ _⟩
theorem rowT_step (xs : List ByteArray) (k j : Nat) (v : Value) (hv : v = cellT xs k) : (if j = k then v else if j < k then cellT xs j else .string ByteArray.empty) = (if j < k + 1 then cellT xs j else .string ByteArray.empty) := by
 by_cases h1 : j = k
 ·subst h1; simp [hv]
 ·by_cases h2 : j < k
  ·simp [h1, h2, show j < k + 1 by omega]
  ·simp [h1, h2, show ¬ j < k + 1 by omega]
set_option maxHeartbeats 400000 in
theorem toT_any (a : Option Addr) (n cap : Nat) (xs : List ByteArray) (w : World) {lo hi : Nat} (h : Texts lo hi w a n xs) (hn : n <= 1048576) :
  Calls Tryz.prog 278 #[.slice a n cap] w fun e w' => ∃ a', e = .returned (.slice a' n n) ∧ OwnTexts w.heap.size w'.heap.size w' a' n xs ∧ Below w.heap.size w w' := by
 obtain ⟨hl, hsz, hx⟩ := h
 have HL : Hid (xs.length = n) := hl
 clear hl
 have hmk := run_make_row' (P := Tryz.prog) 40 9 (.string ByteArray.empty) 16 Tryz.underlying40 Tryz.infoStr rfl .i64 .i64 n (by omega) (by omega)
 go_enter Tryz.func278, Tryz.ntmps278
 go_wp2
 go_loopw [4] (fun i wr => ∃ k : Nat, k <= n ∧ i = .int .i64 k ∧ wr.rowIs w.heap.size 9 n (fun i => if i < k then cellT xs i else .string ByteArray.empty) ∧ Below w.heap.size w wr) (fun i _ => n - (intOf i).toNat)
 case atStart => exact ⟨0, Nat.zero_le _, rfl, (World.rowIs_made w (.string ByteArray.empty) n 9).congr (fun _ _ => by simp), (Below.refl _ _).alloc (Nat.le_refl _) _⟩
 case round =>
  obtain ⟨k, hk, rfl, hrow, hbel⟩ := hrel
  by_cases hlt : k < n
  ·obtain ⟨b, off, rfl, _, hb, hc⟩ := hx (by omega)
   have hck : wr.cell? ⟨b, off + k, none⟩ = some (.string (xs.getD k ByteArray.empty)) := (hbel.cell (p := ⟨b, off + k, none⟩) (by show b < _; omega)).trans (hc k hlt)
   clear hc hx
   obtain ⟨z, hz⟩ : ∃ z, z = xs.getD k ByteArray.empty := ⟨_, rfl⟩
   rw [<- hz] at hck
   have HZ : Hid (z = xs.getD k ByteArray.empty) := hz
   clear hz
   have hco := hrow.cell hlt
   have hfo := hrow.frozen k
   have hR := (hrow.set k (.string z)).congr (g := fun i => if i < k + 1 then cellT xs i else .string ByteArray.empty) (fun j hj => rowT_step xs k j _ (by rw [HZ.out]; rfl))
   have hB := hbel.setCell (p := ⟨w.heap.size, k, none⟩) (Nat.le_refl _) (.string z)
   have HR := hide (hR)
   have HB := hide (hB)
   clear hR hB hrow hbel
   go_wp2
   go_roundw
   case rel => exact ⟨k + 1, by omega, by go_num, HR.out, HB.out⟩
   case measure => simp [intOf]; omega
  ·go_wp2
   go_ret
   have hs := hrow.lt
   exact ⟨_, rfl, ⟨HL.out, owned_of_row (hrow.congr (fun i hi => if_pos (by omega))) (Nat.le_refl _) hs (Nat.le_refl _)⟩, hbel⟩
def total (ts : List ByteArray) : Nat := (ts.map (·.size)).sum
theorem total_take (ts : List ByteArray) (k : Nat) (h : k < ts.length) : total (ts.take (k + 1)) = total (ts.take k) + (ts.getD k ByteArray.empty).size := by
 unfold total
 rw [List.take_succ_eq_append_getElem h, List.getD_eq_getElem?_getD, List.getElem?_eq_getElem h, List.map_append, List.sum_append]
 rfl
def markL : Nat -> Nat -> List UInt8 -> List UInt8
 | 0, _, l => l
 | f + 1, k, l => if k = 0 then l else markL f (k / 10) (UInt8.ofNat (48 + k % 10) :: l)
def markT (k : Nat) : ByteArray := str (109 :: markL k k [])
theorem conv_one {P : Program} (w : World) (src dst e t : TypeId) (hs : P.underlying src = some (.slice e)) (he : P.underlying e = some (.int .u8)) (hd : P.underlying dst = some .string) (x : Int) (u : UInt8) (hx : x = (u.toNat : Int)) :
  (convert src dst (.slice (some ⟨w.heap.size, 0, none⟩) 1 1)).run P (w.alloc (.cells #[.int .u8 x] t)) = .ok (.string (str [u])) (w.alloc (.cells #[.int .u8 x] t)) := by
 refine string_of (l := [u]) (lo := w.heap.size) (hi := w.heap.size + 1) ⟨rfl, by show _ <= (w.alloc (.cells #[.int .u8 x] t)).heap.size; simp, fun _ => ⟨w.heap.size, 0, rfl, Nat.le_refl _, Nat.lt_succ_self _, fun i hi => ?_⟩⟩ src dst e 1 hs he hd
 obtain rfl : i = 0 := by simp at hi; omega
 subst hx
 simp [cellB]
theorem str_cons (u : UInt8) (l : List UInt8) : str [u] ++ str l = str (u :: l) := by
 apply ByteArray.ext
 simp [str]
theorem str_size' (l : List UInt8) : (str l).size = l.length := rfl
theorem markL_zero (f : Nat) (l : List UInt8) : markL f 0 l = l := by cases f <;> simp [markL]
set_option maxHeartbeats 400000 in
theorem markText_any (k : Nat) (w : World) (h0 : 1 <= k) (h1 : k <= 4194304) :
  Calls Tryz.prog 194 #[.int .i64 (k : Int)] w fun e w' => e = .returned (.string (markT k)) ∧ Below w.heap.size w w' := by
 go_enter Tryz.func194, Tryz.ntmps194
 go_wp2_with fail
 go_loopw [0, 3] (fun t o wr => ∃ (f j : Nat) (l : List UInt8), t = .int .i64 (j : Int) ∧ o = .string (str l) ∧ j <= f ∧ j <= k ∧ markL k k [] = markL f j l ∧ l.length + j <= k ∧ Below w.heap.size w wr) (fun t _ _ => (intOf t).toNat)
 case atStart => exact ⟨k, k, [], rfl, rfl, Nat.le_refl _, Nat.le_refl _, rfl, by simp, Below.refl _ _⟩
 case round =>
  obtain ⟨f, j, l, rfl, rfl, hf, hjk, hm, hl, hbel⟩ := hrel
  have HM := hide hm
  clear hm
  have hls := str_size' l
  by_cases hj : 0 < j
  ·obtain ⟨u, hu⟩ : ∃ u : UInt8, u = UInt8.ofNat (48 + j % 10) := ⟨_, rfl⟩
   have hst := conv_one (P := Tryz.prog) wr 22 9 5 5 Tryz.underlying22 Tryz.underlying5 Tryz.underlying9 (48 + (j : Int) % 10) u (by rw [hu]; simp; omega)
   have hls1 : (str [u]).size = 1 := rfl
   have HU := hide hu
   clear hu
   have HB := hide (hbel.alloc hbel.size (.cells #[.int .u8 (48 + (j : Int) % 10)] 5))
   clear hbel
   go_wp2_with fail
   go_roundw
   case rel =>
    refine ⟨f - 1, j / 10, u :: l, by go_num, by rw [str_cons], by omega, by omega, ?_, by simp; omega, HB.out⟩
    rw [HM.out]
    obtain ⟨g, rfl⟩ : ∃ g, f = g + 1 := ⟨f - 1, by omega⟩
    rw [HU.out]
    simp [markL, show j ≠ 0 by omega]
   case measure => simp [intOf]; omega
  ·obtain rfl : j = 0 := by omega
   go_wp2_with fail
   go_ret
   exact ⟨ret_str (by unfold markT; rw [HM.out, markL_zero]; exact str_cons 109 l), hbel⟩
theorem markText_to (k : Nat) (x : Int) (hx : x = (k : Int)) (h0 : 1 <= k) (h1 : k <= 4194304) (w : World) :
  Calls Tryz.prog 194 #[.int .i64 x] w fun e w' => e = .returned (.string (markT k)) ∧ Below w.heap.size w w' := by subst hx; exact markText_any k w h0 h1
theorem aside_new {lo hi : Nat} {w w' : World} (h : Below w.heap.size w w') : Aside lo hi w w' := ⟨h.os, h.tape, h.output, h.size, fun k hk _ => h.block k hk⟩
def marksT (m n : Nat) : List ByteArray := (List.range n).map fun i => markT (m + i)
theorem marksT_length (m n : Nat) : (marksT m n).length = n := by simp [marksT]
theorem marksT_at (m n i : Nat) (h : i < n) : cellT (marksT m n) i = .string (markT (m + i)) := by
 unfold cellT marksT
 rw [List.getD_eq_getElem?_getD, List.getElem?_map, List.getElem?_range h]; rfl
theorem markT_step (xs : List ByteArray) (m k j : Nat) : (if j = k then Value.string (markT (m + k)) else if j < k then .string (markT (m + j)) else cellT xs j) = (if j < k + 1 then .string (markT (m + j)) else cellT xs j) := by
 by_cases h1 : j = k
 ·subst h1; simp
 ·by_cases h2 : j < k
  ·simp [h1, h2, show j < k + 1 by omega]
  ·simp [h1, h2, show ¬ j < k + 1 by omega]
end Go.Proofs.YtkbhcdkfjniafaaGreatDoor
end

section
namespace Go.Proofs.YtkbhcdkfjniafaaGreatDoor
open Go.RowKit
set_option linter.unusedVariables false
set_option maxRecDepth 20000
def Left (L : Int) (z : Nat) (e : Ending) : Prop := ∃ r : Int, e = .returned (.int .i64 r) ∧ -1 <= r ∧ r <= L ∧ (0 <= r -> r = L - (z : Int))
set_option maxHeartbeats 800000 in
theorem szTL_any (a : Option Addr) (n cap : Nat) (xs : List ByteArray) (L : Int) (w : World) {lo hi : Nat} (h : Texts lo hi w a n xs) (hn : n <= maxLen) (hxs : ∀ s ∈ xs, s.size <= maxLen) (hL0 : 0 <= L) (hL1 : L <= 1048576) :
  Calls Tryz.prog 277 #[.slice a n cap, .int .i64 L] w fun e w' => Left L (n + total xs) e ∧ w = w' := by
 obtain ⟨hl, hsz, hx⟩ := h
 unfold maxLen at hn hxs
 have HL : Hid (xs.length = n) := hl
 have HX := hide hxs
 clear hl hxs
 by_cases hb : (n : Int) <= L
 ·go_enter Tryz.func277, Tryz.ntmps277
  go_wp2
  go_loop [1, 5] (fun t i => ∃ k : Nat, k <= n ∧ i = .int .i64 k ∧ (n : Int) + (total (xs.take k) : Int) <= L ∧ t = .int .i64 (L - (n : Int) - (total (xs.take k) : Int))) (fun _ i => n - (intOf i).toNat)
  case atStart => exact ⟨0, Nat.zero_le _, rfl, by simp [total]; omega, by simp [total]⟩
  case round =>
   obtain ⟨k, hk, rfl, htot, rfl⟩ := hrel
   by_cases hlt : k < n
   ·obtain ⟨b, off, rfl, _, hb1, hc⟩ := hx (by omega)
    have hck : w.cell? ⟨b, off + k, none⟩ = some (.string (xs.getD k ByteArray.empty)) := hc k hlt
    clear hc hx
    have HT : Hid (total (xs.take (k + 1)) = total (xs.take k) + (xs.getD k ByteArray.empty).size) := total_take xs k (by rw [HL.out]; exact hlt)
    have hz9 : (xs.getD k ByteArray.empty).size <= 9223372036854775807 := by
     refine Nat.le_trans (HX.out _ ?_) (by omega)
     rw [List.getD_eq_getElem?_getD, List.getElem?_eq_getElem (by rw [HL.out]; exact hlt)]
     exact List.getElem_mem _
    obtain ⟨z, hz⟩ : ∃ z, z = xs.getD k ByteArray.empty := ⟨_, rfl⟩
    rw [<- hz] at hck hz9 HT
    clear hz
    generalize total (xs.take k) = q at *
    by_cases h0 : (n : Int) + (q : Int) + (z.size : Int) <= L
    ·go_wp2
     go_round
     case rel => exact ⟨k + 1, by omega, by go_num, by rw [HT.out]; omega, by rw [HT.out]; go_num⟩
     case measure => simp [intOf]; omega
    ·go_wp2
     go_ret
     exact ⟨⟨-1, rfl, by omega, by omega, by omega⟩, rfl⟩
   ·have HW : Hid (total (xs.take k) = total xs) := by show _ = _; rw [List.take_of_length_le (by rw [HL.out]; omega)]
    generalize total (xs.take k) = q at *
    go_wp2
    go_ret
    exact ⟨⟨_, rfl, by omega, by omega, fun _ => by have := HW.out; omega⟩, rfl⟩
 ·go_enter Tryz.func277, Tryz.ntmps277
  go_wp2
  go_ret
  exact ⟨⟨-1, rfl, by omega, by omega, by omega⟩, rfl⟩
set_option maxHeartbeats 800000 in
theorem szSquare_any (a : Option Addr) (n cap : Nat) (xs : List ByteArray) (z : Int) (b : Bool) (L : Int) (w : World) {lo hi : Nat} (h : Texts lo hi w a n xs) (hhi : hi <= w.heap.size) (hn : n <= maxLen) (hxs : ∀ s ∈ xs, s.size <= maxLen) (hL0 : 0 <= L) (hL1 : L <= 1048576) :
  Calls Tryz.prog 264 #[.agg #[.slice a n cap, .int .i64 z, .bool b], .int .i64 L] w fun e w' => Left L (n + total xs) e ∧ Below w.heap.size w w' := by
 have HB := hide ((Below.refl w.heap.size w).alloc (Nat.le_refl _) (.cells #[.slice a n cap, .int .i64 z, .bool b] 322))
 go_enter Tryz.func264, Tryz.ntmps264
 go_wp2_with fail
 refine (szTL_any a n cap xs L _ (h.later HB.out hhi) hn hxs hL0 hL1).mono ?_
 rintro e w1 ⟨⟨r, rfl, h1, h2, h3⟩, rfl⟩
 have H3 := hide h3
 clear h3
 by_cases h0 : r < 0
 ·go_wp2_with fail
  go_ret
  exact ⟨⟨-1, rfl, by omega, by omega, by omega⟩, HB.out⟩
 ·go_wp2_with fail
  go_ret
  exact ⟨⟨r, rfl, h1, h2, H3.out⟩, HB.out⟩
def weight (qs : List Sq) : Nat := (qs.map fun q => q.1.length + total q.1).sum
theorem weight_take (qs : List Sq) (k : Nat) (h : k < qs.length) : weight (qs.take (k + 1)) = weight (qs.take k) + ((sqAt qs k).1.length + total (sqAt qs k).1) := by
 unfold weight sqAt
 rw [List.take_succ_eq_append_getElem h, List.map_append, List.sum_append, List.getD_eq_getElem?_getD, List.getElem?_eq_getElem h]
 simp
theorem sq_fits {qs : List Sq} {k : Nat} (h : ∀ x ∈ qs, sqFits x) (hk : k < qs.length) : sqFits (sqAt qs k) := by
 unfold sqAt
 rw [List.getD_eq_getElem?_getD, List.getElem?_eq_getElem hk]
 exact h _ (List.getElem_mem hk)
set_option maxHeartbeats 1600000 in
theorem szSquareS_any (a : Option Addr) (n cap : Nat) (qs : List Sq) (L : Int) (w : World) {lo hi : Nat} (h : Squares lo hi w a n qs) (hhi : hi <= w.heap.size) (hn : n <= maxLen) (hfit : ∀ x ∈ qs, sqFits x) (hL0 : 0 <= L) (hL1 : L <= 1048576) :
  Calls Tryz.prog 236 #[.slice a n cap, .int .i64 L] w fun e w' => Left L (n + weight qs) e ∧ Below w.heap.size w w' := by
 obtain ⟨hl, A, C, hx, ht⟩ := h
 have HL := hide hl
 have HX := hide hx
 have HT := hide ht
 have HF := hide hfit
 unfold maxLen at hn
 clear hl hx ht hfit
 by_cases hb : (n : Int) <= L
 ·go_enter Tryz.func236, Tryz.ntmps236
  go_wp2_with fail
  go_loopw [1, 5] (fun t i wr => ∃ k : Nat, k <= n ∧ i = .int .i64 (k : Int) ∧ (n : Int) + (weight (qs.take k) : Int) <= L ∧ t = .int .i64 (L - (n : Int) - (weight (qs.take k) : Int)) ∧ Below w.heap.size w wr) (fun _ i _ => n - (intOf i).toNat)
  case atStart => exact ⟨0, Nat.zero_le _, rfl, by simp [weight]; omega, by simp [weight], Below.refl _ _⟩
  case round =>
   obtain ⟨k, hk, rfl, htot, rfl, hbel⟩ := hrel
   by_cases hlt : k < n
   ·obtain ⟨b, off, rfl, _, hb1, hc⟩ := HX.out.2 (by omega)
    have hbw : b < w.heap.size := by omega
    obtain ⟨c0, c1, c2⟩ := sq_cells hc hbel hbw hlt
    have HTX := hide ((HT.out k hlt).later hbel hhi)
    have HFK := hide (sq_fits HF.out (show k < qs.length by rw [HL.out]; exact hlt))
    have HWT := hide (weight_take qs k (by rw [HL.out]; exact hlt))
    clear hc
    generalize weight (qs.take k) = q at *
    generalize sqAt qs k = y at *
    obtain ⟨ts, z, bd⟩ := y
    have hL2 : 0 <= L - (n : Int) - (q : Int) := by omega
    go_wp2_with fail
    refine (szSquare_any (A k) ts.length (C k) ts z bd (L - (n : Int) - (q : Int)) wr HTX.out (by have := hbel.size; omega) HFK.out.2.1 HFK.out.1 hL2 (by omega)).mono ?_
    rintro e w2 ⟨⟨r, rfl, r1, r2, r3⟩, b2⟩
    have HR := hide r3
    have HB2 := hide (below_here hbel b2)
    clear r3 b2 hbel c0 c1 c2
    by_cases h0 : r < 0
    ·go_wp2_with fail
     go_ret
     exact ⟨⟨-1, rfl, by omega, by omega, by omega⟩, HB2.out⟩
    ·have hr : r = L - (n : Int) - (q : Int) - ((ts.length + total ts : Nat) : Int) := HR.out (by omega)
     go_wp2_with fail
     go_roundw
     case rel => exact ⟨k + 1, by omega, by go_num, by rw [HWT.out]; omega, by rw [HWT.out]; congr 1; omega, HB2.out⟩
     case measure => simp [intOf]; omega
   ·have HW : Hid (weight (qs.take k) = weight qs) := by show _ = _; rw [List.take_of_length_le (by rw [HL.out]; omega)]
    generalize weight (qs.take k) = q at *
    go_wp2_with fail
    go_ret
    exact ⟨⟨_, rfl, by omega, by omega, fun _ => by have := HW.out; omega⟩, hbel⟩
 ·go_enter Tryz.func236, Tryz.ntmps236
  go_wp2_with fail
  go_ret
  exact ⟨⟨-1, rfl, by omega, by omega, by omega⟩, Below.refl _ _⟩
set_option maxHeartbeats 800000 in
theorem szChip_any (z : Int) (a : Option Addr) (n cap : Nat) (qs : List Sq) (L : Int) (w : World) {lo hi : Nat} (h : Squares lo hi w a n qs) (hhi : hi <= w.heap.size) (hn : n <= maxLen) (hfit : ∀ x ∈ qs, sqFits x) (hL0 : 0 <= L) (hL1 : L <= 1048576) :
  Calls Tryz.prog 186 #[.agg #[.int .i64 z, .slice a n cap], .int .i64 L] w fun e w' => Left L (n + weight qs) e ∧ Below w.heap.size w w' := by
 have HB := hide ((Below.refl w.heap.size w).alloc (Nat.le_refl _) (.cells #[.int .i64 z, .slice a n cap] 88))
 go_enter Tryz.func186, Tryz.ntmps186
 go_wp2_with fail
 refine (szSquareS_any a n cap qs L _ (h.later HB.out hhi) (Nat.le_trans hhi HB.out.size) hn hfit hL0 hL1).mono ?_
 rintro e w1 ⟨⟨r, rfl, h1, h2, h3⟩, b1⟩
 have H3 := hide h3
 have HB1 := hide (below_here HB.out b1)
 clear h3 b1
 by_cases h0 : r < 0
 ·go_wp2_with fail
  go_ret
  exact ⟨⟨-1, rfl, by omega, by omega, by omega⟩, HB1.out⟩
 ·go_wp2_with fail
  go_ret
  exact ⟨⟨r, rfl, h1, h2, H3.out⟩, HB1.out⟩
end Go.Proofs.YtkbhcdkfjniafaaGreatDoor
end

section
namespace Go.Proofs.YtkbhcdkfjniafaaGreatDoor
open Go.RowKit
set_option linter.unusedVariables false
set_option maxRecDepth 20000
structure OwnSqs (lo hi : Nat) (w : World) (a : Option Addr) (n : Nat) (qs : List Sq) (g off : Nat) (A : Nat -> Option Addr) (C P : Nat -> Nat) : Prop where
 len : qs.length = n
 row : Owned g (g + 1) w a (3 * n) (cellQ A C qs)
 addr : 0 < n -> a = some ⟨g, off, none⟩
 pages : ∀ i, i < n -> OwnTexts (P i) (P i + 1) w (A i) (sqAt qs i).1.length (sqAt qs i).1
 room : ∀ i, i < n -> (sqAt qs i).1.length <= C i
 atG : lo <= g ∧ g < hi
 atP : ∀ i, i < n -> lo <= P i ∧ P i < hi
 apartG : ∀ i, i < n -> 0 < (sqAt qs i).1.length -> P i ≠ g
 apartP : ∀ i j, i < n -> j < n -> i ≠ j -> 0 < (sqAt qs i).1.length -> 0 < (sqAt qs j).1.length -> P i ≠ P j
 top : hi <= w.heap.size
def OwnSquares (lo hi : Nat) (w : World) (a : Option Addr) (n : Nat) (qs : List Sq) : Prop := ∃ g off A C P, OwnSqs lo hi w a n qs g off A C P
theorem reads_wide {lo hi lo' hi' n : Nat} {w : World} {a : Option Addr} {f : Nat -> Value} (h : Reads lo hi w a n f) (h1 : lo' <= lo) (h2 : hi <= hi') (h3 : hi' <= w.heap.size) : Reads lo' hi' w a n f :=
 ⟨h3, fun hn => by obtain ⟨b, off, e, h4, h5, h6⟩ := h.2 hn; exact ⟨b, off, e, by omega, by omega, h6⟩⟩
theorem OwnSqs.squares {lo hi n g off : Nat} {w : World} {a : Option Addr} {qs : List Sq} {A : Nat -> Option Addr} {C P : Nat -> Nat} (h : OwnSqs lo hi w a n qs g off A C P) : Squares lo hi w a n qs :=
 ⟨h.len, A, C, reads_wide h.row.reads h.atG.1 (by have := h.atG.2; omega) h.top, fun i hi => ⟨rfl, reads_wide (h.pages i hi).2.reads (h.atP i hi).1 (by have := (h.atP i hi).2; omega) h.top⟩⟩
theorem OwnSquares.squares {lo hi n : Nat} {w : World} {a : Option Addr} {qs : List Sq} (h : OwnSquares lo hi w a n qs) : Squares lo hi w a n qs := by
 obtain ⟨g, off, A, C, P, h⟩ := h
 exact h.squares
theorem OwnSqs.later {lo hi n g off B : Nat} {w w' : World} {a : Option Addr} {qs : List Sq} {A : Nat -> Option Addr} {C P : Nat -> Nat} (h : OwnSqs lo hi w a n qs g off A C P) (hb : Below B w w') (hB : hi <= B) : OwnSqs lo hi w' a n qs g off A C P :=
 ⟨h.len, h.row.later hb (by have := h.atG.2; omega), h.addr, fun i hi => (h.pages i hi).later hb (by have := (h.atP i hi).2; omega), h.room, h.atG, h.atP, h.apartG, h.apartP, Nat.le_trans h.top hb.size⟩
theorem OwnSquares.later {lo hi n B : Nat} {w w' : World} {a : Option Addr} {qs : List Sq} (h : OwnSquares lo hi w a n qs) (hb : Below B w w') (hB : hi <= B) : OwnSquares lo hi w' a n qs := by
 obtain ⟨g, off, A, C, P, h⟩ := h
 exact ⟨g, off, A, C, P, h.later hb hB⟩
theorem texts_block {lo hi n : Nat} {w : World} {a : Option Addr} {ts : List ByteArray} (h : OwnTexts lo hi w a n ts) (Q : Nat) (hQ : Q < w.heap.size) : ∃ P, (0 < n -> lo <= P ∧ P < hi) ∧ (¬ 0 < n -> P = Q) ∧ OwnTexts P (P + 1) w a n ts := by
 by_cases hn : 0 < n
 ·obtain ⟨b, off, e, h1, h2, h3⟩ := h.2.2 hn
  exact ⟨b, fun _ => ⟨h1, h2⟩, fun h' => absurd hn h', h.1, by have := h.2.1; omega, fun _ => ⟨b, off, e, Nat.le_refl _, Nat.lt_succ_self _, h3⟩⟩
 ·exact ⟨Q, fun h' => absurd h' hn, fun _ => rfl, h.1, by omega, fun h' => absurd h' hn⟩
theorem texts_aside {P n lo hi : Nat} {w w' : World} {a : Option Addr} {ts : List ByteArray} (h : OwnTexts P (P + 1) w a n ts) (hb : Aside lo hi w w') (hB : 0 < n -> P < lo ∨ hi <= P) : OwnTexts P (P + 1) w' a n ts := by
 by_cases hn : 0 < n
 ·exact h.aside hb (by have := hB hn; omega)
 ·exact ⟨h.1, Nat.le_trans h.2.1 hb.size, fun h' => absurd h' hn⟩
theorem three_cells {W : World} {b : Nat} {c0 c1 c2 : Value} {t : TypeId} {fr : Nat × Nat} (h : W.heap[b]? = some (.cells #[c0, c1, c2] t fr)) :
  W.cell? ⟨b, 0, none⟩ = some c0 ∧ W.cell? ⟨b, 1, none⟩ = some c1 ∧ W.cell? ⟨b, 2, none⟩ = some c2 := by
 simp [World.cell?, h]
theorem three_set {W : World} {b : Nat} {c0 c1 c2 : Value} {t : TypeId} {fr : Nat × Nat} (h : W.heap[b]? = some (.cells #[c0, c1, c2] t fr)) (v0 v1 v2 : Value) :
  (((W.setCell ⟨b, 0, none⟩ v0).setCell ⟨b, 1, none⟩ v1).setCell ⟨b, 2, none⟩ v2).heap[b]? = some (.cells #[v0, v1, v2] t fr) :=
 set_block (set_block (set_block h 0 v0 (by simp)) 1 v1 (by simp)) 2 v2 (by simp)
theorem set_other {W : World} {b k o : Nat} {x : Option Obj} (h : W.heap[b]? = x) (hne : k ≠ b) (u : Value) : (W.setCell ⟨k, o, none⟩ u).heap[b]? = x := by
 rw [Go.Deep.blk_setCell_other _ _ _ _ (by exact fun e => hne (by simpa using e.symm))]; exact h
theorem three_other {W : World} {b k : Nat} {x : Option Obj} (h : W.heap[b]? = x) (hne : k ≠ b) (v0 v1 v2 : Value) : (((W.setCell ⟨k, 0, none⟩ v0).setCell ⟨k, 1, none⟩ v1).setCell ⟨k, 2, none⟩ v2).heap[b]? = x :=
 set_other (set_other (set_other h hne v0) hne v1) hne v2
theorem three_aside {lo hi : Nat} {w W : World} {b : Nat} (h : Aside lo hi w W) (h1 : lo <= b) (h2 : b < hi) (v0 v1 v2 : Value) : Aside lo hi w (((W.setCell ⟨b, 0, none⟩ v0).setCell ⟨b, 1, none⟩ v1).setCell ⟨b, 2, none⟩ v2) :=
 ((h.setCell (p := ⟨b, 0, none⟩) h1 h2 v0).setCell (p := ⟨b, 1, none⟩) h1 h2 v1).setCell (p := ⟨b, 2, none⟩) h1 h2 v2
set_option maxHeartbeats 800000 in
theorem toSquare_any (a : Option Addr) (n cap : Nat) (ts : List ByteArray) (z : Int) (b : Bool) (w : World) {lo hi : Nat} (h : Texts lo hi w a n ts) (hhi : hi <= w.heap.size) (hn : n <= 1048576) :
  Calls Tryz.prog 265 #[.agg #[.slice a n cap, .int .i64 z, .bool b]] w fun e w' => ∃ (p : Option Addr) (P : Nat), e = .returned (.agg #[.slice p n n, .int .i64 z, .bool b]) ∧ OwnTexts P (P + 1) w' p n ts ∧ w.heap.size <= P ∧ P < w'.heap.size ∧ Below w.heap.size w w' := by
 obtain ⟨wA, hwA⟩ : ∃ wA, wA = ((w.alloc (.cells #[.slice a n cap, .int .i64 z, .bool b] 322)).alloc (.cells #[.slice none 0 0, .int .i64 0, .bool false] 42)).alloc (.cells #[.slice none 0 0, .int .i64 0, .bool false] 42) := ⟨_, rfl⟩
 have hzA : wA.heap.size = w.heap.size + 1 + 1 + 1 := by rw [hwA]; simp
 have HBA : Hid (Below w.heap.size w wA) := by rw [hwA]; exact ((((Below.refl _ _).alloc (Nat.le_refl _) _).alloc (by simp) _).alloc (by simp; omega) _)
 have H0 : Hid (wA.heap[w.heap.size]? = some (.cells #[.slice a n cap, .int .i64 z, .bool b] 322)) := by rw [hwA]; exact heap_old (heap_old (heap_new _ _))
 have H1 : Hid (wA.heap[w.heap.size + 1]? = some (.cells #[.slice none 0 0, .int .i64 0, .bool false] 42)) := by rw [hwA]; exact heap_old (heap_at (by simp))
 have H2 : Hid (wA.heap[w.heap.size + 1 + 1]? = some (.cells #[.slice none 0 0, .int .i64 0, .bool false] 42)) := by rw [hwA]; exact heap_at (by simp)
 have HTA := hide (h.later HBA.out hhi)
 go_enter Tryz.func265, Tryz.ntmps265
 go_wp2_with fail
 rw [<- hwA]
 clear hwA
 refine (toT_any a n cap ts wA HTA.out hn).mono ?_
 rintro e w1 ⟨p, rfl, hown, b1⟩
 have K0 := hide (block_on H0.out b1)
 have K1 := hide (block_on H1.out b1)
 have K2 := hide (block_on H2.out b1)
 have hs1 := b1.size
 obtain ⟨P, hP1, hP2, hP3⟩ := texts_block hown w.heap.size (by omega)
 have HB1 := hide (below_here HBA.out b1)
 obtain ⟨c0, c1, c2⟩ := three_cells K0.out
 obtain ⟨d0, d1, d2⟩ := three_cells K1.out
 obtain ⟨e0, e1, e2⟩ := three_cells K2.out
 have f0 := four_frozen K1.out 0
 have f1 := four_frozen K1.out 1
 have f2 := four_frozen K1.out 2
 have g0 := four_frozen K2.out 0
 have g1 := four_frozen K2.out 1
 have g2 := four_frozen K2.out 2
 have HP3 := hide hP3
 clear hown b1 H0 H1 H2 HTA hP3
 have HAS := hide (three_aside (b := w.heap.size + 1) (three_aside (b := w.heap.size + 1 + 1) (Aside.refl w.heap.size (w.heap.size + 3) w1) (by omega) (by omega) (.slice p n n) (.int .i64 z) (.bool b)) (by omega) (by omega) (.slice p n n) (.int .i64 z) (.bool b))
 have HRS := hide (three_set (three_other K1.out (show w.heap.size + 1 + 1 ≠ w.heap.size + 1 by omega) (.slice p n n) (.int .i64 z) (.bool b)) (.slice p n n) (.int .i64 z) (.bool b))
 clear K0 K1 K2
 go_wp2_with fail
 refine bodyPost_ret (results_cell rfl rfl (run_loadVar_row _ _ _ _ _ _ _ HRS.out Tryz.underlying42 rfl (by kernel_rfl))) rfl ⟨p, P, rfl, texts_aside HP3.out HAS.out (fun h' => .inr (by have := (hP1 h').1; omega)), ?_, ?_, HB1.out.trans (HAS.out.below (Nat.le_refl _) (by omega))⟩
 ·by_cases h' : 0 < n
  ·have := (hP1 h').1; omega
  ·rw [hP2 h']; exact Nat.le_refl _
 ·have := HAS.out.size
  by_cases h' : 0 < n
  ·have := (hP1 h').2; omega
  ·rw [hP2 h']; omega
end Go.Proofs.YtkbhcdkfjniafaaGreatDoor
end

