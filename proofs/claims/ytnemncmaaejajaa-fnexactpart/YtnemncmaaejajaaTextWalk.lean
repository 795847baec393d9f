/- The walks of the small functions that the exact laws go through, of slices of texts. -/
import Derived.Test.YtnemncmaaejajaaRows
import Derived.Test.YtnemncmaaejajaaTextBase
import Derived.Test.YtnemncmaaejajaaBytesBase
import Derived.Test.YtnemncmaaejajaaTextEq
import Derived.Deep.QuietTactic
import Derived.BigQuiet
import Derived.RegionTactic
import Derived.BigRegion
import Derived.Deep.RegionWith
namespace Go.Proofs.Ytnemncmaaejajaa
open Go.RowKit
set_option linter.unusedVariables false
set_option maxRecDepth 20000

theorem Try.infoStr : (Try.prog.info? 9).map (fun i => (i.zero, i.size, i.bytes)) = some (some (.string ByteArray.empty), 1, 16) := by kernel_rfl

theorem takeT_step {xs ys : List ByteArray} {n k : Nat} (hx : xs.length = n) (hy : ys.length = n) (hk : k < n) (ht : xs.take k = ys.take k) (he : xs.getD k ByteArray.empty = ys.getD k ByteArray.empty) : xs.take (k + 1) = ys.take (k + 1) := by
  rw [List.getD_eq_getElem?_getD, List.getD_eq_getElem?_getD, List.getElem?_eq_getElem (by omega), List.getElem?_eq_getElem (by omega)] at he
  simp only [Option.getD_some] at he
  rw [List.take_succ_eq_append_getElem (by omega), List.take_succ_eq_append_getElem (by omega), ht, he]
theorem takeT_fall {xs ys : List ByteArray} {k : Nat} (he : xs.getD k ByteArray.empty ≠ ys.getD k ByteArray.empty) : decide (xs = ys) = false := by
  simp; intro e; subst e; exact he rfl
theorem takeT_whole {xs ys : List ByteArray} {n k : Nat} (hx : xs.length = n) (hy : ys.length = n) (hk : n ≤ k) (ht : xs.take k = ys.take k) : decide (xs = ys) = true := by
  rw [List.take_of_length_le (by omega), List.take_of_length_le (by omega)] at ht
  simpa using ht

theorem rowT_step (xs : List ByteArray) (k j : Nat) (v : Value) (hv : v = cellT xs k) : (if j = k then v else if j < k then cellT xs j else .string ByteArray.empty) = (if j < k + 1 then cellT xs j else .string ByteArray.empty) := by
  by_cases h1 : j = k
  · subst h1; simp [hv]
  · by_cases h2 : j < k
    · simp [h1, h2, show j < k + 1 by omega]
    · simp [h1, h2, show ¬ j < k + 1 by omega]

/-- All bytes of the texts. -/
def total (ts : List ByteArray) : Nat := (ts.map (·.size)).sum
theorem total_take (ts : List ByteArray) (k : Nat) (h : k < ts.length) : total (ts.take (k + 1)) = total (ts.take k) + (ts.getD k ByteArray.empty).size := by
  unfold total
  rw [List.take_succ_eq_append_getElem h, List.getD_eq_getElem?_getD, List.getElem?_eq_getElem h, List.map_append, List.sum_append]
  rfl
theorem total_le {ts : List ByteArray} {s : ByteArray} (h : s ∈ ts) : s.size ≤ total ts := by
  unfold total
  induction ts with
  | nil => cases h
  | cons t ts ih =>
    rw [List.map_cons, List.sum_cons]
    rcases List.mem_cons.1 h with e | e
    · subst e; omega
    · have := ih e; omega

/-- The text that marks number k, its digits behind what is there already. -/
def markL : Nat → Nat → List UInt8 → List UInt8
  | 0, _, l => l
  | f + 1, k, l => if k = 0 then l else markL f (k / 10) (UInt8.ofNat (48 + k % 10) :: l)
def markT (k : Nat) : ByteArray := str (109 :: markL k k [])

/-- 'string([]byte{x})'. -/
theorem conv_one {P : Program} (w : World) (src dst e t : TypeId) (hs : P.underlying src = some (.slice e)) (he : P.underlying e = some (.int .u8)) (hd : P.underlying dst = some .string) (x : Int) (u : UInt8) (hx : x = (u.toNat : Int)) :
    (convert src dst (.slice (some ⟨w.heap.size, 0, none⟩) 1 1)).run P (w.alloc (.cells #[.int .u8 x] t)) = .ok (.string (str [u])) (w.alloc (.cells #[.int .u8 x] t)) := by
  refine string_of (l := [u]) (lo := w.heap.size) (hi := w.heap.size + 1) ⟨rfl, by show _ ≤ (w.alloc (.cells #[.int .u8 x] t)).heap.size; simp, fun _ => ⟨w.heap.size, 0, rfl, Nat.le_refl _, Nat.lt_succ_self _, fun i hi => ?_⟩⟩ src dst e 1 hs he hd
  obtain rfl : i = 0 := by simp at hi; omega
  subst hx
  simp [cellB]
theorem str_cons (u : UInt8) (l : List UInt8) : str [u] ++ str l = str (u :: l) := by
  apply ByteArray.ext
  simp [str]
theorem str_size' (l : List UInt8) : (str l).size = l.length := rfl
theorem markL_zero (f : Nat) (l : List UInt8) : markL f 0 l = l := by cases f <;> simp [markL]

set_option maxHeartbeats 400000 in
theorem markText_any (k : Nat) (w : World) (h0 : 1 ≤ k) (h1 : k ≤ 16777216) :
    Calls Try.prog 43 #[.int .i64 (k : Int)] w fun e w' => e = .returned (.string (markT k)) ∧ Below w.heap.size w w' := by
  go_enter Try.func43, Try.ntmps43
  go_wp2_with fail
  go_loopw [0, 3] (fun t o wr => ∃ (f j : Nat) (l : List UInt8), t = .int .i64 (j : Int) ∧ o = .string (str l) ∧ j ≤ f ∧ j ≤ k ∧ markL k k [] = markL f j l ∧ l.length + j ≤ k ∧ Below w.heap.size w wr) (fun t _ _ => (intOf t).toNat)
  case atStart => exact ⟨k, k, [], rfl, rfl, Nat.le_refl _, Nat.le_refl _, rfl, by simp, Below.refl _ _⟩
  case round =>
    obtain ⟨f, j, l, rfl, rfl, hf, hjk, hm, hl, hbel⟩ := hrel
    have HM := hide hm
    clear hm
    have hls := str_size' l
    by_cases hj : 0 < j
    · obtain ⟨u, hu⟩ : ∃ u : UInt8, u = UInt8.ofNat (48 + j % 10) := ⟨_, rfl⟩
      have hst := conv_one (P := Try.prog) wr 79 9 5 5 Try.underlying79 Try.underlying5 Try.underlying9 (48 + (j : Int) % 10) u (by rw [hu]; simp; omega)
      have hls1 : (str [u]).size = 1 := rfl
      have HU := hide hu
      clear hu
      have HB := hide (hbel.alloc hbel.size (.cells #[.int .u8 (48 + (j : Int) % 10)] 5))
      clear hbel
      go_wp2_with fail
      go_roundw
      case rel =>
        refine ⟨f - 1, j / 10, u :: l, by go_num, by rw [str_cons], by omega, by omega, ?_, by simp; omega, HB.out⟩
        rw [HM.out]
        obtain ⟨g, rfl⟩ : ∃ g, f = g + 1 := ⟨f - 1, by omega⟩
        rw [HU.out]
        simp [markL, show j ≠ 0 by omega]
      case measure => simp [intOf]; omega
    · obtain rfl : j = 0 := by omega
      go_wp2_with fail
      go_ret
      exact ⟨ret_str (by unfold markT; rw [HM.out, markL_zero]; exact str_cons 109 l), hbel⟩

theorem markText_to (k : Nat) (x : Int) (hx : x = (k : Int)) (h0 : 1 ≤ k) (h1 : k ≤ 16777216) (w : World) :
    Calls Try.prog 43 #[.int .i64 x] w fun e w' => e = .returned (.string (markT k)) ∧ Below w.heap.size w w' := by subst hx; exact markText_any k w h0 h1
theorem aside_new {lo hi : Nat} {w w' : World} (h : Below w.heap.size w w') : Aside lo hi w w' := ⟨h.os, h.tape, h.output, h.size, fun k hk _ => h.block k hk⟩
/-- The texts that mark the numbers from m on. -/
def marksT (m n : Nat) : List ByteArray := (List.range n).map fun i => markT (m + i)
theorem marksT_length (m n : Nat) : (marksT m n).length = n := by simp [marksT]
theorem marksT_at (m n i : Nat) (h : i < n) : cellT (marksT m n) i = .string (markT (m + i)) := by
  unfold cellT marksT
  rw [List.getD_eq_getElem?_getD, List.getElem?_map, List.getElem?_range h]; rfl
theorem markT_step (xs : List ByteArray) (m k j : Nat) : (if j = k then Value.string (markT (m + k)) else if j < k then .string (markT (m + j)) else cellT xs j) = (if j < k + 1 then .string (markT (m + j)) else cellT xs j) := by
  by_cases h1 : j = k
  · subst h1; simp
  · by_cases h2 : j < k
    · simp [h1, h2, show j < k + 1 by omega]
    · simp [h1, h2, show ¬ j < k + 1 by omega]

end Go.Proofs.Ytnemncmaaejajaa
