/- The walks of chapter 6's program: what is kept, which places, a text's clone, what a spare holds of the lost, the lost texts, Rebuilt. -/
import Derived.Test.YtbgjagmnpfcfaakSpareImplB2
import Derived.Test.YtbgjagmnpfcfaakMendMath
import Derived.Test.YtbgjagmnpfcfaakReadBase
import Derived.Lib.Strings
import Derived.Lib.Walk
import Derived.Lib.BufferWrite
import Derived.Lib.UnsafeStr
import Derived.Test.YtbgjagmnpfcfaakSolveImpl
import Derived.Test.YtbgjagmnpfcfaakQuietTail
import Derived.Test.YtbgjagmnpfcfaakSpareImplB
import Derived.Test.YtbgjagmnpfcfaakSpareImplC
namespace Go.Proofs.Ytbgjagmnpfcfaak
open Go.RowKit
set_option linter.unusedVariables false
set_option linter.unusedSimpArgs false
set_option maxRecDepth 20000

theorem one_newM (w : World) (v : Value) (t : Nat) : Reads w.heap.size (w.heap.size + 1) (w.alloc (.cells #[v] t)) (some ⟨w.heap.size, 0, none⟩) 1 (fun _ => v) := by
  have hb : (w.alloc (.cells #[v] t)).heap[w.heap.size]? = some (.cells #[v] t (0, 0)) := by
    show (w.heap.push _)[w.heap.size]? = _
    simp
  refine ⟨by simp, fun _ => ⟨w.heap.size, 0, rfl, Nat.le_refl _, Nat.lt_succ_self _, fun i hi => ?_⟩⟩
  obtain rfl : i = 0 := by omega
  simp only [World.cell?, Nat.zero_add, hb]
  rfl
theorem Try.sizeInts : (Try.prog.info? 3).map (·.size) = some 1 := by kernel_rfl
theorem Try.infoInts : (Try.prog.info? 3).map (fun i => (i.zero, i.size, i.bytes)) = some (some (.int .i64 0), 1, 8) := by kernel_rfl
theorem Try.sizeStrs : (Try.prog.info? 9).map (·.size) = some 1 := by kernel_rfl
/-- Places whose flag is so. -/
def placesL (bs : List Bool) (fl : Bool) (n : Nat) : List Nat := (List.range n).filter fun i => bs.getD i false == fl
theorem placesL_succ (bs : List Bool) (fl : Bool) (k : Nat) : placesL bs fl (k + 1) = placesL bs fl k ++ (if bs.getD k false == fl then [k] else []) := by
  unfold placesL
  rw [List.range_succ, List.filter_append]
  congr 1
  by_cases h : (bs.getD k false == fl) = true
  · rw [if_pos h, List.filter_cons_of_pos (p := fun i => bs.getD i false == fl) h]; rfl
  · rw [if_neg h, List.filter_cons_of_neg (p := fun i => bs.getD i false == fl) h]; rfl
theorem placesL_le (bs : List Bool) (fl : Bool) (k : Nat) : (placesL bs fl k).length ≤ k := by
  have := List.length_filter_le (fun i => bs.getD i false == fl) (List.range k)
  simpa [placesL] using this
theorem getD_leftN {l r : List Nat} {k : Nat} (h : k < l.length) : (l ++ r).getD k 0 = l.getD k 0 := Sv.getD_left h
theorem getD_lastN {l : List Nat} {c : Nat} : (l ++ [c]).getD l.length 0 = c := Sv.getD_last
/-- A row of numbers, the first of them told. -/
def numF (l : List Nat) : Nat → Value := fun i => if i < l.length then .int .i64 (l.getD i 0 : Int) else .int .i64 0

set_option maxHeartbeats 800000 in
theorem placesOf_any (a : Option Addr) (n cap : Nat) (bs : List Bool) (fl : Bool) (w : World) {lo hi : Nat} (h : Bools lo hi w a n bs) (hn : n ≤ 1048576) :
    Calls Try.prog 57 #[.slice a n cap, .bool fl] w fun e w' => e = .returned (.slice (some ⟨w.heap.size, 0, none⟩) (placesL bs fl n).length n) ∧ w'.rowIs w.heap.size 3 n (numF (placesL bs fl n)) ∧ Below w.heap.size w w' := by
  have HH := hide h
  have hhi := h.2.1
  clear h
  have hmk := make_row (P := Try.prog) 69 3 (.int .i64 0) 8 Try.underlying69 Try.infoInts rfl 0 (n : Int) 0 n rfl rfl (Nat.zero_le _) (by omega) (by omega)
  go_enter Try.func57, Try.ntmps57
  go_wp2_with fail
  go_loopw [13, 5, 6, 7] (fun i v _ _ wr => ∃ k j : Nat, k ≤ n ∧ i = .int .i64 (k : Int) ∧ j = (placesL bs fl k).length ∧ v = .slice (some ⟨w.heap.size, 0, none⟩) j n ∧ wr.rowIs w.heap.size 3 n (numF (placesL bs fl k)) ∧ Below w.heap.size w wr) (fun i _ _ _ _ => n - (intOf i).toNat)
  case atStart => exact ⟨0, 0, Nat.zero_le _, rfl, rfl, rfl, (World.rowIs_made w (.int .i64 0) n 3).congr (fun i _ => by simp [numF, placesL]), (Below.refl _ _).alloc (Nat.le_refl _) _⟩
  case round =>
    obtain ⟨k, j, hk, rfl, hj, rfl, hrow, hbel⟩ := hrel
    have HJ := hide hj
    clear hj
    by_cases hlt : k < n
    · obtain ⟨b, off, rfl, _, hb, hc⟩ := (HH.out.later hbel hhi).2.2 (by omega)
      have hck : wr.cell? ⟨b, off + k, none⟩ = some (.bool (bs.getD k false)) := hc k hlt
      have hsucc := placesL_succ bs fl k
      have hjk : j ≤ k := by rw [HJ.out]; exact placesL_le bs fl k
      cases he : (bs.getD k false == fl)
      · rw [he] at hsucc
        simp only [Bool.false_eq_true, if_false, List.append_nil] at hsucc
        have HJ2 : Hid (j = (placesL bs fl (k + 1)).length) := by rw [hsucc]; exact HJ.out
        have HR : Hid (wr.rowIs w.heap.size 3 n (numF (placesL bs fl (k + 1)))) := by rw [hsucc]; exact hrow
        have HB := hide hbel
        clear hrow hbel hc HH hsucc HJ
        generalize bs.getD k false = x at *
        go_wp2_with fail
        exact ⟨⟨k + 1, j, by omega, by go_num, HJ2.out, rfl, HR.out, HB.out⟩, by simp [intOf]; omega⟩
      · rw [he] at hsucc
        simp only [if_true] at hsucc
        have HJ2 : Hid (j + 1 = (placesL bs fl (k + 1)).length) := by
          show _ = _
          rw [hsucc, HJ.out]; simp
        obtain ⟨w3, hap, r3, s3⟩ := append_row (P := Try.prog) (wr.alloc (.cells #[.int .i64 (k : Int)] 3)) 69 69 3 Try.underlying69 Try.sizeInts w.heap.size j n _ (fun _ => .int .i64 (k : Int)) (hrow.alloc _) (some ⟨wr.heap.size, 0, none⟩) 1 1 wr.heap.size (wr.heap.size + 1) (one_newM wr (.int .i64 (k : Int)) 3) (by omega) (by omega) (fun _ _ => rfl)
        have HAP := hide hap
        have HR : Hid (w3.rowIs w.heap.size 3 n (numF (placesL bs fl (k + 1)))) := by
          refine r3.congr fun i hi => ?_
          unfold numF
          rw [hsucc, List.length_append, ← HJ.out]
          simp only [List.length_singleton]
          by_cases e1 : i = j
          · subst e1
            have e2 : (placesL bs fl k ++ [k]).getD i 0 = k := by
              have := getD_lastN (l := placesL bs fl k) (c := k)
              rw [← HJ.out] at this
              exact this
            rw [if_pos ⟨Nat.le_refl _, by omega⟩, if_pos (by omega), e2]
          · rw [if_neg (by omega)]
            by_cases e2 : i < j
            · rw [if_pos e2, if_pos (by omega), getD_leftN (by rw [← HJ.out]; exact e2)]
            · rw [if_neg e2, if_neg (by omega)]
        have HB : Hid (Below w.heap.size w w3) := (hbel.alloc hbel.size _).trans (s3.below (Nat.le_refl _) (by simp; exact Nat.le_succ_of_le hbel.size))
        clear hrow hbel hc HH hsucc HJ r3 s3 hap
        generalize bs.getD k false = x at *
        go_wp2_with (at_builtin; refine wpList_append_eq rfl (.tmp 21) (.tmp 23) 69 rfl _ _ _ w3 rfl rfl HAP.out ?_)
        exact ⟨⟨k + 1, j + 1, by omega, by go_num, HJ2.out, rfl, HR.out, HB.out⟩, by simp [intOf]; omega⟩
    · obtain rfl : k = n := by omega
      have HR := hide hrow
      have HB := hide hbel
      clear hrow hbel
      go_wp2_with fail
      go_ret
      exact ⟨ret_slice HJ.out, HR.out, HB.out⟩

set_option maxHeartbeats 400000 in
theorem contains_any (a : Option Addr) (n cap : Nat) (l : List Nat) (x : Nat) (w : World) {lo hi : Nat} (hl : l.length = n) (h : Reads lo hi w a n (fun i => .int .i64 (l.getD i 0 : Int))) (hn : n ≤ 1048576) (hx : x ≤ 1048576) :
    Calls Try.prog 74 #[.slice a n cap, .int .i64 (x : Int)] w fun e w' => e = .returned (.bool (decide (x ∈ l))) ∧ w = w' := by
  have HIX : Hid (Calls Try.prog 78 #[.slice a n cap, .int .i64 (x : Int)] w fun e w' => (∃ r : Int, e = .returned (.int .i64 r) ∧ ((r = -1 ∧ x ∉ l) ∨ (∃ k : Nat, k < n ∧ r = (k : Int) ∧ x ∈ l))) ∧ w = w') := by
    show Calls _ _ _ _ _
    obtain ⟨hsz, hx2⟩ := h
    have HL := hide hl
    clear hl
    go_enter Try.func78, Try.ntmps78
    go_wp2_with fail
    go_loop [8, 5] (fun i _ => ∃ k : Nat, k ≤ n ∧ i = .int .i64 (k : Int) ∧ ∀ j, j < k → l.getD j 0 ≠ x) (fun i _ => n - (intOf i).toNat)
    case atStart => exact ⟨0, Nat.zero_le _, rfl, fun j hj => absurd hj (by omega)⟩
    case round =>
      obtain ⟨k, hk, rfl, hall⟩ := hrel
      have HA := hide hall
      clear hall
      by_cases hlt : k < n
      · obtain ⟨b, off, rfl, _, hb, hc⟩ := hx2 (by omega)
        have hck : w.cell? ⟨b, off + k, none⟩ = some (.int .i64 (l.getD k 0 : Int)) := hc k hlt
        by_cases he : l.getD k 0 = x
        · have HIN : Hid (decide (x ∈ l) = true) := by
            show _ = _
            rw [← he, List.getD_eq_getElem?_getD, List.getElem?_eq_getElem (by rw [HL.out]; exact hlt)]
            simp
          rw [he] at hck
          clear he hc hx2
          go_wp2_with fail
          go_ret
          exact ⟨⟨_, rfl, .inr ⟨k, hlt, rfl, of_decide_eq_true HIN.out⟩⟩, rfl⟩
        · have HY : Hid (∀ j, j < k + 1 → l.getD j 0 ≠ x) := by
            intro j hj
            rcases Nat.lt_or_ge j k with h' | h'
            · exact HA.out j h'
            · obtain rfl : j = k := by omega
              exact he
          clear hc hx2 HA
          generalize l.getD k 0 = y at *
          have e0 : ((x : Int) == (y : Int)) = false := by simp; omega
          clear he
          go_wp2_with fail
          exact ⟨⟨k + 1, by omega, by go_num, HY.out⟩, by simp [intOf]; omega⟩
      · have HN : Hid (decide (x ∈ l) = false) := by
          show _ = _
          simp only [decide_eq_false_iff_not]
          intro hm
          obtain ⟨j, hj, e⟩ := List.getElem_of_mem hm
          refine HA.out j (by rw [HL.out] at hj; omega) ?_
          rw [List.getD_eq_getElem?_getD, List.getElem?_eq_getElem hj]
          exact e
        go_wp2_with fail
        go_ret
        exact ⟨⟨_, rfl, .inl ⟨rfl, of_decide_eq_false HN.out⟩⟩, rfl⟩
  clear h hl
  go_enter Try.func74, Try.ntmps74
  go_wp2_with fail
  refine HIX.out.mono ?_
  rintro e w1 ⟨⟨r, rfl, hr⟩, rfl⟩
  rcases hr with ⟨rfl, h2⟩ | ⟨k, hk, rfl, h2⟩
  · have H2 : Hid (decide (x ∈ l) = false) := decide_eq_false h2
    clear h2
    go_wp2_with fail
    go_ret
    exact ⟨ret_bool H2.out.symm, rfl⟩
  · have H2 : Hid (decide (x ∈ l) = true) := decide_eq_true h2
    clear h2
    go_wp2_with fail
    go_ret
    exact ⟨ret_bool H2.out.symm, rfl⟩
end Go.Proofs.Ytbgjagmnpfcfaak
namespace Go.Proofs.Ytbgjagmnpfcfaak
open Go.RowKit
set_option linter.unusedVariables false
set_option linter.unusedSimpArgs false
set_option maxRecDepth 20000

def haveK (ts : List ByteArray) (bs : List Bool) (k : Nat) : List ByteArray := ((List.range k).filter (isThere bs)).map fun i => ts.getD i ByteArray.empty
theorem haveK_succ (ts : List ByteArray) (bs : List Bool) (k : Nat) : haveK ts bs (k + 1) = haveK ts bs k ++ (if isThere bs k then [ts.getD k ByteArray.empty] else []) := by
  unfold haveK
  rw [List.range_succ, List.filter_append, List.map_append]
  congr 1
  by_cases h : isThere bs k = true
  · rw [if_pos h, List.filter_cons_of_pos h]; rfl
  · rw [if_neg h, List.filter_cons_of_neg h]; rfl
theorem haveK_le (ts : List ByteArray) (bs : List Bool) (k : Nat) : (haveK ts bs k).length ≤ k := by
  have := List.length_filter_le (isThere bs) (List.range k)
  simpa [haveK] using this
def textF (l : List ByteArray) : Nat → Value := fun i => .string (l.getD i ByteArray.empty)
theorem getD_leftT {l r : List ByteArray} {k : Nat} (h : k < l.length) : (l ++ r).getD k ByteArray.empty = l.getD k ByteArray.empty := by
  rw [List.getD_eq_getElem?_getD, List.getD_eq_getElem?_getD, List.getElem?_append_left h]
theorem getD_lastT {l : List ByteArray} {c : ByteArray} : (l ++ [c]).getD l.length ByteArray.empty = c := by
  rw [List.getD_eq_getElem?_getD, List.getElem?_append_right (Nat.le_refl _)]; simp
theorem getD_pastT {l : List ByteArray} {k : Nat} (h : l.length ≤ k) : l.getD k ByteArray.empty = ByteArray.empty := by
  rw [List.getD_eq_getElem?_getD, List.getElem?_eq_none h]; rfl

set_option maxHeartbeats 800000 in
theorem kept_any (a : Option Addr) (n cap : Nat) (ts : List ByteArray) (a' : Option Addr) (cap' : Nat) (bs : List Bool) (w : World) {lo hi lo' hi' : Nat} (h : Texts lo hi w a n ts) (h' : Bools lo' hi' w a' n bs) (hn : n ≤ 1048576) :
    Calls Try.prog 56 #[.slice a n cap, .slice a' n cap'] w fun e w' => e = .returned (.slice (some ⟨w.heap.size, 0, none⟩) (haveK ts bs n).length n) ∧ w'.rowIs w.heap.size 9 n (textF (haveK ts bs n)) ∧ Below w.heap.size w w' := by
  have HH := hide h
  have HH' := hide h'
  have hhi := h.2.1
  have hhi' := h'.2.1
  clear h h'
  have hmk := make_row (P := Try.prog) 22 9 (.string ByteArray.empty) 16 Try.underlying22 Try.infoStr rfl 0 (n : Int) 0 n rfl rfl (Nat.zero_le _) (by omega) (by omega)
  go_enter Try.func56, Try.ntmps56
  go_wp2_with fail
  go_loopw [13, 5, 6, 7] (fun i v _ _ wr => ∃ k j : Nat, k ≤ n ∧ i = .int .i64 (k : Int) ∧ j = (haveK ts bs k).length ∧ v = .slice (some ⟨w.heap.size, 0, none⟩) j n ∧ wr.rowIs w.heap.size 9 n (textF (haveK ts bs k)) ∧ Below w.heap.size w wr) (fun i _ _ _ _ => n - (intOf i).toNat)
  case atStart => exact ⟨0, 0, Nat.zero_le _, rfl, rfl, rfl, (World.rowIs_made w (.string ByteArray.empty) n 9).congr (fun i _ => by simp [textF, haveK]), (Below.refl _ _).alloc (Nat.le_refl _) _⟩
  case round =>
    obtain ⟨k, j, hk, rfl, hj, rfl, hrow, hbel⟩ := hrel
    have HJ := hide hj
    clear hj
    by_cases hlt : k < n
    · obtain ⟨b, off, rfl, _, hb, hc⟩ := (HH.out.later hbel hhi).2.2 (by omega)
      obtain ⟨b2, off2, rfl, _, hb2, hc2⟩ := (HH'.out.later hbel hhi').2.2 (by omega)
      have hck : wr.cell? ⟨b, off + k, none⟩ = some (.string (ts.getD k ByteArray.empty)) := hc k hlt
      have hck2 : wr.cell? ⟨b2, off2 + k, none⟩ = some (.bool (isThere bs k)) := hc2 k hlt
      have hsucc := haveK_succ ts bs k
      have hjk : j ≤ k := by rw [HJ.out]; exact haveK_le ts bs k
      cases he : isThere bs k
      · rw [he] at hsucc hck2
        simp only [Bool.false_eq_true, if_false, List.append_nil] at hsucc
        have HJ2 : Hid (j = (haveK ts bs (k + 1)).length) := by rw [hsucc]; exact HJ.out
        have HR : Hid (wr.rowIs w.heap.size 9 n (textF (haveK ts bs (k + 1)))) := by rw [hsucc]; exact hrow
        have HB := hide hbel
        clear hrow hbel hc hc2 HH HH' hsucc HJ he
        generalize ts.getD k ByteArray.empty = z at *
        go_wp2_with fail
        exact ⟨⟨k + 1, j, by omega, by go_num, HJ2.out, rfl, HR.out, HB.out⟩, by simp [intOf]; omega⟩
      · rw [he] at hsucc hck2
        simp only [if_true] at hsucc
        have HJ2 : Hid (j + 1 = (haveK ts bs (k + 1)).length) := by
          show _ = _
          rw [hsucc, HJ.out]; simp
        obtain ⟨z, hz⟩ : ∃ z, z = ts.getD k ByteArray.empty := ⟨_, rfl⟩
        rw [← hz] at hck hsucc
        obtain ⟨w3, hap, r3, s3⟩ := append_row (P := Try.prog) (wr.alloc (.cells #[.string z] 9)) 22 22 9 Try.underlying22 Try.sizeStrs w.heap.size j n _ (fun _ => .string z) (hrow.alloc _) (some ⟨wr.heap.size, 0, none⟩) 1 1 wr.heap.size (wr.heap.size + 1) (one_newM wr (.string z) 9) (by omega) (by omega) (fun _ _ => rfl)
        have HAP := hide hap
        have HR : Hid (w3.rowIs w.heap.size 9 n (textF (haveK ts bs (k + 1)))) := by
          refine r3.congr fun i hi => ?_
          unfold textF
          rw [hsucc]
          by_cases e1 : i = j
          · rw [if_pos ⟨by omega, by omega⟩, e1, HJ.out, getD_lastT]
          · rw [if_neg (by omega)]
            by_cases e2 : i < j
            · rw [getD_leftT (by rw [← HJ.out]; exact e2)]
            · rw [getD_pastT (by rw [← HJ.out]; omega), getD_pastT (by rw [List.length_append, ← HJ.out]; simp; omega)]
        have HB : Hid (Below w.heap.size w w3) := (hbel.alloc hbel.size _).trans (s3.below (Nat.le_refl _) (by simp; exact Nat.le_succ_of_le hbel.size))
        clear hrow hbel hc hc2 HH HH' hsucc HJ r3 s3 hap he hz
        go_wp2_with (at_builtin; refine wpList_append_eq rfl (.tmp 22) (.tmp 24) 22 rfl _ _ _ w3 rfl rfl HAP.out ?_)
        exact ⟨⟨k + 1, j + 1, by omega, by go_num, HJ2.out, rfl, HR.out, HB.out⟩, by simp [intOf]; omega⟩
    · obtain rfl : k = n := by omega
      have HR := hide hrow
      have HB := hide hbel
      clear hrow hbel
      go_wp2_with fail
      go_ret
      exact ⟨ret_slice HJ.out, HR.out, HB.out⟩

set_option maxHeartbeats 1600000 in
theorem clone0_any (s : ByteArray) (w : World) (hlim : s.size ≤ 1048576) :
    Calls Try.prog 70 #[.string s] w fun e w' => e = .returned (.string s) ∧ Below w.heap.size w w' := by
  by_cases h0 : s.size = 0
  · have hs : s = ⟨#[]⟩ := by
      apply ByteArray.ext
      exact Array.eq_empty_of_size_eq_zero h0
    subst hs
    go_enter Try.func70, Try.ntmps70
    go_wp2_with fail
    go_ret
    exact ⟨rfl, Below.refl _ _⟩
  · obtain ⟨i0, hi, hz0, hz1, hz2⟩ := info_parts Try.infoU8s
    have hinfo : (Try.prog.info? 5).map (·.size) = some 1 := by rw [hi]; simp [hz1]
    have hco : Try.prog.cellsOf 5 = 1 := by simp [Program.cellsOf, hi, hz1]
    obtain ⟨M, hM⟩ : ∃ M, M = madeCells (Value.int .u8 0).cells (((s.size : Nat) : Int).toNat * i0.size) := ⟨_, rfl⟩
    have hMs : M.size = s.size := by rw [hM, size_madeCells, hz1]; simp
    have hmk : ∀ W : World, (Instr.makeSlice 67 (.int .i64 (s.size : Int)) (.int .i64 (s.size : Int))).run Try.prog W = .ok (.slice (some ⟨W.heap.size, 0, none⟩) s.size s.size) (W.alloc (.cells M 5)) := fun W => by
      have h := run_make (P := Try.prog) W 67 5 i0 (.int .u8 0) Try.underlying67 hi hz0 .i64 .i64 (s.size : Int) (s.size : Int) (by omega) (by omega) (by rw [hz2]; omega) (by omega)
      rw [← hM] at h
      simpa using h
    clear hM
    have hcp := Lib.run_copy_row_string (P := Try.prog) (w.alloc (.cells M 5)) 67 9 3 5 w.heap.size 0 s.size s.size s M 5 Try.underlying67 hinfo (heap_alloc_new w _) (Nat.le_refl _) (by omega)
    obtain ⟨Y, hY⟩ : ∃ Y, Y = (M.toList.take 0 ++ Lib.byteCells s.data.toList ++ M.toList.drop (0 + s.size)).toArray := ⟨_, rfl⟩
    rw [← hY] at hcp
    have hYl : Y.toList = Lib.byteCells s.data.toList := by
      rw [hY, List.toList_toArray, List.take_zero, List.nil_append, List.drop_of_length_le (by rw [Array.length_toList]; omega), List.append_nil]
    have hYs : Y.size = s.size := by rw [← Array.length_toList, hYl, Lib.byteCells_length, ← Lib.size_eq]
    have hgY : ((w.alloc (.cells M 5)).setRow w.heap.size Y).heap[w.heap.size]? = some (.cells Y 5 (0, 0)) := setRow_heap _ _ M _ 5 (0, 0) (heap_alloc_new w _)
    have hne : s.data.toList ≠ [] := fun e => h0 (by rw [Lib.size_eq, e]; rfl)
    have hUS := Lib.run_unsafeString_row (P := Try.prog) ((w.alloc (.cells M 5)).setRow w.heap.size Y) 95 3 9 5 Try.underlying95 hco w.heap.size Y.size (by unfold World.shape?; rw [hgY]) s.data.toList hne (by rw [← Lib.size_eq]; omega) (by rw [← Lib.size_eq]; omega)
      (fun j x hx => Lib.cells_of_row hgY Y.size j _ (by rw [List.take_of_length_le (by rw [Array.length_toList]; exact Nat.le_refl _), hYl]; simp [Lib.byteCells, hx]))
    rw [← Lib.size_eq] at hUS
    have hs0 : ((s.size : Int) == 0) = false := by
      rw [beq_eq_false_iff_ne]
      omega
    clear hY
    go_enter Try.func70, Try.ntmps70
    go_wp2_with fail
    go_ret
    have hb1 : Below w.heap.size w (w.alloc (.cells M 5)) := (Below.refl _ w).alloc (Nat.le_refl _) _
    have hb2 : Below w.heap.size (w.alloc (.cells M 5)) ((w.alloc (.cells M 5)).setRow w.heap.size Y) := ⟨rfl, rfl, rfl, by simp, fun k hk => setRow_other _ _ _ _ (by omega)⟩
    exact ⟨rfl, Lib.below_freeze (hb1.trans hb2) (p := ⟨w.heap.size, 0, none⟩) (Nat.le_refl _) _⟩
theorem clone_any (s : ByteArray) (w : World) (hlim : s.size ≤ 1048576) :
    Calls Try.prog 59 #[.string s] w fun e w' => e = .returned (.string s) ∧ Below w.heap.size w w' := by
  go_enter Try.func59, Try.ntmps59
  go_wp2_with fail
  refine (clone0_any s w hlim).mono ?_
  rintro e w1 ⟨rfl, b1⟩
  have HB := hide b1
  clear b1
  go_wp2_with fail
  go_ret
  exact ⟨rfl, HB.out⟩
end Go.Proofs.Ytbgjagmnpfcfaak
namespace Go.Proofs.Ytbgjagmnpfcfaak
open Go.RowKit
set_option linter.unusedVariables false
set_option linter.unusedSimpArgs false
set_option maxRecDepth 20000

theorem Try.sizeI64m : (Try.prog.info? 2).map (·.size) = some 1 := by kernel_rfl
namespace Sv
theorem part_lt {p : Nat → Bool} {f y : Nat → Nat} : ∀ {C : Nat}, (∀ i, i < C → f i < 256) → part p f y C < 256
  | 0, _ => by simp [part]
  | C + 1, h => by
    unfold part
    refine Field.xor_lt (part_lt (fun i hi => h i (by omega))) ?_
    split
    · exact Field.mul_lt (h C (by omega))
    · omega
end Sv
/-- What spare j's text s holds at place k of those of the first i columns of which p says no. -/
def takeR (s : ByteArray) (ts : List ByteArray) (p : Nat → Bool) (j i k : Nat) : Nat := byteN s k ^^^ Sv.part p (fun i => factor i j) (fun i => byteN (ts.getD i ByteArray.empty) k) i
theorem takeR_lt {s : ByteArray} {ts : List ByteArray} {p : Nat → Bool} {j i k : Nat} (hi : i ≤ 16) (hj : j < 16) : takeR s ts p j i k < 256 := Field.xor_lt (byteN_lt _ _) (Sv.part_lt (fun q hq => factor_lt (by omega) hj))
theorem takeR_yes {s : ByteArray} {ts : List ByteArray} {p : Nat → Bool} {j i k : Nat} (h : p i = true) : takeR s ts p j (i + 1) k = takeR s ts p j i k ^^^ Field.mul (factor i j) (byteN (ts.getD i ByteArray.empty) k) := by
  unfold takeR
  simp only [Sv.part, h, if_true]
  rw [Nat.xor_assoc]
theorem takeR_no {s : ByteArray} {ts : List ByteArray} {p : Nat → Bool} {j i k : Nat} (h : p i = false) : takeR s ts p j (i + 1) k = takeR s ts p j i k := by
  unfold takeR
  simp [Sv.part, h]
def setF (o L : Nat) (x : Nat → Nat) (F : Nat → Value) : Nat → Value := fun q => if o ≤ q ∧ q < o + L then .int .i64 (x (q - o) : Int) else F q
theorem setF_at {o L k : Nat} {x : Nat → Nat} {F : Nat → Value} (hk : k < L) : setF o L x F (o + k) = .int .i64 (x k : Int) := by
  unfold setF
  rw [if_pos (by omega), Nat.add_sub_cancel_left]
set_option maxHeartbeats 1600000 in
theorem takeAway_any (g o L capR N : Nat) (F : Nat → Value) (ca : Option Addr) (C capC : Nat) (ts : List ByteArray) (la : Option Addr) (ls : List Nat) (ln lcap j : Nat) (s : ByteArray) (p : Nat → Bool) (w : World) {lo hi lo2 hi2 : Nat} (hrow : w.rowIs g 2 N F) (hoL : o + L ≤ N) (hC : Reads lo hi w ca C (cellT ts)) (hC8 : C ≤ 8) (hls : ls.length = ln) (hln : ln ≤ 8) (hL : Reads lo2 hi2 w la ln (fun i => .int .i64 (ls.getD i 0 : Int))) (hhg : hi ≤ g) (hhg2 : hi2 ≤ g)
    (hj : j < 16) (hs : s.size = L) (hL3 : L ≤ 300) (hp : ∀ i, i < C → decide (i ∈ ls) = !p i) (hps : ∀ i, i < C → p i = true → (ts.getD i ByteArray.empty).size = L) :
    Calls Try.prog 69 #[.slice (some ⟨g, o, none⟩) L capR, .slice ca C capC, .slice la ln lcap, .int .i64 (j : Int), .string s] w fun e w' => e = .returned (.tuple #[]) ∧ w'.rowIs g 2 N (setF o L (takeR s ts p j C) F) ∧ Aside g (g + 1) w w' := by
  have hgl := hrow.lt
  have HROW := hide hrow
  have HCS := hide hC
  have HLS := hide hL
  have HLN := hide hls
  have HP := hide hp
  have HPS := hide hps
  have HS := hide hs
  clear hrow hC hL hls hp hps
  go_enter Try.func69, Try.ntmps69
  go_wp2_with fail
  refine (elementsOf_any s (by omega) w).mono ?_
  rintro e w1 ⟨rfl, r1, b1⟩
  rw [hs] at r1 ⊢
  have hr1 := row_below HROW.out b1 hgl
  obtain ⟨w2, hcp, hrow2, hasd⟩ := copy_row (P := Try.prog) w1 29 29 3 2 Try.underlying29 Try.sizeI64m g o L capR N 2 F _ hr1 (some ⟨w.heap.size, 0, none⟩) L L w.heap.size (w.heap.size + 1) (owned_of_row r1 (Nat.le_refl _) (Nat.lt_succ_self _) r1.lt).reads L (by simp) (by omega) (fun _ _ => rfl)
  have HR2 : Hid (w2.rowIs g 2 N (setF o L (takeR s ts p j 0) F)) := hrow2.congr (fun q _ => by
    unfold setF
    by_cases e : o ≤ q ∧ q < o + L
    · rw [if_pos e, if_pos e]; simp [takeR, Sv.part]
    · rw [if_neg e, if_neg e])
  have HA2 : Hid (Aside g (g + 1) w w2) := (Aside.ofBelow b1).trans hasd
  have HCP := hide hcp
  clear r1 b1 hr1 hrow2 hasd hs
  go_wp2_with fail
  clear hcp HCP
  go_loopw [18, 10, 11] (fun i _ _ wr => ∃ k : Nat, k ≤ C ∧ i = .int .i64 (k : Int) ∧ wr.rowIs g 2 N (setF o L (takeR s ts p j k) F) ∧ Aside g (g + 1) w wr) (fun i _ _ _ => C - (intOf i).toNat)
  case atStart => exact ⟨0, Nat.zero_le _, rfl, HR2.out, HA2.out⟩
  case round =>
    obtain ⟨k, hk, rfl, hrow, has⟩ := hrel
    clear HR2 HA2
    by_cases hlt : k < C
    · obtain ⟨b, off, rfl, _, hb, hc⟩ := (HCS.out.aside has (.inl hhg)).2 (by omega)
      have hck : wr.cell? ⟨b, off + k, none⟩ = some (.string (ts.getD k ByteArray.empty)) := hc k hlt
      have HR := hide hrow
      have HA := hide has
      have HIN : Hid (Calls Try.prog 74 #[.slice la ln lcap, .int .i64 (k : Int)] wr fun e w' => e = .returned (.bool (!p k)) ∧ wr = w') := by
        have := contains_any la ln lcap ls k wr HLN.out (HLS.out.aside has (.inl hhg2)) (by omega) (by omega)
        rw [HP.out k hlt] at this
        exact this
      have hpk := HPS.out k hlt
      obtain ⟨z, hz⟩ : ∃ z, z = ts.getD k ByteArray.empty := ⟨_, rfl⟩
      rw [← hz] at hck hpk
      have HZ := hide hz
      clear hrow has hc hz
      cases hpe : p k
      · rw [hpe] at HIN
        have HN : Hid (wr.rowIs g 2 N (setF o L (takeR s ts p j (k + 1)) F)) := HR.out.congr (fun q _ => by
          unfold setF
          rw [takeR_no hpe])
        clear HR hpk
        go_wp2_with fail
        refine HIN.out.mono ?_
        rintro e w3 ⟨rfl, rfl⟩
        clear hpe
        go_wp2_with fail
        exact ⟨⟨k + 1, by omega, by go_num, HN.out, HA.out⟩, by simp [intOf]; omega⟩
      · rw [hpe] at HIN
        have hzL := hpk hpe
        clear hpk
        have HPE := hide hpe
        clear hpe
        go_wp2_with fail
        refine HIN.out.mono ?_
        rintro e w3 ⟨rfl, rfl⟩
        clear HIN
        go_wp2_with fail
        refine (share_any k j wr (by omega) hj).mono ?_
        rintro e w3 ⟨rfl, b3⟩
        have HB3 := hide b3
        have hs3 := b3.size
        clear b3
        go_wp2_with fail
        refine (elementsOf_any z (by omega) w3).mono ?_
        rintro e w4 ⟨rfl, r4, b4⟩
        rw [hzL] at r4 ⊢
        have HR4 := hide r4
        have HB4 := hide b4
        have hl4 := r4.lt
        clear r4 b4
        obtain ⟨f, hf⟩ : ∃ f, f = factor k j := ⟨_, rfl⟩
        have hf8 : f < 256 := by rw [hf]; exact factor_lt (by omega) hj
        rw [← hf]
        have HF := hide hf
        clear hf
        have hgr : g < wr.heap.size := HR.out.lt
        have HAD : Hid (Calls Try.prog 40 #[.slice (some ⟨g, o, none⟩) L capR, .int .i64 (f : Int), .slice (some ⟨w3.heap.size, 0, none⟩) L L] w4 fun e w' => e = .returned (.tuple #[]) ∧ w'.rowIs g 2 N (setF o L (takeR s ts p j (k + 1)) F) ∧ Aside g (g + 1) w w') := by
          have hr4 : w4.rowIs g 2 N (setF o L (takeR s ts p j k) F) := row_below (row_below HR.out HB3.out hgr) HB4.out (by omega)
          refine (addMultiple_any g o L capR N f _ (takeR s ts p j k) (byteN z) _ L L w3.heap.size (w3.heap.size + 1) w4 hf8 (by omega) hoL hr4 (fun q hq => setF_at hq) (fun q _ => takeR_lt (by omega) hj) (fun q _ => byteN_lt z q) (Nat.le_refl _) (by omega) (owned_of_row HR4.out (Nat.le_refl _) (Nat.lt_succ_self _) hl4).reads (.inr (by omega))).mono ?_
          rintro e w5 ⟨rfl, r5, a5⟩
          refine ⟨rfl, r5.congr fun q hq => ?_, ((HA.out.thenBelow HB3.out HA.out.size).thenBelow HB4.out (Nat.le_trans HA.out.size hs3)).trans a5⟩
          unfold addF setF
          by_cases e : o ≤ q ∧ q < o + L
          · rw [if_pos e, if_pos e, takeR_yes HPE.out, HF.out, HZ.out]
          · rw [if_neg e, if_neg e, if_neg e]
        clear HR HA HR4 HB3 HB4
        go_wp2_with fail
        refine HAD.out.mono ?_
        rintro e w5 ⟨rfl, h5⟩
        have H5 := hide h5
        clear h5 HAD
        go_wp2_with fail
        exact ⟨⟨k + 1, by omega, by go_num, H5.out⟩, by simp [intOf]; omega⟩
    · obtain rfl : k = C := by omega
      have HE : Hid (wr.rowIs g 2 N (setF o L (takeR s ts p j k) F) ∧ Aside g (g + 1) w wr) := ⟨hrow, has⟩
      clear hrow has
      go_wp2_with fail
      go_end0
      exact ⟨rfl, HE.out⟩
end Go.Proofs.Ytbgjagmnpfcfaak
namespace Go.Proofs.Ytbgjagmnpfcfaak
open Go.RowKit
set_option linter.unusedVariables false
set_option linter.unusedSimpArgs false
set_option maxRecDepth 20000

theorem slice_tail {P : Program} (t e : TypeId) (ht : P.underlying t = some (.slice e)) (hs : ∀ w, (sizeOf e).run P w = .ok 1 w) (b off k L : Nat) (hk : k + L ≤ 9223372036854775807) :
    ∃ o : Nat, (L ≠ 0 → o = off + k) ∧ (L = 0 → o = off) ∧ ∀ w, (Instr.sliceAt t (.slice (some ⟨b, off, none⟩) (k + L) (k + L)) (some (.int .i64 (k : Int))) none none).run P w = .ok (.slice (some ⟨b, o, none⟩) L L) w := by
  have he : P.elem t = e := by simp [Program.elem, ht]
  have ht' : P.underlying t = some (.slice (P.elem t)) := by rw [he]; exact ht
  by_cases h : L = 0
  · subst h
    refine ⟨off, fun e => absurd rfl e, fun _ => rfl, fun w => ?_⟩
    rw [run_sliceAt_slice w t _ _ _ _ ht', run_slice_l (P := P) w t _ (k + 0) (k + 0) ht' .i64 (k : Int) (by omega) (by omega), he, hs]
    simp [sliced, Result.andThen]
  · refine ⟨off + k, fun _ => rfl, fun e => absurd e h, fun w => ?_⟩
    rw [run_sliceAt_slice w t _ _ _ _ ht', run_slice_l (P := P) w t _ (k + L) (k + L) ht' .i64 (k : Int) (by omega) (by omega), he, hs]
    simp [sliced, h, Result.andThen, Addr.add]
/-- The rows of the lost columns' shares, and what the spares hold of them behind. -/
def mendM (ts : List ByteArray) (bs : List Bool) (C cnt : Nat) (i k : Nat) : Nat :=
  if k < cnt then factor ((lostL bs C).getD k 0) ((sparesL bs C ts.length).getD i 0)
  else takeR (ts.getD (C + (sparesL bs C ts.length).getD i 0) ByteArray.empty) ts (isThere bs) ((sparesL bs C ts.length).getD i 0) C (k - cnt)
theorem lost_at {bs : List Bool} {C k : Nat} (h : k < (lostL bs C).length) : (lostL bs C).getD k 0 < C ∧ isThere bs ((lostL bs C).getD k 0) = false := Sv.rest_lt h
theorem spare_at {bs : List Bool} {C n r : Nat} (h : r < (sparesL bs C n).length) : (sparesL bs C n).getD r 0 < n - C ∧ isThere bs (C + (sparesL bs C n).getD r 0) = true := by
  have := Sv.rest_lt (p := fun j => !isThere bs (C + j)) h
  exact ⟨this.1, by simpa [sparesL] using this.2⟩
theorem lost_in {bs : List Bool} {C i : Nat} (hi : i < C) : decide (i ∈ lostL bs C) = !isThere bs i := by
  unfold lostL Sv.rest
  rw [Bool.eq_iff_iff]
  simp [List.mem_filter, hi]
theorem mendM_lt {ts : List ByteArray} {bs : List Bool} {C cnt : Nat} (hC : C ≤ 8) (hn : ts.length ≤ C + 4) (h1 : (lostL bs C).length = cnt) (h2 : cnt ≤ (sparesL bs C ts.length).length) : ∀ i, i < cnt → ∀ k, mendM ts bs C cnt i k < 256 := by
  intro i hi k
  have hs := spare_at (bs := bs) (C := C) (n := ts.length) (r := i) (by omega)
  unfold mendM
  split
  · rename_i hk
    have := lost_at (bs := bs) (C := C) (k := k) (by omega)
    exact factor_lt (by omega) (by omega)
  · exact takeR_lt (by omega) (by omega)
/-- What lostTexts tells. -/
def LostTold (ts : List ByteArray) (bs : List Bool) (C cnt L : Nat) (fs : List ByteArray) : Prop :=
  ∃ x : Nat → Nat → Nat, (∀ q, q < cnt → fs.getD q ByteArray.empty = textN L (x q)) ∧ (∀ q, q < cnt → ∀ k, k < L → x q k < 256) ∧
    ∀ r, r < cnt → ∀ k, k < L → Sv.dot (fun q => factor ((lostL bs C).getD q 0) ((sparesL bs C ts.length).getD r 0)) (fun q => x q k) cnt = takeR (ts.getD (C + (sparesL bs C ts.length).getD r 0) ByteArray.empty) ts (isThere bs) ((sparesL bs C ts.length).getD r 0) C k
theorem lost_solved {ts : List ByteArray} {bs : List Bool} {C cnt L : Nat} {m1 : Nat → Nat → Nat} (hC : C ≤ 8) (hn : ts.length ≤ C + 4) (h1 : (lostL bs C).length = cnt) (h2 : cnt ≤ (sparesL bs C ts.length).length) (hw : Sv.Wide cnt cnt (mendM ts bs C cnt) m1) :
    LostTold ts bs C cnt L ((List.range cnt).map fun q => textN L (fun k => m1 q (cnt + k))) := by
  refine ⟨fun q k => m1 q (cnt + k), fun q hq => ?_, fun q hq k hk => hw.good q hq _, fun r hr k hk => ?_⟩
  · rw [List.getD_eq_getElem?_getD, List.getElem?_map, List.getElem?_range hq]; rfl
  · have ht := hw.done (k := cnt + k) (by omega)
    obtain ⟨x, hx, hxe, hd⟩ := Sv.told_solves ht
    have hxq : ∀ q, q < cnt → x q = m1 q (cnt + k) := by
      intro q hq
      have := congrArg (fun l : List Int => l.getD q 0) hxe
      simp only [List.getD_eq_getElem?_getD, List.getElem?_map, List.getElem?_range hq, Option.map_some, Option.getD_some] at this
      omega
    have hd1 := hd r hr
    have e1 : Sv.col cnt (mendM ts bs C cnt) (cnt + k) r cnt = takeR (ts.getD (C + (sparesL bs C ts.length).getD r 0) ByteArray.empty) ts (isThere bs) ((sparesL bs C ts.length).getD r 0) C k := by
      unfold Sv.col mendM
      rw [if_neg (by omega), if_neg (by omega), Nat.add_sub_cancel_left]
    have hs := spare_at (bs := bs) (C := C) (n := ts.length) (r := r) (by omega)
    rw [e1, Field.mul_one (takeR_lt (by omega) (by omega))] at hd1
    rw [← hd1]
    refine Sv.dot_congr (fun q hq => ?_) (fun q hq => (hxq q hq).symm)
    unfold Sv.col mendM
    rw [if_pos hq, if_pos hq]
theorem lost_never {ts : List ByteArray} {bs : List Bool} {C cnt k : Nat} (hC : C ≤ 8) (hn : ts.length ≤ C + 4) (h1 : (lostL bs C).length = cnt) (h2 : cnt ≤ (sparesL bs C ts.length).length) (hk : cnt ≤ k) (h : Sv.Told cnt (Sv.col cnt (mendM ts bs C cnt) k) [] false) : False := by
  subst h1
  have := Sv.lost_told (p := isThere bs) (q := fun j => !isThere bs (C + j)) (C := C) (D := ts.length - C) (by omega) (by omega) h2 (fun i q hi hq => ?_) h
  · cases this
  · show Sv.col (lostL bs C).length (mendM ts bs C (lostL bs C).length) k i q = _
    have hq' : q < (lostL bs C).length := hq
    unfold Sv.col mendM
    rw [if_pos hq', if_pos hq']
    rfl
theorem mend_slots {ts : List ByteArray} {bs : List Bool} {C cnt L k o : Nat} {F : Nat → Value} (h : Slots cnt (cnt + L) k (mendM ts bs C cnt) F) (hk : k < cnt) (ho : L ≠ 0 → o = k * (cnt + L) + cnt) (ho2 : o ≤ k * (cnt + L) + (cnt + L)) :
    Slots cnt (cnt + L) (k + 1) (mendM ts bs C cnt) (setF o L (takeR (ts.getD (C + (sparesL bs C ts.length).getD k 0) ByteArray.empty) ts (isThere bs) ((sparesL bs C ts.length).getD k 0) C) (setF (k * (cnt + L)) cnt (fun q => factor ((lostL bs C).getD q 0) ((sparesL bs C ts.length).getD k 0)) F)) := by
  refine slots_step h hk (fun j hj => ?_) (fun q hq => ?_)
  · unfold mendM
    by_cases e : j < cnt
    · rw [if_pos e]
      unfold setF
      by_cases hL : L = 0
      · rw [if_neg (by omega), if_pos (by omega), Nat.add_sub_cancel_left]
      · have := ho hL
        rw [if_neg (by omega), if_pos (by omega), Nat.add_sub_cancel_left]
    · rw [if_neg e]
      have := ho (by omega)
      unfold setF
      rw [if_pos (by omega), show k * (cnt + L) + j - o = j - cnt by omega]
  · unfold setF
    by_cases hL : L = 0
    · rw [if_neg (by omega), if_neg (by omega)]
    · have := ho hL
      rw [if_neg (by omega), if_neg (by omega)]

set_option maxHeartbeats 3200000 in
theorem lostTexts_any (b off n cap : Nat) (ts : List ByteArray) (bs : List Bool) (la : Option Addr) (cnt lcap : Nat) (ua : Option Addr) (ucap C L : Nat) (w : World) {lo hi lo2 hi2 lo3 hi3 : Nat} (h : Texts lo hi w (some ⟨b, off, none⟩) n ts) (hcap : n ≤ cap) (hC1 : 1 ≤ C) (hC8 : C ≤ 8) (hn : n ≤ C + 4) (hCn : C ≤ n) (h1 : (lostL bs C).length = cnt) (h2 : cnt ≤ (sparesL bs C n).length) (hla : Reads lo2 hi2 w la cnt (fun i => .int .i64 ((lostL bs C).getD i 0 : Int))) (hua : Reads lo3 hi3 w ua cnt (fun i => .int .i64 ((sparesL bs C n).getD i 0 : Int)))
    (hL3 : L ≤ 300) (hsz : ∀ i, i < n → isThere bs i = true → (ts.getD i ByteArray.empty).size = L) :
    Calls Try.prog 58 #[.slice (some ⟨b, off, none⟩) n cap, .slice la cnt lcap, .slice ua cnt ucap, .int .i64 (C : Int)] w fun e w' => ∃ p c fs, e = .returned (.tuple #[.slice p cnt c, .bool true]) ∧ OwnTexts w.heap.size w'.heap.size w' p cnt fs ∧ LostTold ts bs C cnt L fs ∧ Below w.heap.size w w' := by
  have hlen := h.1
  have hcnt4 : cnt ≤ 4 := by
    have : (sparesL bs C n).length ≤ n - C := by
      have := List.length_filter_le (fun i => !(!isThere bs (C + i))) (List.range (n - C))
      simpa [sparesL, Sv.rest] using this
    omega
  by_cases hc0 : cnt = 0
  · subst hc0
    have HE : Hid (OwnTexts w.heap.size (w.alloc (.cells #[] 9)).heap.size (w.alloc (.cells #[] 9)) (some ⟨w.heap.size, 0, none⟩) 0 [] ∧ LostTold ts bs C 0 L [] ∧ Below w.heap.size w (w.alloc (.cells #[] 9))) := ⟨⟨rfl, Nat.le_refl _, fun h => absurd h (Nat.lt_irrefl _)⟩, ⟨fun _ _ => 0, fun q hq => absurd hq (by omega), fun q hq => absurd hq (by omega), fun r hr => absurd hr (by omega)⟩, (Below.refl _ _).alloc (Nat.le_refl _) _⟩
    clear h hla hua hsz
    go_enter Try.func58, Try.ntmps58
    go_wp2_with fail
    go_ret2
    exact ⟨_, _, _, rfl, HE.out⟩
  · have hcp : 0 < cnt := Nat.pos_of_ne_zero hc0
    have hhi := h.2.1
    obtain ⟨b0, off0, e0, hb0, hb, hc⟩ := h.2.2 (Nat.lt_of_lt_of_le hC1 hCn)
    cases e0
    have hhi2 := hla.1
    obtain ⟨b2, off2, rfl, hb02, hb2, hc2⟩ := hla.2 hcp
    have hhi3 := hua.1
    obtain ⟨b3, off3, rfl, hb03, hb3, hc3⟩ := hua.2 hcp
    have HT := hide h
    have HLA := hide hla
    have HUA := hide hua
    have HSZ := hide hsz
    have HC := hide hc
    have HC2 := hide hc2
    have HC3 := hide hc3
    have HLEN := hide hlen
    have H1 := hide h1
    have H2 := hide h2
    have HSP : Hid (∀ r, r < cnt → C + (sparesL bs C n).getD r 0 < n ∧ (sparesL bs C n).getD r 0 < 4 ∧ (ts.getD (C + (sparesL bs C n).getD r 0) ByteArray.empty).size = L) := by
      intro r hr
      have := spare_at (bs := bs) (C := C) (n := n) (r := r) (by omega)
      exact ⟨by omega, by omega, hsz _ (by omega) this.2⟩
    have HLO : Hid (∀ k, k < cnt → (lostL bs C).getD k 0 < 8) := by
      intro k hk
      have := lost_at (bs := bs) (C := C) (k := k) (by omega)
      omega
    have hu0 : w.cell? ⟨b3, off3, none⟩ = some (.int .i64 ((sparesL bs C n).getD 0 0 : Int)) := hc3 0 hcp
    have hsp0 := HSP.out 0 hcp
    have ht0 : w.cell? ⟨b, off + (C + (sparesL bs C n).getD 0 0), none⟩ = some (.string (ts.getD (C + (sparesL bs C n).getD 0 0) ByteArray.empty)) := hc _ hsp0.1
    obtain ⟨hs1, hs2, hs3⟩ := hsp0
    have HGD : Hid (∀ i, i < cnt → ∀ k, mendM ts bs C cnt i k < 256) := mendM_lt hC8 (by rw [hlen]; exact hn) h1 (by rw [hlen]; exact h2)
    have hq0 : ((cnt : Int) == 0) = false := by simp; omega
    clear h hla hua hsz hc hc2 hc3 h1 h2 hlen hc0
    generalize (sparesL bs C n).getD 0 0 = u0 at *
    generalize ts.getD (C + u0) ByteArray.empty = z0 at *
    go_enter Try.func58, Try.ntmps58
    go_wp2_with fail
    refine (newRows_any cnt (cnt + L) (by omega) (by omega) (by omega) w).mono ?_
    rintro e w1 ⟨rfl, r1, r2, b1⟩
    have HR1 := hide r1
    have HR2 := hide r2
    have HB1 := hide b1
    clear r1 r2 b1 hu0 ht0 hs1 hs2 hs3
    go_wp2_with fail
    go_loopw [40, 12, 13, 14, 15, 47] (fun i _ _ _ _ _ wr => ∃ (k : Nat) (F : Nat → Value), k ≤ cnt ∧ i = .int .i64 (k : Int) ∧ wr.rowIs w.heap.size 2 (cnt * (cnt + L)) F ∧ Slots cnt (cnt + L) k (mendM ts bs C cnt) F ∧ wr.rowIs (w.heap.size + 1) 29 cnt (fun i => .slice (some ⟨w.heap.size, i * (cnt + L), none⟩) (cnt + L) (cnt + L)) ∧ Below w.heap.size w wr) (fun i _ _ _ _ _ _ => cnt - (intOf i).toNat)
    case atStart => exact ⟨0, _, Nat.zero_le _, rfl, HR1.out, fun i _ j _ => by simp, HR2.out, HB1.out⟩
    case round =>
      obtain ⟨k, F, hk, rfl, hr1, hsl, hr2, hbel⟩ := hrel
      clear HR1 HR2 HB1
      have hin : k < cnt → k * (cnt + L) + (cnt + L) ≤ cnt * (cnt + L) := slot_in
      by_cases hlt : k < cnt
      · have hco := hr2.cell hlt
        have hin2 := hin hlt
        have hu : wr.cell? ⟨b3, off3 + k, none⟩ = some (.int .i64 ((sparesL bs C n).getD k 0 : Int)) := (hbel.cell (p := ⟨b3, off3 + k, none⟩) (by show b3 < _; omega)).trans (HC3.out k hlt)
        obtain ⟨hs1, hs2, hs3⟩ := HSP.out k hlt
        have ht : w.cell? ⟨b, off + (C + (sparesL bs C n).getD k 0), none⟩ = some (.string (ts.getD (C + (sparesL bs C n).getD k 0) ByteArray.empty)) := HC.out _ hs1
        have HMS : ∀ o, Hid ((L ≠ 0 → o = k * (cnt + L) + cnt) → o ≤ k * (cnt + L) + (cnt + L) → Slots cnt (cnt + L) (k + 1) (mendM ts bs C cnt) (setF o L (takeR (ts.getD (C + (sparesL bs C n).getD k 0) ByteArray.empty) ts (isThere bs) ((sparesL bs C n).getD k 0) C) (setF (k * (cnt + L)) cnt (fun q => factor ((lostL bs C).getD q 0) ((sparesL bs C n).getD k 0)) F))) := by
          intro o ho ho2
          have := mend_slots (o := o) hsl hlt ho ho2
          rw [HLEN.out] at this
          exact this
        have HRW := hide hr1
        have HR2 := hide hr2
        have HB := hide hbel
        obtain ⟨u, hue⟩ : ∃ u, u = (sparesL bs C n).getD k 0 := ⟨_, rfl⟩
        rw [← hue] at hu hs1 hs2 hs3 ht
        simp only [← hue] at HMS
        obtain ⟨z, hze⟩ : ∃ z, z = ts.getD (C + u) ByteArray.empty := ⟨_, rfl⟩
        rw [← hze] at hs3 ht
        simp only [← hze] at HMS
        have HTX := hide ht
        have HU0 : Hid (w.cell? ⟨b3, off3 + k, none⟩ = some (.int .i64 (u : Int))) := by rw [hue]; exact HC3.out k hlt
        clear hr1 hsl hr2 hbel hue hze ht hin
        obtain ⟨s, hse⟩ : ∃ s, s = k * (cnt + L) := ⟨_, rfl⟩
        rw [← hse] at hco hin2
        simp only [← hse] at HMS
        obtain ⟨N, hNe⟩ : ∃ N, N = cnt * (cnt + L) := ⟨_, rfl⟩
        rw [← hNe] at hin2 HRW ⊢
        have HNE := hide hNe
        have HSE := hide hse
        clear hse hNe
        obtain ⟨wo, hwo⟩ : ∃ wo, wo = wr := ⟨_, rfl⟩
        subst hwo
        go_wp2_with fail
        go_loopw [47, 14, 15] (fun i _ _ wr => ∃ j : Nat, j ≤ cnt ∧ i = .int .i64 (j : Int) ∧ wr.rowIs w.heap.size 2 N (setF s j (fun q => factor ((lostL bs C).getD q 0) u) F) ∧ wr.rowIs (w.heap.size + 1) 29 cnt (fun i => .slice (some ⟨w.heap.size, i * (cnt + L), none⟩) (cnt + L) (cnt + L)) ∧ Below w.heap.size w wr) (fun i _ _ _ => cnt - (intOf i).toNat)
        case atStart => exact ⟨0, Nat.zero_le _, rfl, HRW.out.congr (fun q _ => by unfold setF; rw [if_neg (by omega)]), HR2.out, HB.out⟩
        case round =>
          obtain ⟨j, hj, rfl, hrj, hr2, hbel⟩ := hrel
          clear hco hu
          have hu : wr.cell? ⟨b3, off3 + k, none⟩ = some (.int .i64 (u : Int)) := (hbel.cell (p := ⟨b3, off3 + k, none⟩) (by show b3 < _; omega)).trans HU0.out
          by_cases hltj : j < cnt
          · have hl : wr.cell? ⟨b2, off2 + j, none⟩ = some (.int .i64 ((lostL bs C).getD j 0 : Int)) := (hbel.cell (p := ⟨b2, off2 + j, none⟩) (by show b2 < _; omega)).trans (HC2.out j hltj)
            have hl8 := HLO.out j hltj
            have HRJ := hide hrj
            have HR3 := hide hr2
            have HB3 := hide hbel
            clear hrj hr2 hbel HRW HR2 HB
            obtain ⟨l, hle⟩ : ∃ l, l = (lostL bs C).getD j 0 := ⟨_, rfl⟩
            rw [← hle] at hl hl8
            have HLE := hide hle
            clear hle
            go_wp2_with fail
            refine (share_any l u wr (by omega) (by omega)).mono ?_
            rintro e w3 ⟨rfl, b3'⟩
            have hrow3 := row_below HRJ.out b3' HRJ.out.lt
            have hcl := hrow3.cell (i := s + j) (by omega)
            have hfl := hrow3.frozen (s + j)
            have HN1 : Hid ((w3.setCell ⟨w.heap.size, s + j, none⟩ (.int .i64 (factor l u : Int))).rowIs w.heap.size 2 N (setF s (j + 1) (fun q => factor ((lostL bs C).getD q 0) u) F)) := by
              refine (hrow3.set (s + j) _).congr fun q _ => ?_
              unfold setF
              by_cases e1 : q = s + j
              · subst e1
                rw [if_pos rfl, if_pos (by omega), Nat.add_sub_cancel_left, HLE.out]
              · rw [if_neg e1]
                by_cases e2 : s ≤ q ∧ q < s + j
                · rw [if_pos e2, if_pos (by omega)]
                · rw [if_neg e2, if_neg (by omega)]
            have HN2 := hide ((row_below HR3.out b3' HR3.out.lt).setOther (a := ⟨w.heap.size, s + j, none⟩) (by simp) (.int .i64 (factor l u : Int)))
            have HN3 := hide ((below_here HB3.out b3').setCell (p := ⟨w.heap.size, s + j, none⟩) (Nat.le_refl _) (.int .i64 (factor l u : Int)))
            clear hrow3 b3' HRJ HR3 HB3
            generalize factor l u = f at *
            go_wp2_with fail
            exact ⟨⟨j + 1, by omega, by go_num, HN1.out, HN2.out, HN3.out⟩, by simp [intOf]; omega⟩
          · obtain rfl : j = cnt := by omega
            have ht : wr.cell? ⟨b, off + (C + u), none⟩ = some (.string z) := (hbel.cell (p := ⟨b, off + (C + u), none⟩) (by show b < _; omega)).trans HTX.out
            have HTA : ∀ o nq, Hid ((L ≠ 0 → o = s + j) → o ≤ s + (j + L) → (o + L ≤ N) → Calls Try.prog 69 #[.slice (some ⟨w.heap.size, o, none⟩) L L, .slice (some ⟨b, off, none⟩) C C, .slice (some ⟨b2, off2, none⟩) j lcap, .int .i64 (u : Int), .string z] (wr.drewN nq) fun e w' => e = .returned (.tuple #[]) ∧ (∃ F', w'.rowIs w.heap.size 2 N F' ∧ Slots j (j + L) (k + 1) (mendM ts bs C j) F') ∧ w'.rowIs (w.heap.size + 1) 29 j (fun i => .slice (some ⟨w.heap.size, i * (j + L), none⟩) (j + L) (j + L)) ∧ Below w.heap.size w w') := by
              intro o nq ho ho2 hoN
              have hbq : Below w.heap.size w (wr.drewN nq) := below_drewN hbel nq
              refine (takeAway_any w.heap.size o L L N _ (some ⟨b, off, none⟩) C C ts (some ⟨b2, off2, none⟩) (lostL bs C) j lcap u z (isThere bs) (wr.drewN nq) (lo := lo) (hi := hi) (lo2 := lo2) (hi2 := hi2) (hrj.of_block rfl) hoN ?_ hC8 H1.out (by omega) (HLA.out.later hbq hhi2) hhi hhi2 (by omega) hs3 hL3 (fun i hi => lost_in hi) (fun i hi hp => HSZ.out i (by omega) hp)).mono ?_
              · have := (HT.out.later hbq hhi).2
                exact ⟨this.1, fun h0 => by obtain ⟨b', o', e', h1, h2, h3⟩ := this.2 (by omega); exact ⟨b', o', e', h1, h2, fun i hi => h3 i (by omega)⟩⟩
              · rintro e w' ⟨rfl, r', a'⟩
                exact ⟨rfl, ⟨_, r', (HMS o).out ho ho2⟩, row_aside (w := wr.drewN nq) (hr2.of_block rfl) a' (.inr (Nat.le_refl _)), hbq.trans (a'.below (Nat.le_refl _) hbq.size)⟩
            obtain ⟨o, ho1, ho2, hslT⟩ := slice_tail (P := Try.prog) 29 2 Try.underlying29 (fun _ => by kernel_rfl) w.heap.size s j L (by omega)
            have HTB : ∀ nq, Hid (Calls Try.prog 69 #[.slice (some ⟨w.heap.size, o, none⟩) L L, .slice (some ⟨b, off, none⟩) C C, .slice (some ⟨b2, off2, none⟩) j lcap, .int .i64 (u : Int), .string z] (wr.drewN nq) fun e w' => e = .returned (.tuple #[]) ∧ (∃ F', w'.rowIs w.heap.size 2 N F' ∧ Slots j (j + L) (k + 1) (mendM ts bs C j) F') ∧ w'.rowIs (w.heap.size + 1) 29 j (fun i => .slice (some ⟨w.heap.size, i * (j + L), none⟩) (j + L) (j + L)) ∧ Below w.heap.size w w') := fun nq => (HTA o nq).out ho1 (by omega) (by omega)
            clear ho1 ho2
            clear hrj hr2 hbel HRW HR2 HB HMS HTA
            go_wp2_with fail
            refine wp_region_quiet_tail 21 (by kernel_rfl) (by kernel_rfl) ?_
            simp only [List.take_succ_cons, List.take_zero, List.drop_succ_cons, List.drop_zero]
            repeat (go_big_quiet_step (fail))
            refine wpQuiet_nil ?_
            rintro _ ⟨nq, rfl⟩
            go_wp2_with fail
            refine (HTB nq).out.mono ?_
            rintro e w4 ⟨rfl, ⟨F', hF1, hF2⟩, hF3, hF4⟩
            have G1 := hide hF1
            have G2 := hide hF2
            have G3 := hide hF3
            have G4 := hide hF4
            clear hF1 hF2 hF3 hF4 HTB
            go_wp2_with fail
            exact ⟨⟨k + 1, F', by omega, by go_num, G1.out, G2.out, G3.out, G4.out⟩, by simp [intOf]; omega⟩
      · obtain rfl : k = cnt := by omega
        have HMW : Hid (MatW w.heap.size k (k + L) wr (w.heap.size + 1) (fun _ => w.heap.size) (fun i => i * (k + L)) (fun _ => k + L) (mendM ts bs C k)) := mat_of_slots hr1 hr2 hsl (Nat.le_refl _) (Nat.le_succ _)
        have HBW := hide hbel
        clear hr1 hsl hr2 hbel hin
        go_wp2_with fail
        refine (reduce_any w.heap.size k (k + L) (w.heap.size + 1) k _ _ _ (mendM ts bs C k) wr HMW.out (by omega) (by omega) (by omega) HGD.out).mono ?_
        rintro e w2 ⟨bb, rfl, hred, hb2'⟩
        have hB2 : Below w.heap.size w w2 := HBW.out.trans hb2'
        rcases hred with ⟨rfl, P, O, C2, m1, hM1, hW1⟩ | ⟨rfl, hT⟩
        · have HTO : Hid (LostTold ts bs C k L ((List.range k).map fun q => textN L (fun i => m1 q (k + i)))) := lost_solved hC8 (by rw [HLEN.out]; exact hn) H1.out (by rw [HLEN.out]; exact H2.out) hW1
          have HG1 := hide hW1.good
          have HM1 := hide hM1
          have HB2 := hide hB2
          have hs2 := hB2.size
          have hmk := run_make_row' (P := Try.prog) 22 9 (.string ByteArray.empty) 16 Try.underlying22 Try.infoStr rfl .i64 .i64 k (by omega) (by omega)
          clear hM1 hW1 hB2 hb2' HMW HBW
          go_wp2_with fail
          go_loopw [93, 17, 18] (fun i _ _ wr => ∃ r : Nat, r ≤ k ∧ i = .int .i64 (r : Int) ∧ wr.rowIs w2.heap.size 9 k (fun q => .string (if q < r then textN L (fun i => m1 q (k + i)) else ByteArray.empty)) ∧ Below w2.heap.size w2 wr) (fun i _ _ _ => k - (intOf i).toNat)
          case atStart => exact ⟨0, Nat.zero_le _, rfl, (World.rowIs_made w2 (.string ByteArray.empty) k 9).congr (fun _ _ => by simp), (Below.refl _ _).alloc (Nat.le_refl _) _⟩
          case round =>
            obtain ⟨r, hr, rfl, hrow, hbel⟩ := hrel
            by_cases hlt2 : r < k
            · have hM := HM1.out.below hbel
              have co := (hM.at hlt2).1
              rw [hM.caps r hlt2] at co
              obtain ⟨o, ho1, _, hslT⟩ := slice_tail (P := Try.prog) 29 2 Try.underlying29 (fun _ => by kernel_rfl) (P r) (O r) k L (by omega)
              have HTX : Hid (Calls Try.prog 43 #[.slice (some ⟨P r, o, none⟩) L L] wr fun e w' => e = .returned (.string (textN L (fun i => m1 r (k + i)))) ∧ Below wr.heap.size wr w') := by
                refine textOf_any _ L L (fun i => m1 r (k + i)) (by omega) (fun i hi => HG1.out r hlt2 _) wr (lo := P r) (hi := P r + 1) ⟨hM.lt hlt2, fun h0 => ?_⟩
                rw [ho1 (by omega)]
                exact ⟨P r, O r + k, rfl, Nat.le_refl _, Nat.lt_succ_self _, fun i hi => by rw [Nat.add_assoc]; exact hM.cell hlt2 (by omega)⟩
              have HRW := hide hrow
              have HBW := hide hbel
              clear hM hrow hbel ho1
              go_wp2_with fail
              refine HTX.out.mono ?_
              rintro e w3 ⟨rfl, b3'⟩
              have hrow3 := row_below HRW.out b3' HRW.out.lt
              have hco := hrow3.cell hlt2
              have hfo := hrow3.frozen r
              have HN1 : Hid ((w3.setCell ⟨w2.heap.size, r, none⟩ (.string (textN L (fun i => m1 r (k + i))))).rowIs w2.heap.size 9 k (fun q => .string (if q < r + 1 then textN L (fun i => m1 q (k + i)) else ByteArray.empty))) := by
                refine (hrow3.set r _).congr fun q _ => ?_
                by_cases e1 : q = r
                · subst e1; simp
                · by_cases e2 : q < r
                  · simp [e1, e2, show q < r + 1 by omega]
                  · simp [e1, e2, show ¬ q < r + 1 by omega]
              have HN2 := hide ((below_here HBW.out b3').setCell (p := ⟨w2.heap.size, r, none⟩) (Nat.le_refl _) (.string (textN L (fun i => m1 r (k + i)))))
              clear hrow3 b3' HRW HBW HTX
              generalize textN L (fun i => m1 r (k + i)) = tx at *
              go_wp2_with fail
              exact ⟨⟨r + 1, by omega, by go_num, HN1.out, HN2.out⟩, by simp [intOf]; omega⟩
            · obtain rfl : r = k := by omega
              have HOT : Hid (OwnTexts w.heap.size wr.heap.size wr (some ⟨w2.heap.size, 0, none⟩) r ((List.range r).map fun q => textN L (fun i => m1 q (r + i)))) := by
                refine texts_row (by simp) (hrow.congr fun q hq => ?_) hs2 hrow.lt (Nat.le_refl _)
                unfold cellT
                rw [List.getD_eq_getElem?_getD, List.getElem?_map, List.getElem?_range hq]
                simp [hq]
              have HBE : Hid (Below w.heap.size w wr) := below_here HB2.out hbel
              clear hrow hbel
              go_wp2_with fail
              go_ret2
              exact ⟨_, _, _, rfl, HOT.out, HTO.out, HBE.out⟩
        · exact absurd (lost_never hC8 (by rw [HLEN.out]; exact hn) H1.out (by rw [HLEN.out]; exact H2.out) (Nat.le_refl k) (hT k (Nat.le_refl k))) id
end Go.Proofs.Ytbgjagmnpfcfaak
namespace Go.Proofs.Ytbgjagmnpfcfaak
open Go.RowKit
set_option linter.unusedVariables false
set_option linter.unusedSimpArgs false
set_option maxRecDepth 20000

theorem places_lost {bs : List Bool} {C : Nat} : placesL (bs.take C) false C = lostL bs C := by
  unfold placesL lostL Sv.rest
  apply List.filter_congr
  intro i hi
  rw [List.mem_range] at hi
  have : (bs.take C).getD i false = isThere bs i := by
    unfold isThere
    rw [List.getD_eq_getElem?_getD, List.getD_eq_getElem?_getD, List.getElem?_take, if_pos hi]
  rw [this]
  cases isThere bs i <;> rfl
theorem places_spares {bs : List Bool} {C n : Nat} : placesL (bs.drop C) true (n - C) = sparesL bs C n := by
  unfold placesL sparesL Sv.rest
  apply List.filter_congr
  intro i hi
  have : (bs.drop C).getD i false = isThere bs (C + i) := by
    unfold isThere
    rw [List.getD_eq_getElem?_getD, List.getD_eq_getElem?_getD, List.getElem?_drop]
  show ((bs.drop C).getD i false == true) = !(!isThere bs (C + i))
  rw [this]
  cases isThere bs (C + i) <;> rfl
theorem haveK_all {ts : List ByteArray} {bs : List Bool} {n : Nat} (h : ts.length = n) : haveK ts bs n = haveL ts bs := by
  unfold haveK haveL
  rw [h]
theorem have_mem {ts : List ByteArray} {bs : List Bool} {i : Nat} (hi : i < ts.length) (h : isThere bs i = true) : ts.getD i ByteArray.empty ∈ haveL ts bs := by
  unfold haveL
  rw [List.mem_map]
  exact ⟨i, by rw [List.mem_filter, List.mem_range]; exact ⟨hi, h⟩, rfl⟩
theorem have_size {ts : List ByteArray} {bs : List Bool} {i : Nat} (hal : alikeB (haveL ts bs) = true) (hi : i < ts.length) (h : isThere bs i = true) : (ts.getD i ByteArray.empty).size = ((haveL ts bs).getD 0 ByteArray.empty).size ∧ (ts.getD i ByteArray.empty).size ≤ 300 := by
  unfold alikeB at hal
  rw [List.all_eq_true] at hal
  have := hal _ (have_mem hi h)
  simpa using this
theorem have_some {ts : List ByteArray} {bs : List Bool} {C : Nat} (hC : 1 ≤ C) (hn : C ≤ ts.length) (h : (lostL bs C).length ≤ (sparesL bs C ts.length).length) : 0 < (haveL ts bs).length := by
  have key : ∃ i, i < ts.length ∧ isThere bs i = true := by
    cases h0 : isThere bs 0
    · obtain ⟨k, hk, _⟩ := Sv.rest_has (p := isThere bs) (C := C) (i := 0) (by omega) h0
      have hk' : k < (lostL bs C).length := hk
      have := spare_at (bs := bs) (C := C) (n := ts.length) (r := 0) (by omega)
      exact ⟨_, by omega, this.2⟩
    · exact ⟨0, by omega, h0⟩
  obtain ⟨i, hi, ht⟩ := key
  exact List.length_pos_of_mem (have_mem hi ht)
theorem have_first {ts : List ByteArray} {bs : List Bool} (hal : alikeB (haveL ts bs) = true) (h : 0 < (haveL ts bs).length) : ((haveL ts bs).getD 0 ByteArray.empty).size ≤ 300 := (alikeB_iff.1 hal 0 h).2
theorem Bools.take {lo hi n C : Nat} {w : World} {a : Option Addr} {bs : List Bool} (h : Bools lo hi w a n bs) (hC : C ≤ n) : Bools lo hi w a C (bs.take C) := by
  obtain ⟨h1, h2, h3⟩ := h
  refine ⟨by rw [List.length_take]; omega, h2, fun hn => ?_⟩
  obtain ⟨b, off, rfl, h4, h5, h6⟩ := h3 (by omega)
  refine ⟨b, off, rfl, h4, h5, fun i hi => ?_⟩
  rw [h6 i (by omega)]
  unfold cellO
  rw [List.getD_eq_getElem?_getD, List.getD_eq_getElem?_getD, List.getElem?_take, if_pos hi]
theorem Bools.drop {lo hi n C b off : Nat} {w : World} {bs : List Bool} (h : Bools lo hi w (some ⟨b, off, none⟩) n bs) (hC : C ≤ n) : Bools lo hi w (some ⟨b, off + C, none⟩) (n - C) (bs.drop C) := by
  refine ⟨by rw [List.length_drop, h.1], (h.2.drop C).congr fun i _ => ?_⟩
  unfold cellO
  rw [List.getD_eq_getElem?_getD, List.getD_eq_getElem?_getD, List.getElem?_drop]
theorem byteN_text {n k : Nat} {x : Nat → Nat} (hk : k < n) (hx : x k < 256) : byteN (textN n x) k = x k := by
  unfold byteN textN str
  rw [List.toList_toArray, List.getD_eq_getElem?_getD, List.getElem?_map, List.getElem?_range hk]
  simp only [Option.map_some, Option.getD_some]
  rw [UInt8.toNat_ofNat', Nat.mod_eq_of_lt hx]
theorem size_text {n : Nat} {x : Nat → Nat} : (textN n x).size = n := by
  unfold textN str
  simp [ByteArray.size]
/-- Where a lost column stands among the lost. -/
def lostAt (bs : List Bool) (C i : Nat) : Nat := (lostL bs C).idxOf i
/-- What Rebuilt puts together. -/
def mendOut (ts : List ByteArray) (bs : List Bool) (C : Nat) (fs : List ByteArray) : List ByteArray := (List.range C).map fun i => if isThere bs i then ts.getD i ByteArray.empty else fs.getD (lostAt bs C i) ByteArray.empty
theorem lostAt_at {bs : List Bool} {C q : Nat} (h : q < (lostL bs C).length) : lostAt bs C ((lostL bs C).getD q 0) = q := by
  have hn : (lostL bs C).Nodup := List.nodup_range.filter _
  unfold lostAt
  rw [List.getD_eq_getElem?_getD, List.getElem?_eq_getElem h]
  simp only [Option.getD_some]
  exact hn.idxOf_getElem q h
theorem mended_of {ts : List ByteArray} {bs : List Bool} {C cnt L : Nat} {fs : List ByteArray} (hC : C ≤ 8) (hCn : C ≤ ts.length) (hn : ts.length ≤ C + 4) (h1 : (lostL bs C).length = cnt) (h2 : cnt ≤ (sparesL bs C ts.length).length) (hsz : ∀ i, i < ts.length → isThere bs i = true → (ts.getD i ByteArray.empty).size = L) (h : LostTold ts bs C cnt L fs) : Mended ts bs C L (mendOut ts bs C fs) := by
  obtain ⟨x, hf, hx, hd⟩ := h
  have hget : ∀ i, i < C → (mendOut ts bs C fs).getD i ByteArray.empty = if isThere bs i then ts.getD i ByteArray.empty else fs.getD (lostAt bs C i) ByteArray.empty := by
    intro i hi
    unfold mendOut
    rw [List.getD_eq_getElem?_getD, List.getElem?_map, List.getElem?_range hi]; rfl
  have hlost : ∀ i, i < C → isThere bs i = false → ∃ q, q < cnt ∧ (lostL bs C).getD q 0 = i := by
    intro i hi ht
    obtain ⟨q, hq, e⟩ := Sv.rest_has (p := isThere bs) hi ht
    exact ⟨q, by rw [← h1]; exact hq, e⟩
  have hback : ∀ q, q < cnt → (mendOut ts bs C fs).getD ((lostL bs C).getD q 0) ByteArray.empty = textN L (x q) := by
    intro q hq
    obtain ⟨h3, h4⟩ := lost_at (bs := bs) (C := C) (k := q) (by omega)
    rw [hget _ h3, h4, lostAt_at (by omega)]
    exact hf q hq
  refine ⟨by simp [mendOut], fun i hi => ?_, fun i hi ht => by rw [hget i hi, ht]; rfl, fun r hr k hk => ?_⟩
  · cases ht : isThere bs i
    · obtain ⟨q, hq, e⟩ := hlost i hi ht
      rw [← e, hback q hq, size_text]
    · rw [hget i hi, ht]; exact hsz i (by omega) ht
  · rw [spareN_dot, Sv.dot_parts (isThere bs)]
    have e1 : Sv.dot (fun q => factor ((Sv.rest (isThere bs) C).getD q 0) ((sparesL bs C ts.length).getD r 0)) (fun q => byteN ((mendOut ts bs C fs).getD ((Sv.rest (isThere bs) C).getD q 0) ByteArray.empty) k) (Sv.rest (isThere bs) C).length = Sv.dot (fun q => factor ((lostL bs C).getD q 0) ((sparesL bs C ts.length).getD r 0)) (fun q => x q k) cnt := by
      rw [← h1]
      refine Sv.dot_congr (fun _ _ => rfl) (fun q hq => ?_)
      have hq' : q < cnt := by rw [← h1]; exact hq
      show byteN ((mendOut ts bs C fs).getD ((lostL bs C).getD q 0) ByteArray.empty) k = x q k
      rw [hback q hq', byteN_text hk (hx q hq' k hk)]
    have e2 : Sv.part (isThere bs) (fun i => factor i ((sparesL bs C ts.length).getD r 0)) (fun i => byteN ((mendOut ts bs C fs).getD i ByteArray.empty) k) C = Sv.part (isThere bs) (fun i => factor i ((sparesL bs C ts.length).getD r 0)) (fun i => byteN (ts.getD i ByteArray.empty) k) C :=
      Sv.part_congr _ _ _ _ _ (fun i hi ht => by rw [hget i hi, ht]; rfl)
    rw [e1, e2, hd r (by omega) k hk]
    unfold takeR
    rw [Nat.xor_comm, Nat.xor_assoc, Nat.xor_self, Nat.xor_zero]
theorem mendOk_of {ts : List ByteArray} {bs : List Bool} {C : Nat} (hC1 : 1 ≤ C) (hs : spareB ts.length (C : Int) = true) (hl : bs.length = ts.length) (hal : alikeB (haveL ts bs) = true) (h2 : (lostL bs C).length ≤ (sparesL bs C ts.length).length) : mendOk ts bs (C : Int) = true := by
  rw [mendOk_iff]
  simp only [spareB, Bool.and_eq_true] at hs
  have hCn : C ≤ ts.length := by
    have := hs.2
    simp [inB] at this
    omega
  exact ⟨hs.1, hs.2, hl, by simpa using h2, have_some hC1 hCn h2, hal⟩
theorem mendOk_no {ts : List ByteArray} {bs : List Bool} {c : Int} (h : spareB ts.length c = false ∨ bs.length ≠ ts.length ∨ alikeB (haveL ts bs) = false ∨ (sparesL bs c.toNat ts.length).length < (lostL bs c.toNat).length) : mendOk ts bs c = false := by
  cases e : mendOk ts bs c
  · rfl
  · obtain ⟨g1, g2, g3, g4, _, g5⟩ := mendOk_iff.1 e
    rcases h with h | h | h | h
    · simp [spareB, g1, g2] at h
    · exact absurd g3 h
    · rw [g5] at h; cases h
    · omega
theorem at_lostAt {bs : List Bool} {C i : Nat} (hi : i < C) (ht : isThere bs i = false) : (lostL bs C).getD (lostAt bs C i) 0 = i := by
  obtain ⟨q, hq, e⟩ := Sv.rest_has (p := isThere bs) hi ht
  have hq' : q < (lostL bs C).length := hq
  have e' : (lostL bs C).getD q 0 = i := e
  rw [← e', lostAt_at hq']
theorem texts_head {g n k : Nat} {w : World} {l : List ByteArray} (h : w.rowIs g 9 n (textF l)) (hl : l.length = k) (hk : k ≤ n) : Texts g (g + 1) w (some ⟨g, 0, none⟩) k l :=
  ⟨hl, h.lt, fun _ => ⟨g, 0, rfl, Nat.le_refl _, Nat.lt_succ_self _, fun i hi => by rw [Nat.zero_add]; exact h.cell (by omega)⟩⟩
theorem nums_head {g n k : Nat} {w : World} {l : List Nat} (h : w.rowIs g 3 n (numF l)) (hl : k ≤ l.length) (hk : l.length ≤ n) : Reads g (g + 1) w (some ⟨g, 0, none⟩) k (fun i => .int .i64 (l.getD i 0 : Int)) :=
  ⟨h.lt, fun _ => ⟨g, 0, rfl, Nat.le_refl _, Nat.lt_succ_self _, fun i hi => by rw [Nat.zero_add, h.cell (by omega)]; unfold numF; rw [if_pos (by omega)]⟩⟩
theorem mendOut_get {ts : List ByteArray} {bs : List Bool} {C i : Nat} {fs : List ByteArray} (hi : i < C) : (mendOut ts bs C fs).getD i ByteArray.empty = if isThere bs i then ts.getD i ByteArray.empty else fs.getD (lostAt bs C i) ByteArray.empty := by
  unfold mendOut
  rw [List.getD_eq_getElem?_getD, List.getElem?_map, List.getElem?_range hi]; rfl
def fillT (ts : List ByteArray) (bs : List Bool) (C : Nat) (fs : List ByteArray) (j : Nat) (q : Nat) : ByteArray := if isThere bs q then ts.getD q ByteArray.empty else if lostAt bs C q < j then fs.getD (lostAt bs C q) ByteArray.empty else ByteArray.empty

set_option maxHeartbeats 3200000 in
theorem implRebuilt_any (a : Option Addr) (n cap : Nat) (ts : List ByteArray) (a' : Option Addr) (n' cap' : Nat) (bs : List Bool) (c : Int) (w : World) {lo hi lo' hi' : Nat} (h : Texts lo hi w a n ts) (h' : Bools lo' hi' w a' n' bs) (hn : n ≤ 1048576) (hn' : n' ≤ 1048576) (hts : ∀ s ∈ ts, s.size ≤ 1048576) (hc9 : (Lit.int .i64 c).wf = true) (hcap : n ≤ cap) (hcap' : n' ≤ cap') :
    Calls Try.prog 27 #[.slice a n cap, .slice a' n' cap', .int .i64 c] w (MendedTo ts bs c w) := by
  have HH := hide h
  have HH' := hide h'
  have HL := hide h.1
  have HL' := hide h'.1
  have hhi := h.2.1
  have hhi' := h'.2.1
  have HTS := hide hts
  have HC9 := hide hc9
  clear h h' hts hc9
  have HEM : ∀ w1, Hid (Below w.heap.size w w1 → OwnTexts w.heap.size (w1.alloc (.cells #[] 9)).heap.size (w1.alloc (.cells #[] 9)) (some ⟨w1.heap.size, 0, none⟩) 0 [] ∧ Below w.heap.size w (w1.alloc (.cells #[] 9))) := fun w1 hb => ⟨⟨rfl, Nat.le_refl _, fun h => absurd h (Nat.lt_irrefl _)⟩, hb.alloc hb.size _⟩
  cases hs : spareB n c
  · have HA : Hid (MendAnswer ts bs c [] false) := .inl ⟨mendOk_no (.inl (by rw [HL.out]; exact hs)), rfl, rfl⟩
    have HE := hide ((HEM w).out (Below.refl _ _))
    go_enter Try.func27, Try.ntmps27
    go_wp2_with fail
    refine (hasSpares_any _ _ _ _ _ hn HC9.out).mono ?_
    rw [hs]
    rintro e w1 ⟨rfl, rfl⟩
    go_wp2_with fail
    go_ret2
    exact ⟨_, _, _, _, _, rfl, by omega, HE.out.1, HA.out, HE.out.2⟩
  · by_cases hnn : n' = n
    · subst hnn
      obtain ⟨C, D, rfl, hC1, hC8, hnD, hD1, hD4⟩ : ∃ C D : Nat, c = (C : Int) ∧ 1 ≤ C ∧ C ≤ 8 ∧ n' = C + D ∧ 1 ≤ D ∧ D ≤ 4 := by
        have h1' := hs
        simp [spareB, inB] at h1'
        exact ⟨c.toNat, n' - c.toNat, by omega, by omega, by omega, by omega, by omega, by omega⟩
      subst hnD
      obtain ⟨b, off, rfl, _, hb, hc⟩ := HH.out.2.2 (by omega)
      obtain ⟨b', off', rfl, _, hb', hc'⟩ := HH'.out.2.2 (by omega)
      have HS := hide hs
      have HC := hide hc
      have HC' : Hid (∀ i, i < C + D → w.cell? ⟨b', off' + i, none⟩ = some (.bool (isThere bs i))) := hc'
      clear hs hc hc'
      have HHV := hide (haveK_all (bs := bs) HL.out)
      have HHT : Hid (∀ s ∈ haveL ts bs, s.size ≤ 1048576) := by
        intro s hs
        unfold haveL at hs
        rw [List.mem_map] at hs
        obtain ⟨i, hi, rfl⟩ := hs
        rw [List.mem_filter, List.mem_range] at hi
        exact HTS.out _ (getD_mem hi.1)
      have hHle : (haveL ts bs).length ≤ C + D := by rw [← HHV.out]; exact haveK_le ts bs _
      cases hal : alikeB (haveL ts bs)
      · have HA : Hid (MendAnswer ts bs (C : Int) [] false) := .inl ⟨mendOk_no (.inr (.inr (.inl hal))), rfl, rfl⟩
        go_enter Try.func27, Try.ntmps27
        go_wp2_with fail
        refine (hasSpares_any _ _ _ _ _ hn HC9.out).mono ?_
        rw [HS.out]
        rintro e w1 ⟨rfl, rfl⟩
        go_wp2_with fail
        refine (kept_any _ (C + D) cap ts _ cap' bs w HH.out HH'.out hn).mono ?_
        rintro e w1 ⟨rfl, r1, b1⟩
        rw [HHV.out] at r1 ⊢
        have HE := hide ((HEM w1).out b1)
        have HTX := hide (texts_head r1 rfl hHle)
        clear r1 b1
        go_wp2_with fail
        refine (ofOneLength_any _ _ _ (haveL ts bs) w1 HTX.out (by omega) HHT.out).mono ?_
        rw [hal]
        rintro e w2 ⟨rfl, rfl⟩
        go_wp2_with fail
        go_ret2
        exact ⟨_, _, _, _, _, rfl, by omega, HE.out.1, HA.out, HE.out.2⟩
      · have HAL := hide hal
        have hlcnt : (lostL bs C).length ≤ C := by rw [← places_lost]; exact placesL_le _ _ _
        have hucnt : (sparesL bs C (C + D)).length ≤ D := by
          rw [← places_spares]
          have := placesL_le (bs.drop C) true (C + D - C)
          omega
        go_enter Try.func27, Try.ntmps27
        go_wp2_with fail
        refine (hasSpares_any _ _ _ _ _ hn HC9.out).mono ?_
        rw [HS.out]
        rintro e w1 ⟨rfl, rfl⟩
        go_wp2_with fail
        refine (kept_any _ (C + D) cap ts _ cap' bs w HH.out HH'.out hn).mono ?_
        rintro e w1 ⟨rfl, r1, b1⟩
        rw [HHV.out] at r1 ⊢
        have HTX := hide (texts_head r1 rfl hHle)
        have HB1 := hide b1
        have hs1 := b1.size
        clear r1 b1
        go_wp2_with fail
        refine (ofOneLength_any _ _ _ (haveL ts bs) w1 HTX.out (by omega) HHT.out).mono ?_
        rw [hal]
        rintro e w2 ⟨rfl, rfl⟩
        clear hal
        go_wp2_with fail
        refine (placesOf_any (some ⟨b', off', none⟩) C C (bs.take C) false w1 ((HH'.out.later HB1.out hhi').take (by omega)) (by omega)).mono ?_
        rintro e w2 ⟨rfl, r2, b2⟩
        rw [places_lost] at r2 ⊢
        have HR2 := hide r2
        have HB2 := hide (below_here HB1.out b2)
        have hs2 := b2.size
        have hl2 := r2.lt
        clear r2 b2 HTX
        go_wp2_with fail
        refine (placesOf_any (some ⟨b', off' + C, none⟩) D (cap' - C) (bs.drop C) true w2 (by have := (HH'.out.later HB2.out hhi').drop (C := C) (by omega); rw [Nat.add_sub_cancel_left] at this; exact this) (by omega)).mono ?_
        rintro e w3 ⟨rfl, r3, b3⟩
        have epl : placesL (bs.drop C) true D = sparesL bs C (C + D) := by rw [← places_spares, Nat.add_sub_cancel_left]
        rw [epl] at r3 ⊢
        have HR3 := hide r3
        have HB3 := hide (below_here HB2.out b3)
        have HR23 := hide (row_below HR2.out b3 hl2)
        have hs3 := b3.size
        have hl3 := r3.lt
        clear r3 b3 HR2 epl
        obtain ⟨cnt, hcnt⟩ : ∃ cnt, cnt = (lostL bs C).length := ⟨_, rfl⟩
        obtain ⟨ucnt, hucn⟩ : ∃ ucnt, ucnt = (sparesL bs C (C + D)).length := ⟨_, rfl⟩
        rw [← hcnt] at hlcnt
        rw [← hucn] at hucnt
        rw [← hcnt, ← hucn]
        have HCN := hide hcnt
        have HUC := hide hucn
        clear hcnt hucn
        by_cases hless : ucnt < cnt
        · have HA : Hid (MendAnswer ts bs (C : Int) [] false) := .inl ⟨mendOk_no (.inr (.inr (.inr (by rw [HL.out, Int.toNat_natCast, ← HCN.out, ← HUC.out]; exact hless)))), rfl, rfl⟩
          have HE := hide ((HEM w3).out HB3.out)
          go_wp2_with fail
          go_ret2
          exact ⟨_, _, _, _, _, rfl, by omega, HE.out.1, HA.out, HE.out.2⟩
        · have HOK : Hid (mendOk ts bs (C : Int) = true) := mendOk_of hC1 (by rw [HL.out]; exact HS.out) (HL'.out.trans HL.out.symm) HAL.out (by rw [HL.out, ← HCN.out, ← HUC.out]; omega)
          obtain ⟨L, hLe⟩ : ∃ L, L = ((haveL ts bs).getD 0 ByteArray.empty).size := ⟨_, rfl⟩
          have hL3 : L ≤ 300 := by rw [hLe]; exact have_first HAL.out (have_some hC1 (by rw [HL.out]; omega) (by rw [HL.out, ← HCN.out, ← HUC.out]; omega))
          have HSZ : Hid (∀ i, i < C + D → isThere bs i = true → (ts.getD i ByteArray.empty).size = L) := fun i hi ht => by rw [hLe]; exact (have_size HAL.out (by rw [HL.out]; exact hi) ht).1
          have HLE := hide hLe
          have hcnt4 : cnt ≤ D := by omega
          clear hLe
          have HLT : Hid (Calls Try.prog 58 #[.slice (some ⟨b, off, none⟩) (C + D) cap, .slice (some ⟨w1.heap.size, 0, none⟩) cnt C, .slice (some ⟨w2.heap.size, 0, none⟩) cnt D, .int .i64 (C : Int)] w3 fun e w' => ∃ p c fs, e = .returned (.tuple #[.slice p cnt c, .bool true]) ∧ OwnTexts w3.heap.size w'.heap.size w' p cnt fs ∧ LostTold ts bs C cnt L fs ∧ Below w3.heap.size w3 w') :=
            lostTexts_any b off (C + D) cap ts bs _ cnt C _ D C L w3 (HH.out.later HB3.out hhi) hcap hC1 hC8 (by omega) (by omega) HCN.out.symm (by rw [← HUC.out]; omega) (nums_head HR23.out (by rw [← HCN.out]; exact Nat.le_refl _) (by rw [← HCN.out]; exact hlcnt)) (nums_head HR3.out (by rw [← HUC.out]; omega) (by rw [← HUC.out]; exact hucnt)) hL3 HSZ.out
          go_wp2_with fail
          refine HLT.out.mono ?_
          rintro e w4 ⟨p, pc, fs, rfl, ho4, ht4, b4⟩
          have HB4 := hide (below_here HB3.out b4)
          have hb4 := b4.size
          have HR24 := hide (row_below HR23.out b4 HR23.out.lt)
          have HO4 := hide ho4
          have HTO := hide ht4
          clear HLT ho4 ht4 b4 HR23 HR3
          have hmk := run_make_row' (P := Try.prog) 22 9 (.string ByteArray.empty) 16 Try.underlying22 Try.infoStr rfl .i64 .i64 C (by omega) (by omega)
          go_wp2_with fail
          go_loopw [68, 13] (fun i _ wr => ∃ k : Nat, k ≤ C ∧ i = .int .i64 (k : Int) ∧ wr.rowIs w4.heap.size 9 C (fun q => .string (if q < k ∧ isThere bs q = true then ts.getD q ByteArray.empty else ByteArray.empty)) ∧ Below w4.heap.size w4 wr) (fun i _ _ => C - (intOf i).toNat)
          case atStart => exact ⟨0, Nat.zero_le _, rfl, (World.rowIs_made w4 (.string ByteArray.empty) C 9).congr (fun _ _ => by simp), (Below.refl _ _).alloc (Nat.le_refl _) _⟩
          case round =>
            obtain ⟨k, hk, rfl, hrow, hbel⟩ := hrel
            by_cases hlt : k < C
            · have hbw : Below w.heap.size w wr := below_here HB4.out hbel
              have hck' : wr.cell? ⟨b', off' + k, none⟩ = some (.bool (isThere bs k)) := (hbw.cell (p := ⟨b', off' + k, none⟩) (by show b' < _; omega)).trans (HC'.out k (by omega))
              have hck : wr.cell? ⟨b, off + k, none⟩ = some (.string (ts.getD k ByteArray.empty)) := (hbw.cell (p := ⟨b, off + k, none⟩) (by show b < _; omega)).trans (HC.out k (by omega))
              have HZ := hide (HTS.out _ (getD_mem (show k < ts.length by rw [HL.out]; omega)))
              cases ht : isThere bs k
              · rw [ht] at hck'
                have HN : Hid (wr.rowIs w4.heap.size 9 C (fun q => .string (if q < k + 1 ∧ isThere bs q = true then ts.getD q ByteArray.empty else ByteArray.empty))) := by
                  refine hrow.congr fun q _ => ?_
                  by_cases e1 : q = k
                  · subst e1; simp [ht]
                  · by_cases e2 : q < k
                    · simp [e2, show q < k + 1 by omega]
                    · simp [e2, show ¬ q < k + 1 by omega]
                have HBW := hide hbel
                clear hrow hbel hbw ht
                go_wp2_with fail
                exact ⟨⟨k + 1, by omega, by go_num, HN.out, HBW.out⟩, by simp [intOf]; omega⟩
              · rw [ht] at hck'
                have HRW := hide hrow
                have HBW := hide hbel
                have HT := hide ht
                clear hrow hbel hbw ht
                obtain ⟨z, hz⟩ : ∃ z, z = ts.getD k ByteArray.empty := ⟨_, rfl⟩
                rw [← hz] at hck HZ
                have HZE := hide hz
                clear hz
                go_wp2_with fail
                refine (clone_any z wr HZ.out).mono ?_
                rintro e w5 ⟨rfl, b5⟩
                have hrow5 := row_below HRW.out b5 HRW.out.lt
                have hco := hrow5.cell hlt
                have hfo := hrow5.frozen k
                have HN : Hid ((w5.setCell ⟨w4.heap.size, k, none⟩ (.string z)).rowIs w4.heap.size 9 C (fun q => .string (if q < k + 1 ∧ isThere bs q = true then ts.getD q ByteArray.empty else ByteArray.empty))) := by
                  refine (hrow5.set k _).congr fun q _ => ?_
                  by_cases e1 : q = k
                  · subst e1; simp [HT.out, HZE.out]
                  · by_cases e2 : q < k
                    · simp [e1, e2, show q < k + 1 by omega]
                    · simp [e1, e2, show ¬ q < k + 1 by omega]
                have HNB := hide ((below_here HBW.out b5).setCell (p := ⟨w4.heap.size, k, none⟩) (Nat.le_refl _) (.string z))
                clear hrow5 b5 HRW HBW
                go_wp2_with fail
                exact ⟨⟨k + 1, by omega, by go_num, HN.out, HNB.out⟩, by simp [intOf]; omega⟩
            · obtain rfl : k = C := by omega
              have HRF : Hid (wr.rowIs w4.heap.size 9 k (fun q => .string (fillT ts bs k fs 0 q))) := by
                refine hrow.congr fun q hq => ?_
                unfold fillT
                by_cases e : isThere bs q = true
                · simp [hq, e]
                · simp [e]
              have HBW := hide hbel
              clear hrow hbel
              obtain ⟨wo, hwo⟩ : ∃ wo, wo = wr := ⟨_, rfl⟩
              subst hwo
              go_wp2_with fail
              go_loopw [86, 14, 15] (fun i _ _ wr => ∃ j : Nat, j ≤ cnt ∧ i = .int .i64 (j : Int) ∧ wr.rowIs w4.heap.size 9 k (fun q => .string (fillT ts bs k fs j q)) ∧ Below w4.heap.size w4 wr) (fun i _ _ _ => cnt - (intOf i).toNat)
              case atStart => exact ⟨0, Nat.zero_le _, rfl, HRF.out, HBW.out⟩
              case round =>
                obtain ⟨j, hj, rfl, hrow, hbel⟩ := hrel
                clear HRF HBW
                by_cases hltj : j < cnt
                · obtain ⟨hl1, hl2⟩ := lost_at (bs := bs) (C := k) (k := j) (by rw [← HCN.out]; exact hltj)
                  have hrl := row_below HR24.out hbel HR24.out.lt
                  have hcl : wr.cell? ⟨w1.heap.size, j, none⟩ = some (.int .i64 ((lostL bs k).getD j 0 : Int)) := by
                    rw [hrl.cell (by omega)]
                    unfold numF
                    rw [if_pos (by rw [← HCN.out]; exact hltj)]
                  obtain ⟨bp, op, rfl, _, hbp, hcp⟩ := HO4.out.2.2 (by omega)
                  have hcf : wr.cell? ⟨bp, op + j, none⟩ = some (.string (fs.getD j ByteArray.empty)) := (hbel.cell (p := ⟨bp, op + j, none⟩) (by show bp < _; omega)).trans (hcp j hltj).1
                  have hco := hrow.cell hl1
                  have hfo := hrow.frozen ((lostL bs k).getD j 0)
                  have HN : Hid ((wr.setCell ⟨w4.heap.size, (lostL bs k).getD j 0, none⟩ (.string (fs.getD j ByteArray.empty))).rowIs w4.heap.size 9 k (fun q => .string (fillT ts bs k fs (j + 1) q))) := by
                    refine (hrow.set _ _).congr fun q hq => ?_
                    unfold fillT
                    by_cases e1 : q = (lostL bs k).getD j 0
                    · rw [if_pos e1, e1, hl2, lostAt_at (by rw [← HCN.out]; exact hltj)]
                      simp
                    · rw [if_neg e1]
                      cases e2 : isThere bs q
                      · have e3 : lostAt bs k q ≠ j := fun e => e1 (by rw [← e, at_lostAt hq e2])
                        by_cases e4 : lostAt bs k q < j
                        · simp [e4, show lostAt bs k q < j + 1 by omega]
                        · simp [e4, show ¬ lostAt bs k q < j + 1 by omega]
                      · simp
                  have HNB := hide (hbel.setCell (p := ⟨w4.heap.size, (lostL bs k).getD j 0, none⟩) (Nat.le_refl _) (.string (fs.getD j ByteArray.empty)))
                  clear hrow hbel hrl hcp hl2
                  generalize (lostL bs k).getD j 0 = l at *
                  generalize fs.getD j ByteArray.empty = z at *
                  go_wp2_with fail
                  exact ⟨⟨j + 1, by omega, by go_num, HN.out, HNB.out⟩, by simp [intOf]; omega⟩
                · obtain rfl : j = cnt := by omega
                  have HOT : Hid (OwnTexts w.heap.size wr.heap.size wr (some ⟨w4.heap.size, 0, none⟩) k (mendOut ts bs k fs)) := by
                    refine texts_row (by simp [mendOut]) (hrow.congr fun q hq => ?_) HB4.out.size hrow.lt (Nat.le_refl _)
                    unfold cellT fillT
                    rw [mendOut_get hq]
                    cases e2 : isThere bs q
                    · have e3 : lostAt bs k q < j := by
                        obtain ⟨q', hq', e⟩ := Sv.rest_has (p := isThere bs) hq e2
                        have h5 : q' < (lostL bs k).length := hq'
                        have h6 : (lostL bs k).getD q' 0 = q := e
                        rw [← h6, lostAt_at h5, HCN.out]; exact h5
                      simp [e3]
                    · simp
                  have HAN : Hid (MendAnswer ts bs (k : Int) (mendOut ts bs k fs) true) := by
                    refine .inr ⟨HOK.out, rfl, ?_⟩
                    rw [Int.toNat_natCast, ← HLE.out]
                    exact mended_of hC8 (by rw [HL.out]; omega) (by rw [HL.out]; omega) HCN.out.symm (by rw [HL.out, ← HUC.out]; omega) (by rw [HL.out]; exact HSZ.out) HTO.out
                  have HBE : Hid (Below w.heap.size w wr) := below_here HB4.out hbel
                  clear hrow hbel
                  go_wp2_with fail
                  go_ret2
                  exact ⟨_, _, _, _, _, rfl, hC8, HOT.out, HAN.out, HBE.out⟩
    · have e1 : ((n' : Int) != (n : Int)) = true := by simp; omega
      have HA : Hid (MendAnswer ts bs c [] false) := .inl ⟨mendOk_no (.inr (.inl (by rw [HL.out, HL'.out]; exact hnn))), rfl, rfl⟩
      have HE := hide ((HEM w).out (Below.refl _ _))
      go_enter Try.func27, Try.ntmps27
      go_wp2_with fail
      refine (hasSpares_any _ _ _ _ _ hn HC9.out).mono ?_
      rw [hs]
      rintro e w1 ⟨rfl, rfl⟩
      go_wp2_with fail
      go_ret2
      exact ⟨_, _, _, _, _, rfl, by omega, HE.out.1, HA.out, HE.out.2⟩
end Go.Proofs.Ytbgjagmnpfcfaak
