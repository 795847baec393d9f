/- The walks of a row of products that is made once: doubled, fill, the lock and the mark of sync.Once, times. -/
import Derived.Test.YtbgjagmnpfcfaakFieldSpec
import Derived.Defers
import Derived.Laws.Pointers
import Derived.Laws.LoneSync
import Derived.RegionTactic
import Derived.RegionCalls
import Derived.ChangeAlike
namespace Go.Proofs.Ytbgjagmnpfcfaak
open Go.RowKit
set_option linter.unusedVariables false
set_option maxRecDepth 20000

theorem isElement_any (x : Int) (w : World) :
    Calls Try.prog 73 #[.int .i64 x] w fun e w' => e = .returned (.bool (elem x)) ∧ w = w' := by
  by_cases h1 : 0 ≤ x
  · go_enter Try.func73, Try.ntmps73
    go_wp2
    go_ret
    exact ⟨ret_bool (by simp [elem, inB, h1]; omega), rfl⟩
  · go_enter Try.func73, Try.ntmps73
    go_wp2
    go_ret
    exact ⟨ret_bool (by simp [elem, inB]; omega), rfl⟩

set_option maxRecDepth 20000 in
theorem doubled_any (a : Nat) (ha : a < 256) (w : World) :
    Calls Try.prog 77 #[.int .i64 (a : Int)] w fun e w' => e = .returned (.int .i64 (Field.dbl a : Nat)) ∧ w = w' := by
  have HX2 : Hid (bits .xor .i64 ((a : Int) * 2) 301 = ((2 * a ^^^ 301 : Nat) : Int)) := by
    have := i64_xor_301 (2 * a) (by omega)
    rw [show ((2 * a : Nat) : Int) = (a : Int) * 2 by omega] at this
    exact this
  by_cases h2 : 256 ≤ 2 * a
  · go_enter Try.func77, Try.ntmps77
    go_wp2
    go_ret
    exact ⟨ret_i64 (by rw [HX2.out]; unfold Field.dbl; rw [if_pos h2]), rfl⟩
  · go_enter Try.func77, Try.ntmps77
    go_wp2
    go_ret
    exact ⟨ret_i64 (by unfold Field.dbl; rw [if_neg h2]; go_num), rfl⟩

/-- The cells of a row: whose it is, whether it is made (and by whom: nobody), its products so far. -/
def rowCell (a : Nat) (d m : Int) (k : Nat) (j : Nat) : Value :=
  if j = 0 then .int .i64 (a : Int) else if j = 1 then .int .u32 d else if j = 2 then .int .i32 m else if j = 3 then .int .u32 0 else if j < 4 + k then .int .i64 (Field.mul a (j - 4) : Nat) else .int .i64 0
def Row (w : World) (b a : Nat) (d m : Int) (k : Nat) : Prop := Owned b (b + 1) w (some ⟨b, 0, none⟩) 260 (rowCell a d m k)

theorem zero_row : Try.zeroCells92 = #[.int .i64 0, .int .u32 0, .int .i32 0, .int .u32 0] ++ Array.replicate 256 (.int .i64 0) := by kernel_rfl
theorem zero_row_at (a j : Nat) (hj : j < 260) : (Try.zeroCells92.setIfInBounds 0 (.int .i64 (a : Int)))[j]? = some (rowCell a 0 0 0 j) := by
  rw [zero_row, Array.getElem?_setIfInBounds]
  by_cases h0 : j = 0
  · subst h0; simp [rowCell]
  · rw [if_neg (by omega), Array.getElem?_append]
    by_cases h4 : j < 4
    · have : j = 1 ∨ j = 2 ∨ j = 3 := by omega
      rcases this with rfl | rfl | rfl <;> rfl
    · rw [if_neg (by simpa using h4)]
      simp only [rowCell, if_neg h0, if_neg (show ¬ j = 1 by omega), if_neg (show ¬ j = 2 by omega), if_neg (show ¬ j = 3 by omega), if_neg (show ¬ j < 4 + 0 by omega)]
      rw [Array.getElem?_replicate, if_pos (by simp; omega)]
theorem row_new (a : Nat) (w : World) : Row (w.alloc (.cells (Try.zeroCells92.setIfInBounds 0 (.int .i64 (a : Int))) 92)) w.heap.size a 0 0 0 := by
  refine ⟨by simp, fun _ => ⟨w.heap.size, 0, rfl, Nat.le_refl _, Nat.lt_succ_self _, fun i hi => ⟨?_, ?_⟩⟩⟩
  · rw [World.cell?_alloc_new, Nat.zero_add]; exact zero_row_at a i hi
  · simp

set_option maxRecDepth 100000 in
theorem multiplesOf_any (a : Nat) (ha : a < 256) (w : World) :
    Calls Try.prog 61 #[.int .i64 (a : Int)] w fun e w' => e = .returned (.pointer (some ⟨w.heap.size, 0, none⟩)) ∧ Row w' w.heap.size a 0 0 0 ∧ Below w.heap.size w w' ∧ w'.heap.size = w.heap.size + 1 := by
  go_enter Try.func61, Try.ntmps61
  go_wp2_with fail
  go_ret
  exact ⟨rfl, row_new a w, (Below.refl _ _).alloc (Nat.le_refl _) _, by simp⟩

theorem row_first {w : World} {b a : Nat} {d m : Int} (h : Row w b a d m 0) : Row w b a d m 1 := by
  refine Owned.congr h fun i hi => ?_
  unfold rowCell
  by_cases h4 : i = 4
  · subst h4; simp [Field.mul_zero]
  · simp only [show (i < 4 + 0) = (i < 4 + 1) by simp; omega]
theorem Row.at {w : World} {b a : Nat} {d m : Int} {k j : Nat} (h : Row w b a d m k) (hj : j < k) (hk : k ≤ 256) : w.cell? ⟨b, 4 + j, none⟩ = some (.int .i64 (Field.mul a j : Nat)) := by
  have := (h.at0 (i := 4 + j) (by omega)).1
  rw [this, rowCell, if_neg (by omega), if_neg (by omega), if_neg (by omega), if_neg (by omega), if_pos (by omega), Nat.add_sub_cancel_left]
theorem Row.of {w : World} {b a : Nat} {d m : Int} {k : Nat} (h : Row w b a d m k) : w.cell? ⟨b, 0, none⟩ = some (.int .i64 (a : Int)) := (h.at0 (i := 0) (by omega)).1
theorem Row.done {w : World} {b a : Nat} {d m : Int} {k : Nat} (h : Row w b a d m k) : w.cell? ⟨b, 1, none⟩ = some (.int .u32 d) := (h.at0 (i := 1) (by omega)).1
theorem Row.lock {w : World} {b a : Nat} {d m : Int} {k : Nat} (h : Row w b a d m k) : w.cell? ⟨b, 2, none⟩ = some (.int .i32 m) := (h.at0 (i := 2) (by omega)).1
theorem Row.free {w : World} {b a : Nat} {d m : Int} {k j : Nat} (h : Row w b a d m k) (hj : j < 260) : w.frozen? ⟨b, j, none⟩ = false := (h.at0 hj).2.1
theorem Row.store {w : World} {b a : Nat} {d m : Int} {k : Nat} (h : Row w b a d m k) (hk : k < 256) : Row (w.setCell ⟨b, 4 + k, none⟩ (.int .i64 (Field.mul a k : Nat))) b a d m (k + 1) := by
  refine Owned.congr (h.set0 (i := 4 + k) (by omega) _) fun i hi => ?_
  by_cases h4 : i = 4 + k
  · rw [if_pos h4]; subst h4
    rw [rowCell, if_neg (by omega), if_neg (by omega), if_neg (by omega), if_neg (by omega), if_pos (by omega), Nat.add_sub_cancel_left]
  · rw [if_neg h4]; unfold rowCell
    simp only [show (i < 4 + k) = (i < 4 + (k + 1)) by simp; omega]
theorem Row.mark {w : World} {b a : Nat} {d m : Int} {k : Nat} (h : Row w b a d m k) (d' : Int) : Row (w.setCell ⟨b, 1, none⟩ (.int .u32 d')) b a d' m k := by
  refine Owned.congr (h.set0 (i := 1) (by omega) _) fun i hi => ?_
  by_cases h4 : i = 1
  · rw [if_pos h4]; subst h4; rfl
  · rw [if_neg h4]; unfold rowCell; rw [if_neg h4, if_neg h4]
theorem Row.turn {w : World} {b a : Nat} {d m : Int} {k : Nat} (h : Row w b a d m k) (m' : Int) : Row (w.setCell ⟨b, 2, none⟩ (.int .i32 m')) b a d m' k := by
  refine Owned.congr (h.set0 (i := 2) (by omega) _) fun i hi => ?_
  by_cases h4 : i = 2
  · rw [if_pos h4]; subst h4; rfl
  · rw [if_neg h4]; unfold rowCell; rw [if_neg h4, if_neg h4]
theorem Row.drew {w : World} {b a : Nat} {d m : Int} {k : Nat} (h : Row w b a d m k) : Row w.drew b a d m k := h

set_option maxRecDepth 100000 in
set_option maxHeartbeats 1000000 in
theorem fill_any (b a : Nat) (ha : a < 256) (d m : Int) (w : World) (h : Row w b a d m 0) :
    Calls Try.prog 72 #[.pointer (some ⟨b, 0, none⟩)] w fun e w' => e = .returned (.tuple #[]) ∧ Row w' b a d m 256 ∧ Aside b (b + 1) w w' ∧ w'.heap.size = w.heap.size := by
  have H1 := hide (row_first h)
  clear h
  go_enter Try.func72, Try.ntmps72
  go_wp2_with fail
  go_loopw [2, 3] (fun i _ wr => ∃ k : Nat, 1 ≤ k ∧ k ≤ 256 ∧ i = .int .i64 (k : Int) ∧ Hid (Row wr b a d m k ∧ Aside b (b + 1) w wr ∧ wr.heap.size = w.heap.size)) (fun i _ _ => 256 - (intOf i).toNat)
  case atStart => exact ⟨1, by omega, by omega, rfl, H1.out, Aside.refl _ _ _, rfl⟩
  case round =>
    obtain ⟨k, hk1, hk, rfl, HR⟩ := hrel
    by_cases hlt : k < 256
    · have hc : wr.cell? ⟨b, 4 + k / 2, none⟩ = some (.int .i64 (Field.mul a (k / 2) : Nat)) := HR.out.1.at (by omega) hk
      have h0 := HR.out.1.of
      have hst : wr.cell? ⟨b, 4 + k, none⟩ = some (rowCell a d m k (4 + k)) := (HR.out.1.at0 (by omega)).1
      have hfr := HR.out.1.free (j := 4 + k) (by omega)
      have HH := hide (Field.mul_half ha hlt)
      have HL := hide (Field.mul_lt (b := k / 2) ha)
      go_wp2_with fail
      refine (doubled_any _ HL.out _).mono ?_
      rintro e w1 ⟨rfl, rfl⟩
      by_cases hodd : k % 2 = 1
      · have HX := hide (i64_xor_nat (Field.dbl (Field.mul a (k / 2))) a (by have := Field.dbl_lt HL.out; omega) (by omega))
        have HV : Hid (bits .xor .i64 ((Field.dbl (Field.mul a (k / 2)) : Nat) : Int) (a : Int) = ((Field.mul a k : Nat) : Int)) := by
          show _ = _
          rw [HX.out, HH.out, if_pos hodd]
        go_wp2_with fail
        rw [HV.out]
        go_roundw
        case rel => exact ⟨k + 1, by omega, by omega, by go_num, HR.out.1.store hlt, HR.out.2.1.setCell (Nat.le_refl _) (Nat.lt_succ_self _) _, by rw [Go.Deep.nblk_setCell]; exact HR.out.2.2⟩
        case measure => simp [intOf]; omega
      · have HV : Hid (((Field.dbl (Field.mul a (k / 2)) : Nat) : Int) = ((Field.mul a k : Nat) : Int)) := by
          show _ = _
          rw [HH.out, if_neg hodd, Nat.xor_zero]
        go_wp2_with fail
        rw [HV.out]
        go_roundw
        case rel => exact ⟨k + 1, by omega, by omega, by go_num, HR.out.1.store hlt, HR.out.2.1.setCell (Nat.le_refl _) (Nat.lt_succ_self _) _, by rw [Go.Deep.nblk_setCell]; exact HR.out.2.2⟩
        case measure => simp [intOf]; omega
    · go_wp2_with fail
      go_end0
      have : k = 256 := by omega
      subst this
      exact ⟨rfl, HR.out⟩
end Go.Proofs.Ytbgjagmnpfcfaak
