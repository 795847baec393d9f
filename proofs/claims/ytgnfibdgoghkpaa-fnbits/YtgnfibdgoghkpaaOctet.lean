/- The walks of the functions over a block of eight bits. -/
import Derived.Test.YtgnfibdgoghkpaaRows
import Derived.Test.YtgnfibdgoghkpaaCopyBase
import Derived.Test.YtgnfibdgoghkpaaBitsMath
import Derived.Test.YtgnfibdgoghkpaaArrEq
import Derived.Deep.QuietTactic
import Derived.BigQuiet
namespace Go.Proofs.Ytgnfibdgoghkpaa
open Go.RowKit
set_option linter.unusedVariables false

def oct (x0 x1 x2 x3 x4 x5 x6 x7 : Int) : Value := .agg #[.int .i64 x0, .int .i64 x1, .int .i64 x2, .int .i64 x3, .int .i64 x4, .int .i64 x5, .int .i64 x6, .int .i64 x7]
theorem Try.plainI64 : Try.prog.plainKey 2 = true := by kernel_rfl
theorem oct_eql (x0 x1 x2 x3 x4 x5 x6 x7 y0 y1 y2 y3 y4 y5 y6 y7 : Int) (w : World) :
    (binOp .eql 52 (oct x0 x1 x2 x3 x4 x5 x6 x7) (oct y0 y1 y2 y3 y4 y5 y6 y7)).run Try.prog w = .ok (.bool (decide ([x0, x1, x2, x3, x4, x5, x6, x7] = [y0, y1, y2, y3, y4, y5, y6, y7]))) w := by
  unfold oct
  rw [run_eql_struct]
  have h := run_equalIn_arr (P := Try.prog) 9998 52 2 8 (by kernel_rfl) (fun _ => by kernel_rfl) Try.underlying2 Try.plainI64 [x0, x1, x2, x3, x4, x5, x6, x7] [y0, y1, y2, y3, y4, y5, y6, y7] rfl rfl w
  rw [show (10000 : Nat) = 9998 + 1 + 1 from rfl]
  simp only [List.map_cons, List.map_nil] at h
  rw [h]
  rfl

theorem row_of_oct (w : World) (t : Nat) (x0 x1 x2 x3 x4 x5 x6 x7 : Int) : (w.alloc (.cells #[.int .i64 x0, .int .i64 x1, .int .i64 x2, .int .i64 x3, .int .i64 x4, .int .i64 x5, .int .i64 x6, .int .i64 x7] t)).rowIs w.heap.size t 8 (cellI [x0, x1, x2, x3, x4, x5, x6, x7]) :=
  World.rowIs_alloc w _ t _ (fun i hi => by
    match i, hi with
    | 0, _ | 1, _ | 2, _ | 3, _ | 4, _ | 5, _ | 6, _ | 7, _ => rfl)

set_option maxHeartbeats 800000 in
theorem octApart_any (x0 x1 x2 x3 x4 x5 x6 x7 y0 y1 y2 y3 y4 y5 y6 y7 : Int) (w : World) :
    Calls Try.prog 39 #[oct x0 x1 x2 x3 x4 x5 x6 x7, oct y0 y1 y2 y3 y4 y5 y6 y7] w fun e w' => e = .returned (.int .i64 (dist [x0, x1, x2, x3, x4, x5, x6, x7] [y0, y1, y2, y3, y4, y5, y6, y7])) ∧ Below w.heap.size w w' := by
  have heq := oct_eql x0 x1 x2 x3 x4 x5 x6 x7 y0 y1 y2 y3 y4 y5 y6 y7
  have r1 := row_of_oct w 52 x0 x1 x2 x3 x4 x5 x6 x7
  have r2 := row_of_oct (w.alloc (.cells #[.int .i64 x0, .int .i64 x1, .int .i64 x2, .int .i64 x3, .int .i64 x4, .int .i64 x5, .int .i64 x6, .int .i64 x7] 52)) 52 y0 y1 y2 y3 y4 y5 y6 y7
  have R1 := hide (r1.alloc (.cells #[.int .i64 y0, .int .i64 y1, .int .i64 y2, .int .i64 y3, .int .i64 y4, .int .i64 y5, .int .i64 y6, .int .i64 y7] 52))
  have hsz : (w.alloc (.cells #[.int .i64 x0, .int .i64 x1, .int .i64 x2, .int .i64 x3, .int .i64 x4, .int .i64 x5, .int .i64 x6, .int .i64 x7] 52)).heap.size = w.heap.size + 1 := by simp
  rw [hsz] at r2
  have R2 := hide r2
  clear r1 r2 hsz
  obtain ⟨X, hX⟩ : ∃ X, X = [x0, x1, x2, x3, x4, x5, x6, x7] := ⟨_, rfl⟩
  obtain ⟨Y, hY⟩ : ∃ X, X = [y0, y1, y2, y3, y4, y5, y6, y7] := ⟨_, rfl⟩
  have hXl : X.length = 8 := by rw [hX]; rfl
  have hYl : Y.length = 8 := by rw [hY]; rfl
  have HXL := hide hXl
  have HYL := hide hYl
  rw [← hX, ← hY] at heq
  rw [← hX] at R1
  rw [← hY] at R2
  rw [← hX, ← hY]
  clear hX hY hXl hYl
  unfold oct at heq ⊢
  by_cases hxy : X = Y
  · have hd : decide (X = Y) = true := by simpa using hxy
    rw [hd] at heq
    have HXY := hide hxy
    clear hxy hd
    go_enter Try.func39, Try.ntmps39
    go_wp2
    go_ret
    exact ⟨ret_i64 (by rw [HXY.out, dist_self]; rfl), ((Below.refl _ _).alloc (Nat.le_refl _) _).alloc (by simp) _⟩
  · have hd : decide (X = Y) = false := by simpa using hxy
    rw [hd] at heq
    clear hd hxy
    go_enter Try.func39, Try.ntmps39
    go_wp2
    go_loopw [5, 10] (fun t i wr => ∃ k : Nat, k ≤ 8 ∧ i = .int .i64 k ∧ t = .int .i64 (dist (X.take k) (Y.take k)) ∧ wr.rowIs w.heap.size 52 8 (cellI X) ∧ wr.rowIs (w.heap.size + 1) 52 8 (cellI Y) ∧ Below w.heap.size w wr) (fun _ i _ => 8 - (intOf i).toNat)
    case atStart => exact ⟨0, Nat.zero_le _, rfl, rfl, R1.out, R2.out, ((Below.refl _ _).alloc (Nat.le_refl _) _).alloc (by simp) _⟩
    case round =>
      obtain ⟨k, hk, rfl, rfl, h1, h2, hbel⟩ := hrel
      clear R1 R2 heq
      obtain ⟨s, hs⟩ : ∃ s, s = dist (X.take k) (Y.take k) := ⟨_, rfl⟩
      have hs8 : s ≤ 8 := by have := dist_le (X.take k) (Y.take k); rw [List.length_take] at this; omega
      rw [← hs]
      by_cases hlt : k < 8
      · have hst := dist_step X Y k (by rw [HXL.out]; exact hlt) (by rw [HYL.out]; exact hlt)
        rw [← hs] at hst
        have HST := hide hst
        clear hst hs
        have hc1 : wr.cell? ⟨w.heap.size, k, none⟩ = some (.int .i64 (X.getD k 0)) := h1.cell hlt
        have hc2 : wr.cell? ⟨w.heap.size + 1, k, none⟩ = some (.int .i64 (Y.getD k 0)) := h2.cell hlt
        obtain ⟨x, hx⟩ : ∃ x, x = X.getD k 0 := ⟨_, rfl⟩
        obtain ⟨y, hy⟩ : ∃ x, x = Y.getD k 0 := ⟨_, rfl⟩
        rw [← hx] at hc1
        rw [← hy] at hc2
        have hst' := HST.out
        rw [← hx, ← hy] at hst'
        have HST' := hide hst'
        clear hx hy HST hst'
        have H1 := hide h1
        have H2 := hide h2
        have HB := hide hbel
        clear h1 h2 hbel
        by_cases e : x = y
        · subst e
          rw [if_pos rfl] at HST'
          go_wp2
          go_quiet (fail)
          go_wp2
          go_roundw
          case rel => exact ⟨k + 1, by omega, by go_num, by rw [HST'.out]; go_num, H1.out, H2.out, below_drewN HB.out _⟩
          case measure => simp [intOf]; omega
        · rw [if_neg e] at HST'
          have e0 : (x == y) = false := by simpa using e
          have e1 : (x != y) = true := by simpa using e
          go_wp2
          go_quiet (fail)
          go_wp2
          go_roundw
          case rel => exact ⟨k + 1, by omega, by go_num, by rw [HST'.out]; go_num, H1.out, H2.out, below_drewN HB.out _⟩
          case measure => simp [intOf]; omega
      · go_wp2
        go_ret
        exact ⟨ret_i64 (by rw [hs, List.take_of_length_le (by rw [HXL.out]; omega), List.take_of_length_le (by rw [HYL.out]; omega)]), hbel⟩

theorem Try.sizeI64 : (Try.prog.info? 2).map (·.size) = some 1 := by kernel_rfl
theorem Try.zeroI64 (w : World) : (zeroValue 2).run Try.prog w = .ok (.int .i64 0) w := by kernel_rfl

/-- What a block holds when it is filled from a list. -/
def filled (h : Nat → Value) (n : Nat) (i : Nat) : Value := if i < n then h i else .int .i64 0

set_option maxHeartbeats 400000 in
theorem fill_any (g : Nat) (f h : Nat → Value) (sa : Option Addr) (n cap lo hi : Nat) (w : World) (hrow : w.rowIs g 52 8 f) (hr : Reads lo hi w sa n h) (hg : hi ≤ g ∨ g < lo) (h1 : ∀ i, i < n → (h i).oneCell' = true) :
    Calls Try.prog 36 #[.pointer (some ⟨g, 0, none⟩), .slice sa n cap] w fun e w' => e = .returned (.tuple #[]) ∧ w'.rowIs g 52 8 (filled h n) ∧ Aside g (g + 1) w w' := by
  obtain ⟨w1, hcl, r1, s1⟩ := clear_row (P := Try.prog) w 25 2 0 (.int .i64 0) Try.underlying25 Try.zeroI64 rfl rfl g 52 8 8 8 f hrow (by omega) (by omega)
  obtain ⟨w2, hcp, r2, s2⟩ := copy_row (P := Try.prog) w1 25 25 3 2 Try.underlying25 Try.sizeI64 g 0 8 8 8 52 _ h r1 sa n cap lo hi (hr.aside s1 (by omega)) (Nat.min n 8) rfl (by show 0 + min n 8 ≤ 8; omega) (fun i hi => h1 i (by have h' : i < min n 8 := hi; omega))
  have R := hide (r2.congr (g := filled h n) (fun i hi => by
    unfold filled
    by_cases e : i < n
    · rw [if_pos ⟨Nat.zero_le _, by show i < 0 + min n 8; omega⟩, if_pos e]; rfl
    · rw [if_neg (by show ¬ (0 ≤ i ∧ i < 0 + min n 8); omega), if_neg e, if_pos hi]))
  have S := hide (s1.trans s2)
  clear r1 r2 s1 s2 hrow hr
  go_enter Try.func36, Try.ntmps36
  go_wp2
  go_end0
  exact ⟨rfl, R.out, S.out⟩
end Go.Proofs.Ytgnfibdgoghkpaa
