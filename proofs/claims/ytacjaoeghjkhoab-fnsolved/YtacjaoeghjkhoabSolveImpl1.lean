/- The walks of chapter 6's program: new rows. -/
import Derived.Test.YtacjaoeghjkhoabRowsMat
import Derived.Test.YtacjaoeghjkhoabSpareImplB2
import Derived.Test.YtacjaoeghjkhoabSolveBase
namespace Go.Proofs.Ytacjaoeghjkhoab
open Go.RowKit
set_option linter.unusedVariables false
set_option linter.unusedSimpArgs false
set_option maxRecDepth 20000

set_option maxHeartbeats 800000 in
theorem newRows_any (n W : Nat) (hn : n ≤ 8) (hW1 : 1 ≤ W) (hW : W ≤ 1048576) (w : World) :
    Calls Try.prog 66 #[.int .i64 (n : Int), .int .i64 (W : Int)] w fun e w' => e = .returned (.slice (some ⟨w.heap.size + 1, 0, none⟩) n n) ∧ w'.rowIs w.heap.size 2 (n * W) (fun _ => .int .i64 0) ∧ w'.rowIs (w.heap.size + 1) 44 n (fun i => .slice (some ⟨w.heap.size, i * W, none⟩) W W) ∧ Below w.heap.size w w' := by
  have hW0 : ¬ W = 0 := by omega
  have hq : n * W ≤ 8388608 := Nat.mul_le_mul hn hW
  have HS : ∀ k, Hid (k < n → k * W + W ≤ n * W) := fun k hk => by
    have := Nat.mul_le_mul_right W (show k + 1 ≤ n from hk)
    rw [Nat.add_mul, Nat.one_mul] at this
    exact this
  have hm0 : (n : Int) * (W : Int) = ((n * W : Nat) : Int) := by simp
  obtain ⟨q, hqe⟩ : ∃ q, q = n * W := ⟨_, rfl⟩
  rw [← hqe] at hq hm0 ⊢
  have hmkI := run_make_row' (P := Try.prog) 44 2 (.int .i64 0) 8 Try.underlying44 Try.infoI64 rfl .i64 .i64 q (by omega) (by omega)
  have hmkS := run_make_row' (P := Try.prog) 43 44 (.slice none 0 0) 24 Try.underlying43 Try.infoSI rfl .i64 .i64 n (by omega) (by omega)
  have HQ := hide hqe
  clear hqe
  go_enter Try.func66, Try.ntmps66
  go_wp2_with fail
  go_loopw [18, 7, 8, 9] (fun i _ _ _ wr => ∃ k : Nat, k ≤ n ∧ i = .int .i64 (k : Int) ∧ wr.rowIs w.heap.size 2 q (fun _ => .int .i64 0) ∧ wr.rowIs (w.heap.size + 1) 44 n (fun i => if i < k then .slice (some ⟨w.heap.size, i * W, none⟩) W W else .slice none 0 0) ∧ Below w.heap.size w wr) (fun i _ _ _ _ => n - (intOf i).toNat)
  case atStart =>
    refine ⟨0, Nat.zero_le _, rfl, (World.rowIs_made w (.int .i64 0) q 2).alloc _, ?_, ((Below.refl _ _).alloc (Nat.le_refl _) _).alloc (by simp) _⟩
    have := World.rowIs_made (w.alloc (.cells (madeCells #[.int .i64 0] q) 2)) (.slice none 0 0) n 44
    simp only [World.size_alloc] at this
    exact this.congr (fun _ _ => by simp)
  case round =>
    obtain ⟨k, hk, rfl, hr1, hr2, hbel⟩ := hrel
    by_cases hlt : k < n
    · have hle := (HS k).out hlt
      rw [← HQ.out] at hle
      have hm1 : (k : Int) * (W : Int) = ((k * W : Nat) : Int) := by simp
      have hm2 : ((k : Int) + 1) * (W : Int) = ((k * W + W : Nat) : Int) := by rw [Int.add_mul]; simp
      have hco := hr2.cell hlt
      have hfo := hr2.frozen k
      have HR1 := hide (hr1.setOther (a := ⟨w.heap.size + 1, k, none⟩) (by simp) (.slice (some ⟨w.heap.size, k * W, none⟩) W W))
      have HR2 : Hid ((wr.setCell ⟨w.heap.size + 1, k, none⟩ (.slice (some ⟨w.heap.size, k * W, none⟩) W W)).rowIs (w.heap.size + 1) 44 n (fun i => if i < k + 1 then .slice (some ⟨w.heap.size, i * W, none⟩) W W else .slice none 0 0)) := by
        refine (hr2.set k _).congr fun i _ => ?_
        by_cases e1 : i = k
        · subst e1; simp
        · by_cases e2 : i < k
          · simp [e1, e2, show i < k + 1 by omega]
          · simp [e1, e2, show ¬ i < k + 1 by omega]
      have HB := hide (hbel.setCell (p := ⟨w.heap.size + 1, k, none⟩) (Nat.le_succ _) (.slice (some ⟨w.heap.size, k * W, none⟩) W W))
      clear hr1 hr2 hbel
      generalize k * W = f at *
      go_wp2_with fail
      exact ⟨⟨k + 1, by omega, by go_num, HR1.out, HR2.out, HB.out⟩, by simp [intOf]; omega⟩
    · obtain rfl : k = n := by omega
      have HR1 := hide hr1
      have HR2 := hide (hr2.congr (g := fun i => .slice (some ⟨w.heap.size, i * W, none⟩) W W) (fun i hi => by simp [hi]))
      have HB := hide hbel
      clear hr1 hr2 hbel
      go_wp2_with fail
      go_ret
      exact ⟨rfl, HR1.out, HR2.out, HB.out⟩
end Go.Proofs.Ytacjaoeghjkhoab
