/- The walks of chapter 5's program: the least gap, Nearest. -/
import Derived.Test.YtgofmegjanekhabWeaveIter
import Derived.Test.YtgofmegjanekhabWeaveSort
import Derived.Test.YtgofmegjanekhabWeaveGap
import Derived.Test.YtgofmegjanekhabCopyBase
namespace Go.Proofs.Ytgofmegjanekhab
open Go.RowKit Go.Shelf
set_option linter.unusedVariables false
set_option linter.unusedSimpArgs false
set_option maxRecDepth 100000
attribute [local go_sem] Oper.semAt_some

theorem row_cell {w : World} {base g cap k : Nat} {ys : List Int} (h : w.ownsRow base 2 1 (.slice (some ⟨g, 0, none⟩) k cap) k (ys.map (Value.int .i64))) {i : Nat} (hi : i < k) : w.cell? ⟨g, i, none⟩ = some (.int .i64 (ys.getD i 0)) := by
  have hl : ys.length = k := by simpa using h.1
  rw [h.cellAt i (by omega)]
  simp [List.getD, List.getElem?_eq_getElem (show i < ys.length by omega)]

set_option maxHeartbeats 1000000 in
theorem leastGap_ys {w : World} {base g cap n : Nat} {ys : List Int} (hn2 : 2 ≤ n) (hn : n ≤ 600) (hbs : ∀ i, i < n → 0 ≤ ys.getD i 0 ∧ ys.getD i 0 ≤ 600)
    (hC : Calls Try.prog 28 #[.slice (some ⟨g, 0, none⟩) n cap] w fun e w' =>
      e = .returned (.tuple #[]) ∧ w'.ownsRow base 2 1 (.slice (some ⟨g, 0, none⟩) n cap) n (ys.map (Value.int .i64)) ∧ w.grownBy w' (some g)) :
    Calls Try.prog 23 #[.slice (some ⟨g, 0, none⟩) n cap] w fun e w' => e = .returned (.int .i64 (Wv.gap ys (n - 2))) ∧ w.grownBy w' (some g) := by
  have HC := hide hC
  have HBS := hide hbs
  clear hC hbs
  go_enter Try.func23, Try.ntmps23
  go_wp2_with fail
  refine HC.out.mono ?_
  rintro e w1 ⟨rfl, hown, hg⟩
  have HO := hide hown
  have HG := hide hg
  have c0 := row_cell hown (i := 0) (by omega)
  have c1 := row_cell hown (i := 1) (by omega)
  have b0 := HBS.out 0 (by omega)
  have b1 := HBS.out 1 (by omega)
  have HG0 : Hid (Wv.gap ys 0 = ys.getD 1 0 - ys.getD 0 0) := rfl
  clear hown hg HC
  obtain ⟨y0, hy0⟩ : ∃ y, y = ys.getD 0 0 := ⟨_, rfl⟩
  obtain ⟨y1, hy1⟩ : ∃ y, y = ys.getD 1 0 := ⟨_, rfl⟩
  rw [← hy0] at c0 b0 HG0
  rw [← hy1] at c1 b1 HG0
  clear hy0 hy1
  go_wp2_with fail
  go_quiet (fail)
  go_wp2_with fail
  go_loopw [3, 4] (fun v i wr => ∃ k : Nat, k + 2 ≤ n ∧ i = .int .i64 ((k + 2 : Nat) : Int) ∧ v = .int .i64 (Wv.gap ys k) ∧ -600 ≤ Wv.gap ys k ∧ Wv.gap ys k ≤ 600 ∧ ∃ q, wr = w1.drewN q) (fun _ i _ => n - (intOf i).toNat)
  case atStart => exact ⟨0, by omega, by rfl, by rw [HG0.out], by rw [HG0.out]; omega, by rw [HG0.out]; omega, ⟨_, rfl⟩⟩
  case round =>
    obtain ⟨k, hk, rfl, rfl, hg1, hg2, q, rfl⟩ := hrel
    clear c0 c1 b0 b1 HG0
    by_cases hlt : k + 2 < n
    · have d0 := row_cell HO.out (i := k + 1) (by omega)
      have d1 := row_cell HO.out (i := k + 2) (by omega)
      have e0 := HBS.out (k + 1) (by omega)
      have e1 := HBS.out (k + 2) (by omega)
      have HS : Hid (Wv.gap ys (k + 1) = min (Wv.gap ys k) (ys.getD (k + 2) 0 - ys.getD (k + 1) 0)) := rfl
      obtain ⟨z0, hz0⟩ : ∃ y, y = ys.getD (k + 1) 0 := ⟨_, rfl⟩
      obtain ⟨z1, hz1⟩ : ∃ y, y = ys.getD (k + 2) 0 := ⟨_, rfl⟩
      obtain ⟨gv, hgv⟩ : ∃ y, y = Wv.gap ys k := ⟨_, rfl⟩
      rw [← hz0] at d0 e0 HS
      rw [← hz1] at d1 e1 HS
      rw [← hgv] at hg1 hg2 HS ⊢
      clear hz0 hz1 hgv
      go_wp2_with fail
      go_quiet (fail)
      go_wp2_with fail
      exact ⟨⟨k + 1, by omega, by go_num, by rw [HS.out], by rw [HS.out]; omega, by rw [HS.out]; omega, ⟨_, rfl⟩⟩, by simp [intOf]; omega⟩
    · obtain rfl : n = k + 2 := by omega
      go_wp2_with fail
      go_ret
      exact ⟨ret_i64 (by simp), ⟨HG.out.os, HG.out.tape, HG.out.output, HG.out.size, HG.out.block⟩⟩

theorem leastGap_own {w : World} {base g cap n : Nat} {zs : List Int} (hz : zs.length = n) (h : w.ownsRow base 2 1 (.slice (some ⟨g, 0, none⟩) n cap) n (zs.map (Value.int .i64))) (h2 : 2 ≤ n) (hsz : n ≤ 600) (hb : ∀ z ∈ zs, 0 ≤ z ∧ z ≤ 600) :
    Calls Try.prog 23 #[.slice (some ⟨g, 0, none⟩) n cap] w fun e w' => e = .returned (.int .i64 (Wv.gap (sorted zs) (n - 2))) ∧ w.grownBy w' (some g) := by
  subst hz
  refine leastGap_ys (base := base) h2 hsz ?_ (sort64_own h (by omega))
  intro i hi
  refine hb _ ?_
  rw [List.getD_eq_getElem?_getD, List.getElem?_eq_getElem (by rw [sorted_length]; exact hi)]
  exact (sorted_perm zs).mem_iff.1 (List.getElem_mem _)

/-- What has been gathered when those of pre have come. -/
def gathered (n d a : Nat) (pre : List (Num n)) : List Int := (pre.filter fun x => decide (a ≤ x.val)).map fun x => (Wv.num n d x.val : Int)
theorem gathered_in {n d a : Nat} (pre : List (Num n)) (x : Num n) (h : a ≤ x.val) : gathered n d a (pre ++ [x]) = gathered n d a pre ++ [(Wv.num n d x.val : Int)] := by simp [gathered, h]
theorem gathered_out {n d a : Nat} (pre : List (Num n)) (x : Num n) (h : x.val < a) : gathered n d a (pre ++ [x]) = gathered n d a pre := by simp [gathered, show ¬ a ≤ x.val by omega]
theorem gathered_le {n d a : Nat} (pre : List (Num n)) : (gathered n d a pre).length ≤ pre.length := by simp [gathered]; exact List.length_filter_le _ _
theorem gathered_to {n d a : Nat} : ∀ m, a + m ≤ n → gathered n d a (ups n (a + m)) = Wv.nums n d a m
  | 0, h => by
    have : ∀ k, k ≤ a → gathered n d a (ups n k) = [] := by
      intro k
      induction k with
      | zero => intro _; rfl
      | succ k ih => intro hk; rw [ups_succ (by omega), gathered_out _ _ (by simp; omega), ih (by omega)]
    exact this a (Nat.le_refl _)
  | m + 1, h => by
    rw [← Nat.add_assoc, ups_succ (by omega), gathered_in _ _ (by simp), gathered_to m (by omega)]
    simp [Wv.nums, List.range_succ]
/-- All have come, and none of them lies at e or behind. -/
theorem ups_end {n e k : Nat} (hk : k ≤ n) (h : ∀ y ∈ ups n k, y.val < e) : k ≤ e := by
  rcases Nat.lt_or_ge e k with h' | h'
  · exfalso
    have hm : e ∈ (ups n k).map (·.val) := by rw [ups_val hk]; exact List.mem_range.2 h'
    obtain ⟨y, hy, e'⟩ := List.mem_map.1 hm
    have := h y hy
    omega
  · exact h'
theorem ups_last {n k : Nat} (hk : k ≤ n) {pre : List (Num n)} {x : Num n} (h : ups n k = pre ++ [x]) : k = x.val + 1 ∧ pre = ups n x.val := by
  obtain ⟨j, rfl⟩ : ∃ j, k = j + 1 := by
    rcases k with _ | j
    · simp [ups] at h
    · exact ⟨j, rfl⟩
  rw [ups_succ (by omega)] at h
  obtain ⟨h1, h2⟩ := List.append_inj' h rfl
  simp only [List.cons.injEq, and_true] at h2
  have hx : x.val = j := by rw [← h2]
  exact ⟨by omega, by rw [hx]; exact h1.symm⟩
/-- Another variable's box behind an append. -/
theorem box_kept {W w1 : World} {n₀ B k t e m : Nat} {u v v' : Value} {xs : List Value} {tmp : Obj} (hb : Boxed W k t u) (hte : t ≠ e) (hrow : W.ownsRow n₀ e 1 v m xs) (hgrow : (W.alloc tmp).grownBy w1 v.ownBlock) (hk : k ≠ B) : (w1.setCell ⟨B, 0, none⟩ v').heap[k]? = W.heap[k]? :=
  (Below.heap_setCell _ _ _ _ (by dsimp only; exact hk)).trans ((hgrow.block k (by have := hb.lt; simp; omega) (hb.not_row hte hrow)).trans (Below.heap_alloc W tmp k hb.lt))
/-- Between two rounds. -/
def Gath (s : ByteArray) (D A N : Nat) (w : World) (pre : List (Num s.size)) (W : World) : Prop :=
  ((∃ v, Boxed W (w.heap.size + 1 + 1 + 1) 35 v ∧ W.ownsRow (w.heap.size + 1 + 1) 2 1 v (gathered s.size D A pre).length ((gathered s.size D A pre).map (Value.int .i64)) ∧ True) ∧ Below w.heap.size w W) ∧
  (Boxed W w.heap.size 2 (.int .i64 (A : Int)) ∧ Boxed W (w.heap.size + 1) 2 (.int .i64 (N : Int))) ∧
  (Boxed W (w.heap.size + 1 + 1 + 1 + 1) 3 (.int .i64 (s.size : Int)) ∧ Boxed W (w.heap.size + 1 + 1 + 1 + 1 + 1) 3 (.int .i64 (D : Int))) ∧ ∀ y ∈ pre, y.val < A + N
theorem gath_own {B : Nat} (s : ByteArray) (D A N : Nat) (w : World) (h : w.heap.size ≤ B) : OwnFrom B (fun pre W => Gath s D A N w pre W) :=
  OwnFrom.and (OwnFrom.and (Own.from (holdsRow_own (w.heap.size + 1 + 1) (w.heap.size + 1 + 1 + 1) 35 2 1 (fun pre => (gathered s.size D A pre).length) (fun pre => (gathered s.size D A pre).map (Value.int .i64)) (fun _ _ => True)) _) (ownFrom_below (Nat.le_refl _) h))
    (OwnFrom.and (OwnFrom.and (Own.from (boxed_own _ _ _) B) (Own.from (boxed_own _ _ _) B)) (OwnFrom.and (OwnFrom.and (Own.from (boxed_own _ _ _) B) (Own.from (boxed_own _ _ _) B)) (ownFrom_pure B _)))
theorem laid6 (s : ByteArray) (D A N : Nat) (w W0 : World) (hN : N ≤ 600) (hW0 : W0 = ((((((w.alloc (Obj.cells #[Value.int IntKind.i64 (A : Int)] 2)).alloc (Obj.cells #[Value.int IntKind.i64 (N : Int)] 2)).alloc (Obj.cells (madeCells #[Value.int IntKind.i64 0] N) 2)).alloc (Obj.cells #[Value.slice (some { block := w.heap.size + 1 + 1, off := 0 }) 0 N] 35)).alloc (Obj.cells #[Value.int IntKind.i64 (s.size : Int)] 3)).alloc (Obj.cells #[Value.int IntKind.i64 (D : Int)] 3))) :
    W0.heap.size = w.heap.size + 1 + 1 + 1 + 1 + 1 + 1 ∧ Gath s D A N w [] W0 := by
  have hsz : W0.heap.size = w.heap.size + 1 + 1 + 1 + 1 + 1 + 1 := by rw [hW0]; simp
  have b0 : Boxed W0 w.heap.size 2 (.int .i64 (A : Int)) := by rw [hW0]; exact (((((Boxed.new w _ _).alloc _).alloc _).alloc _).alloc _).alloc _
  have b1 : Boxed W0 (w.heap.size + 1) 2 (.int .i64 (N : Int)) := by
    have h1 := Boxed.new (w.alloc (Obj.cells #[Value.int IntKind.i64 (A : Int)] 2)) 2 (.int .i64 (N : Int))
    simp only [World.size_alloc] at h1
    rw [hW0]; exact (((h1.alloc _).alloc _).alloc _).alloc _
  have b3 : Boxed W0 (w.heap.size + 1 + 1 + 1) 35 (.slice (some { block := w.heap.size + 1 + 1, off := 0 }) 0 N) := by
    have h1 := Boxed.new (((w.alloc (Obj.cells #[Value.int IntKind.i64 (A : Int)] 2)).alloc (Obj.cells #[Value.int IntKind.i64 (N : Int)] 2)).alloc (Obj.cells (madeCells #[Value.int IntKind.i64 0] N) 2)) 35 (.slice (some { block := w.heap.size + 1 + 1, off := 0 }) 0 N)
    simp only [World.size_alloc] at h1
    rw [hW0]; exact (h1.alloc _).alloc _
  have b4 : Boxed W0 (w.heap.size + 1 + 1 + 1 + 1) 3 (.int .i64 (s.size : Int)) := by
    have h1 := Boxed.new ((((w.alloc (Obj.cells #[Value.int IntKind.i64 (A : Int)] 2)).alloc (Obj.cells #[Value.int IntKind.i64 (N : Int)] 2)).alloc (Obj.cells (madeCells #[Value.int IntKind.i64 0] N) 2)).alloc (Obj.cells #[Value.slice (some { block := w.heap.size + 1 + 1, off := 0 }) 0 N] 35)) 3 (.int .i64 (s.size : Int))
    simp only [World.size_alloc] at h1
    rw [hW0]; exact h1.alloc _
  have b5 : Boxed W0 (w.heap.size + 1 + 1 + 1 + 1 + 1) 3 (.int .i64 (D : Int)) := by
    have h1 := Boxed.new (((((w.alloc (Obj.cells #[Value.int IntKind.i64 (A : Int)] 2)).alloc (Obj.cells #[Value.int IntKind.i64 (N : Int)] 2)).alloc (Obj.cells (madeCells #[Value.int IntKind.i64 0] N) 2)).alloc (Obj.cells #[Value.slice (some { block := w.heap.size + 1 + 1, off := 0 }) 0 N] 35)).alloc (Obj.cells #[Value.int IntKind.i64 (s.size : Int)] 3)) 3 (.int .i64 (D : Int))
    simp only [World.size_alloc] at h1
    rw [hW0]; exact h1
  have hbel : Below w.heap.size w W0 := by
    rw [hW0]
    exact ((((((Below.refl _ w).alloc (Nat.le_refl _) _).alloc (by simp) _).alloc (by simp; omega) _).alloc (by simp; omega) _).alloc (by simp; omega) _).alloc (by simp; omega) _
  have h2 : W0.heap[w.heap.size + 1 + 1]? = some (Obj.cells (madeCells #[Value.int IntKind.i64 0] N) 2) := by
    have h1 := World.alloc_heap_new ((w.alloc (Obj.cells #[Value.int IntKind.i64 (A : Int)] 2)).alloc (Obj.cells #[Value.int IntKind.i64 (N : Int)] 2)) (Obj.cells (madeCells #[Value.int IntKind.i64 0] N) 2)
    simp only [World.size_alloc] at h1
    rw [hW0]
    exact (Below.heap_alloc _ _ _ (by simp)).trans ((Below.heap_alloc _ _ _ (by simp)).trans ((Below.heap_alloc _ _ _ (by simp)).trans h1))
  refine ⟨hsz, ⟨⟨_, b3, ⟨rfl, .inr ⟨_, _, _, rfl, Nat.le_refl _, h2, Nat.zero_le _, by unfold maxLen; omega, by simp [madeCells], by simp [gathered]⟩⟩, trivial⟩, hbel⟩, ⟨b0, b1⟩, ⟨b4, b5⟩, by simp⟩

set_option maxHeartbeats 400000 in
theorem implNearest_no (s : ByteArray) (d a n : Int) (w : World) (hs : s.size ≤ 1048576) (hno : nearOk s d a n = false) (ha : a ≤ 9223372036854775807) :
    Calls Try.prog 12 #[.string s, .int .i64 d, .int .i64 a, .int .i64 n] w fun e w' => e = .returned (.int .i64 (-1)) ∧ Below w.heap.size w w' := by
  have HB : Hid (Below w.heap.size w ((w.alloc (.cells #[.int .i64 a] 2)).alloc (.cells #[.int .i64 n] 2))) := ((Below.refl _ w).alloc (Nat.le_refl _) _).alloc (by simp) _
  cases hb : woveOk s d
  · clear hno
    go_enter Try.func12, Try.ntmps12
    go_wp2_with fail
    refine (weaves_any _ _ _ hs).mono ?_
    rw [hb]
    rintro e w1 ⟨rfl, rfl⟩
    go_wp2_with fail
    go_ret
    exact ⟨rfl, HB.out⟩
  · by_cases h2 : n < 2
    · clear hno
      go_enter Try.func12, Try.ntmps12
      go_wp2_with fail
      refine (weaves_any _ _ _ hs).mono ?_
      rw [hb]
      rintro e w1 ⟨rfl, rfl⟩
      go_wp2_with fail
      go_ret
      exact ⟨rfl, HB.out⟩
    · have hd2 : decide (n < 2) = false := by simp; omega
      by_cases h3 : a < 0
      · clear hno
        go_enter Try.func12, Try.ntmps12
        go_wp2_with fail
        refine (weaves_any _ _ _ hs).mono ?_
        rw [hb]
        rintro e w1 ⟨rfl, rfl⟩
        go_wp2_with fail
        go_ret
        exact ⟨rfl, HB.out⟩
      · have hd3 : decide (a < 0) = false := by simp; omega
        have h4 : (s.size : Int) - a < n := by simp [nearOk, hb, inB] at hno; omega
        have h0 : 0 ≤ a := by omega
        clear hno
        go_enter Try.func12, Try.ntmps12
        go_wp2_with fail
        refine (weaves_any _ _ _ hs).mono ?_
        rw [hb]
        rintro e w1 ⟨rfl, rfl⟩
        go_wp2_with fail
        go_ret
        exact ⟨rfl, HB.out⟩

theorem near_gap {n d a N : Nat} (hd : 0 < d) (hN : 2 ≤ N) (ha : a + N ≤ n) : Wv.gap (sorted (Wv.nums n d a N)) (N - 2) = (Wv.nearN n d a N : Int) := by
  obtain ⟨k, rfl⟩ : ∃ k, N = k + 2 := ⟨N - 2, by omega⟩
  exact Wv.gap_near hd ha (sorted_perm _) (sorted_up _)
/-- What is gathered in the end: the least gap of it, sorted, is the least distance. -/
theorem gath_end (s : ByteArray) (D A N : Nat) (w W : World) (hD1 : 1 ≤ D) (hs6 : s.size ≤ 600) (hN : 2 ≤ N) (hA : A + N ≤ s.size) (hI : Gath s D A N w (ups s.size (A + N)) W) {D1 : Nat} {ds : Option (List Deferred)} (hK : W.heap[D1]? = some (.deferred ds)) :
    ∃ g cap, W.cell? ⟨w.heap.size + 1 + 1 + 1, 0, none⟩ = some (.slice (some ⟨g, 0, none⟩) N cap) ∧
      Calls Try.prog 23 #[.slice (some ⟨g, 0, none⟩) N cap] W fun e w' => e = .returned (.int .i64 (Wv.nearN s.size D A N : Int)) ∧ w'.heap[D1]? = some (.deferred ds) ∧ Below w.heap.size w w' := by
  obtain ⟨⟨⟨v, hv, hrow, _⟩, hB⟩, _⟩ := hI
  rw [gathered_to N hA, Wv.nums_length] at hrow
  have hc := hv.cell
  rcases hrow.2 with ⟨_, h0⟩ | ⟨g, cap, cur, rfl, hge, hgb, _⟩
  · omega
  refine ⟨g, cap, hc, (leastGap_own (Wv.nums_length _ _ _ _) hrow hN (by omega) ?_).mono ?_⟩
  · intro z hz
    obtain ⟨j, hj, e⟩ := List.mem_map.1 hz
    rw [List.mem_range] at hj
    have := Wv.num_lt (n := s.size) (d := D) (k := A + j) hD1 (by omega)
    omega
  · rintro e w' ⟨rfl, hg⟩
    refine ⟨ret_i64 (near_gap hD1 hN hA), (hg.block D1 (Array.getElem?_eq_some_iff.1 hK).1 (fun e => ?_)).trans hK, hB.grown hg hB.size (fun k e => by cases e; omega)⟩
    cases e
    rw [hgb] at hK
    cases hK

set_option maxHeartbeats 2000000 in
theorem implNearest_yes (s : ByteArray) (D A N : Nat) (w : World) (hok : woveOk s (D : Int) = true) (hN : 2 ≤ N) (hA : A + N ≤ s.size) :
    Calls Try.prog 12 #[.string s, .int .i64 (D : Int), .int .i64 (A : Int), .int .i64 (N : Int)] w fun e w' => e = .returned (.int .i64 (Wv.nearN s.size D A N : Int)) ∧ Below w.heap.size w w' := by
  obtain ⟨D', e', hD1, hD16, hs6⟩ := woveOk_yes hok
  obtain rfl : D = D' := by omega
  have HOK := hide hok
  clear e' hok
  have hmk := make_row (P := Try.prog) 35 2 (.int .i64 0) 8 Try.underlying35 Try.infoI64 rfl 0 (N : Int) 0 N rfl rfl (by omega) (by omega) (by omega)
  have hd2 : decide ((N : Int) < 2) = false := by simp; omega
  have hd3 : decide ((A : Int) < 0) = false := by simp
  have hd4 : decide ((s.size : Int) - (A : Int) < (N : Int)) = false := by simp; omega
  refine (callsIn_wide (n := 6)).1 ?_
  refine callsIn_of_wp_marks Try.func12 rfl trivial ?_ rfl
  simp only [Try.ntmps12, List.size_toArray, List.length_cons, List.length_nil, Nat.reduceAdd, Nat.reduceSub, Array.replicate_succ, Array.replicate_zero, List.push_toArray, List.append_toArray, List.nil_append, List.cons_append]
  gi_wp2_with (first
    | (refine ⟨trivial, ?_⟩; gi_at_call 18; refine (callsIn_wide.2 (weaves_any _ _ _ (by omega))).mono ?_; rw [HOK.out]; rintro e w1 ⟨rfl, rfl⟩)
    | (refine ⟨trivial, ?_⟩; gi_at_call 19; refine (weave_in Fence.wide _ trivial rfl s.size D _).mono ?_; rintro e w1 ⟨rfl, rfl⟩))
  obtain ⟨W0, hW0⟩ : ∃ W0, W0 = ((((((w.alloc (Obj.cells #[Value.int IntKind.i64 (A : Int)] 2)).alloc (Obj.cells #[Value.int IntKind.i64 (N : Int)] 2)).alloc (Obj.cells (madeCells #[Value.int IntKind.i64 0] N) 2)).alloc (Obj.cells #[Value.slice (some { block := w.heap.size + 1 + 1, off := 0 }) 0 N] 35)).alloc (Obj.cells #[Value.int IntKind.i64 (s.size : Int)] 3)).alloc (Obj.cells #[Value.int IntKind.i64 (D : Int)] 3)) := ⟨_, rfl⟩
  rw [← hW0]
  obtain ⟨hsz, hG0⟩ := laid6 s D A N w W0 (by omega) hW0
  have bN := hG0.2.2.1.1
  have bD := hG0.2.2.1.2
  obtain ⟨i0, hi0, hz0, hz1, hz2⟩ := info_parts Try.infoI64
  clear hW0 hmk hd2 hd3 hd4
  refine wpIn_rangeFunc_ownG rfl (by decide) (gf := 27) (lb := #[Value.pointer (some { block := w.heap.size + 1 + 1 + 1 + 1 + 1, off := 0 }), Value.pointer (some { block := w.heap.size + 1 + 1 + 1 + 1, off := 0 })]) rfl trivial (enters_of Try.func27 (by kernel_rfl) rfl)
    (weave_stops Fence.wide (6 - 1) trivial rfl (by decide) (w.heap.size + 1 + 1 + 1 + 1) s.size D hs6 hD1 hD16 W0 bN bD) (fun h k => h.trans k) (fun W l o o' hl _ _ _ => Kept.putObj W l o' (by omega)) (Below.refl _ _) (fun _ => rfl)
    (fun pre W => Gath s D A N w pre W) (fun c pre W => c = .exit 0 ∧ ∃ pre0 x, pre = pre0 ++ [x] ∧ A + N ≤ x.val ∧ Gath s D A N w pre0 W) (gath_own s D A N w (by omega))
    (fun c pre X Y row hs hg hr => by
      obtain ⟨h1, pre0, x, h2, h3, h4⟩ := hs
      exact ⟨h1, pre0, x, h2, h3, gath_own s D A N w (B := W0.heap.size) (by omega) pre0 X Y row h4 hg hr⟩)
    hG0
    (fun x => { tmps := #[Value.string s, Value.int IntKind.i64 ↑D, Value.int IntKind.i64 ↑A, Value.int IntKind.i64 ↑N, undef, undef,
          Value.pointer (some { block := w.heap.size, off := 0 }),
          Value.pointer (some { block := w.heap.size + 1, off := 0 }), Value.int IntKind.i64 0,
          Value.pointer (some { block := w.heap.size + 1 + 1 + 1, off := 0 }), .int .i64 (x.val : Int), .int .i64 (Wv.num s.size D x.val : Int), Value.string s,
          Value.int IntKind.i64 ↑D, Value.bool true, Value.bool false, Value.bool false, Value.int IntKind.i64 ↑N,
          Value.bool false, Value.bool false, Value.bool false, Value.int IntKind.i64 ↑A, Value.bool false,
          Value.bool false, Value.bool false, Value.int IntKind.i64 ↑N, Value.string s, Value.int IntKind.i64 ↑s.size,
          Value.int IntKind.i64 ↑A, Value.int IntKind.i64 (↑s.size - ↑A), Value.bool false, Value.bool false,
          Value.int IntKind.i64 ↑N, Value.slice (some { block := w.heap.size + 1 + 1, off := 0 }) 0 N, Value.string s,
          Value.int IntKind.i64 ↑s.size, Value.int IntKind.i64 ↑D,
          Value.func (Fn.func 27) #[]
            #[Value.pointer (some { block := w.heap.size + 1 + 1 + 1 + 1 + 1, off := 0 }),
              Value.pointer (some { block := w.heap.size + 1 + 1 + 1 + 1, off := 0 })],
          .int .i64 (x.val : Int), .int .i64 (Wv.num s.size D x.val : Int), undef, undef, undef, undef, undef, undef, undef, undef, undef, undef, undef, undef, undef,
          undef], defers := [] }) ?assign ?body ?done ?stop
  case assign =>
    intro l x W K hK
    gi_wp2
    exact hK
  case body =>
    rintro l pre ⟨k, hk⟩ W hI hlen
    have HI := hide hI
    obtain ⟨⟨⟨v, hv, hrow, _⟩, hB⟩, ⟨hb0, hb1⟩, ⟨hb4, hb5⟩, hall⟩ := hI
    have hc0 := hb0.cell
    have hc1 := hb1.cell
    have hc := hv.cell
    have hgl := gathered_le (d := D) (a := A) pre
    have hnl := Wv.num_lt (n := s.size) (d := D) hD1 hk
    dsimp only
    clear hG0 bN bD
    by_cases hend : A + N ≤ k
    · clear hv hrow hB hb0 hb1 hb4 hb5 hall
      gi_wp2
      exact ⟨KeepsFrom.refl _ _, rfl, pre, ⟨k, hk⟩, rfl, hend, HI.out⟩
    · by_cases hin : A ≤ k
      · have hsz2 := hB.size
        have hn0 : w.heap.size + 1 + 1 ≤ W.heap.size := by have := hv.lt; omega
        gi_wp2_with (gi_at_builtin; refine wpListIn_append_own _ rfl _ _ 35 rfl (w.heap.size + 1 + 1) 2 i0 (.int .i64 0) 1 8 Try.underlying35 hi0 hz0 hz1 hz2 rfl (by decide) _ _ _ rfl (hrow.alloc _) ⟨W.heap.size, 0, none⟩ 1 1 [.int .i64 (Wv.num s.size D k : Int)] rfl rfl (cell_one_new _ _ _) (by simp [Value.oneCell']) (by unfold maxLen; omega) (by omega) (by simp; omega) ?_; intro v' w1 hown' hgrow _; obtain ⟨g', cap', rfl⟩ := ownsRow_succ hown'; obtain ⟨hv1, hv2, hr2, hk2, hb2⟩ := hv.appended (by decide) hrow hn0 (by omega) hown' hgrow; have HK4 := hide (box_kept (B := w.heap.size + 1 + 1 + 1) (v' := .slice (some ⟨g', 0, none⟩) ((gathered s.size D A pre).length + 1) cap') hb4 (by decide) hrow hgrow (by omega)); have HK5 := hide (box_kept (B := w.heap.size + 1 + 1 + 1) (v' := .slice (some ⟨g', 0, none⟩) ((gathered s.size D A pre).length + 1) cap') hb5 (by decide) hrow hgrow (by omega)); have HV2 := hide hv2; have HR2 := hide hr2; have HK2 := hide hk2; have HB2 := hide hb2; clear hv2 hr2 hk2 hb2 hown' hgrow; have hc1' := hv1.cell; have hf1 := hv1.frozen)
        refine ⟨HK2.out.from _, fun j h1 h2 => ?_, ⟨⟨_, HV2.out, ?_, trivial⟩, hB.trans (HB2.out.mono (by omega))⟩, ⟨(HB2.out.block _ (by omega)).trans hb0, (HB2.out.block _ (by omega)).trans hb1⟩, ⟨HK4.out.trans hb4, HK5.out.trans hb5⟩, ?_⟩
        · rcases Nat.lt_or_ge j (w.heap.size + 1 + 1 + 1 + 1 + 1) with h3 | h3
          · obtain rfl : j = w.heap.size + 1 + 1 + 1 + 1 := by omega
            exact HK4.out
          · obtain rfl : j = w.heap.size + 1 + 1 + 1 + 1 + 1 := by omega
            exact HK5.out
        · rw [gathered_in pre ⟨k, hk⟩ hin]
          simpa using HR2.out
        · intro y hy
          rcases List.mem_append.1 hy with h | h
          · exact hall y h
          · simp only [List.mem_singleton] at h
            subst h
            simpa using hend
      · clear hv hrow hB hb0 hb1 hb4 hb5
        gi_wp2
        refine ⟨KeepsFrom.refl _ _, Kept.refl _ _, ?_⟩
        obtain ⟨⟨⟨v, hv, hrow, _⟩, hB⟩, h1, h2, _⟩ := HI.out
        have hge := gathered_out (d := D) (a := A) pre ⟨k, hk⟩ (by simp; omega)
        refine ⟨⟨⟨v, hv, by rw [hge]; exact hrow, trivial⟩, hB⟩, h1, h2, ?_⟩
        intro y hy
        rcases List.mem_append.1 hy with h | h
        · exact hall y h
        · simp only [List.mem_singleton] at h
          subst h
          simp; omega
  case done =>
    rintro D1 ys W hD rfl hI hK
    have he : s.size = A + N := by
      have := ups_end (Nat.le_refl _) hI.2.2.2
      omega
    have hI' : Gath s D A N w (ups s.size (A + N)) W := by rw [← he]; exact hI
    clear he
    obtain ⟨g, cap, hc, hC⟩ := gath_end s D A N w W hD1 hs6 hN hA hI' hK
    clear hI hI' hG0 bN bD hK
    gi_wp2_with (refine ⟨trivial, ?_⟩; gi_at_call 23; refine (callsIn_wide.2 hC).mono ?_; rintro e w5 ⟨rfl, hK5, hB5⟩)
    refine ⟨by simp, .inl ⟨_, _, rfl, run_takeDeferred hK5, ?_⟩⟩
    refine ⟨_, results_tmp rfl _ _ _, ?_, hB5.trans (belowK_b (w := w) (Nat.le_refl _) w5 D1 _ (.deferred none) (by omega) hK5 rfl rfl)⟩
    rfl
  case stop =>
    rintro D1 c pre W hD ⟨k, hk, rfl⟩ ⟨rfl, pre0, x, hp, hx, hI⟩ hK
    obtain ⟨_, hp0⟩ := ups_last hk hp
    have hxl := x.2
    rw [hp0] at hI
    have he : x.val = A + N := by
      have := ups_end (by omega) hI.2.2.2
      omega
    have hI' : Gath s D A N w (ups s.size (A + N)) W := by rw [← he]; exact hI
    clear he hp0 hp hx
    obtain ⟨g, cap, hc, hC⟩ := gath_end s D A N w W hD1 hs6 hN hA hI' hK
    clear hI hI' hG0 bN bD hK
    gi_wp2_with (refine ⟨trivial, ?_⟩; gi_at_call 23; refine (callsIn_wide.2 hC).mono ?_; rintro e w5 ⟨rfl, hK5, hB5⟩)
    refine ⟨by simp, .inl ⟨_, _, rfl, run_takeDeferred hK5, ?_⟩⟩
    refine ⟨_, results_tmp rfl _ _ _, ?_, hB5.trans (belowK_b (w := w) (Nat.le_refl _) w5 D1 _ (.deferred none) (by omega) hK5 rfl rfl)⟩
    rfl

theorem implNearest_any (s : ByteArray) (d a n : Int) (w : World) (hs : s.size ≤ 1048576) (ha : a ≤ 9223372036854775807) :
    Calls Try.prog 12 #[.string s, .int .i64 d, .int .i64 a, .int .i64 n] w fun e w' => e = .returned (.int .i64 (nearI s d a n)) ∧ Below w.heap.size w w' := by
  cases h : nearOk s d a n
  · rw [nearI_no h]; exact implNearest_no s d a n w hs h ha
  · have h' := h
    simp only [nearOk, Bool.and_eq_true] at h
    obtain ⟨hw, hn, ha'⟩ := h
    obtain ⟨D, rfl, _, _, hs6⟩ := woveOk_yes hw
    simp [inB] at hn ha'
    obtain ⟨A, rfl⟩ : ∃ A : Nat, a = (A : Int) := ⟨a.toNat, by omega⟩
    obtain ⟨N, rfl⟩ : ∃ N : Nat, n = (N : Int) := ⟨n.toNat, by omega⟩
    rw [nearI_yes h']
    exact implNearest_yes s D A N w hw (by omega) (by omega)
end Go.Proofs.Ytgofmegjanekhab
