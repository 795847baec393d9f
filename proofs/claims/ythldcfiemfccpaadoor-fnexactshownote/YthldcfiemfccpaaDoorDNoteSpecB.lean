/- Several texts in one: NoteSpecB, NoteImplA, NoteRead. -/
import Derived.Test.YthldcfiemfccpaaDoorDLogSpecE
import Derived.Test.YthldcfiemfccpaaDoorDMarkSpecC
import Derived.Test.YthldcfiemfccpaaDoorDChipOwn2
import Derived.Test.YthldcfiemfccpaaDoorDMarkMath
import Derived.Test.YthldcfiemfccpaaDoorDLogSpecD
section
namespace Go.Proofs.YthldcfiemfccpaaDoor
open Go.RowKit
set_option linter.unusedVariables false
set_option linter.unusedSimpArgs false
set_option maxRecDepth 20000

def numB (n : Nat) : ByteArray := mkB (Lib.decDigits n)
def spB (s : ByteArray) (n : Nat) : ByteArray := (s ++ ⟨#[32]⟩) ++ numB n
/-- The numbers ahead of the Values' lengths. -/
def headS (K U E S A X V : Nat) : ByteArray := spB (spB (spB (spB (spB (spB (numB K) U) E) S) A) X) V
def lensS (h : ByteArray) (vs : List ByteArray) : Nat → ByteArray
  | 0 => h
  | i + 1 => spB (lensS h vs i) (vs.getD i ByteArray.empty).size
def bodyS (t : ByteArray) (vs : List ByteArray) : Nat → ByteArray
  | 0 => t
  | i + 1 => bodyS t vs i ++ vs.getD i ByteArray.empty
def showNt (x : Nt) : ByteArray := if noteOk x then checked ((lensS (headS x.k.toNat x.tt.toNat x.e.toNat x.s.toNat x.a.toNat x.tx.size x.vs.length) x.vs x.vs.length ++ ⟨#[10]⟩) ++ bodyS x.tx x.vs x.vs.length) else ⟨#[]⟩
theorem numB_len {n : Nat} (h : n ≤ 1000000) : (numB n).size ≤ 7 := by unfold numB; rw [mkB_size]; exact dec_len h
theorem spB_len {s : ByteArray} {n : Nat} (h : n ≤ 1000000) : (spB s n).size ≤ s.size + 8 := by
  unfold spB
  rw [ByteArray.size_append, ByteArray.size_append]
  have := numB_len h
  have : (⟨#[32]⟩ : ByteArray).size = 1 := rfl
  omega

theorem shortAll_at {ts : List ByteArray} {k : Nat} (h : shortAll ts k = true) : ∀ {i : Nat}, i < k → (ts.getD i ByteArray.empty).size ≤ 24 := by
  induction k with
  | zero => intro i hi; omega
  | succ k ih =>
    intro i hi
    unfold shortAll at h
    simp only [Bool.and_eq_true, decide_eq_true_eq] at h
    rcases Nat.lt_or_ge i k with h1 | h1
    · exact ih h.1 h1
    · rw [show i = k by omega]; exact h.2
theorem noteOk_in {k tt e s a : Int} {tx : ByteArray} {vs : List ByteArray} (h : noteOk ⟨k, tt, e, s, a, tx, vs⟩ = true) : (1 ≤ k ∧ k ≤ 3) ∧ (0 ≤ tt ∧ tt ≤ 1) ∧ (0 ≤ e ∧ e ≤ 1000000) ∧ (0 ≤ s ∧ s ≤ 1000000) ∧ (0 ≤ a ∧ a ≤ 63) ∧ tx.size ≤ 24 ∧ vs.length ≤ 64 ∧ (∀ i, i < vs.length → (vs.getD i ByteArray.empty).size ≤ 24) := by
  unfold noteOk ntNum valuesOk inB at h
  simp only [Bool.and_eq_true, decide_eq_true_eq] at h
  obtain ⟨⟨h1, h2, h3, h4, h5, h6, h7, h8⟩, _⟩ := h
  exact ⟨h1, h2, h3, h4, h5, h6, h7, fun i hi => shortAll_at h8 hi⟩

set_option maxHeartbeats 6400000 in
theorem specShowNote_any (k tt e s a : Int) (tx : ByteArray) (vs : List ByteArray) (av : Option Addr) (n cap : Nat) (w : World) {lo hi : Nat} (h : Texts lo hi w av n vs) (hn : n ≤ 1048576) (hts : ∀ y ∈ vs, y.size ≤ 1048576) (hx : tx.size ≤ maxLen) :
    Calls Tryd.prog 6 #[.agg #[.int .i64 k, .int .i64 tt, .int .i64 e, .int .i64 s, .int .i64 a, .string tx, .slice av n cap]] w fun r w' => r = .returned (.string (showNt ⟨k, tt, e, s, a, tx, vs⟩)) ∧ Below w.heap.size w w' := by
  obtain ⟨wA, hwA⟩ : ∃ wA, wA = w.alloc (.cells #[.int .i64 k, .int .i64 tt, .int .i64 e, .int .i64 s, .int .i64 a, .string tx, .slice av n cap] 27) := ⟨_, rfl⟩
  have HBA : Hid (Below w.heap.size w wA) := by rw [hwA]; exact (Below.refl _ _).alloc (Nat.le_refl _) _
  have H0 : Hid (wA.heap[w.heap.size]? = some (.cells #[.int .i64 k, .int .i64 tt, .int .i64 e, .int .i64 s, .int .i64 a, .string tx, .slice av n cap] 27)) := by rw [hwA]; exact heap_new _ _
  have HT := hide (h.later HBA.out h.2.1)
  have HL := hide h.1
  have HTS := hide hts
  clear h hts
  obtain ⟨c0, c1, c2, c3, c4, c5, c6⟩ := note_cells H0.out
  go_enter Tryd.func6, Tryd.ntmps6
  go_upto_region 1 with fail
  rw [← hwA]
  clear hwA
  go_wp2_with fail
  refine (specNoteOk_any k tt e s a tx vs av n cap wA HT.out hn HTS.out hx).mono ?_
  cases hok : noteOk ⟨k, tt, e, s, a, tx, vs⟩
  · have HE : Hid (showNt ⟨k, tt, e, s, a, tx, vs⟩ = ⟨#[]⟩) := by show _ = _; unfold showNt; rw [hok]; rfl
    rintro r w1 ⟨rfl, b1⟩
    have HB1 := hide (below_here HBA.out b1)
    clear b1 c0 c1 c2 c3 c4 c5 c6
    go_wp2_with fail
    go_ret
    exact ⟨by rw [HE.out]; rfl, HB1.out⟩
  · obtain ⟨⟨hk1, hk2⟩, ⟨ht1, ht2⟩, ⟨he1, he2⟩, ⟨hs1, hs2⟩, ⟨ha1, ha2⟩, hx24, hv64, hvs⟩ := noteOk_in hok
    obtain ⟨K, rfl⟩ : ∃ K : Nat, k = (K : Int) := ⟨k.toNat, by omega⟩
    obtain ⟨U, rfl⟩ : ∃ U : Nat, tt = (U : Int) := ⟨tt.toNat, by omega⟩
    obtain ⟨E, rfl⟩ : ∃ E : Nat, e = (E : Int) := ⟨e.toNat, by omega⟩
    obtain ⟨S, rfl⟩ : ∃ S : Nat, s = (S : Int) := ⟨s.toNat, by omega⟩
    obtain ⟨A, rfl⟩ : ∃ A : Nat, a = (A : Int) := ⟨a.toNat, by omega⟩
    rw [HL.out] at hv64 hvs
    have HVS := hide hvs
    have HE : Hid (showNt ⟨K, U, E, S, A, tx, vs⟩ = checked ((lensS (headS K U E S A tx.size n) vs n ++ ⟨#[10]⟩) ++ bodyS tx vs n)) := by
      show _ = _
      unfold showNt
      rw [hok]
      simp only [Int.toNat_natCast, HL.out]
      rfl
    clear hvs hok
    rintro r w1 ⟨rfl, b1⟩
    have HB1 := hide (below_here HBA.out b1)
    have H1 := hide (block_on H0.out b1)
    have HT1 := hide (HT.out.later b1 HT.out.2.1)
    clear b1 c0 c1 c2 c3 c4 c5 c6 H0 HT
    obtain ⟨X, hX⟩ : ∃ X, X = tx.size := ⟨_, rfl⟩
    rw [← hX] at HE hx24
    have hXi : (tx.size : Int) = (X : Int) := by rw [hX]
    clear hX
    obtain ⟨d0, hd0⟩ : ∃ d, d = numB K := ⟨_, rfl⟩
    have hz0 : d0.size ≤ 7 := by rw [hd0]; exact numB_len (by omega)
    have hC0 : ∀ W, Hid (Calls Tryd.prog 16 #[.int .i64 (K : Int)] W fun r w' => r = .returned (.string d0) ∧ Below W.heap.size W w') := fun W => by rw [hd0]; exact l1Int_any K (by omega) W
    obtain ⟨d1, hd1⟩ : ∃ d, d = numB U := ⟨_, rfl⟩
    have hz1 : d1.size ≤ 7 := by rw [hd1]; exact numB_len (by omega)
    have hC1 : ∀ W, Hid (Calls Tryd.prog 16 #[.int .i64 (U : Int)] W fun r w' => r = .returned (.string d1) ∧ Below W.heap.size W w') := fun W => by rw [hd1]; exact l1Int_any U (by omega) W
    obtain ⟨d2, hd2⟩ : ∃ d, d = numB E := ⟨_, rfl⟩
    have hz2 : d2.size ≤ 7 := by rw [hd2]; exact numB_len (by omega)
    have hC2 : ∀ W, Hid (Calls Tryd.prog 16 #[.int .i64 (E : Int)] W fun r w' => r = .returned (.string d2) ∧ Below W.heap.size W w') := fun W => by rw [hd2]; exact l1Int_any E (by omega) W
    obtain ⟨d3, hd3⟩ : ∃ d, d = numB S := ⟨_, rfl⟩
    have hz3 : d3.size ≤ 7 := by rw [hd3]; exact numB_len (by omega)
    have hC3 : ∀ W, Hid (Calls Tryd.prog 16 #[.int .i64 (S : Int)] W fun r w' => r = .returned (.string d3) ∧ Below W.heap.size W w') := fun W => by rw [hd3]; exact l1Int_any S (by omega) W
    obtain ⟨d4, hd4⟩ : ∃ d, d = numB A := ⟨_, rfl⟩
    have hz4 : d4.size ≤ 7 := by rw [hd4]; exact numB_len (by omega)
    have hC4 : ∀ W, Hid (Calls Tryd.prog 16 #[.int .i64 (A : Int)] W fun r w' => r = .returned (.string d4) ∧ Below W.heap.size W w') := fun W => by rw [hd4]; exact l1Int_any A (by omega) W
    obtain ⟨d5, hd5⟩ : ∃ d, d = numB X := ⟨_, rfl⟩
    have hz5 : d5.size ≤ 7 := by rw [hd5]; exact numB_len (by omega)
    have hC5 : ∀ W, Hid (Calls Tryd.prog 16 #[.int .i64 (X : Int)] W fun r w' => r = .returned (.string d5) ∧ Below W.heap.size W w') := fun W => by rw [hd5]; exact l1Int_any X (by omega) W
    obtain ⟨d6, hd6⟩ : ∃ d, d = numB n := ⟨_, rfl⟩
    have hz6 : d6.size ≤ 7 := by rw [hd6]; exact numB_len (by omega)
    have hC6 : ∀ W, Hid (Calls Tryd.prog 16 #[.int .i64 (n : Int)] W fun r w' => r = .returned (.string d6) ∧ Below W.heap.size W w') := fun W => by rw [hd6]; exact l1Int_any n (by omega) W
    obtain ⟨u1, hu1⟩ : ∃ u, u = d0 ++ ⟨#[32]⟩ := ⟨_, rfl⟩
    have hzu1 : u1.size ≤ 8 := by rw [hu1, ByteArray.size_append]; have : (⟨#[32]⟩ : ByteArray).size = 1 := rfl; omega
    have hp1 : ∀ W, (Op.stringOp .add d0 ⟨#[32]⟩).run Tryd.prog W = .ok (.string u1) W := fun W => by rw [hu1]; exact run_string_add_sum _ _ _ (by have : (⟨#[32]⟩ : ByteArray).size = 1 := rfl; omega)
    obtain ⟨y1, hy1⟩ : ∃ y, y = u1 ++ d1 := ⟨_, rfl⟩
    have hzy1 : y1.size ≤ 15 := by rw [hy1, ByteArray.size_append]; omega
    have hq1 : ∀ W, (Op.stringOp .add u1 d1).run Tryd.prog W = .ok (.string y1) W := fun W => by rw [hy1]; exact run_string_add_sum _ _ _ (by omega)
    obtain ⟨u2, hu2⟩ : ∃ u, u = y1 ++ ⟨#[32]⟩ := ⟨_, rfl⟩
    have hzu2 : u2.size ≤ 16 := by rw [hu2, ByteArray.size_append]; have : (⟨#[32]⟩ : ByteArray).size = 1 := rfl; omega
    have hp2 : ∀ W, (Op.stringOp .add y1 ⟨#[32]⟩).run Tryd.prog W = .ok (.string u2) W := fun W => by rw [hu2]; exact run_string_add_sum _ _ _ (by have : (⟨#[32]⟩ : ByteArray).size = 1 := rfl; omega)
    obtain ⟨y2, hy2⟩ : ∃ y, y = u2 ++ d2 := ⟨_, rfl⟩
    have hzy2 : y2.size ≤ 23 := by rw [hy2, ByteArray.size_append]; omega
    have hq2 : ∀ W, (Op.stringOp .add u2 d2).run Tryd.prog W = .ok (.string y2) W := fun W => by rw [hy2]; exact run_string_add_sum _ _ _ (by omega)
    obtain ⟨u3, hu3⟩ : ∃ u, u = y2 ++ ⟨#[32]⟩ := ⟨_, rfl⟩
    have hzu3 : u3.size ≤ 24 := by rw [hu3, ByteArray.size_append]; have : (⟨#[32]⟩ : ByteArray).size = 1 := rfl; omega
    have hp3 : ∀ W, (Op.stringOp .add y2 ⟨#[32]⟩).run Tryd.prog W = .ok (.string u3) W := fun W => by rw [hu3]; exact run_string_add_sum _ _ _ (by have : (⟨#[32]⟩ : ByteArray).size = 1 := rfl; omega)
    obtain ⟨y3, hy3⟩ : ∃ y, y = u3 ++ d3 := ⟨_, rfl⟩
    have hzy3 : y3.size ≤ 31 := by rw [hy3, ByteArray.size_append]; omega
    have hq3 : ∀ W, (Op.stringOp .add u3 d3).run Tryd.prog W = .ok (.string y3) W := fun W => by rw [hy3]; exact run_string_add_sum _ _ _ (by omega)
    obtain ⟨u4, hu4⟩ : ∃ u, u = y3 ++ ⟨#[32]⟩ := ⟨_, rfl⟩
    have hzu4 : u4.size ≤ 32 := by rw [hu4, ByteArray.size_append]; have : (⟨#[32]⟩ : ByteArray).size = 1 := rfl; omega
    have hp4 : ∀ W, (Op.stringOp .add y3 ⟨#[32]⟩).run Tryd.prog W = .ok (.string u4) W := fun W => by rw [hu4]; exact run_string_add_sum _ _ _ (by have : (⟨#[32]⟩ : ByteArray).size = 1 := rfl; omega)
    obtain ⟨y4, hy4⟩ : ∃ y, y = u4 ++ d4 := ⟨_, rfl⟩
    have hzy4 : y4.size ≤ 39 := by rw [hy4, ByteArray.size_append]; omega
    have hq4 : ∀ W, (Op.stringOp .add u4 d4).run Tryd.prog W = .ok (.string y4) W := fun W => by rw [hy4]; exact run_string_add_sum _ _ _ (by omega)
    obtain ⟨u5, hu5⟩ : ∃ u, u = y4 ++ ⟨#[32]⟩ := ⟨_, rfl⟩
    have hzu5 : u5.size ≤ 40 := by rw [hu5, ByteArray.size_append]; have : (⟨#[32]⟩ : ByteArray).size = 1 := rfl; omega
    have hp5 : ∀ W, (Op.stringOp .add y4 ⟨#[32]⟩).run Tryd.prog W = .ok (.string u5) W := fun W => by rw [hu5]; exact run_string_add_sum _ _ _ (by have : (⟨#[32]⟩ : ByteArray).size = 1 := rfl; omega)
    obtain ⟨y5, hy5⟩ : ∃ y, y = u5 ++ d5 := ⟨_, rfl⟩
    have hzy5 : y5.size ≤ 47 := by rw [hy5, ByteArray.size_append]; omega
    have hq5 : ∀ W, (Op.stringOp .add u5 d5).run Tryd.prog W = .ok (.string y5) W := fun W => by rw [hy5]; exact run_string_add_sum _ _ _ (by omega)
    obtain ⟨u6, hu6⟩ : ∃ u, u = y5 ++ ⟨#[32]⟩ := ⟨_, rfl⟩
    have hzu6 : u6.size ≤ 48 := by rw [hu6, ByteArray.size_append]; have : (⟨#[32]⟩ : ByteArray).size = 1 := rfl; omega
    have hp6 : ∀ W, (Op.stringOp .add y5 ⟨#[32]⟩).run Tryd.prog W = .ok (.string u6) W := fun W => by rw [hu6]; exact run_string_add_sum _ _ _ (by have : (⟨#[32]⟩ : ByteArray).size = 1 := rfl; omega)
    obtain ⟨y6, hy6⟩ : ∃ y, y = u6 ++ d6 := ⟨_, rfl⟩
    have hzy6 : y6.size ≤ 55 := by rw [hy6, ByteArray.size_append]; omega
    have hq6 : ∀ W, (Op.stringOp .add u6 d6).run Tryd.prog W = .ok (.string y6) W := fun W => by rw [hy6]; exact run_string_add_sum _ _ _ (by omega)
    have HHD : Hid (headS K U E S A X n = y6) := by show _ = _; rw [hy6, hu6, hy5, hu5, hy4, hu4, hy3, hu3, hy2, hu2, hy1, hu1, hd0, hd1, hd2, hd3, hd4, hd5, hd6]; rfl
    clear hu1 hy1 hu2 hy2 hu3 hy3 hu4 hy4 hu5 hy5 hu6 hy6 hd0 hd1 hd2 hd3 hd4 hd5 hd6
    obtain ⟨c0, c1, c2, c3, c4, c5, c6⟩ := note_cells H1.out
    have q0 := fun d os => cell_regrown c0 d os
    have q1 := fun d os => cell_regrown c1 d os
    have q2 := fun d os => cell_regrown c2 d os
    have q3 := fun d os => cell_regrown c3 d os
    have q4 := fun d os => cell_regrown c4 d os
    have q5 := fun d os => cell_regrown c5 d os
    have q6 := fun d os => cell_regrown c6 d os
    have cN0 : ∀ d os, Calls Tryd.prog 16 #[.int .i64 (K : Int)] (Go.Sort.grow (redrawn w1 d) os) fun e w'' => e = .returned (.string d0) ∧ ∃ p : Regrown, w'' = Go.Sort.grow (redrawn w1 p.d) p.os := fun d os => Calls.regrown_of ((hC0 _).out)
    have cN1 : ∀ d os, Calls Tryd.prog 16 #[.int .i64 (U : Int)] (Go.Sort.grow (redrawn w1 d) os) fun e w'' => e = .returned (.string d1) ∧ ∃ p : Regrown, w'' = Go.Sort.grow (redrawn w1 p.d) p.os := fun d os => Calls.regrown_of ((hC1 _).out)
    have cN2 : ∀ d os, Calls Tryd.prog 16 #[.int .i64 (E : Int)] (Go.Sort.grow (redrawn w1 d) os) fun e w'' => e = .returned (.string d2) ∧ ∃ p : Regrown, w'' = Go.Sort.grow (redrawn w1 p.d) p.os := fun d os => Calls.regrown_of ((hC2 _).out)
    have cN3 : ∀ d os, Calls Tryd.prog 16 #[.int .i64 (S : Int)] (Go.Sort.grow (redrawn w1 d) os) fun e w'' => e = .returned (.string d3) ∧ ∃ p : Regrown, w'' = Go.Sort.grow (redrawn w1 p.d) p.os := fun d os => Calls.regrown_of ((hC3 _).out)
    have cN4 : ∀ d os, Calls Tryd.prog 16 #[.int .i64 (A : Int)] (Go.Sort.grow (redrawn w1 d) os) fun e w'' => e = .returned (.string d4) ∧ ∃ p : Regrown, w'' = Go.Sort.grow (redrawn w1 p.d) p.os := fun d os => Calls.regrown_of ((hC4 _).out)
    have cN5 : ∀ d os, Calls Tryd.prog 16 #[.int .i64 (X : Int)] (Go.Sort.grow (redrawn w1 d) os) fun e w'' => e = .returned (.string d5) ∧ ∃ p : Regrown, w'' = Go.Sort.grow (redrawn w1 p.d) p.os := fun d os => Calls.regrown_of ((hC5 _).out)
    have cN6 : ∀ d os, Calls Tryd.prog 16 #[.int .i64 (n : Int)] (Go.Sort.grow (redrawn w1 d) os) fun e w'' => e = .returned (.string d6) ∧ ∃ p : Regrown, w'' = Go.Sort.grow (redrawn w1 p.d) p.os := fun d os => Calls.regrown_of ((hC6 _).out)
    clear hC0 hC1 hC2 hC3 hC4 hC5 hC6
    go_upto_region 3 with fail
    refine wp_region_quiet_below (by kernel_rfl) (by kernel_rfl) ?_
    repeat (go_big_quiet_step (first | (go_at_call 16; with_reducible exact cN0 _ _) | (go_at_call 16; with_reducible exact cN1 _ _) | (go_at_call 16; with_reducible exact cN2 _ _) | (go_at_call 16; with_reducible exact cN3 _ _) | (go_at_call 16; with_reducible exact cN4 _ _) | (go_at_call 16; with_reducible exact cN5 _ _) | (go_at_call 16; with_reducible exact cN6 _ _)))
    refine wpQuiet_nil ?_
    intro _ hw'
    obtain ⟨⟨dq, osq⟩, hw''⟩ := hw'
    subst hw''
    have hbq := below_regrown w1 dq osq
    have HBQ := hide (below_here HB1.out hbq)
    have H2 := hide (block_on H1.out hbq)
    have HT2 := hide (HT1.out.later hbq HT1.out.2.1)
    clear hbq HB1 H1 HT1 c0 c1 c2 c3 c4 c5 c6 q0 cN0 q1 cN1 q2 cN2 q3 cN3 q4 cN4 q5 cN5 q6 cN6 hp1 hq1 hp2 hq2 hp3 hq3 hp4 hq4 hp5 hq5 hp6 hq6
    generalize Go.Sort.grow (redrawn w1 dq) osq = wq at *
    obtain ⟨c0, c1, c2, c3, c4, c5, c6⟩ := note_cells H2.out
    have hsq := HBQ.out.size
    rw [HHD.out] at HE
    go_wp2_with fail
    clear c0 c1 c2 c3 c4 c5 c6
    go_loopw [3, 4, 5] (fun v b i wr => ∃ j : Nat, j ≤ n ∧ i = .int .i64 (j : Int) ∧ v = .string (lensS y6 vs j) ∧ b = .string (bodyS tx vs j) ∧ (lensS y6 vs j).size ≤ 55 + 8 * j ∧ (bodyS tx vs j).size ≤ 24 + 24 * j ∧ Below wq.heap.size wq wr) (fun _ _ i _ => n - (intOf i).toNat)
    case atStart => exact ⟨0, Nat.zero_le _, rfl, rfl, rfl, by show y6.size ≤ _; omega, by show tx.size ≤ _; omega, Below.refl _ _⟩
    case round =>
      obtain ⟨j, hj, rfl, rfl, rfl, hls, hbs, hbl⟩ := hrel
      obtain ⟨c0, c1, c2, c3, c4, c5, c6⟩ := note_cells (block_on H2.out hbl)
      have HBL := hide hbl
      by_cases hlt : j < n
      · obtain ⟨b, off, rfl, _, hb, hc⟩ := (HT2.out.later hbl HT2.out.2.1).2.2 (by omega)
        have hck : wr.cell? ⟨b, off + j, none⟩ = some (.string (vs.getD j ByteArray.empty)) := hc j hlt
        have hv24 := HVS.out j hlt
        have HLN : Hid (lensS y6 vs (j + 1) = (lensS y6 vs j ++ ⟨#[32]⟩) ++ numB (vs.getD j ByteArray.empty).size) := rfl
        have HBN : Hid (bodyS tx vs (j + 1) = bodyS tx vs j ++ vs.getD j ByteArray.empty) := rfl
        clear hc hbl
        generalize vs.getD j ByteArray.empty = z at *
        generalize lensS y6 vs j = l at *
        generalize bodyS tx vs j = o at *
        obtain ⟨Z, hZ⟩ : ∃ Z, Z = z.size := ⟨_, rfl⟩
        rw [← hZ] at HLN hv24
        have hZi : (z.size : Int) = (Z : Int) := by rw [hZ]
        have hzZ : z.size ≤ 24 := by omega
        clear hZ
        obtain ⟨l1, hl1⟩ : ∃ l1, l1 = l ++ ⟨#[32]⟩ := ⟨_, rfl⟩
        obtain ⟨l2, hl2⟩ : ∃ l2, l2 = l1 ++ numB Z := ⟨_, rfl⟩
        obtain ⟨o2, ho2⟩ : ∃ o2, o2 = o ++ z := ⟨_, rfl⟩
        have hsp : (⟨#[32]⟩ : ByteArray).size = 1 := rfl
        have hnZ := numB_len (n := Z) (by omega)
        have hzl1 : l1.size ≤ 56 + 8 * j := by rw [hl1, ByteArray.size_append]; omega
        have hzl2 : l2.size ≤ 55 + 8 * (j + 1) := by rw [hl2, ByteArray.size_append]; omega
        have hzo2 : o2.size ≤ 24 + 24 * (j + 1) := by rw [ho2, ByteArray.size_append]; omega
        have hop1 : ∀ W, (Op.stringOp .add l ⟨#[32]⟩).run Tryd.prog W = .ok (.string l1) W := fun W => by rw [hl1]; exact run_string_add_sum _ _ _ (by omega)
        have hop2 : ∀ W, (Op.stringOp .add l1 (numB Z)).run Tryd.prog W = .ok (.string l2) W := fun W => by rw [hl2]; exact run_string_add_sum _ _ _ (by omega)
        have hop3 : ∀ W, (Op.stringOp .add o z).run Tryd.prog W = .ok (.string o2) W := fun W => by rw [ho2]; exact run_string_add_sum _ _ _ (by omega)
        rw [← hl1, ← hl2] at HLN
        rw [← ho2] at HBN
        clear hl1 hl2 ho2
        have hCZ : ∀ W, Hid (Calls Tryd.prog 16 #[.int .i64 (Z : Int)] W fun r w' => r = .returned (.string (numB Z)) ∧ Below W.heap.size W w') := fun W => l1Int_any Z (by omega) W
        generalize numB Z = N at *
        have hbw : b < wr.heap.size := by have := HBL.out.size; have := HT2.out.2.1; omega
        go_wp2_with fail
        refine (hCZ _).out.mono ?_
        rintro r w3 ⟨rfl, b3⟩
        have HB3 := hide (below_here HBL.out b3)
        have hck3 : w3.cell? ⟨b, off + j, none⟩ = some (.string z) := (b3.cell (p := ⟨b, off + j, none⟩) hbw).trans hck
        have HX3 := hide (block_on (block_on H2.out HBL.out) b3)
        clear b3 c0 c1 c2 c3 c4 c5 c6 hck hCZ
        obtain ⟨c0, c1, c2, c3, c4, c5, c6⟩ := note_cells HX3.out
        go_wp2_with fail
        go_roundw
        case rel => exact ⟨j + 1, by omega, by go_num, by rw [HLN.out], by rw [HBN.out], by rw [HLN.out]; exact hzl2, by rw [HBN.out]; exact hzo2, HB3.out⟩
        case measure => simp [intOf]; omega
      · obtain rfl : j = n := by omega
        generalize lensS y6 vs j = l at *
        generalize bodyS tx vs j = o at *
        obtain ⟨f1, hf1⟩ : ∃ f1, f1 = l ++ ⟨#[10]⟩ := ⟨_, rfl⟩
        obtain ⟨f2, hf2⟩ : ∃ f2, f2 = f1 ++ o := ⟨_, rfl⟩
        have hsp : (⟨#[10]⟩ : ByteArray).size = 1 := rfl
        have hzf1 : f1.size ≤ 56 + 8 * j := by rw [hf1, ByteArray.size_append]; omega
        have hzf2 : f2.size ≤ 1048576 := by rw [hf2, ByteArray.size_append]; omega
        have hop1 : ∀ W, (Op.stringOp .add l ⟨#[10]⟩).run Tryd.prog W = .ok (.string f1) W := fun W => by rw [hf1]; exact run_string_add_sum _ _ _ (by omega)
        have hop2 : ∀ W, (Op.stringOp .add f1 o).run Tryd.prog W = .ok (.string f2) W := fun W => by rw [hf2]; exact run_string_add_sum _ _ _ (by omega)
        rw [← hf1, ← hf2] at HE
        clear hf1 hf2 hbl
        go_wp2_with fail
        refine (specChecked_any f2 _ hzf2).mono ?_
        rintro r w3 ⟨rfl, b3⟩
        have HB3 := hide (below_here (below_here HBQ.out HBL.out) b3)
        clear b3
        go_wp2_with fail
        go_ret
        exact ⟨by rw [HE.out]; rfl, HB3.out⟩
end Go.Proofs.YthldcfiemfccpaaDoor
end

section
namespace Go.Proofs.YthldcfiemfccpaaDoor
open Go.RowKit
set_option linter.unusedVariables false
set_option linter.unusedSimpArgs false
set_option maxRecDepth 20000

def noPut (a : Int) (tx : ByteArray) : Bool := decide (a = 0) && decide (tx = ByteArray.empty)
set_option maxHeartbeats 800000 in
theorem tellsNoPut_any (k tt e s a : Int) (tx : ByteArray) (av : Option Addr) (n cap : Nat) (w : World) :
    Calls Tryd.prog 35 #[.agg #[.int .i64 k, .int .i64 tt, .int .i64 e, .int .i64 s, .int .i64 a, .string tx, .slice av n cap]] w fun r w' => r = .returned (.bool (noPut a tx)) ∧ Below w.heap.size w w' := by
  have HB0 : Hid (Below w.heap.size w (w.alloc (.cells #[.int .i64 k, .int .i64 tt, .int .i64 e, .int .i64 s, .int .i64 a, .string tx, .slice av n cap] 27))) := (Below.refl _ _).alloc (Nat.le_refl _) _
  by_cases ha : a = 0
  · subst ha
    by_cases htx : tx = ⟨#[]⟩
    · subst htx
      have hbt := text_same (⟨#[]⟩ : ByteArray)
      go_enter Tryd.func35, Tryd.ntmps35
      go_wp2_with fail
      go_ret
      exact ⟨rfl, HB0.out⟩
    · have hbt : ¬ tx.toList = [] := empty_list htx
      have hbt2 : (tx.toList == []) = false := by rw [beq_eq_false_iff_ne]; exact hbt
      have HE : Hid (noPut 0 tx = false) := by show _ = _; unfold noPut; simp; exact htx
      go_enter Tryd.func35, Tryd.ntmps35
      go_wp2_with fail
      go_ret
      exact ⟨by rw [HE.out]; rfl, HB0.out⟩
  · have hab : (a == 0) = false := by simp [ha]
    have HE : Hid (noPut a tx = false) := by show _ = _; unfold noPut; simp [ha]
    go_enter Tryd.func35, Tryd.ntmps35
    go_wp2_with fail
    go_ret
    exact ⟨by rw [HE.out]; rfl, HB0.out⟩

theorem valuesOk_none {vs : List ByteArray} (h : vs.length = 0) : valuesOk vs = true := by
  rw [List.length_eq_zero_iff.1 h]; rfl
theorem noteOk_mark {k tt e s a : Int} {tx : ByteArray} {vs : List ByteArray} (h : miIn (e, s, false) = false) : noteOk ⟨k, tt, e, s, a, tx, vs⟩ = false := by
  simp only [miIn, Bool.and_eq_false_iff, decide_eq_false_iff_not] at h
  cases hx : noteOk ⟨k, tt, e, s, a, tx, vs⟩ with
  | false => rfl
  | true =>
    exfalso
    simp only [noteOk, ntNum, inB, Bool.and_eq_true, decide_eq_true_eq] at hx
    omega
theorem noteOk_to {k tt e s a : Int} {tx : ByteArray} {vs : List ByteArray} (h : tt < 0 ∨ 1 < tt) : noteOk ⟨k, tt, e, s, a, tx, vs⟩ = false := by
  cases hx : noteOk ⟨k, tt, e, s, a, tx, vs⟩ with
  | false => rfl
  | true =>
    exfalso
    simp only [noteOk, ntNum, inB, Bool.and_eq_true, decide_eq_true_eq] at hx
    omega
theorem noteOk_rest {k tt e s a : Int} {tx : ByteArray} {vs : List ByteArray} (h : miIn (e, s, false) = true) (h1 : 0 ≤ tt) (h2 : tt ≤ 1) : noteOk ⟨k, tt, e, s, a, tx, vs⟩ = (inB k 1 3 && (inB a 0 63 && (decide (tx.size ≤ 24) && valuesOk vs)) && ntKind ⟨k, tt, e, s, a, tx, vs⟩) := by
  simp only [miIn, Bool.and_eq_true, decide_eq_true_eq] at h
  have e1 : inB tt 0 1 = true := by simp [inB, h1, h2]
  have e2 : inB e 0 1000000 = true := by simp [inB]; omega
  have e3 : inB s 0 1000000 = true := by simp [inB]; omega
  unfold noteOk ntNum
  simp only [e1, e2, e3, Bool.true_and]
theorem noteOk_put {tt e s a : Int} {tx : ByteArray} {vs : List ByteArray} (h : miIn (e, s, false) = true) (h1 : 0 ≤ tt) (h2 : tt ≤ 1) : noteOk ⟨1, tt, e, s, a, tx, vs⟩ = (decide (0 ≤ a) && decide (a < 64) && decide (tx.size ≤ 24) && decide (vs.length = 0)) := by
  rw [noteOk_rest h h1 h2]
  by_cases hv : vs.length = 0
  · rw [valuesOk_none hv]
    rw [Bool.eq_iff_iff]
    simp [inB, ntKind, hv]
    omega
  · rw [decide_eq_false hv]
    simp [ntKind, hv]
theorem noteOk_copy {tt e s a : Int} {tx : ByteArray} {vs : List ByteArray} (h : miIn (e, s, false) = true) (h1 : 0 ≤ tt) (h2 : tt ≤ 1) : noteOk ⟨2, tt, e, s, a, tx, vs⟩ = (noPut a tx && valuesOk vs) := by
  rw [noteOk_rest h h1 h2]
  by_cases ha : a = 0 <;> by_cases ht : tx = ByteArray.empty
  · subst ha; subst ht; simp [inB, ntKind, noPut]
  · simp [ntKind, noPut, ht]
  · simp [ntKind, noPut, ha]
  · simp [ntKind, noPut, ha]
theorem noteOk_have {tt e s a : Int} {tx : ByteArray} {vs : List ByteArray} (h : miIn (e, s, false) = true) (h1 : 0 ≤ tt) (h2 : tt ≤ 1) : noteOk ⟨3, tt, e, s, a, tx, vs⟩ = (noPut a tx && decide (vs.length = 0)) := by
  rw [noteOk_rest h h1 h2]
  by_cases ha : a = 0 <;> by_cases ht : tx = ByteArray.empty
  · subst ha; subst ht
    by_cases hv : vs.length = 0
    · rw [valuesOk_none hv]; simp [inB, ntKind, noPut, hv]
    · simp [inB, ntKind, noPut, hv]
  · simp [ntKind, noPut, ht]
  · simp [ntKind, noPut, ha]
  · simp [ntKind, noPut, ha]
theorem noteOk_else {k tt e s a : Int} {tx : ByteArray} {vs : List ByteArray} (h1 : ¬ k = 1) (h2 : ¬ k = 2) (h3 : ¬ k = 3) : noteOk ⟨k, tt, e, s, a, tx, vs⟩ = false := by
  cases hx : noteOk ⟨k, tt, e, s, a, tx, vs⟩ with
  | false => rfl
  | true =>
    exfalso
    simp only [noteOk, ntNum, inB, Bool.and_eq_true, decide_eq_true_eq] at hx
    omega

set_option maxHeartbeats 3200000 in
theorem implNoteOk_any (k tt e s a : Int) (tx : ByteArray) (vs : List ByteArray) (av : Option Addr) (n cap : Nat) (w : World) {lo hi : Nat} (h : Texts lo hi w av n vs) (hn : n ≤ 1048576) (hts : ∀ y ∈ vs, y.size ≤ 1048576) (hx : tx.size ≤ maxLen) :
    Calls Tryd.prog 19 #[.agg #[.int .i64 k, .int .i64 tt, .int .i64 e, .int .i64 s, .int .i64 a, .string tx, .slice av n cap]] w fun r w' => r = .returned (.bool (noteOk ⟨k, tt, e, s, a, tx, vs⟩)) ∧ Below w.heap.size w w' := by
  obtain ⟨wA, hwA⟩ : ∃ wA, wA = w.alloc (.cells #[.int .i64 k, .int .i64 tt, .int .i64 e, .int .i64 s, .int .i64 a, .string tx, .slice av n cap] 27) := ⟨_, rfl⟩
  have HBA : Hid (Below w.heap.size w wA) := by rw [hwA]; exact (Below.refl _ _).alloc (Nat.le_refl _) _
  have H0 : Hid (wA.heap[w.heap.size]? = some (.cells #[.int .i64 k, .int .i64 tt, .int .i64 e, .int .i64 s, .int .i64 a, .string tx, .slice av n cap] 27)) := by rw [hwA]; exact heap_new _ _
  have HT := hide (h.later HBA.out h.2.1)
  have HL := hide h.1
  have HTS := hide hts
  clear h hts
  obtain ⟨c0, c1, c2, c3, c4, c5, c6⟩ := note_cells H0.out
  go_enter Tryd.func19, Tryd.ntmps19
  go_upto_region 1 with fail
  rw [← hwA]
  clear hwA
  by_cases h1 : tt < 0
  · have HE : Hid (noteOk ⟨k, tt, e, s, a, tx, vs⟩ = false) := noteOk_to (.inl h1)
    go_wp2_with fail
    go_ret
    exact ⟨by rw [HE.out]; rfl, HBA.out⟩
  · by_cases h2 : 1 < tt
    · have HE : Hid (noteOk ⟨k, tt, e, s, a, tx, vs⟩ = false) := noteOk_to (.inr h2)
      go_wp2_with fail
      go_ret
      exact ⟨by rw [HE.out]; rfl, HBA.out⟩
    · go_wp2_with fail
      refine (isMark_any e s false _).mono ?_
      cases hm : miIn (e, s, false)
      · have HE : Hid (noteOk ⟨k, tt, e, s, a, tx, vs⟩ = false) := noteOk_mark hm
        rintro r w1 ⟨rfl, b1⟩
        have HB1 := hide (below_here HBA.out b1)
        clear b1 c0 c1 c2 c3 c4 c5 c6
        go_wp2_with fail
        go_ret
        exact ⟨by rw [HE.out]; rfl, HB1.out⟩
      · rintro r w1 ⟨rfl, b1⟩
        have HB1 := hide (below_here HBA.out b1)
        have H1 := hide (block_on H0.out b1)
        have HT1 := hide (HT.out.later b1 HT.out.2.1)
        clear b1 c0 c1 c2 c3 c4 c5 c6 HBA H0 HT
        have HM := hide hm
        clear hm
        obtain ⟨c0, c1, c2, c3, c4, c5, c6⟩ := note_cells H1.out
        by_cases k1 : k = 1
        · subst k1
          have HE := hide (noteOk_put (a := a) (tx := tx) (vs := vs) HM.out (by omega) (by omega : tt ≤ 1))
          by_cases a1 : 0 ≤ a
          · by_cases a2 : a < 64
            · by_cases a3 : (tx.size : Int) ≤ 24
              · rcases Nat.eq_zero_or_pos n with h0 | h0
                · subst h0
                  go_wp2_with fail
                  go_ret
                  exact ⟨by rw [HE.out, decide_eq_true a1, decide_eq_true a2, decide_eq_true (by omega : tx.size ≤ 24), decide_eq_true HL.out]; rfl, HB1.out⟩
                · have hnb : ((n : Int) == 0) = false := by simp; omega
                  go_wp2_with fail
                  go_ret
                  exact ⟨by rw [HE.out, HL.out, decide_eq_false (by omega : ¬ n = 0), Bool.and_false]; rfl, HB1.out⟩
              · go_wp2_with fail
                go_ret
                exact ⟨by rw [HE.out, decide_eq_false (by omega : ¬ tx.size ≤ 24), Bool.and_false, Bool.false_and]; rfl, HB1.out⟩
            · go_wp2_with fail
              go_ret
              exact ⟨by rw [HE.out, decide_eq_false (by omega : ¬ a < 64), Bool.and_false, Bool.false_and, Bool.false_and]; rfl, HB1.out⟩
          · go_wp2_with fail
            go_ret
            exact ⟨by rw [HE.out, decide_eq_false (by omega : ¬ 0 ≤ a), Bool.false_and, Bool.false_and, Bool.false_and]; rfl, HB1.out⟩
        · have kb1 : (k == 1) = false := by simp [k1]
          by_cases k2 : k = 2
          · subst k2
            have HE := hide (noteOk_copy (a := a) (tx := tx) (vs := vs) HM.out (by omega) (by omega : tt ≤ 1))
            go_wp2_with fail
            refine (tellsNoPut_any _ _ _ _ _ _ _ _ _ _).mono ?_
            cases hp : noPut a tx
            · rintro r w2 ⟨rfl, b2⟩
              have HB2 := hide (below_here HB1.out b2)
              clear b2 c0 c1 c2 c3 c4 c5 c6
              go_wp2_with fail
              go_ret
              exact ⟨by rw [HE.out, hp]; rfl, HB2.out⟩
            · rintro r w2 ⟨rfl, b2⟩
              have HB2 := hide (below_here HB1.out b2)
              have H2 := hide (block_on H1.out b2)
              have HT2 := hide (HT1.out.later b2 HT1.out.2.1)
              clear b2 c0 c1 c2 c3 c4 c5 c6 HB1 H1 HT1
              obtain ⟨c0, c1, c2, c3, c4, c5, c6⟩ := note_cells H2.out
              go_wp2_with fail
              refine (areValues_any av n cap vs _ HT2.out hn HTS.out).mono ?_
              rintro r w3 ⟨rfl, rfl⟩
              go_wp2_with fail
              go_ret
              exact ⟨by rw [HE.out, hp]; rfl, HB2.out⟩
          · have kb2 : (k == 2) = false := by simp [k2]
            by_cases k3 : k = 3
            · subst k3
              have HE := hide (noteOk_have (a := a) (tx := tx) (vs := vs) HM.out (by omega) (by omega : tt ≤ 1))
              go_wp2_with fail
              refine (tellsNoPut_any _ _ _ _ _ _ _ _ _ _).mono ?_
              cases hp : noPut a tx
              · rintro r w2 ⟨rfl, b2⟩
                have HB2 := hide (below_here HB1.out b2)
                clear b2 c0 c1 c2 c3 c4 c5 c6
                go_wp2_with fail
                go_ret
                exact ⟨by rw [HE.out, hp]; rfl, HB2.out⟩
              · rintro r w2 ⟨rfl, b2⟩
                have HB2 := hide (below_here HB1.out b2)
                have H2 := hide (block_on H1.out b2)
                clear b2 c0 c1 c2 c3 c4 c5 c6 HB1 H1
                obtain ⟨c0, c1, c2, c3, c4, c5, c6⟩ := note_cells H2.out
                rcases Nat.eq_zero_or_pos n with h0 | h0
                · subst h0
                  go_wp2_with fail
                  go_ret
                  exact ⟨by rw [HE.out, hp, decide_eq_true HL.out]; rfl, HB2.out⟩
                · have hnb : ((n : Int) == 0) = false := by simp; omega
                  go_wp2_with fail
                  go_ret
                  exact ⟨by rw [HE.out, HL.out, decide_eq_false (by omega : ¬ n = 0), Bool.and_false]; rfl, HB2.out⟩
            · have kb3 : (k == 3) = false := by simp [k3]
              have HE : Hid (noteOk ⟨k, tt, e, s, a, tx, vs⟩ = false) := noteOk_else k1 k2 k3
              go_wp2_with fail
              go_ret
              exact ⟨by rw [HE.out]; rfl, HB1.out⟩
end Go.Proofs.YthldcfiemfccpaaDoor
end

section
namespace Go.Proofs.YthldcfiemfccpaaDoor
open Go.RowKit
set_option linter.unusedVariables false
set_option maxRecDepth 20000

/-- Numbers, a blank ahead of each. -/
def tailN (ns : List Nat) : List UInt8 := (ns.map fun n => 32 :: Lib.decDigits n).flatten
/-- Numbers with blanks between. -/
def lineN : List Nat → List UInt8
  | [] => []
  | n :: r => Lib.decDigits n ++ tailN r
theorem tailN_nil : tailN [] = [] := rfl
theorem tailN_cons (n : Nat) (r : List Nat) : tailN (n :: r) = 32 :: (Lib.decDigits n ++ tailN r) := by simp [tailN]
theorem tailN_append (a b : List Nat) : tailN (a ++ b) = tailN a ++ tailN b := by simp [tailN]
theorem tailN_line (n : Nat) (r : List Nat) : tailN (n :: r) = 32 :: lineN (n :: r) := tailN_cons n r
theorem lineN_snoc (n : Nat) (r : List Nat) (m : Nat) : lineN ((n :: r) ++ [m]) = lineN (n :: r) ++ 32 :: Lib.decDigits m := by
  show Lib.decDigits n ++ tailN (r ++ [m]) = _
  rw [tailN_append, tailN_cons, tailN_nil, List.append_nil, ← List.append_assoc]
  rfl
def numsT (x : Nt) : List Nat := [x.tt.toNat, x.e.toNat, x.s.toNat, x.a.toNat, x.tx.size, x.vs.length] ++ x.vs.map ByteArray.size
def lineT (x : Nt) : List UInt8 := lineN (x.k.toNat :: numsT x)
def bodyT (x : Nt) : List UInt8 := x.tx.data.toList ++ (x.vs.map fun v => v.data.toList).flatten
theorem ba_append (a b : ByteArray) : (a ++ b).data.toList = a.data.toList ++ b.data.toList := by simp [ByteArray.data_append]
theorem spB_list (s : ByteArray) (n : Nat) : (spB s n).data.toList = s.data.toList ++ tailN [n] := by
  unfold spB numB
  rw [ba_append, ba_append, mkB_list, tailN_cons, tailN_nil, List.append_nil, List.append_assoc]
  rfl
theorem headS_list (K U E S A X V : Nat) : (headS K U E S A X V).data.toList = Lib.decDigits K ++ tailN [U, E, S, A, X, V] := by
  unfold headS
  simp only [spB_list]
  unfold numB
  rw [mkB_list]
  simp [tailN]
theorem lensS_list (h : ByteArray) (vs : List ByteArray) : ∀ i, i ≤ vs.length → (lensS h vs i).data.toList = h.data.toList ++ tailN ((vs.take i).map ByteArray.size)
  | 0, _ => by simp [lensS, tailN]
  | i + 1, hi => by
    show (spB _ _).data.toList = _
    rw [spB_list, lensS_list h vs i (by omega), List.append_assoc, ← tailN_append, List.take_add_one, List.map_append, List.getElem?_eq_getElem (by omega)]
    simp [List.getElem?_eq_getElem (show i < vs.length by omega)]
theorem bodyS_list (t : ByteArray) (vs : List ByteArray) : ∀ i, i ≤ vs.length → (bodyS t vs i).data.toList = t.data.toList ++ ((vs.take i).map fun v => v.data.toList).flatten
  | 0, _ => by simp [bodyS]
  | i + 1, hi => by
    show (bodyS t vs i ++ _).data.toList = _
    rw [ba_append, bodyS_list t vs i (by omega), List.append_assoc, List.take_add_one, List.map_append, List.getElem?_eq_getElem (by omega)]
    simp [List.getElem?_eq_getElem (show i < vs.length by omega)]
theorem ba_ext {a b : ByteArray} (h : a.data.toList = b.data.toList) : a = b := ByteArray.ext (Array.toList_inj.1 h)
theorem show_list {x : Nt} (h : noteOk x = true) : showNt x = checked (mkB (lineT x ++ 10 :: bodyT x)) := by
  unfold showNt
  rw [if_pos h]
  congr 1
  refine ba_ext ?_
  rw [ba_append, ba_append, lensS_list _ _ _ (Nat.le_refl _), bodyS_list _ _ _ (Nat.le_refl _), headS_list, mkB_list]
  simp [lineT, bodyT, lineN, numsT, tailN]

theorem tailN_in (ns : List Nat) : ∀ c ∈ tailN ns, c = 32 ∨ isDig c := by
  intro c hc
  unfold tailN at hc
  rw [List.mem_flatten] at hc
  obtain ⟨l, hl, hc⟩ := hc
  obtain ⟨n, _, rfl⟩ := List.mem_map.1 hl
  rcases List.mem_cons.1 hc with h | h
  · exact .inl h
  · exact .inr (dec_dig n c h)
theorem lineN_in : ∀ ns : List Nat, ∀ c ∈ lineN ns, c = 32 ∨ isDig c
  | [], c, hc => by cases hc
  | n :: r, c, hc => by
    rcases List.mem_append.1 hc with h | h
    · exact .inr (dec_dig n c h)
    · exact tailN_in r c h
theorem lineN_no10 (ns : List Nat) : ∀ c ∈ lineN ns, c ≠ 10 := by
  intro c hc h
  subst h
  rcases lineN_in ns _ hc with h | h
  · exact absurd h (by decide)
  · exact absurd h (by decide)
theorem wRun_tail : ∀ (ns : List Nat) (d : List (List UInt8)) (c : List UInt8), (tailN ns).foldl wStep (d, c) = (d ++ (c :: ns.map Lib.decDigits).take ns.length, ((c :: ns.map Lib.decDigits).getLast (by simp)))
  | [], d, c => by simp [tailN]
  | n :: r, d, c => by
    rw [tailN_cons, List.foldl_cons, List.foldl_append]
    have h0 : wStep (d, c) 32 = (d ++ [c], []) := by simp [wStep]
    rw [h0, wRun_word _ _ _ (dec_no32 n), List.nil_append, wRun_tail r]
    simp
theorem words_line (n : Nat) (r : List Nat) : wordsL (lineN (n :: r)) = (n :: r).map Lib.decDigits := by
  unfold wordsL wRun
  show ((Lib.decDigits n ++ tailN r).foldl wStep ([], [])).1 ++ [((Lib.decDigits n ++ tailN r).foldl wStep ([], [])).2] = _
  rw [List.foldl_append, wRun_word _ _ _ (dec_no32 n), List.nil_append, wRun_tail]
  simp only [List.nil_append]
  have h := List.take_append_getLast (Lib.decDigits n :: r.map Lib.decDigits) (by simp)
  simpa using h

/-- The parts of a text from a place on, by their lengths. -/
def partsL (s : ByteArray) : Nat → List Nat → List ByteArray
  | _, [] => []
  | at_, n :: r => s.extract at_ (at_ + n) :: partsL s (at_ + n) r
theorem partsL_of (s : ByteArray) : ∀ (ts : List ByteArray) (p : Nat) (rest : List UInt8), s.data.toList.drop p = (ts.map fun v => v.data.toList).flatten ++ rest → partsL s p (ts.map ByteArray.size) = ts
  | [], p, rest, h => rfl
  | t :: ts, p, rest, h => by
    rw [List.map_cons, List.flatten_cons, List.append_assoc] at h
    have hz : t.data.toList.length = t.size := by simp
    have e1 : s.extract p (p + t.size) = t := by
      refine ba_ext ?_
      rw [ByteArray.data_extract, Array.toList_extract, List.extract_eq_take_drop, h, show p + t.size - p = t.data.toList.length by omega, List.take_left]
    show s.extract p (p + t.size) :: partsL s (p + t.size) _ = _
    rw [e1, partsL_of s ts (p + t.size) rest (by
      rw [← hz, ← List.drop_drop, h, List.drop_left])]
/-- Is the text this Note's? -/
def NtOf (s : ByteArray) (x : Nt) : Prop := noteOk x = true ∧ s = showNt x
theorem NtOf.line {s : ByteArray} {x : Nt} (h : NtOf s x) : ∃ cc, cc.length = 2 ∧ s.data.toList = lineT x ++ 10 :: (bodyT x ++ cc) := by
  rw [h.2, show_list h.1]
  unfold checked
  rw [ba_append, mkB_list]
  exact ⟨(str (tail2 (checkN (mkB (lineT x ++ 10 :: bodyT x))))).data.toList, rfl, by simp⟩
theorem noteOk_nat {x : Nt} (h : noteOk x = true) : (0 ≤ x.k ∧ x.k ≤ 3) ∧ (0 ≤ x.tt ∧ x.tt ≤ 1) ∧ (0 ≤ x.e ∧ x.e ≤ 1000000) ∧ (0 ≤ x.s ∧ x.s ≤ 1000000) ∧ (0 ≤ x.a ∧ x.a ≤ 63) ∧ x.tx.size ≤ 24 ∧ x.vs.length ≤ 64 ∧ (∀ y ∈ x.vs, y.size ≤ 24) := by
  obtain ⟨⟨h1, h1'⟩, h2, h3, h4, h5, h6, h7, h8⟩ := noteOk_in (k := x.k) (tt := x.tt) (e := x.e) (s := x.s) (a := x.a) (tx := x.tx) (vs := x.vs) h
  refine ⟨⟨by omega, h1'⟩, h2, h3, h4, h5, h6, h7, fun y hy => ?_⟩
  obtain ⟨i, hi, rfl⟩ := List.getElem_of_mem hy
  have := h8 i hi
  rwa [List.getD_eq_getElem?_getD, List.getElem?_eq_getElem hi, Option.getD_some] at this
theorem numsT_small {x : Nt} (h : noteOk x = true) : ∀ n ∈ x.k.toNat :: numsT x, n ≤ 1000000 := by
  obtain ⟨h1, h2, h3, h4, h5, h6, h7, h8⟩ := noteOk_nat h
  intro n hn
  unfold numsT at hn
  simp only [List.mem_cons, List.mem_append, List.mem_map, List.not_mem_nil, or_false] at hn
  rcases hn with rfl | (rfl | rfl | rfl | rfl | rfl | rfl) | ⟨y, hy, rfl⟩
  all_goals first | omega | (have := h8 y hy; omega)
/-- A text up to its first newline. -/
theorem first_one : ∀ (a b x y : List UInt8), (∀ c ∈ a, c ≠ 10) → (∀ c ∈ b, c ≠ 10) → a ++ 10 :: x = b ++ 10 :: y → a = b ∧ x = y
  | [], [], x, y, _, _, h => ⟨rfl, by simpa using h⟩
  | [], c :: b, x, y, _, hb, h => by
    injection h with h1 h2
    exact absurd h1.symm (hb c (List.mem_cons_self ..))
  | c :: a, [], x, y, ha, _, h => by
    injection h with h1 h2
    exact absurd h1 (ha c (List.mem_cons_self ..))
  | c :: a, d :: b, x, y, ha, hb, h => by
    injection h with h1 h2
    obtain ⟨h3, h4⟩ := first_one a b x y (fun e he => ha e (List.mem_cons_of_mem _ he)) (fun e he => hb e (List.mem_cons_of_mem _ he)) h2
    exact ⟨by rw [h1, h3], h4⟩
/-- What the numbers of a Note and the texts behind them make. -/
def noteOf (xs : List Int) (ts : List ByteArray) : Nt := ⟨xs.getD 0 0, xs.getD 1 0, xs.getD 2 0, xs.getD 3 0, xs.getD 4 0, ts.getD 0 ByteArray.empty, ts.drop 1⟩
def lensOf (ns : List Nat) : List Nat := ns.getD 5 0 :: ns.drop 7
theorem noteOf_self {x : Nt} (h : noteOk x = true) : noteOf ((x.k.toNat :: numsT x).map fun n : Nat => (n : Int)) (x.tx :: x.vs) = x := by
  obtain ⟨h1, h2, h3, h4, h5, h6, h7, h8⟩ := noteOk_nat h
  obtain ⟨k, tt, e, s, a, tx, vs⟩ := x
  simp only [noteOf, numsT, List.map_cons, List.cons_append, List.nil_append, List.getD_cons_zero, List.getD_cons_succ, List.drop_succ_cons, List.drop_zero]
  simp only at h1 h2 h3 h4 h5
  congr 1 <;> omega
theorem lensOf_self (x : Nt) : lensOf (x.k.toNat :: numsT x) = (x.tx :: x.vs).map ByteArray.size := by
  simp [lensOf, numsT]
theorem NtOf.parts {s : ByteArray} {x : Nt} (h : NtOf s x) : partsL s ((lineT x).length + 1) (lensOf (x.k.toNat :: numsT x)) = x.tx :: x.vs := by
  obtain ⟨cc, _, hl⟩ := h.line
  rw [lensOf_self]
  refine partsL_of s _ _ cc ?_
  rw [hl, show (lineT x).length + 1 = (lineT x ++ [10]).length by simp, show lineT x ++ 10 :: (bodyT x ++ cc) = (lineT x ++ [10]) ++ (bodyT x ++ cc) by simp, List.drop_left]
  simp [bodyT]
theorem NtOf.one {s : ByteArray} {x y : Nt} (h : NtOf s x) (h' : NtOf s y) : x = y := by
  obtain ⟨c1, _, e1⟩ := h.line
  obtain ⟨c2, _, e2⟩ := h'.line
  obtain ⟨e3, _⟩ := first_one _ _ _ _ (lineN_no10 _) (lineN_no10 _) (e1.symm.trans e2)
  have e4 : (x.k.toNat :: numsT x) = (y.k.toNat :: numsT y) := by
    have := congrArg wordsL e3
    unfold lineT at this
    rw [words_line, words_line] at this
    exact (List.map_inj_right (fun a b => dec_inj)).1 this
  have e5 := h.parts
  have e6 := h'.parts
  have e7 : lineT y = lineT x := e3.symm
  rw [← e4, e7] at e6
  rw [← noteOf_self h.1, ← noteOf_self h'.1, ← e4, ← e5, ← e6]
open Classical in
noncomputable def readNt (s : ByteArray) : Option Nt := if h : ∃ x, NtOf s x then some (Classical.choose h) else none
theorem readNt_some {s : ByteArray} {x : Nt} (h : NtOf s x) : readNt s = some x := by
  have hx : ∃ x, NtOf s x := ⟨x, h⟩
  unfold readNt
  rw [dif_pos hx, (Classical.choose_spec hx).one h]
theorem readNt_none {s : ByteArray} (h : ∀ x, ¬ NtOf s x) : readNt s = none := by
  unfold readNt
  rw [dif_neg (fun ⟨x, hx⟩ => h x hx)]
theorem readNt_of {s : ByteArray} {x : Nt} (h : readNt s = some x) : NtOf s x := by
  unfold readNt at h
  split at h
  · injection h with h; rw [← h]; exact Classical.choose_spec _
  · cases h
/-- What is shown and is not empty is a Note's. -/
theorem ntOf_show {s : ByteArray} {x : Nt} (h0 : s.size ≠ 0) (h : showNt x = s) : NtOf s x := by
  refine ⟨?_, h.symm⟩
  cases hx : noteOk x with
  | true => rfl
  | false =>
    exfalso
    unfold showNt at h
    rw [hx] at h
    rw [← h] at h0
    exact h0 rfl
end Go.Proofs.YthldcfiemfccpaaDoor
end

