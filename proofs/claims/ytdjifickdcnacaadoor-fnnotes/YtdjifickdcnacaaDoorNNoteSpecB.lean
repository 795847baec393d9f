/- Several texts in one: NoteSpecB, NoteRead, NoteParse, NoteSpecC, NoteImplA. -/
import Derived.Test.YtdjifickdcnacaaDoorNLogSpecE
import Derived.Test.YtdjifickdcnacaaDoorNMarkSpecC
import Derived.Test.YtdjifickdcnacaaDoorNMarkSpecA
import Derived.Test.YtdjifickdcnacaaDoorNTextWalk
import Derived.Deep.RegionHeld3
import Derived.Deep.DeepCutAuto
import Derived.Test.YtdjifickdcnacaaDoorNCopyBase
import Derived.Test.YtdjifickdcnacaaDoorNChipOwn2
import Derived.Test.YtdjifickdcnacaaDoorNMarkMath
import Derived.Test.YtdjifickdcnacaaDoorNLogSpecA
section
namespace Go.Proofs.YtdjifickdcnacaaDoor
open Go.RowKit
set_option linter.unusedVariables false
set_option linter.unusedSimpArgs false
set_option maxRecDepth 20000
def numB (n : Nat) : ByteArray := mkB (Lib.decDigits n)
def spB (s : ByteArray) (n : Nat) : ByteArray := (s ++ ⟨#[32]⟩) ++ numB n
def headS (K U E S A X V : Nat) : ByteArray := spB (spB (spB (spB (spB (spB (numB K) U) E) S) A) X) V
def lensS (h : ByteArray) (vs : List ByteArray) : Nat -> ByteArray
 | 0 => h
 | i + 1 => spB (lensS h vs i) (vs.getD i ByteArray.empty).size
def bodyS (t : ByteArray) (vs : List ByteArray) : Nat -> ByteArray
 | 0 => t
 | i + 1 => bodyS t vs i ++ vs.getD i ByteArray.empty
def showNt (x : Nt) : ByteArray := if noteOk x then checked ((lensS (headS x.k.toNat x.tt.toNat x.e.toNat x.s.toNat x.a.toNat x.tx.size x.vs.length) x.vs x.vs.length ++ ⟨#[10]⟩) ++ bodyS x.tx x.vs x.vs.length) else ⟨#[]⟩
theorem numB_len {n : Nat} (h : n <= 1000000) : (numB n).size <= 7 := by unfold numB; rw [mkB_size]; exact dec_len h
theorem spB_len {s : ByteArray} {n : Nat} (h : n <= 1000000) : (spB s n).size <= s.size + 8 := by
 unfold spB
 rw [ByteArray.size_append,ByteArray.size_append]
 have := numB_len h
 have : (⟨#[32]⟩ : ByteArray).size = 1 := rfl
 omega
theorem shortAll_at {ts : List ByteArray} {k : Nat} (h : shortAll ts k = true) : ∀ {i : Nat},i < k -> (ts.getD i ByteArray.empty).size <= 24 := by
 induction k with
 | zero => intro i hi; omega
 | succ k ih =>
  intro i hi
  unfold shortAll at h
  simp only [Bool.and_eq_true,decide_eq_true_eq] at h
  rcases Nat.lt_or_ge i k with h1 | h1
  ·exact ih h.1 h1
  ·rw [show i = k by omega]; exact h.2
theorem noteOk_in {k tt e s a : Int} {tx : ByteArray} {vs : List ByteArray} (h : noteOk ⟨k,tt,e,s,a,tx,vs⟩ = true) : (1 <= k ∧ k <= 3) ∧ (0 <= tt ∧ tt <= 1) ∧ (0 <= e ∧ e <= 1000000) ∧ (0 <= s ∧ s <= 1000000) ∧ (0 <= a ∧ a <= 63) ∧ tx.size <= 24 ∧ vs.length <= 64 ∧ (∀ i,i < vs.length -> (vs.getD i ByteArray.empty).size <= 24) := by
 unfold noteOk ntNum valuesOk inB at h
 simp only [Bool.and_eq_true,decide_eq_true_eq] at h
 obtain ⟨⟨h1,h2,h3,h4,h5,h6,h7,h8⟩,_⟩ := h
 exact ⟨h1,h2,h3,h4,h5,h6,h7,fun i hi => shortAll_at h8 hi⟩
set_option maxHeartbeats 6400000 in
theorem specShowNote_any (k tt e s a : Int) (tx : ByteArray) (vs : List ByteArray) (av : Option Addr) (n cap : Nat) (w : World) {lo hi : Nat} (h : Texts lo hi w av n vs) (hn : n <= 1048576) (hts : ∀ y ∈ vs,y.size <= 1048576) (hx : tx.size <= maxLen) :
  Calls Tryd.prog 13 #[.agg #[.int .i64 k,.int .i64 tt,.int .i64 e,.int .i64 s,.int .i64 a,.string tx,.slice av n cap]] w fun r w' => r = .returned (.string (showNt ⟨k,tt,e,s,a,tx,vs⟩)) ∧ Below w.heap.size w w' := by
 obtain ⟨wA,hwA⟩ : ∃ wA,wA = w.alloc (.cells #[.int .i64 k,.int .i64 tt,.int .i64 e,.int .i64 s,.int .i64 a,.string tx,.slice av n cap] 26) := ⟨_,rfl⟩
 have HBA : Hid (Below w.heap.size w wA) := by rw [hwA]; exact (Below.refl _ _).alloc (Nat.le_refl _) _
 have H0 : Hid (wA.heap[w.heap.size]? = some (.cells #[.int .i64 k,.int .i64 tt,.int .i64 e,.int .i64 s,.int .i64 a,.string tx,.slice av n cap] 26)) := by rw [hwA]; exact heap_new _ _
 have HT := hide (h.later HBA.out h.2.1)
 have HL := hide h.1
 have HTS := hide hts
 clear h hts
 obtain ⟨c0,c1,c2,c3,c4,c5,c6⟩ := note_cells H0.out
 go_enter Tryd.func13,Tryd.ntmps13
 go_upto_region 1 with fail
 rw [<- hwA]
 clear hwA
 go_wp2_with fail
 refine (specNoteOk_any k tt e s a tx vs av n cap wA HT.out hn HTS.out hx).mono ?_
 cases hok : noteOk ⟨k,tt,e,s,a,tx,vs⟩
 ·have HE : Hid (showNt ⟨k,tt,e,s,a,tx,vs⟩ = ⟨#[]⟩) := by show _ = _; unfold showNt; rw [hok]; rfl
  rintro r w1 ⟨rfl,b1⟩
  have HB1 := hide (below_here HBA.out b1)
  clear b1 c0 c1 c2 c3 c4 c5 c6
  go_wp2_with fail
  go_ret
  exact ⟨by rw [HE.out]; rfl,HB1.out⟩
 ·obtain ⟨⟨hk1,hk2⟩,⟨ht1,ht2⟩,⟨he1,he2⟩,⟨hs1,hs2⟩,⟨ha1,ha2⟩,hx24,hv64,hvs⟩ := noteOk_in hok
  obtain ⟨K,rfl⟩ : ∃ K : Nat,k = (K : Int) := ⟨k.toNat,by omega⟩
  obtain ⟨U,rfl⟩ : ∃ U : Nat,tt = (U : Int) := ⟨tt.toNat,by omega⟩
  obtain ⟨E,rfl⟩ : ∃ E : Nat,e = (E : Int) := ⟨e.toNat,by omega⟩
  obtain ⟨S,rfl⟩ : ∃ S : Nat,s = (S : Int) := ⟨s.toNat,by omega⟩
  obtain ⟨A,rfl⟩ : ∃ A : Nat,a = (A : Int) := ⟨a.toNat,by omega⟩
  rw [HL.out] at hv64 hvs
  have HVS := hide hvs
  have HE : Hid (showNt ⟨K,U,E,S,A,tx,vs⟩ = checked ((lensS (headS K U E S A tx.size n) vs n ++ ⟨#[10]⟩) ++ bodyS tx vs n)) := by
   show _ = _
   unfold showNt
   rw [hok]
   simp only [Int.toNat_natCast,HL.out]
   rfl
  clear hvs hok
  rintro r w1 ⟨rfl,b1⟩
  have HB1 := hide (below_here HBA.out b1)
  have H1 := hide (block_on H0.out b1)
  have HT1 := hide (HT.out.later b1 HT.out.2.1)
  clear b1 c0 c1 c2 c3 c4 c5 c6 H0 HT
  obtain ⟨X,hX⟩ : ∃ X,X = tx.size := ⟨_,rfl⟩
  rw [<- hX] at HE hx24
  have hXi : (tx.size : Int) = (X : Int) := by rw [hX]
  clear hX
  obtain ⟨d0,hd0⟩ : ∃ d,d = numB K := ⟨_,rfl⟩
  have hz0 : d0.size <= 7 := by rw [hd0]; exact numB_len (by omega)
  have hC0 : ∀ W,Hid (Calls Tryd.prog 61 #[.int .i64 (K : Int)] W fun r w' => r = .returned (.string d0) ∧ Below W.heap.size W w') := fun W => by rw [hd0]; exact l1Int_any K (by omega) W
  obtain ⟨d1,hd1⟩ : ∃ d,d = numB U := ⟨_,rfl⟩
  have hz1 : d1.size <= 7 := by rw [hd1]; exact numB_len (by omega)
  have hC1 : ∀ W,Hid (Calls Tryd.prog 61 #[.int .i64 (U : Int)] W fun r w' => r = .returned (.string d1) ∧ Below W.heap.size W w') := fun W => by rw [hd1]; exact l1Int_any U (by omega) W
  obtain ⟨d2,hd2⟩ : ∃ d,d = numB E := ⟨_,rfl⟩
  have hz2 : d2.size <= 7 := by rw [hd2]; exact numB_len (by omega)
  have hC2 : ∀ W,Hid (Calls Tryd.prog 61 #[.int .i64 (E : Int)] W fun r w' => r = .returned (.string d2) ∧ Below W.heap.size W w') := fun W => by rw [hd2]; exact l1Int_any E (by omega) W
  obtain ⟨d3,hd3⟩ : ∃ d,d = numB S := ⟨_,rfl⟩
  have hz3 : d3.size <= 7 := by rw [hd3]; exact numB_len (by omega)
  have hC3 : ∀ W,Hid (Calls Tryd.prog 61 #[.int .i64 (S : Int)] W fun r w' => r = .returned (.string d3) ∧ Below W.heap.size W w') := fun W => by rw [hd3]; exact l1Int_any S (by omega) W
  obtain ⟨d4,hd4⟩ : ∃ d,d = numB A := ⟨_,rfl⟩
  have hz4 : d4.size <= 7 := by rw [hd4]; exact numB_len (by omega)
  have hC4 : ∀ W,Hid (Calls Tryd.prog 61 #[.int .i64 (A : Int)] W fun r w' => r = .returned (.string d4) ∧ Below W.heap.size W w') := fun W => by rw [hd4]; exact l1Int_any A (by omega) W
  obtain ⟨d5,hd5⟩ : ∃ d,d = numB X := ⟨_,rfl⟩
  have hz5 : d5.size <= 7 := by rw [hd5]; exact numB_len (by omega)
  have hC5 : ∀ W,Hid (Calls Tryd.prog 61 #[.int .i64 (X : Int)] W fun r w' => r = .returned (.string d5) ∧ Below W.heap.size W w') := fun W => by rw [hd5]; exact l1Int_any X (by omega) W
  obtain ⟨d6,hd6⟩ : ∃ d,d = numB n := ⟨_,rfl⟩
  have hz6 : d6.size <= 7 := by rw [hd6]; exact numB_len (by omega)
  have hC6 : ∀ W,Hid (Calls Tryd.prog 61 #[.int .i64 (n : Int)] W fun r w' => r = .returned (.string d6) ∧ Below W.heap.size W w') := fun W => by rw [hd6]; exact l1Int_any n (by omega) W
  obtain ⟨u1,hu1⟩ : ∃ u,u = d0 ++ ⟨#[32]⟩ := ⟨_,rfl⟩
  have hzu1 : u1.size <= 8 := by rw [hu1,ByteArray.size_append]; have : (⟨#[32]⟩ : ByteArray).size = 1 := rfl; omega
  have hp1 : ∀ W,(Op.stringOp .add d0 ⟨#[32]⟩).run Tryd.prog W = .ok (.string u1) W := fun W => by rw [hu1]; exact run_string_add_sum _ _ _ (by have : (⟨#[32]⟩ : ByteArray).size = 1 := rfl; omega)
  obtain ⟨y1,hy1⟩ : ∃ y,y = u1 ++ d1 := ⟨_,rfl⟩
  have hzy1 : y1.size <= 15 := by rw [hy1,ByteArray.size_append]; omega
  have hq1 : ∀ W,(Op.stringOp .add u1 d1).run Tryd.prog W = .ok (.string y1) W := fun W => by rw [hy1]; exact run_string_add_sum _ _ _ (by omega)
  obtain ⟨u2,hu2⟩ : ∃ u,u = y1 ++ ⟨#[32]⟩ := ⟨_,rfl⟩
  have hzu2 : u2.size <= 16 := by rw [hu2,ByteArray.size_append]; have : (⟨#[32]⟩ : ByteArray).size = 1 := rfl; omega
  have hp2 : ∀ W,(Op.stringOp .add y1 ⟨#[32]⟩).run Tryd.prog W = .ok (.string u2) W := fun W => by rw [hu2]; exact run_string_add_sum _ _ _ (by have : (⟨#[32]⟩ : ByteArray).size = 1 := rfl; omega)
  obtain ⟨y2,hy2⟩ : ∃ y,y = u2 ++ d2 := ⟨_,rfl⟩
  have hzy2 : y2.size <= 23 := by rw [hy2,ByteArray.size_append]; omega
  have hq2 : ∀ W,(Op.stringOp .add u2 d2).run Tryd.prog W = .ok (.string y2) W := fun W => by rw [hy2]; exact run_string_add_sum _ _ _ (by omega)
  obtain ⟨u3,hu3⟩ : ∃ u,u = y2 ++ ⟨#[32]⟩ := ⟨_,rfl⟩
  have hzu3 : u3.size <= 24 := by rw [hu3,ByteArray.size_append]; have : (⟨#[32]⟩ : ByteArray).size = 1 := rfl; omega
  have hp3 : ∀ W,(Op.stringOp .add y2 ⟨#[32]⟩).run Tryd.prog W = .ok (.string u3) W := fun W => by rw [hu3]; exact run_string_add_sum _ _ _ (by have : (⟨#[32]⟩ : ByteArray).size = 1 := rfl; omega)
  obtain ⟨y3,hy3⟩ : ∃ y,y = u3 ++ d3 := ⟨_,rfl⟩
  have hzy3 : y3.size <= 31 := by rw [hy3,ByteArray.size_append]; omega
  have hq3 : ∀ W,(Op.stringOp .add u3 d3).run Tryd.prog W = .ok (.string y3) W := fun W => by rw [hy3]; exact run_string_add_sum _ _ _ (by omega)
  obtain ⟨u4,hu4⟩ : ∃ u,u = y3 ++ ⟨#[32]⟩ := ⟨_,rfl⟩
  have hzu4 : u4.size <= 32 := by rw [hu4,ByteArray.size_append]; have : (⟨#[32]⟩ : ByteArray).size = 1 := rfl; omega
  have hp4 : ∀ W,(Op.stringOp .add y3 ⟨#[32]⟩).run Tryd.prog W = .ok (.string u4) W := fun W => by rw [hu4]; exact run_string_add_sum _ _ _ (by have : (⟨#[32]⟩ : ByteArray).size = 1 := rfl; omega)
  obtain ⟨y4,hy4⟩ : ∃ y,y = u4 ++ d4 := ⟨_,rfl⟩
  have hzy4 : y4.size <= 39 := by rw [hy4,ByteArray.size_append]; omega
  have hq4 : ∀ W,(Op.stringOp .add u4 d4).run Tryd.prog W = .ok (.string y4) W := fun W => by rw [hy4]; exact run_string_add_sum _ _ _ (by omega)
  obtain ⟨u5,hu5⟩ : ∃ u,u = y4 ++ ⟨#[32]⟩ := ⟨_,rfl⟩
  have hzu5 : u5.size <= 40 := by rw [hu5,ByteArray.size_append]; have : (⟨#[32]⟩ : ByteArray).size = 1 := rfl; omega
  have hp5 : ∀ W,(Op.stringOp .add y4 ⟨#[32]⟩).run Tryd.prog W = .ok (.string u5) W := fun W => by rw [hu5]; exact run_string_add_sum _ _ _ (by have : (⟨#[32]⟩ : ByteArray).size = 1 := rfl; omega)
  obtain ⟨y5,hy5⟩ : ∃ y,y = u5 ++ d5 := ⟨_,rfl⟩
  have hzy5 : y5.size <= 47 := by rw [hy5,ByteArray.size_append]; omega
  have hq5 : ∀ W,(Op.stringOp .add u5 d5).run Tryd.prog W = .ok (.string y5) W := fun W => by rw [hy5]; exact run_string_add_sum _ _ _ (by omega)
  obtain ⟨u6,hu6⟩ : ∃ u,u = y5 ++ ⟨#[32]⟩ := ⟨_,rfl⟩
  have hzu6 : u6.size <= 48 := by rw [hu6,ByteArray.size_append]; have : (⟨#[32]⟩ : ByteArray).size = 1 := rfl; omega
  have hp6 : ∀ W,(Op.stringOp .add y5 ⟨#[32]⟩).run Tryd.prog W = .ok (.string u6) W := fun W => by rw [hu6]; exact run_string_add_sum _ _ _ (by have : (⟨#[32]⟩ : ByteArray).size = 1 := rfl; omega)
  obtain ⟨y6,hy6⟩ : ∃ y,y = u6 ++ d6 := ⟨_,rfl⟩
  have hzy6 : y6.size <= 55 := by rw [hy6,ByteArray.size_append]; omega
  have hq6 : ∀ W,(Op.stringOp .add u6 d6).run Tryd.prog W = .ok (.string y6) W := fun W => by rw [hy6]; exact run_string_add_sum _ _ _ (by omega)
  have HHD : Hid (headS K U E S A X n = y6) := by show _ = _; rw [hy6,hu6,hy5,hu5,hy4,hu4,hy3,hu3,hy2,hu2,hy1,hu1,hd0,hd1,hd2,hd3,hd4,hd5,hd6]; rfl
  clear hu1 hy1 hu2 hy2 hu3 hy3 hu4 hy4 hu5 hy5 hu6 hy6 hd0 hd1 hd2 hd3 hd4 hd5 hd6
  obtain ⟨c0,c1,c2,c3,c4,c5,c6⟩ := note_cells H1.out
  have q0 := fun d os => cell_regrown c0 d os
  have q1 := fun d os => cell_regrown c1 d os
  have q2 := fun d os => cell_regrown c2 d os
  have q3 := fun d os => cell_regrown c3 d os
  have q4 := fun d os => cell_regrown c4 d os
  have q5 := fun d os => cell_regrown c5 d os
  have q6 := fun d os => cell_regrown c6 d os
  have cN0 : ∀ d os,Calls Tryd.prog 61 #[.int .i64 (K : Int)] (Go.Sort.grow (redrawn w1 d) os) fun e w'' => e = .returned (.string d0) ∧ ∃ p : Regrown,w'' = Go.Sort.grow (redrawn w1 p.d) p.os := fun d os => Calls.regrown_of ((hC0 _).out)
  have cN1 : ∀ d os,Calls Tryd.prog 61 #[.int .i64 (U : Int)] (Go.Sort.grow (redrawn w1 d) os) fun e w'' => e = .returned (.string d1) ∧ ∃ p : Regrown,w'' = Go.Sort.grow (redrawn w1 p.d) p.os := fun d os => Calls.regrown_of ((hC1 _).out)
  have cN2 : ∀ d os,Calls Tryd.prog 61 #[.int .i64 (E : Int)] (Go.Sort.grow (redrawn w1 d) os) fun e w'' => e = .returned (.string d2) ∧ ∃ p : Regrown,w'' = Go.Sort.grow (redrawn w1 p.d) p.os := fun d os => Calls.regrown_of ((hC2 _).out)
  have cN3 : ∀ d os,Calls Tryd.prog 61 #[.int .i64 (S : Int)] (Go.Sort.grow (redrawn w1 d) os) fun e w'' => e = .returned (.string d3) ∧ ∃ p : Regrown,w'' = Go.Sort.grow (redrawn w1 p.d) p.os := fun d os => Calls.regrown_of ((hC3 _).out)
  have cN4 : ∀ d os,Calls Tryd.prog 61 #[.int .i64 (A : Int)] (Go.Sort.grow (redrawn w1 d) os) fun e w'' => e = .returned (.string d4) ∧ ∃ p : Regrown,w'' = Go.Sort.grow (redrawn w1 p.d) p.os := fun d os => Calls.regrown_of ((hC4 _).out)
  have cN5 : ∀ d os,Calls Tryd.prog 61 #[.int .i64 (X : Int)] (Go.Sort.grow (redrawn w1 d) os) fun e w'' => e = .returned (.string d5) ∧ ∃ p : Regrown,w'' = Go.Sort.grow (redrawn w1 p.d) p.os := fun d os => Calls.regrown_of ((hC5 _).out)
  have cN6 : ∀ d os,Calls Tryd.prog 61 #[.int .i64 (n : Int)] (Go.Sort.grow (redrawn w1 d) os) fun e w'' => e = .returned (.string d6) ∧ ∃ p : Regrown,w'' = Go.Sort.grow (redrawn w1 p.d) p.os := fun d os => Calls.regrown_of ((hC6 _).out)
  clear hC0 hC1 hC2 hC3 hC4 hC5 hC6
  go_upto_region 3 with fail
  refine wp_region_quiet_below (by kernel_rfl) (by kernel_rfl) ?_
  repeat (go_big_quiet_step (first | (go_at_call 61; with_reducible exact cN0 _ _) | (go_at_call 61; with_reducible exact cN1 _ _) | (go_at_call 61; with_reducible exact cN2 _ _) | (go_at_call 61; with_reducible exact cN3 _ _) | (go_at_call 61; with_reducible exact cN4 _ _) | (go_at_call 61; with_reducible exact cN5 _ _) | (go_at_call 61; with_reducible exact cN6 _ _)))
  refine wpQuiet_nil ?_
  intro _ hw'
  obtain ⟨⟨dq,osq⟩,hw''⟩ := hw'
  subst hw''
  have hbq := below_regrown w1 dq osq
  have HBQ := hide (below_here HB1.out hbq)
  have H2 := hide (block_on H1.out hbq)
  have HT2 := hide (HT1.out.later hbq HT1.out.2.1)
  clear hbq HB1 H1 HT1 c0 c1 c2 c3 c4 c5 c6 q0 cN0 q1 cN1 q2 cN2 q3 cN3 q4 cN4 q5 cN5 q6 cN6 hp1 hq1 hp2 hq2 hp3 hq3 hp4 hq4 hp5 hq5 hp6 hq6
  generalize Go.Sort.grow (redrawn w1 dq) osq = wq at *
  obtain ⟨c0,c1,c2,c3,c4,c5,c6⟩ := note_cells H2.out
  have hsq := HBQ.out.size
  rw [HHD.out] at HE
  go_wp2_with fail
  clear c0 c1 c2 c3 c4 c5 c6
  go_loopw [3,4,5] (fun v b i wr => ∃ j : Nat,j <= n ∧ i = .int .i64 (j : Int) ∧ v = .string (lensS y6 vs j) ∧ b = .string (bodyS tx vs j) ∧ (lensS y6 vs j).size <= 55 + 8 * j ∧ (bodyS tx vs j).size <= 24 + 24 * j ∧ Below wq.heap.size wq wr) (fun _ _ i _ => n - (intOf i).toNat)
  case atStart => exact ⟨0,Nat.zero_le _,rfl,rfl,rfl,by show y6.size <= _; omega,by show tx.size <= _; omega,Below.refl _ _⟩
  case round =>
   obtain ⟨j,hj,rfl,rfl,rfl,hls,hbs,hbl⟩ := hrel
   obtain ⟨c0,c1,c2,c3,c4,c5,c6⟩ := note_cells (block_on H2.out hbl)
   have HBL := hide hbl
   by_cases hlt : j < n
   ·obtain ⟨b,off,rfl,_,hb,hc⟩ := (HT2.out.later hbl HT2.out.2.1).2.2 (by omega)
    have hck : wr.cell? ⟨b,off + j,none⟩ = some (.string (vs.getD j ByteArray.empty)) := hc j hlt
    have hv24 := HVS.out j hlt
    have HLN : Hid (lensS y6 vs (j + 1) = (lensS y6 vs j ++ ⟨#[32]⟩) ++ numB (vs.getD j ByteArray.empty).size) := rfl
    have HBN : Hid (bodyS tx vs (j + 1) = bodyS tx vs j ++ vs.getD j ByteArray.empty) := rfl
    clear hc hbl
    generalize vs.getD j ByteArray.empty = z at *
    generalize lensS y6 vs j = l at *
    generalize bodyS tx vs j = o at *
    obtain ⟨Z,hZ⟩ : ∃ Z,Z = z.size := ⟨_,rfl⟩
    rw [<- hZ] at HLN hv24
    have hZi : (z.size : Int) = (Z : Int) := by rw [hZ]
    have hzZ : z.size <= 24 := by omega
    clear hZ
    obtain ⟨l1,hl1⟩ : ∃ l1,l1 = l ++ ⟨#[32]⟩ := ⟨_,rfl⟩
    obtain ⟨l2,hl2⟩ : ∃ l2,l2 = l1 ++ numB Z := ⟨_,rfl⟩
    obtain ⟨o2,ho2⟩ : ∃ o2,o2 = o ++ z := ⟨_,rfl⟩
    have hsp : (⟨#[32]⟩ : ByteArray).size = 1 := rfl
    have hnZ := numB_len (n := Z) (by omega)
    have hzl1 : l1.size <= 56 + 8 * j := by rw [hl1,ByteArray.size_append]; omega
    have hzl2 : l2.size <= 55 + 8 * (j + 1) := by rw [hl2,ByteArray.size_append]; omega
    have hzo2 : o2.size <= 24 + 24 * (j + 1) := by rw [ho2,ByteArray.size_append]; omega
    have hop1 : ∀ W,(Op.stringOp .add l ⟨#[32]⟩).run Tryd.prog W = .ok (.string l1) W := fun W => by rw [hl1]; exact run_string_add_sum _ _ _ (by omega)
    have hop2 : ∀ W,(Op.stringOp .add l1 (numB Z)).run Tryd.prog W = .ok (.string l2) W := fun W => by rw [hl2]; exact run_string_add_sum _ _ _ (by omega)
    have hop3 : ∀ W,(Op.stringOp .add o z).run Tryd.prog W = .ok (.string o2) W := fun W => by rw [ho2]; exact run_string_add_sum _ _ _ (by omega)
    rw [<- hl1,<- hl2] at HLN
    rw [<- ho2] at HBN
    clear hl1 hl2 ho2
    have hCZ : ∀ W,Hid (Calls Tryd.prog 61 #[.int .i64 (Z : Int)] W fun r w' => r = .returned (.string (numB Z)) ∧ Below W.heap.size W w') := fun W => l1Int_any Z (by omega) W
    generalize numB Z = N at *
    have hbw : b < wr.heap.size := by have := HBL.out.size; have := HT2.out.2.1; omega
    go_wp2_with fail
    refine (hCZ _).out.mono ?_
    rintro r w3 ⟨rfl,b3⟩
    have HB3 := hide (below_here HBL.out b3)
    have hck3 : w3.cell? ⟨b,off + j,none⟩ = some (.string z) := (b3.cell (p := ⟨b,off + j,none⟩) hbw).trans hck
    have HX3 := hide (block_on (block_on H2.out HBL.out) b3)
    clear b3 c0 c1 c2 c3 c4 c5 c6 hck hCZ
    obtain ⟨c0,c1,c2,c3,c4,c5,c6⟩ := note_cells HX3.out
    go_wp2_with fail
    go_roundw
    case rel => exact ⟨j + 1,by omega,by go_num,by rw [HLN.out],by rw [HBN.out],by rw [HLN.out]; exact hzl2,by rw [HBN.out]; exact hzo2,HB3.out⟩
    case measure => simp [intOf]; omega
   ·obtain rfl : j = n := by omega
    generalize lensS y6 vs j = l at *
    generalize bodyS tx vs j = o at *
    obtain ⟨f1,hf1⟩ : ∃ f1,f1 = l ++ ⟨#[10]⟩ := ⟨_,rfl⟩
    obtain ⟨f2,hf2⟩ : ∃ f2,f2 = f1 ++ o := ⟨_,rfl⟩
    have hsp : (⟨#[10]⟩ : ByteArray).size = 1 := rfl
    have hzf1 : f1.size <= 56 + 8 * j := by rw [hf1,ByteArray.size_append]; omega
    have hzf2 : f2.size <= 1048576 := by rw [hf2,ByteArray.size_append]; omega
    have hop1 : ∀ W,(Op.stringOp .add l ⟨#[10]⟩).run Tryd.prog W = .ok (.string f1) W := fun W => by rw [hf1]; exact run_string_add_sum _ _ _ (by omega)
    have hop2 : ∀ W,(Op.stringOp .add f1 o).run Tryd.prog W = .ok (.string f2) W := fun W => by rw [hf2]; exact run_string_add_sum _ _ _ (by omega)
    rw [<- hf1,<- hf2] at HE
    clear hf1 hf2 hbl
    go_wp2_with fail
    refine (specChecked_any f2 _ hzf2).mono ?_
    rintro r w3 ⟨rfl,b3⟩
    have HB3 := hide (below_here (below_here HBQ.out HBL.out) b3)
    clear b3
    go_wp2_with fail
    go_ret
    exact ⟨by rw [HE.out]; rfl,HB3.out⟩
end Go.Proofs.YtdjifickdcnacaaDoor
end

section
namespace Go.Proofs.YtdjifickdcnacaaDoor
open Go.RowKit
set_option linter.unusedVariables false
set_option maxRecDepth 20000
def tailN (ns : List Nat) : List UInt8 := (ns.map fun n => 32 :: Lib.decDigits n).flatten
def lineN : List Nat -> List UInt8
 | [] => []
 | n :: r => Lib.decDigits n ++ tailN r
theorem tailN_nil : tailN [] = [] := rfl
theorem tailN_cons (n : Nat) (r : List Nat) : tailN (n :: r) = 32 :: (Lib.decDigits n ++ tailN r) := by simp [tailN]
theorem tailN_append (a b : List Nat) : tailN (a ++ b) = tailN a ++ tailN b := by simp [tailN]
theorem tailN_line (n : Nat) (r : List Nat) : tailN (n :: r) = 32 :: lineN (n :: r) := tailN_cons n r
def numsT (x : Nt) : List Nat := [x.tt.toNat,x.e.toNat,x.s.toNat,x.a.toNat,x.tx.size,x.vs.length] ++ x.vs.map ByteArray.size
def lineT (x : Nt) : List UInt8 := lineN (x.k.toNat :: numsT x)
def bodyT (x : Nt) : List UInt8 := x.tx.data.toList ++ (x.vs.map fun v => v.data.toList).flatten
theorem ba_append (a b : ByteArray) : (a ++ b).data.toList = a.data.toList ++ b.data.toList := by simp [ByteArray.data_append]
theorem spB_list (s : ByteArray) (n : Nat) : (spB s n).data.toList = s.data.toList ++ tailN [n] := by
 unfold spB numB
 rw [ba_append,ba_append,mkB_list,tailN_cons,tailN_nil,List.append_nil,List.append_assoc]
 rfl
theorem headS_list (K U E S A X V : Nat) : (headS K U E S A X V).data.toList = Lib.decDigits K ++ tailN [U,E,S,A,X,V] := by
 unfold headS
 simp only [spB_list]
 unfold numB
 rw [mkB_list]
 simp [tailN]
theorem lensS_list (h : ByteArray) (vs : List ByteArray) : ∀ i,i <= vs.length -> (lensS h vs i).data.toList = h.data.toList ++ tailN ((vs.take i).map ByteArray.size)
 | 0,_ => by simp [lensS,tailN]
 | i + 1,hi => by
  show (spB _ _).data.toList = _
  rw [spB_list,lensS_list h vs i (by omega),List.append_assoc,<- tailN_append,List.take_add_one,List.map_append,List.getElem?_eq_getElem (by omega)]
  simp [List.getElem?_eq_getElem (show i < vs.length by omega)]
theorem bodyS_list (t : ByteArray) (vs : List ByteArray) : ∀ i,i <= vs.length -> (bodyS t vs i).data.toList = t.data.toList ++ ((vs.take i).map fun v => v.data.toList).flatten
 | 0,_ => by simp [bodyS]
 | i + 1,hi => by
  show (bodyS t vs i ++ _).data.toList = _
  rw [ba_append,bodyS_list t vs i (by omega),List.append_assoc,List.take_add_one,List.map_append,List.getElem?_eq_getElem (by omega)]
  simp [List.getElem?_eq_getElem (show i < vs.length by omega)]
theorem ba_ext {a b : ByteArray} (h : a.data.toList = b.data.toList) : a = b := ByteArray.ext (Array.toList_inj.1 h)
theorem show_list {x : Nt} (h : noteOk x = true) : showNt x = checked (mkB (lineT x ++ 10 :: bodyT x)) := by
 unfold showNt
 rw [if_pos h]
 congr 1
 refine ba_ext ?_
 rw [ba_append,ba_append,lensS_list _ _ _ (Nat.le_refl _),bodyS_list _ _ _ (Nat.le_refl _),headS_list,mkB_list]
 simp [lineT,bodyT,lineN,numsT,tailN]
theorem tailN_in (ns : List Nat) : ∀ c ∈ tailN ns,c = 32 ∨ isDig c := by
 intro c hc
 unfold tailN at hc
 rw [List.mem_flatten] at hc
 obtain ⟨l,hl,hc⟩ := hc
 obtain ⟨n,_,rfl⟩ := List.mem_map.1 hl
 rcases List.mem_cons.1 hc with h | h
 ·exact .inl h
 ·exact .inr (dec_dig n c h)
theorem lineN_in : ∀ ns : List Nat,∀ c ∈ lineN ns,c = 32 ∨ isDig c
 | [],c,hc => by cases hc
 | n :: r,c,hc => by
  rcases List.mem_append.1 hc with h | h
  ·exact .inr (dec_dig n c h)
  ·exact tailN_in r c h
theorem lineN_no10 (ns : List Nat) : ∀ c ∈ lineN ns,c ≠ 10 := by
 intro c hc h
 subst h
 rcases lineN_in ns _ hc with h | h
 ·exact absurd h (by decide)
 ·exact absurd h (by decide)
theorem wRun_tail : ∀ (ns : List Nat) (d : List (List UInt8)) (c : List UInt8),(tailN ns).foldl wStep (d,c) = (d ++ (c :: ns.map Lib.decDigits).take ns.length,((c :: ns.map Lib.decDigits).getLast (by simp)))
 | [],d,c => by simp [tailN]
 | n :: r,d,c => by
  rw [tailN_cons,List.foldl_cons,List.foldl_append]
  have h0 : wStep (d,c) 32 = (d ++ [c],[]) := by simp [wStep]
  rw [h0,wRun_word _ _ _ (dec_no32 n),List.nil_append,wRun_tail r]
  simp
theorem words_line (n : Nat) (r : List Nat) : wordsL (lineN (n :: r)) = (n :: r).map Lib.decDigits := by
 unfold wordsL wRun
 show ((Lib.decDigits n ++ tailN r).foldl wStep ([],[])).1 ++ [((Lib.decDigits n ++ tailN r).foldl wStep ([],[])).2] = _
 rw [List.foldl_append,wRun_word _ _ _ (dec_no32 n),List.nil_append,wRun_tail]
 simp only [List.nil_append]
 have h := List.take_append_getLast (Lib.decDigits n :: r.map Lib.decDigits) (by simp)
 simpa using h
def partsL (s : ByteArray) : Nat -> List Nat -> List ByteArray
 | _,[] => []
 | at_,n :: r => s.extract at_ (at_ + n) :: partsL s (at_ + n) r
theorem partsL_of (s : ByteArray) : ∀ (ts : List ByteArray) (p : Nat) (rest : List UInt8),s.data.toList.drop p = (ts.map fun v => v.data.toList).flatten ++ rest -> partsL s p (ts.map ByteArray.size) = ts
 | [],p,rest,h => rfl
 | t :: ts,p,rest,h => by
  rw [List.map_cons,List.flatten_cons,List.append_assoc] at h
  have hz : t.data.toList.length = t.size := by simp
  have e1 : s.extract p (p + t.size) = t := by
   refine ba_ext ?_
   rw [ByteArray.data_extract,Array.toList_extract,List.extract_eq_take_drop,h,show p + t.size - p = t.data.toList.length by omega,List.take_left]
  show s.extract p (p + t.size) :: partsL s (p + t.size) _ = _
  rw [e1,partsL_of s ts (p + t.size) rest (by
   rw [<- hz,<- List.drop_drop,h,List.drop_left])]
def NtOf (s : ByteArray) (x : Nt) : Prop := noteOk x = true ∧ s = showNt x
theorem NtOf.line {s : ByteArray} {x : Nt} (h : NtOf s x) : ∃ cc,cc.length = 2 ∧ s.data.toList = lineT x ++ 10 :: (bodyT x ++ cc) := by
 rw [h.2,show_list h.1]
 unfold checked
 rw [ba_append,mkB_list]
 exact ⟨(str (tail2 (checkN (mkB (lineT x ++ 10 :: bodyT x))))).data.toList,rfl,by simp⟩
theorem noteOk_nat {x : Nt} (h : noteOk x = true) : (0 <= x.k ∧ x.k <= 3) ∧ (0 <= x.tt ∧ x.tt <= 1) ∧ (0 <= x.e ∧ x.e <= 1000000) ∧ (0 <= x.s ∧ x.s <= 1000000) ∧ (0 <= x.a ∧ x.a <= 63) ∧ x.tx.size <= 24 ∧ x.vs.length <= 64 ∧ (∀ y ∈ x.vs,y.size <= 24) := by
 obtain ⟨⟨h1,h1'⟩,h2,h3,h4,h5,h6,h7,h8⟩ := noteOk_in (k := x.k) (tt := x.tt) (e := x.e) (s := x.s) (a := x.a) (tx := x.tx) (vs := x.vs) h
 refine ⟨⟨by omega,h1'⟩,h2,h3,h4,h5,h6,h7,fun y hy => ?_⟩
 obtain ⟨i,hi,rfl⟩ := List.getElem_of_mem hy
 have := h8 i hi
 rwa [List.getD_eq_getElem?_getD,List.getElem?_eq_getElem hi,Option.getD_some] at this
theorem numsT_small {x : Nt} (h : noteOk x = true) : ∀ n ∈ x.k.toNat :: numsT x,n <= 1000000 := by
 obtain ⟨h1,h2,h3,h4,h5,h6,h7,h8⟩ := noteOk_nat h
 intro n hn
 unfold numsT at hn
 simp only [List.mem_cons,List.mem_append,List.mem_map,List.not_mem_nil,or_false] at hn
 rcases hn with rfl | (rfl | rfl | rfl | rfl | rfl | rfl) | ⟨y,hy,rfl⟩
 all_goals first | omega | (have := h8 y hy; omega)
theorem first_one : ∀ (a b x y : List UInt8),(∀ c ∈ a,c ≠ 10) -> (∀ c ∈ b,c ≠ 10) -> a ++ 10 :: x = b ++ 10 :: y -> a = b ∧ x = y
 | [],[],x,y,_,_,h => ⟨rfl,by simpa using h⟩
 | [],c :: b,x,y,_,hb,h => by
  injection h with h1 h2
  exact absurd h1.symm (hb c (List.mem_cons_self ..))
 | c :: a,[],x,y,ha,_,h => by
  injection h with h1 h2
  exact absurd h1 (ha c (List.mem_cons_self ..))
 | c :: a,d :: b,x,y,ha,hb,h => by
  injection h with h1 h2
  obtain ⟨h3,h4⟩ := first_one a b x y (fun e he => ha e (List.mem_cons_of_mem _ he)) (fun e he => hb e (List.mem_cons_of_mem _ he)) h2
  exact ⟨by rw [h1,h3],h4⟩
def noteOf (xs : List Int) (ts : List ByteArray) : Nt := ⟨xs.getD 0 0,xs.getD 1 0,xs.getD 2 0,xs.getD 3 0,xs.getD 4 0,ts.getD 0 ByteArray.empty,ts.drop 1⟩
def lensOf (ns : List Nat) : List Nat := ns.getD 5 0 :: ns.drop 7
theorem noteOf_self {x : Nt} (h : noteOk x = true) : noteOf ((x.k.toNat :: numsT x).map fun n : Nat => (n : Int)) (x.tx :: x.vs) = x := by
 obtain ⟨h1,h2,h3,h4,h5,h6,h7,h8⟩ := noteOk_nat h
 obtain ⟨k,tt,e,s,a,tx,vs⟩ := x
 simp only [noteOf,numsT,List.map_cons,List.cons_append,List.nil_append,List.getD_cons_zero,List.getD_cons_succ,List.drop_succ_cons,List.drop_zero]
 simp only at h1 h2 h3 h4 h5
 congr 1 <;> omega
theorem lensOf_self (x : Nt) : lensOf (x.k.toNat :: numsT x) = (x.tx :: x.vs).map ByteArray.size := by
 simp [lensOf,numsT]
theorem NtOf.parts {s : ByteArray} {x : Nt} (h : NtOf s x) : partsL s ((lineT x).length + 1) (lensOf (x.k.toNat :: numsT x)) = x.tx :: x.vs := by
 obtain ⟨cc,_,hl⟩ := h.line
 rw [lensOf_self]
 refine partsL_of s _ _ cc ?_
 rw [hl,show (lineT x).length + 1 = (lineT x ++ [10]).length by simp,show lineT x ++ 10 :: (bodyT x ++ cc) = (lineT x ++ [10]) ++ (bodyT x ++ cc) by simp,List.drop_left]
 simp [bodyT]
theorem NtOf.one {s : ByteArray} {x y : Nt} (h : NtOf s x) (h' : NtOf s y) : x = y := by
 obtain ⟨c1,_,e1⟩ := h.line
 obtain ⟨c2,_,e2⟩ := h'.line
 obtain ⟨e3,_⟩ := first_one _ _ _ _ (lineN_no10 _) (lineN_no10 _) (e1.symm.trans e2)
 have e4 : (x.k.toNat :: numsT x) = (y.k.toNat :: numsT y) := by
  have := congrArg wordsL e3
  unfold lineT at this
  rw [words_line,words_line] at this
  exact (List.map_inj_right (fun a b => dec_inj)).1 this
 have e5 := h.parts
 have e6 := h'.parts
 have e7 : lineT y = lineT x := e3.symm
 rw [<- e4,e7] at e6
 rw [<- noteOf_self h.1,<- noteOf_self h'.1,<- e4,<- e5,<- e6]
open Classical in
noncomputable def readNt (s : ByteArray) : Option Nt := if h : ∃ x,NtOf s x then some (Classical.choose h) else none
theorem readNt_some {s : ByteArray} {x : Nt} (h : NtOf s x) : readNt s = some x := by
 have hx : ∃ x,NtOf s x := ⟨x,h⟩
 unfold readNt
 rw [dif_pos hx,(Classical.choose_spec hx).one h]
theorem readNt_none {s : ByteArray} (h : ∀ x,¬ NtOf s x) : readNt s = none := by
 unfold readNt
 rw [dif_neg (fun ⟨x,hx⟩ => h x hx)]
theorem readNt_of {s : ByteArray} {x : Nt} (h : readNt s = some x) : NtOf s x := by
 unfold readNt at h
 split at h
 ·injection h with h; rw [<- h]; exact Classical.choose_spec _
 ·cases h
theorem ntOf_show {s : ByteArray} {x : Nt} (h0 : s.size ≠ 0) (h : showNt x = s) : NtOf s x := by
 refine ⟨?_,h.symm⟩
 cases hx : noteOk x with
 | true => rfl
 | false =>
  exfalso
  unfold showNt at h
  rw [hx] at h
  rw [<- h] at h0
  exact h0 rfl
end Go.Proofs.YtdjifickdcnacaaDoor
end

section
namespace Go.Proofs.YtdjifickdcnacaaDoor
open Go.RowKit
set_option linter.unusedVariables false
set_option maxRecDepth 20000
def FirstNl (s : ByteArray) (e : Nat) : Prop := e <= s.size ∧ (∀ i (h : i < s.size),i < e -> s[i].toNat ≠ 10) ∧ ∀ h : e < s.size,s[e].toNat = 10
theorem ba_at (s : ByteArray) (i : Nat) (h : i < s.size) : s.data.toList[i]? = some s[i] := by
 rw [Array.getElem?_toList,Array.getElem?_eq_getElem (show i < s.data.size from h)]
 rfl
theorem NtOf.first {s : ByteArray} {x : Nt} (h : NtOf s x) {e : Nat} (hf : FirstNl s e) : e < s.size ∧ s.data.toList.take e = lineT x := by
 obtain ⟨cc,_,hl⟩ := h.line
 have hz : s.data.toList.length = s.size := by simp
 have hno : ∀ c ∈ s.data.toList.take e,c ≠ 10 := by
  intro c hc hcc
  obtain ⟨i,hi,hic⟩ := List.getElem_of_mem hc
  rw [List.length_take] at hi
  have hi2 : i < s.size := by omega
  have h2 := hf.2.1 i hi2 (by omega)
  have h3 := ba_at s i hi2
  rw [List.getElem_take] at hic
  rw [List.getElem?_eq_getElem (by omega),hic,Option.some.injEq] at h3
  rw [<- h3,hcc] at h2
  exact h2 rfl
 rcases Nat.lt_or_ge e s.size with he | he
 ·refine ⟨he,?_⟩
  have h3 := ba_at s e he
  have h4 : s[e] = 10 := UInt8.toNat_inj.1 (hf.2.2 he)
  have h5 : s.data.toList = s.data.toList.take e ++ 10 :: s.data.toList.drop (e + 1) := by
   rw [List.getElem?_eq_getElem (by omega),Option.some.injEq,h4] at h3
   rw [<- h3,List.getElem_cons_drop,List.take_append_drop]
  exact (first_one _ _ _ _ hno (lineN_no10 _) (h5.symm.trans hl)).1
 ·exfalso
  rw [List.take_of_length_le (by omega)] at hno
  exact hno 10 (by rw [hl]; simp) rfl
theorem ext_take (s : ByteArray) (e : Nat) : (s.extract 0 e).data.toList = s.data.toList.take e := by
 rw [ByteArray.data_extract,Array.toList_extract,List.extract_eq_take_drop]
 simp
theorem NtOf.nums {s : ByteArray} {x : Nt} (h : NtOf s x) {e : Nat} (hf : FirstNl s e) {xs : List Int} {ok : Bool} (hn : NumsTo ((wordsL (s.extract 0 e).data.toList).map mkB) xs ok) : ok = true ∧ xs = (x.k.toNat :: numsT x).map (fun n : Nat => (n : Int)) := by
 rw [ext_take,(h.first hf).2] at hn
 unfold lineT at hn
 rw [words_line] at hn
 have := hn (x.k.toNat :: numsT x) (numsT_small h.1) (by
  rw [List.map_map]
  exact (List.map_congr_left (g := id) fun l _ => mkB_list l).trans (List.map_id _))
 exact ⟨this.2,this.1⟩
theorem natI_inj {a b : List Nat} (h : (a.map fun n : Nat => (n : Int)) = b.map fun n : Nat => (n : Int)) : a = b := (List.map_inj_right (fun x y (e : ((x : Nat) : Int) = (y : Int)) => by omega)).1 h
def lensI (xs : List Int) : List Int := xs.getD 5 0 :: xs.drop 7
theorem lensI_nat (ns : List Nat) : lensI (ns.map fun n : Nat => (n : Int)) = (lensOf ns).map fun n : Nat => (n : Int) := by
 unfold lensI lensOf
 rw [List.map_cons,List.map_drop]
 congr 1
 simp only [List.getD_eq_getElem?_getD,List.getElem?_map]
 cases ns[5]? <;> rfl
theorem partsL_snoc (s : ByteArray) : ∀ (a : List Nat) (p n : Nat),partsL s p (a ++ [n]) = partsL s p a ++ [s.extract (p + a.sum) (p + a.sum + n)]
 | [],p,n => by simp [partsL]
 | m :: a,p,n => by
  show s.extract p (p + m) :: partsL s (p + m) (a ++ [n]) = _
  rw [partsL_snoc s a (p + m) n,List.sum_cons,Nat.add_assoc p m a.sum]
  rfl
theorem partsL_length (s : ByteArray) : ∀ (a : List Nat) (p : Nat),(partsL s p a).length = a.length
 | [],p => rfl
 | m :: a,p => by show (partsL s (p + m) a).length + 1 = _; rw [partsL_length s a]; rfl
theorem NtOf.fits {s : ByteArray} {x : Nt} (h : NtOf s x) : (lineT x).length + 1 + ((x.tx :: x.vs).map ByteArray.size).sum <= s.size := by
 obtain ⟨cc,_,hl⟩ := h.line
 have hz : s.data.toList.length = s.size := by simp
 have e1 : (bodyT x).length = ((x.tx :: x.vs).map ByteArray.size).sum := by
  unfold bodyT
  rw [List.length_append,List.length_flatten,List.map_map,List.map_cons,List.sum_cons]
  congr 1
 rw [<- hz,hl,List.length_append,List.length_cons,List.length_append,e1]
 omega
theorem sum_take_le : ∀ (l : List Nat) (j : Nat),(l.take j).sum <= l.sum
 | [],j => by simp
 | a :: l,0 => by simp
 | a :: l,j + 1 => by rw [List.take_succ_cons,List.sum_cons,List.sum_cons]; have := sum_take_le l j; omega
theorem sum_take_snoc (l : List Nat) (j : Nat) (h : j < l.length) : (l.take (j + 1)).sum = (l.take j).sum + l.getD j 0 := by
 rw [List.take_add_one,List.sum_append,List.getD_eq_getElem?_getD,List.getElem?_eq_getElem h]
 simp
theorem readNt_head {s : ByteArray} {e : Nat} (hf : FirstNl s e) {xs : List Int} {ok : Bool} (hn : NumsTo ((wordsL (s.extract 0 e).data.toList).map mkB) xs ok) (h : ok = false ∨ xs.length < 7 ∨ e = s.size ∨ inB (xs.getD 6 0) 0 64 = false ∨ (xs.length : Int) ≠ 7 + xs.getD 6 0) : readNt s = none :=
 readNt_none fun x hx => by
  obtain ⟨h1,h2⟩ := hx.nums hf hn
  have h3 := (hx.first hf).1
  have h7 := (noteOk_nat hx.1).2.2.2.2.2.2.1
  have h6 : xs.getD 6 0 = (x.vs.length : Int) := by rw [h2]; rfl
  have hl : xs.length = 7 + x.vs.length := by rw [h2]; simp [numsT]; omega
  rcases h with h | h | h | h | h
  ·rw [h1] at h; cases h
  ·omega
  ·omega
  ·rw [h6] at h; simp [inB] at h; omega
  ·rw [h6] at h; omega
theorem readNt_part {s : ByteArray} {e : Nat} (hf : FirstNl s e) {xs : List Int} {ok : Bool} (hn : NumsTo ((wordsL (s.extract 0 e).data.toList).map mkB) xs ok) {ns : List Nat} {j : Nat} (hj : j < (lensI xs).length) (hl : (lensI xs).take j = ns.map fun n : Nat => (n : Int)) (h : inB ((lensI xs).getD j 0) 0 ((s.size : Int) - ((e + 1 + ns.sum : Nat) : Int)) = false) : readNt s = none :=
 readNt_none fun x hx => by
  obtain ⟨h1,h2⟩ := hx.nums hf hn
  have h3 := (hx.first hf).2
  have h4 := hx.fits
  have e1 : lensI xs = ((x.tx :: x.vs).map ByteArray.size).map fun n : Nat => (n : Int) := by rw [h2,lensI_nat,lensOf_self]
  generalize (x.tx :: x.vs).map ByteArray.size = l at *
  rw [e1,<- List.map_take] at hl
  have h5 : l.take j = ns := natI_inj hl
  rw [e1,List.length_map] at hj
  have h6 := sum_take_snoc l j hj
  have h7 := sum_take_le l (j + 1)
  rw [e1] at h
  have e2 : (l.map fun n : Nat => (n : Int)).getD j 0 = ((l.getD j 0 : Nat) : Int) := by
   simp only [List.getD_eq_getElem?_getD,List.getElem?_map,List.getElem?_eq_getElem hj]
   rfl
  rw [e2] at h
  rw [<- h3,List.length_take] at h4
  have hz : s.data.toList.length = s.size := by simp
  have := (hx.first hf).1
  rw [<- h5] at h
  generalize l.getD j 0 = v at *
  generalize (l.take j).sum = S0 at *
  simp [inB] at h
  omega
theorem readNt_last {s : ByteArray} {e : Nat} (hf : FirstNl s e) {xs : List Int} {ok : Bool} (hn : NumsTo ((wordsL (s.extract 0 e).data.toList).map mkB) xs ok) {ns : List Nat} (hl : lensI xs = ns.map fun n : Nat => (n : Int)) (he : e < s.size) :
  readNt s = if showNt (noteOf xs (partsL s (e + 1) ns)) = s then some (noteOf xs (partsL s (e + 1) ns)) else none := by
 split
 ·rename_i h
  exact readNt_some (ntOf_show (by omega) h)
 ·rename_i h
  refine readNt_none fun x hx => h ?_
  obtain ⟨h1,h2⟩ := hx.nums hf hn
  have h3 := (hx.first hf).2
  have h4 := hx.parts
  have e1 : lensI xs = ((x.tx :: x.vs).map ByteArray.size).map fun n : Nat => (n : Int) := by rw [h2,lensI_nat,lensOf_self]
  rw [e1] at hl
  have h5 : (x.tx :: x.vs).map ByteArray.size = ns := natI_inj hl
  rw [lensOf_self,h5,<- h3,List.length_take] at h4
  have hz : s.data.toList.length = s.size := by simp
  rw [show min e s.data.toList.length = e by omega] at h4
  rw [h4,h2,noteOf_self hx.1]
  exact hx.2.symm
end Go.Proofs.YtdjifickdcnacaaDoor
end

section
namespace Go.Proofs.YtdjifickdcnacaaDoor
open Go.RowKit
set_option linter.unusedVariables false
set_option linter.unusedSimpArgs false
set_option maxRecDepth 20000
def noteZ : Nt := ⟨0,0,0,0,0,⟨#[]⟩,[]⟩
noncomputable def readY (s : ByteArray) : Nt := (readNt s).getD noteZ
def NoteAns (lo hi : Nat) (w : World) (r : Ending) (y : Nt) (b : Bool) : Prop := ∃ av cap,r = .returned (.tuple #[noteV y av y.vs.length cap,.bool b]) ∧ y.vs.length <= cap ∧ Texts lo hi w av y.vs.length y.vs
theorem texts_nil (lo : Nat) (w : World) : Texts lo w.heap.size w none 0 [] := ⟨rfl,Nat.le_refl _,fun h => absurd h (by omega)⟩
theorem note_frozen {W : World} {b : Nat} {cs : Array Value} {t : TypeId} (h : W.heap[b]? = some (.cells cs t (0,0))) : W.frozen? ⟨b,0,none⟩ = false ∧ W.frozen? ⟨b,1,none⟩ = false ∧ W.frozen? ⟨b,2,none⟩ = false ∧ W.frozen? ⟨b,3,none⟩ = false ∧ W.frozen? ⟨b,4,none⟩ = false ∧ W.frozen? ⟨b,5,none⟩ = false ∧ W.frozen? ⟨b,6,none⟩ = false := ⟨four_frozen h 0,four_frozen h 1,four_frozen h 2,four_frozen h 3,four_frozen h 4,four_frozen h 5,four_frozen h 6⟩
theorem note_rest {P : Program} (t e : TypeId) (ht : P.underlying t = some (.slice e)) (hs : ∀ w,(sizeOf e).run P w = .ok 1 w) (b off n cap k : Nat) (hk : k <= n) (hn : n <= cap) :
  ∃ ad : Addr,(ad = ⟨b,off + k,none⟩ ∨ n - k = 0) ∧ ∀ w,(Instr.sliceAt t (.slice (some ⟨b,off,none⟩) n cap) (some (.int .i64 (k : Int))) none none).run P w = .ok (.slice (some ad) (n - k) (cap - k)) w := by
 have he : P.elem t = e := by simp [Program.elem,ht]
 have ht' : P.underlying t = some (.slice (P.elem t)) := by rw [he]; exact ht
 by_cases h : cap = k
 ·refine ⟨⟨b,off,none⟩,.inr (by omega),fun w => ?_⟩
  rw [run_sliceAt_slice w t _ _ _ _ ht',run_slice_l (P := P) w t _ n cap ht' .i64 (k : Int) (by omega) (by omega),he,hs]
  simp [sliced,h,Result.andThen]
 ·refine ⟨⟨b,off + k,none⟩,.inl rfl,fun w => ?_⟩
  rw [run_sliceAt_slice w t _ _ _ _ ht',run_slice_l (P := P) w t _ n cap ht' .i64 (k : Int) (by omega) (by omega),he,hs]
  simp [sliced,h,Result.andThen,Addr.add]
theorem note_drop {lo hi : Nat} {w : World} {b off n : Nat} {ts : List ByteArray} (h : Texts lo hi w (some ⟨b,off,none⟩) (n + 1) ts) {ad : Addr} (had : ad = ⟨b,off + 1,none⟩ ∨ n = 0) : Texts lo hi w (some ad) n (ts.drop 1) := by
 obtain ⟨h1,h2,h3⟩ := h
 refine ⟨by rw [List.length_drop]; omega,h2,fun hn => ?_⟩
 rcases had with rfl | h0
 ·obtain ⟨b',off',e,hb1,hb2,hc⟩ := h3 (by omega)
  simp only [Option.some.injEq,Addr.mk.injEq,and_true] at e
  obtain ⟨rfl,rfl⟩ := e
  refine ⟨b,off + 1,rfl,hb1,hb2,fun i hi => ?_⟩
  have := hc (i + 1) (by omega)
  rw [show off + 1 + i = off + (i + 1) by omega,this]
  unfold cellT
  simp only [List.getD_eq_getElem?_getD,List.getElem?_drop]
  rw [Nat.add_comm 1 i]
 ·omega
theorem partsL_size (s : ByteArray) : ∀ (l : List Nat) (p : Nat),∀ y ∈ partsL s p l,y.size <= s.size
 | [],p,y,hy => by cases hy
 | n :: l,p,y,hy => by
  rcases List.mem_cons.1 hy with rfl | h
  ·simp only [ByteArray.size_extract]; omega
  ·exact partsL_size s l (p + n) y h
theorem long_app {W : World} {x5 : Int} {xs : List Int} {b off n c : Nat} {ad : Addr} (hl : xs.length = n) (h7 : 7 <= n) (hn : n <= 1048577) (had : ad = ⟨b,off + 7,none⟩ ∨ n - 7 = 0) (hc : ∀ i,i < n -> W.cell? ⟨b,off + i,none⟩ = some (.int .i64 (xs.getD i 0))) (hb : b < W.heap.size) :
  ∃ v' w',(Builtin.append_ #[68,68] 68 #[.slice (some ⟨W.heap.size,0,none⟩) 1 1,.slice (some ad) (n - 7) c]).run Tryd.prog (W.alloc (.cells #[.int .i64 x5] 2)) = .ok v' w' ∧ (∃ a' c',v' = .slice a' (n - 6) c' ∧ n - 6 <= c' ∧ OwnInts W.heap.size w'.heap.size w' a' (n - 6) (x5 :: xs.drop 7) ∧ Below W.heap.size W w') := by
 obtain ⟨i0,hi0,hz0,hz1,hz2⟩ := info_parts Tryd.infoI64
 have ho : (W.alloc (.cells #[.int .i64 x5] 2)).ownsRow W.heap.size 2 1 (.slice (some ⟨W.heap.size,0,none⟩) 1 1) 1 [.int .i64 x5] := ⟨rfl,.inr ⟨W.heap.size,1,#[.int .i64 x5],rfl,Nat.le_refl _,heap_new _ _,Nat.le_refl _,by decide,rfl,rfl⟩⟩
 have hba : Below W.heap.size W (W.alloc (.cells #[.int .i64 x5] 2)) := (Below.refl _ _).alloc (Nat.le_refl _) _
 obtain ⟨v',w',h1,h2,h3,_,h5⟩ := run_append_own_at (P := Tryd.prog) (W.alloc (.cells #[.int .i64 x5] 2)) W.heap.size 68 68 2 i0 (.int .i64 0) 1 8 Tryd.underlying68 hi0 hz0 hz1 hz2 rfl (by decide) _ 1 _ ho ad (n - 7) c ((xs.drop 7).map (Value.int .i64)) (by rw [List.length_map,List.length_drop]; omega)
  (fun j u hj => by
   have hjl : j < n - 7 := by
    rcases Nat.lt_or_ge j (n - 7) with h | h
    ·exact h
    ·rw [List.getElem?_eq_none (by rw [List.length_map,List.length_drop]; omega)] at hj; cases hj
   rcases had with rfl | h0
   ·have e : (⟨b,off + 7,none⟩ : Addr).add j = ⟨b,off + (7 + j),none⟩ := by unfold Addr.add; simp [Nat.add_assoc]
    rw [e]
    have := mcell_on (hc (7 + j) (by omega)) hba
    rw [this]
    rw [List.getElem?_map,List.getElem?_drop,List.getElem?_eq_getElem (by omega)] at hj
    rw [List.getD_eq_getElem?_getD,List.getElem?_eq_getElem (by omega)]
    exact hj
   ·omega)
  (by intro u hu; obtain ⟨y,_,rfl⟩ := List.mem_map.1 hu; rfl) (by unfold maxLen; omega) (by omega) (by simp)
 refine ⟨v',w',h1,?_⟩
 rw [show 1 + (n - 7) = n - 6 by omega] at h2
 obtain ⟨a',c',e,hcc,hoi⟩ := ints_owned (xs := x5 :: xs.drop 7) h2 (Nat.le_refl _)
 exact ⟨a',c',e,hcc,hoi,hba.grown h3 (by simp) (fun k hk => by have e' : some W.heap.size = some k := hk; simp only [Option.some.injEq] at e'; omega)⟩
set_option maxHeartbeats 6400000 in
theorem specReadNote_any (s : ByteArray) (hs : s.size <= 1048576) (w : World) :
  Calls Tryd.prog 11 #[.string s] w fun r w' => NoteAns w.heap.size w'.heap.size w' r (readY s) (readNt s).isSome ∧ Below w.heap.size w w' := by
 obtain ⟨w0,hw0⟩ : ∃ w0,w0 = w.alloc (.cells #[.int .i64 0,.int .i64 0,.int .i64 0,.int .i64 0,.int .i64 0,.string ⟨#[]⟩,.slice none 0 0] 26) := ⟨_,rfl⟩
 have HB0 : Hid (Below w.heap.size w w0) := by rw [hw0]; exact (Below.refl _ _).alloc (Nat.le_refl _) _
 have HK : Hid (w0.heap[w.heap.size]? = some (.cells #[.int .i64 0,.int .i64 0,.int .i64 0,.int .i64 0,.int .i64 0,.string ⟨#[]⟩,.slice none 0 0] 26)) := by rw [hw0]; exact heap_new _ _
 have hs0 : w0.heap.size = w.heap.size + 1 := by rw [hw0]; simp
 have HS0 := hide hs0
 clear hs0
 -- what every way out without a Note comes to
 have HNO : ∀ W,Hid (Below w.heap.size w W -> W.heap[w.heap.size]? = some (.cells #[.int .i64 0,.int .i64 0,.int .i64 0,.int .i64 0,.int .i64 0,.string ⟨#[]⟩,.slice none 0 0] 26) -> readNt s = none -> ∃ w',w' = ((((((W.setCell ⟨w.heap.size,0,none⟩ (.int .i64 0)).setCell ⟨w.heap.size,1,none⟩ (.int .i64 0)).setCell ⟨w.heap.size,2,none⟩ (.int .i64 0)).setCell ⟨w.heap.size,3,none⟩ (.int .i64 0)).setCell ⟨w.heap.size,4,none⟩ (.int .i64 0)).setCell ⟨w.heap.size,5,none⟩ (.string ⟨#[]⟩)).setCell ⟨w.heap.size,6,none⟩ (.slice none 0 0) ∧ w'.heap[w.heap.size]? = some (.cells #[.int .i64 0,.int .i64 0,.int .i64 0,.int .i64 0,.int .i64 0,.string ⟨#[]⟩,.slice none 0 0] 26) ∧ (NoteAns w.heap.size w'.heap.size w' (.returned (.tuple #[.agg #[.int .i64 0,.int .i64 0,.int .i64 0,.int .i64 0,.int .i64 0,.string ⟨#[]⟩,.slice none 0 0],.bool false])) (readY s) (readNt s).isSome ∧ Below w.heap.size w w')) := fun W hb hk hn => by
  refine ⟨_,rfl,note_set hk _ _ _ _ _ _ _,?_,?_⟩
  ·unfold readY; rw [hn]
   exact ⟨none,0,rfl,Nat.le_refl _,texts_nil _ _⟩
  ·exact hb.trans ((note_aside (Aside.refl w.heap.size (w.heap.size + 1) W) (Nat.le_refl _) (Nat.lt_succ_self _) _ _ _ _ _ _ _).below (B := w.heap.size) (Nat.le_refl _) hb.size)
 go_enter Tryd.func11,Tryd.ntmps11
 go_upto_region 2 with fail
 rw [<- hw0]
 clear hw0
 go_loopw [4] (fun v wr => ∃ e : Nat,v = .int .i64 (e : Int) ∧ e <= s.size ∧ (∀ i (h : i < s.size),i < e -> s[i].toNat ≠ 10) ∧ wr = w0) (fun v _ => s.size - (intOf v).toNat)
 case atStart => exact ⟨0,rfl,Nat.zero_le _,fun i _ h => absurd h (by omega),rfl⟩
 case round =>
  obtain ⟨e,rfl,he,hno,rfl⟩ := hrel
  have HNO1 := hide hno
  clear hno
  by_cases hlt : e < s.size
  ·by_cases hb : s[e].toNat = 10
   ·have hb2 : (s[e].toNat : Int) = 10 := by omega
    have HFN : Hid (FirstNl s e) := ⟨he,HNO1.out,fun _ => hb⟩
    clear hb
    have hlen : (s.extract 0 e).size <= 1048576 := by simp; omega
    go_wp2_with fail
    refine (l1Words_any _ hlen _).mono ?_
    rintro r w1 ⟨a1,n1,c1,rfl,hn1,hot,b1⟩
    have HOT := hide hot
    have HB1 := hide (below_here HB0.out b1)
    have HK1 := hide (block_on HK.out b1)
    have hs1 := b1.size
    clear b1 hot HB0 HK
    have HTS : Hid (∀ x ∈ (wordsL (s.extract 0 e).data.toList).map mkB,x.size <= 1048576) := by
     intro x hx
     obtain ⟨l,hl,rfl⟩ := List.mem_map.1 hx
     rw [mkB_size]
     have h1 := wordsL_len _ l hl
     have h3 : (s.extract 0 e).data.toList.length = (s.extract 0 e).size := by simp
     omega
    go_wp2_with fail
    refine (l1Numbers_any a1 n1 c1 _ w1 HOT.out.texts hn1 HTS.out).mono ?_
    rintro r w2 ⟨a2,n2,c2,xs,ok,rfl,⟨hn2,hc2⟩,hoi,hsm,hnt,b2⟩
    have HOI := hide hoi
    have HB2 := hide (below_here HB1.out b2)
    have HK2 := hide (block_on HK1.out b2)
    have HNT := hide hnt
    have HXL := hide hoi.1
    have HSM := hide hsm
    have HS2 : Hid (w.heap.size + 1 <= w2.heap.size) := Nat.le_trans (by have := HS0.out; omega) b2.size
    clear b2 hoi hnt hsm HOT HB1 HK1 HTS hs1 hlen
    cases ok with
    | false =>
     have HN : Hid (readNt s = none) := readNt_head HFN.out HNT.out (.inl rfl)
     obtain ⟨d0,d1,d2,d3,d4,d5,d6⟩ := note_cells HK2.out
     obtain ⟨f0,f1,f2,f3,f4,f5,f6⟩ := note_frozen HK2.out
     obtain ⟨wz,hwz,hkz,hpz⟩ := (HNO _).out HB2.out HK2.out HN.out
     go_wp2_with fail
     rw [<- hwz]
     exact bodyPost_ret (results_ct rfl rfl (run_loadVar_row _ _ _ _ _ _ _ hkz Tryd.underlying26 rfl (by kernel_rfl))) rfl hpz
    | true =>
     by_cases h7 : n2 < 7
     ·have h7b : (n2 : Int) < 7 := by omega
      have HN : Hid (readNt s = none) := readNt_head HFN.out HNT.out (.inr (.inl (by rw [HXL.out]; exact h7)))
      obtain ⟨d0,d1,d2,d3,d4,d5,d6⟩ := note_cells HK2.out
      obtain ⟨f0,f1,f2,f3,f4,f5,f6⟩ := note_frozen HK2.out
      obtain ⟨wz,hwz,hkz,hpz⟩ := (HNO _).out HB2.out HK2.out HN.out
      go_wp2_with fail
      rw [<- hwz]
      exact bodyPost_ret (results_ct rfl rfl (run_loadVar_row _ _ _ _ _ _ _ hkz Tryd.underlying26 rfl (by kernel_rfl))) rfl hpz
     ·have hne : ((e : Int) == (s.size : Int)) = false := by simp; omega
      obtain ⟨b,off,rfl,hlob,hbw,hcells⟩ := HOI.out.2.2 (by omega)
      have HCE : ∀ W,Hid (Below w2.heap.size w2 W -> ∀ i,i < n2 -> W.cell? ⟨b,off + i,none⟩ = some (.int .i64 (xs.getD i 0))) := fun W hb i hi => mcell_on (hcells i hi).1 hb
      have g6 := (HCE w2).out (Below.refl _ _) 6 (by omega)
      obtain ⟨x6,hx6⟩ : ∃ x6,x6 = xs.getD 6 0 := ⟨_,rfl⟩
      rw [<- hx6] at g6
      obtain ⟨hx6a,hx6b⟩ := HSM.out x6 (by rw [hx6,List.getD_eq_getElem?_getD,List.getElem?_eq_getElem (by rw [HXL.out]; omega)]; exact List.getElem_mem _)
      have HX6 := hide hx6
      clear hx6 hcells
      go_wp2_with fail
      refine (l1In_any _ _ _ _).mono ?_
      rintro r w3 ⟨rfl,rfl⟩
      cases hin : inB x6 0 64
      ·have HN : Hid (readNt s = none) := readNt_head HFN.out HNT.out (.inr (.inr (.inr (.inl (by rw [<- HX6.out]; exact hin)))))
       obtain ⟨d0,d1,d2,d3,d4,d5,d6⟩ := note_cells HK2.out
       obtain ⟨f0,f1,f2,f3,f4,f5,f6⟩ := note_frozen HK2.out
       obtain ⟨wz,hwz,hkz,hpz⟩ := (HNO _).out HB2.out HK2.out HN.out
       go_wp2_with fail
       rw [<- hwz]
       exact bodyPost_ret (results_ct rfl rfl (run_loadVar_row _ _ _ _ _ _ _ hkz Tryd.underlying26 rfl (by kernel_rfl))) rfl hpz
      ·have hx64 : 0 <= x6 ∧ x6 <= 64 := by simpa [inB] using hin
       by_cases hn7 : (n2 : Int) = 7 + x6
       ·obtain ⟨V,hV⟩ : ∃ V : Nat,n2 = V + 7 := ⟨n2 - 7,by omega⟩
        have HV := hide hV
        have h77 : 7 <= n2 := by omega
        have g0 := (HCE w2).out (Below.refl _ _) 0 (by omega)
        have g1 := (HCE w2).out (Below.refl _ _) 1 (by omega)
        have g2 := (HCE w2).out (Below.refl _ _) 2 (by omega)
        have g3 := (HCE w2).out (Below.refl _ _) 3 (by omega)
        have g4 := (HCE w2).out (Below.refl _ _) 4 (by omega)
        have HBX : ∀ i,i < n2 -> -1000000000 < xs.getD i 0 ∧ xs.getD i 0 < 1000000000 := fun i hi => HSM.out _ (by rw [List.getD_eq_getElem?_getD,List.getElem?_eq_getElem (by rw [HXL.out]; exact hi)]; exact List.getElem_mem _)
        have HL8 : Hid (∀ j,j < n2 - 6 -> -1000000000 < (lensI xs).getD j 0 ∧ (lensI xs).getD j 0 < 1000000000) := fun j hj => by
         unfold lensI
         rcases j with _ | j
         ·exact HBX 5 (by omega)
         ·rw [List.getD_cons_succ,List.getD_eq_getElem?_getD,List.getElem?_drop,<- List.getD_eq_getElem?_getD]
          exact HBX (7 + j) (by omega)
        have HXO : Hid (∀ ts,noteOf xs ts = ⟨xs.getD 0 0,xs.getD 1 0,xs.getD 2 0,xs.getD 3 0,xs.getD 4 0,ts.getD 0 ByteArray.empty,ts.drop 1⟩) := fun _ => rfl
        obtain ⟨y0,hy0⟩ : ∃ y0,y0 = xs.getD 0 0 := ⟨_,rfl⟩
        obtain ⟨y1,hy1⟩ : ∃ y1,y1 = xs.getD 1 0 := ⟨_,rfl⟩
        obtain ⟨y2,hy2⟩ : ∃ y2,y2 = xs.getD 2 0 := ⟨_,rfl⟩
        obtain ⟨y3,hy3⟩ : ∃ y3,y3 = xs.getD 3 0 := ⟨_,rfl⟩
        obtain ⟨y4,hy4⟩ : ∃ y4,y4 = xs.getD 4 0 := ⟨_,rfl⟩
        obtain ⟨x5,hx5⟩ : ∃ x5,x5 = xs.getD 5 0 := ⟨_,rfl⟩
        have HLI : Hid (lensI xs = x5 :: xs.drop 7) := by show _ = _; rw [hx5]; rfl
        rw [<- hy0] at g0
        rw [<- hy1] at g1
        rw [<- hy2] at g2
        rw [<- hy3] at g3
        rw [<- hy4] at g4
        rw [<- hy0,<- hy1,<- hy2,<- hy3,<- hy4] at HXO
        have HCX : ∀ W,Hid (Below w2.heap.size w2 W -> W.cell? ⟨b,off + 5,none⟩ = some (.int .i64 x5)) := fun W hb => by rw [hx5]; exact (HCE W).out hb 5 (by omega)
        clear hy0 hy1 hy2 hy3 hy4 hx5 HBX hV
        have hnb : ((n2 : Int) != 7 + x6) = false := by simp [hn7]
        have HN7 := hide hn7
        clear hn7 hin
        have HSC : ∀ W,Hid (Below w2.heap.size w2 W -> (W.cell? ⟨b,off,none⟩ = some (.int .i64 y0) ∧ W.cell? ⟨b,off + 1,none⟩ = some (.int .i64 y1) ∧ W.cell? ⟨b,off + 2,none⟩ = some (.int .i64 y2) ∧ W.cell? ⟨b,off + 3,none⟩ = some (.int .i64 y3) ∧ W.cell? ⟨b,off + 4,none⟩ = some (.int .i64 y4))) := fun W hb => ⟨mcell_on g0 hb,mcell_on g1 hb,mcell_on g2 hb,mcell_on g3 hb,mcell_on g4 hb⟩
        have HR0 : Hid (Below w2.heap.size w2 w2.drew) := (Below.refl w2.heap.size w2).drew
        clear g0 g1 g2 g3 g4
        go_upto_region 8 with fail
        have HR1 : Hid (Below w2.heap.size w2 (w2.alloc (.cells #[.int .i64 0,.int .i64 0,.int .i64 0,.int .i64 0,.int .i64 0,.string ⟨#[]⟩,.slice none 0 0] 26)).drew) := ((Below.refl w2.heap.size w2).alloc (Nat.le_refl _) _).drew
        have HR2 : Hid (Below w2.heap.size w2 (w2.alloc (.cells #[.int .i64 y0,.int .i64 y1,.int .i64 y2,.int .i64 y3,.int .i64 y4,.string ⟨#[]⟩,.slice none 0 0] 26)).drew) := ((Below.refl w2.heap.size w2).alloc (Nat.le_refl _) _).drew
        have j0 : (0 : Int) < (n2 : Int) := by omega
        have j00 : 0 < n2 := by omega
        have j1 : (1 : Int) < (n2 : Int) := by omega
        have j2 : (2 : Int) < (n2 : Int) := by omega
        have j3 : (3 : Int) < (n2 : Int) := by omega
        have j4 : (4 : Int) < (n2 : Int) := by omega
        have HCC2 := hide hc2
        have HN12 := hide (show n1 <= 1048577 ∧ n2 <= n1 from ⟨hn1,hn2⟩)
        have HLT := hide hlt
        clear hn1 hn2 hc2 h7 h77 hx64 hx6a hx6b hne hnb g6 hb2 hlt he hlob
        go_cut [8] (fun p W => p = .pointer (some ⟨w2.heap.size,0,none⟩) ∧ W.heap[w2.heap.size]? = some (.cells #[.int .i64 y0,.int .i64 y1,.int .i64 y2,.int .i64 y3,.int .i64 y4,.string ⟨#[]⟩,.slice none 0 0] 26) ∧ Below w2.heap.size w2 W)
        case first =>
         go_region_held3 (fun W => W.cell? ⟨b,off,none⟩ = some (.int .i64 y0) ∧ W.cell? ⟨b,off + 1,none⟩ = some (.int .i64 y1) ∧ W.cell? ⟨b,off + 2,none⟩ = some (.int .i64 y2) ∧ W.cell? ⟨b,off + 3,none⟩ = some (.int .i64 y3) ∧ W.cell? ⟨b,off + 4,none⟩ = some (.int .i64 y4))
          (first | with_reducible exact (HSC _).out HR0.out | with_reducible exact (HSC _).out HR1.out | with_reducible exact (HSC _).out HR2.out | fail) (fail)
         all_goals
          go_wp2_with fail
          go_meet
          exact ⟨rfl,heap_new _ _,HR2.out⟩
        case rest =>
         obtain ⟨rfl,hm3,hb3⟩ := hcut
         have HM3 := hide hm3
         have HB3 := hide hb3
         have h77 : 7 <= n2 := by have := HV.out; omega
         obtain ⟨ad,had,hsl⟩ := note_rest (P := Tryd.prog) 68 2 Tryd.underlying68 (fun _ => by kernel_rfl) b off n2 c2 7 h77 HCC2.out
         obtain ⟨v5,w5,hrun,aL,cL,hv5,hcL,hoL,hbL⟩ := long_app (W := wc.drew) (x5 := x5) (c := c2 - 7) HXL.out h77 (by have := HN12.out; omega) had (fun i hi => (HCE wc.drew).out hb3.drew i hi) (Nat.lt_of_lt_of_le hbw hb3.size)
         subst hv5
         obtain ⟨nr,hnr⟩ : ∃ nr,nr = n2 - 7 := ⟨_,rfl⟩
         obtain ⟨cr,hcr⟩ : ∃ cr,cr = c2 - 7 := ⟨_,rfl⟩
         obtain ⟨nL,hnL⟩ : ∃ nL,nL = n2 - 6 := ⟨_,rfl⟩
         rw [<- hnr,<- hcr] at hsl
         rw [<- hnr,<- hcr,<- hnL] at hrun
         rw [<- hnL] at hcL hoL
         rw [<- HLI.out] at hoL
         have hsl7 : ∀ w,(Instr.sliceAt 68 (.slice (some ⟨b,off,none⟩) n2 c2) (some (.int .i64 7)) none none).run Tryd.prog w = .ok (.slice (some ad) nr cr) w := hsl
         have HRN : Hid ((Builtin.append_ #[68,68] 68 #[.slice (some ⟨wc.heap.size,0,none⟩) 1 1,.slice (some ad) nr cr]).run Tryd.prog (wc.alloc (.cells #[.int .i64 x5] 2)).drew = .ok (.slice aL nL cL) w5) := hrun
         have HOL := hide hoL
         have HBL : Hid (Below wc.heap.size wc w5) := (Below.refl wc.heap.size wc).drew.trans hbL
         have HNL := hide hnL
         have HCL := hide hcL
         have HQ0 : Hid (Below w2.heap.size w2 wc.drew) := hb3.drew
         have HQ1 : Hid (Below w2.heap.size w2 (wc.alloc (.cells #[.int .i64 x5] 2)).drew) := (hb3.alloc hb3.size _).drew
         have HQ2 : Hid (Below w2.heap.size w2 w5) := below_here hb3 HBL.out
         have j5 : (5 : Int) < (n2 : Int) := by omega
         have j7 : (7 : Int) <= (n2 : Int) := by omega
         clear hm3 hb3 had hsl hrun hoL hbL hnr hcr hnL hcL j0 j00 j1 j2 j3 j4 h77
         go_upto_region 9 with fail
         go_region_held3 (fun W => W.cell? ⟨b,off + 5,none⟩ = some (.int .i64 x5))
          (first | with_reducible exact (HCX _).out HQ0.out | with_reducible exact (HCX _).out HQ1.out | with_reducible exact (HCX _).out HQ2.out | fail)
          (first | (refine step_appn (by rfl) _ _ 68 (by rfl) _ _ _ w5 (by rfl) (by rfl) HRN.out ?_) | fail)
         clear HQ0 HQ1 HRN hsl7 HSC HCX HR0 HR1 HR2
         obtain ⟨bL,offL,rfl,hbL1,hbL2,hccL⟩ := HOL.out.2.2 (by have := HNL.out; have := HV.out; omega)
         have HCLL : ∀ W,Hid (Below w5.heap.size w5 W -> ∀ j,j < nL -> W.cell? ⟨bL,offL + j,none⟩ = some (.int .i64 ((lensI xs).getD j 0))) := fun W hb j hj => mcell_on (hccL j hj).1 hb
         have HLL : Hid ((lensI xs).length = nL) := HOL.out.1
         have HB5 := hide (below_here HB2.out HQ2.out)
         have HK5 := hide (block_on HK2.out HQ2.out)
         have HM5 := hide (block_on HM3.out HBL.out)
         have HS5 : Hid (w2.heap.size < w5.heap.size) := (Array.getElem?_eq_some_iff.1 HM5.out).1
         clear hccL hbL1 hbL2 HM3 HB3 HBL HQ2 HB2 HK2 HOL hbw j5 j7
         have HTX0 : Hid (TxOwn w5.heap.size (w5.alloc (.cells #[] 9)) (.slice (some ⟨w5.heap.size,0,none⟩) 0 0) []) := ⟨rfl,.inr ⟨w5.heap.size,0,#[],rfl,Nat.le_refl _,heap_new _ _,Nat.le_refl _,Nat.zero_le _,rfl,rfl⟩⟩
         have HB60 : Hid (Below w5.heap.size w5 (w5.alloc (.cells #[] 9))) := (Below.refl _ _).alloc (Nat.le_refl _) _
         go_upto_region 12 with fail
         go_loopw [7,10,11] (fun p v i wr => ∃ (j q : Nat) (ns : List Nat),i = .int .i64 (j : Int) ∧ j <= nL ∧ (lensI xs).take j = ns.map (fun n : Nat => (n : Int)) ∧ p = .int .i64 (q : Int) ∧ q = e + 1 + ns.sum ∧ q <= s.size ∧ TxOwn w5.heap.size wr v (partsL s (e + 1) ns) ∧ Below w5.heap.size w5 wr) (fun _ _ i _ => nL - (intOf i).toNat)
         case atStart => exact ⟨0,e + 1,[],rfl,Nat.zero_le _,rfl,by go_num,rfl,by have := HLT.out; omega,HTX0.out,HB60.out⟩
         case round =>
          obtain ⟨j,q,ns,rfl,hj,htk,rfl,hq,hqs,htx,hbr⟩ := hrel
          have HTK := hide htk
          have HQQ := hide hq
          have HTX := hide htx
          have HBR := hide hbr
          clear htk hq htx hbr HTX0 HB60
          have hnL2 : nL <= 1048577 := by have := HNL.out; have := HN12.out; omega
          by_cases hjn : j < nL
          ·have c1 := (HCLL wr).out HBR.out j hjn
           obtain ⟨hy1,hy2⟩ := HL8.out j (by have := HNL.out; omega)
           have HYN : Hid ((lensI xs).take (j + 1) = (lensI xs).take j ++ [(lensI xs).getD j 0]) := by
            show _ = _
            rw [List.take_add_one,List.getD_eq_getElem?_getD,List.getElem?_eq_getElem (by rw [HLL.out]; exact hjn)]
            rfl
           have HRP : Hid (inB ((lensI xs).getD j 0) 0 ((s.size : Int) - (q : Int)) = false -> readNt s = none) := fun hin => readNt_part HFN.out HNT.out (by rw [HLL.out]; exact hjn) HTK.out (by rw [<- HQQ.out]; exact hin)
           obtain ⟨y,hyE⟩ : ∃ y,y = (lensI xs).getD j 0 := ⟨_,rfl⟩
           rw [<- hyE] at c1 hy1 hy2 HYN HRP
           have HYE := hide hyE
           clear hyE
           have hjI : (j : Int) < (nL : Int) := by omega
           go_wp2_with fail
           refine (l1In_any _ _ _ _).mono ?_
           rintro r w7 ⟨rfl,rfl⟩
           cases hin : inB y 0 ((s.size : Int) - (q : Int))
           ·have HN : Hid (readNt s = none) := HRP.out hin
            have HBW := hide (below_here HB5.out HBR.out)
            have HKW := hide (block_on HK5.out HBR.out)
            clear c1
            obtain ⟨d0,d1,d2,d3,d4,d5,d6⟩ := note_cells HKW.out
            obtain ⟨f0,f1,f2,f3,f4,f5,f6⟩ := note_frozen HKW.out
            obtain ⟨wz,hwz,hkz,hpz⟩ := (HNO _).out HBW.out HKW.out HN.out
            go_wp2_with fail
            rw [<- hwz]
            exact bodyPost_ret (results_ct rfl rfl (run_loadVar_row _ _ _ _ _ _ _ hkz Tryd.underlying26 rfl (by kernel_rfl))) rfl hpz
           ·obtain ⟨m,rfl,hm⟩ : ∃ m : Nat,y = (m : Int) ∧ q + m <= s.size := by
             have h2 : 0 <= y ∧ y <= (s.size : Int) - (q : Int) := by simpa [inB] using hin
             exact ⟨y.toNat,by omega,by omega⟩
            obtain ⟨w8,hw8⟩ : ∃ w8,w8 = wr.alloc (.cells #[.string (s.extract q (q + m))] 9) := ⟨_,rfl⟩
            have hb8 : Below wr.heap.size wr w8 := by rw [hw8]; exact (Below.refl _ _).alloc (Nat.le_refl _) _
            have hk8 : w8.heap[wr.heap.size]? = some (.cells #[.string (s.extract q (q + m))] 9) := by rw [hw8]; exact heap_new _ _
            have hlp : (partsL s (e + 1) ns).length <= 1048576 := by
             rw [partsL_length]
             have := congrArg List.length HTK.out
             rw [List.length_map,List.length_take] at this
             have := HNL.out
             have := HN12.out
             omega
            have ht8 := tx_later HTX.out hb8
            have hz8 : w5.heap.size <= w8.heap.size := Nat.le_trans HBR.out.size hb8.size
            obtain ⟨v9,w9,hap,ht9,hg9,_⟩ := tx_app (t := 24) Tryd.underlying24 ht8 hz8 hk8 hlp
            have HAP := hide hap
            have HT9 : Hid (TxOwn w5.heap.size w9 v9 (partsL s (e + 1) (ns ++ [m]))) := by
             show TxOwn _ _ _ _
             rw [partsL_snoc,<- HQQ.out]
             exact ht9
            have HB9 : Hid (Below w5.heap.size w5 w9) := (below_here HBR.out hb8).grown hg9 hz8 (fun k hk => (World.ownsRow.lt ht8 k hk).1)
            have hqm : (q : Int) + (m : Int) <= (s.size : Int) := by omega
            have c9 : w9.cell? ⟨bL,offL + j,none⟩ = some (.int .i64 (m : Int)) := by
             have := (HCLL w9).out HB9.out j hjn
             rw [<- HYE.out] at this
             exact this
            clear hb8 hk8 ht8 hap ht9 hg9 hlp hin hz8 hy1 hy2
            rw [hw8] at HAP
            go_wp2_with (at_builtin; refine wpList_append_eq rfl _ _ 24 rfl _ _ _ w9 rfl rfl HAP.out ?_)
            go_roundw
            case rel =>
             refine ⟨j + 1,q + m,ns ++ [m],by go_num,by omega,?_,by go_num,?_,hm,HT9.out,HB9.out⟩
             ·rw [HYN.out,HTK.out,List.map_append]; rfl
             ·have h0 := HQQ.out
              have h1 : (ns ++ [m]).sum = ns.sum + m := by simp
              omega
            case measure => simp [intOf]; omega
          ·obtain rfl : j = nL := by omega
           have HLS : Hid (lensI xs = ns.map fun n : Nat => (n : Int)) := by
            show _ = _
            rw [<- HTK.out,List.take_of_length_le (by rw [HLL.out]; exact Nat.le_refl _)]
           have HLAST := hide (readNt_last HFN.out HNT.out HLS.out HLT.out)
           obtain ⟨PT,hPT⟩ : ∃ PT,PT = partsL s (e + 1) ns := ⟨_,rfl⟩
           have HPL : Hid (PT.length = V + 1) := by
            show _ = _
            rw [hPT,partsL_length]
            have := congrArg List.length HLS.out
            rw [List.length_map,HLL.out] at this
            have := HNL.out
            have := HV.out
            omega
           have HPS : Hid (∀ y ∈ PT,y.size <= 1048576) := fun y hy => by
            rw [hPT] at hy
            have := partsL_size s ns (e + 1) y hy
            omega
           rw [<- hPT] at HTX HLAST
           clear hPT HTK HNT HFN HLS HQQ HLL HCLL
           obtain ⟨aP,cP,rfl,hcP,hoP⟩ := tx_texts HTX.out
           rw [HPL.out] at hcP hoP ⊢
           obtain ⟨g,og,rfl,hg1,hg2,hcg⟩ := hoP.2.2 (by omega)
           have c0 : wr.cell? ⟨g,og,none⟩ = some (.string (PT.getD 0 ByteArray.empty)) := (hcg 0 (by omega)).1
           have HOP := hide hoP
           obtain ⟨ad2,had2,hsl2⟩ := note_rest (P := Tryd.prog) 24 9 Tryd.underlying24 (fun _ => by kernel_rfl) g og (V + 1) cP 1 (by omega) hcP
           rw [show V + 1 - 1 = V by omega] at had2 hsl2
           obtain ⟨nP,hnP⟩ : ∃ nP,nP = V + 1 := ⟨_,rfl⟩
           obtain ⟨cR,hcR⟩ : ∃ cR,cR = cP - 1 := ⟨_,rfl⟩
           rw [<- hnP,<- hcR] at hsl2
           rw [<- hnP]
           have hsl3 : ∀ w,(Instr.sliceAt 24 (.slice (some ⟨g,og,none⟩) nP cP) (some (.int .i64 1)) none none).run Tryd.prog w = .ok (.slice (some ad2) V cR) w := hsl2
           have HDT : Hid (Texts w5.heap.size wr.heap.size wr (some ad2) V (PT.drop 1)) := note_drop HOP.out.texts had2
           have HVC : Hid (V <= cR) := by show _ <= _; omega
           have HV64 : Hid (V <= 1048576) := by have := HV.out; have := HN12.out; show _ <= _; omega
           obtain ⟨t0,ht0⟩ : ∃ t0,t0 = PT.getD 0 ByteArray.empty := ⟨_,rfl⟩
           have HT0S : Hid (t0.size <= maxLen) := by
            show _ <= _
            have : t0.size <= 1048576 := HPS.out t0 (by rw [ht0,List.getD_eq_getElem?_getD,List.getElem?_eq_getElem (by rw [HPL.out]; omega)]; exact List.getElem_mem _)
            unfold maxLen
            omega
           rw [<- ht0] at c0
           have hj0 : (0 : Int) < (nP : Int) := by omega
           have hj00 : 0 < nP := by omega
           have hj1 : (1 : Int) <= (nP : Int) := by omega
           have HK6 := hide (block_on HK5.out HBR.out)
           have HM6 := hide (block_on HM5.out HBR.out)
           have HB6 := hide (below_here HB5.out HBR.out)
           obtain ⟨m0,m1,m2,m3,m4,m5,m6⟩ := note_cells HM6.out
           obtain ⟨p0,p1,p2,p3,p4,p5,p6⟩ := note_frozen HM6.out
           have HA6 : Hid (Aside w2.heap.size (w2.heap.size + 1) wr ((wr.setCell ⟨w2.heap.size,5,none⟩ (.string t0)).setCell ⟨w2.heap.size,6,none⟩ (.slice (some ad2) V cR))) := ((Aside.refl w2.heap.size (w2.heap.size + 1) wr).setCell (p := ⟨w2.heap.size,5,none⟩) (Nat.le_refl _) (Nat.lt_succ_self _) _).setCell (p := ⟨w2.heap.size,6,none⟩) (Nat.le_refl _) (Nat.lt_succ_self _) _
           have HMS : Hid (((wr.setCell ⟨w2.heap.size,5,none⟩ (.string t0)).setCell ⟨w2.heap.size,6,none⟩ (.slice (some ad2) V cR)).heap[w2.heap.size]? = some (.cells #[.int .i64 y0,.int .i64 y1,.int .i64 y2,.int .i64 y3,.int .i64 y4,.string t0,.slice (some ad2) V cR] 26)) := by
            show _ = _
            have := set_block (set_block HM6.out 5 (.string t0) (by simp)) 6 (.slice (some ad2) V cR) (by simp)
            simpa using this
           have HT0 := hide ht0
           clear hcg hoP had2 hsl2 hg1 hg2 ht0 hcP HOP hnP hcR
           obtain ⟨wS,hwS⟩ : ∃ wS,wS = (wr.setCell ⟨w2.heap.size,5,none⟩ (.string t0)).setCell ⟨w2.heap.size,6,none⟩ (.slice (some ad2) V cR) := ⟨_,rfl⟩
           have HSZ : Hid (wS.heap.size = wr.heap.size) := by show _ = _; rw [hwS]; simp
           rw [<- hwS] at HA6 HMS
           go_upto_region 20 with fail
           rw [<- hwS]
           clear hwS c0 m0 m1 m2 m3 m4 m5 m6 p0 p1 p2 p3 p4 p5 p6 hsl3 hj0 hj00 hj1
           have hSs : wS.heap.size = wr.heap.size := by
            exact HSZ.out
           have HTS2 : Hid (Texts w5.heap.size wr.heap.size wS (some ad2) V (PT.drop 1)) := HDT.out.aside HA6.out (.inr (by have := HS5.out; omega))
           have HKS : Hid (wS.heap[w.heap.size]? = some (.cells #[.int .i64 0,.int .i64 0,.int .i64 0,.int .i64 0,.int .i64 0,.string ⟨#[]⟩,.slice none 0 0] 26)) := (HA6.out.block _ (by have := (Array.getElem?_eq_some_iff.1 HK6.out).1; omega) (.inl (by have := HS2.out; omega))).trans HK6.out
           have HBS : Hid (Below w.heap.size w wS) := HB6.out.trans (HA6.out.below (B := w.heap.size) (by have := HS2.out; omega) HB6.out.size)
           have HR : Hid (Texts w5.heap.size wS.heap.size wS (some ad2) V (PT.drop 1)) := by rw [hSs]; exact HTS2.out
           clear HDT HTS2 HA6 HK6 HB6 HM6 HSZ hSs
           obtain ⟨m0,m1,m2,m3,m4,m5,m6⟩ := note_cells HMS.out
           go_wp2_with fail
           refine (specShowNote_any y0 y1 y2 y3 y4 t0 (PT.drop 1) (some ad2) V cR wS HR.out HV64.out (fun y hy => HPS.out y (List.mem_of_mem_drop hy)) HT0S.out).mono ?_
           rintro r wT ⟨rfl,bT⟩
           have HBT := hide (below_here HBS.out bT)
           have HKT := hide (block_on HKS.out bT)
           have HMT := hide (block_on HMS.out bT)
           have HRT := hide (HR.out.later bT (Nat.le_refl _))
           have hsT := bT.size
           clear bT m0 m1 m2 m3 m4 m5 m6 HBS HKS HMS HR
           rw [HXO.out,<- HT0.out] at HLAST
           obtain ⟨t,ht⟩ : ∃ t,t = showNt ⟨y0,y1,y2,y3,y4,t0,PT.drop 1⟩ := ⟨_,rfl⟩
           rw [<- ht] at HLAST ⊢
           clear ht
           obtain ⟨d0,d1,d2,d3,d4,d5,d6⟩ := note_cells HKT.out
           obtain ⟨f0,f1,f2,f3,f4,f5,f6⟩ := note_frozen HKT.out
           by_cases heq : t = s
           ·have hne2 : (t.toList == s.toList) = true := by simp [heq]
            have HY : Hid (readNt s = some ⟨y0,y1,y2,y3,y4,t0,PT.drop 1⟩) := by
             show _ = _
             rw [HLAST.out,if_pos heq]
            clear heq HLAST
            obtain ⟨m0,m1,m2,m3,m4,m5,m6⟩ := note_cells HMT.out
            have HF := hide (note_set HKT.out (.int .i64 y0) (.int .i64 y1) (.int .i64 y2) (.int .i64 y3) (.int .i64 y4) (.string t0) (.slice (some ad2) V cR))
            have HAS := hide (note_aside (Aside.refl w.heap.size (w.heap.size + 1) wT) (Nat.le_refl _) (Nat.lt_succ_self _) (.int .i64 y0) (.int .i64 y1) (.int .i64 y2) (.int .i64 y3) (.int .i64 y4) (.string t0) (.slice (some ad2) V cR))
            have HG := hide (HBT.out.trans (HAS.out.below (B := w.heap.size) (Nat.le_refl _) HBT.out.size))
            have HRA := hide (HRT.out.aside HAS.out (.inr (by have := HS5.out; have := HS2.out; omega)))
            have HDL : Hid ((PT.drop 1).length = V) := by show _ = _; rw [List.length_drop,HPL.out]; omega
            go_wp2_with fail
            refine bodyPost_ret (results_ct rfl rfl (run_loadVar_row _ _ _ _ _ _ _ HF.out Tryd.underlying26 rfl (by kernel_rfl))) rfl ⟨?_,HG.out⟩
            unfold readY
            rw [HY.out]
            refine ⟨some ad2,cR,?_,?_,?_⟩
            ·show _ = Ending.returned (.tuple #[noteV ⟨y0,y1,y2,y3,y4,t0,PT.drop 1⟩ (some ad2) (PT.drop 1).length cR,.bool true])
             rw [HDL.out]
             rfl
            ·show (PT.drop 1).length <= cR
             rw [HDL.out]
             exact HVC.out
            ·show Texts _ _ _ _ (PT.drop 1).length (PT.drop 1)
             rw [HDL.out]
             refine ⟨HRA.out.1,Nat.le_refl _,fun hn => ?_⟩
             obtain ⟨b',o',e1,e2,e3,e4⟩ := HRA.out.2.2 hn
             exact ⟨b',o',e1,by have := HS5.out; have := HS2.out; omega,Nat.lt_of_lt_of_le e3 (by have := HAS.out.size; omega),e4⟩
           ·have hne2 : (t.toList == s.toList) = false := by rw [text_eq]; simp [heq]
            have HN : Hid (readNt s = none) := by
             show _ = _
             rw [HLAST.out,if_neg heq]
            clear heq HLAST d0 d1 d2 d3 d4 d5 d6 f0 f1 f2 f3 f4 f5 f6
            obtain ⟨d0,d1,d2,d3,d4,d5,d6⟩ := note_cells HKT.out
            obtain ⟨f0,f1,f2,f3,f4,f5,f6⟩ := note_frozen HKT.out
            obtain ⟨wz,hwz,hkz,hpz⟩ := (HNO _).out HBT.out HKT.out HN.out
            go_wp2_with fail
            rw [<- hwz]
            exact bodyPost_ret (results_ct rfl rfl (run_loadVar_row _ _ _ _ _ _ _ hkz Tryd.underlying26 rfl (by kernel_rfl))) rfl hpz
       ·have hnb : ((n2 : Int) != 7 + x6) = true := by simp [hn7]
        have HN : Hid (readNt s = none) := readNt_head HFN.out HNT.out (.inr (.inr (.inr (.inr (by rw [<- HX6.out,HXL.out]; exact hn7)))))
        obtain ⟨d0,d1,d2,d3,d4,d5,d6⟩ := note_cells HK2.out
        obtain ⟨f0,f1,f2,f3,f4,f5,f6⟩ := note_frozen HK2.out
        obtain ⟨wz,hwz,hkz,hpz⟩ := (HNO _).out HB2.out HK2.out HN.out
        go_wp2_with fail
        rw [<- hwz]
        exact bodyPost_ret (results_ct rfl rfl (run_loadVar_row _ _ _ _ _ _ _ hkz Tryd.underlying26 rfl (by kernel_rfl))) rfl hpz
   ·have hb2 : ((s[e].toNat : Int) == 10) = false := by simp; omega
    have HBB := hide hb
    clear hb
    go_wp2_with fail
    go_roundw
    case rel => exact ⟨e + 1,by go_num,by omega,fun i h hi => (by
     rcases Nat.lt_or_ge i e with h1 | h1
     ·exact HNO1.out i h h1
     ·have : i = e := by omega
      subst this
      exact HBB.out),trivial⟩
    case measure => simp [intOf]; omega
  ·have hee : e = s.size := by omega
   have HFN : Hid (FirstNl s e) := ⟨he,HNO1.out,fun h => absurd h hlt⟩
   have HEE := hide hee
   clear hee
   have hlen : (s.extract 0 e).size <= 1048576 := by simp; omega
   go_wp2_with fail
   refine (l1Words_any _ hlen _).mono ?_
   rintro r w1 ⟨a1,n1,c1,rfl,hn1,hot,b1⟩
   have HOT := hide hot
   have HB1 := hide (below_here HB0.out b1)
   have HK1 := hide (block_on HK.out b1)
   clear b1 hot HB0 HK
   have HTS : Hid (∀ x ∈ (wordsL (s.extract 0 e).data.toList).map mkB,x.size <= 1048576) := by
    intro x hx
    obtain ⟨l,hl,rfl⟩ := List.mem_map.1 hx
    rw [mkB_size]
    have h1 := wordsL_len _ l hl
    have h3 : (s.extract 0 e).data.toList.length = (s.extract 0 e).size := by simp
    omega
   go_wp2_with fail
   refine (l1Numbers_any a1 n1 c1 _ w1 HOT.out.texts hn1 HTS.out).mono ?_
   rintro r w2 ⟨a2,n2,c2,xs,ok,rfl,⟨hn2,hc2⟩,hoi,hsm,hnt,b2⟩
   have HB2 := hide (below_here HB1.out b2)
   have HK2 := hide (block_on HK1.out b2)
   have HN : Hid (readNt s = none) := readNt_head HFN.out hnt (.inr (.inr (.inl HEE.out)))
   clear b2 hoi hnt hsm HOT HB1 HK1 HTS hlen
   have heq2 : ((e : Int) == (s.size : Int)) = true := by rw [HEE.out]; simp
   cases ok with
   | false =>
    obtain ⟨d0,d1,d2,d3,d4,d5,d6⟩ := note_cells HK2.out
    obtain ⟨f0,f1,f2,f3,f4,f5,f6⟩ := note_frozen HK2.out
    obtain ⟨wz,hwz,hkz,hpz⟩ := (HNO _).out HB2.out HK2.out HN.out
    go_wp2_with fail
    rw [<- hwz]
    exact bodyPost_ret (results_ct rfl rfl (run_loadVar_row _ _ _ _ _ _ _ hkz Tryd.underlying26 rfl (by kernel_rfl))) rfl hpz
   | true =>
    by_cases h7 : n2 < 7
    ·have h7b : (n2 : Int) < 7 := by omega
     obtain ⟨d0,d1,d2,d3,d4,d5,d6⟩ := note_cells HK2.out
     obtain ⟨f0,f1,f2,f3,f4,f5,f6⟩ := note_frozen HK2.out
     obtain ⟨wz,hwz,hkz,hpz⟩ := (HNO _).out HB2.out HK2.out HN.out
     go_wp2_with fail
     rw [<- hwz]
     exact bodyPost_ret (results_ct rfl rfl (run_loadVar_row _ _ _ _ _ _ _ hkz Tryd.underlying26 rfl (by kernel_rfl))) rfl hpz
    ·have h7b : ¬ (n2 : Int) < 7 := by omega
     obtain ⟨d0,d1,d2,d3,d4,d5,d6⟩ := note_cells HK2.out
     obtain ⟨f0,f1,f2,f3,f4,f5,f6⟩ := note_frozen HK2.out
     obtain ⟨wz,hwz,hkz,hpz⟩ := (HNO _).out HB2.out HK2.out HN.out
     go_wp2_with fail
     rw [<- hwz]
     exact bodyPost_ret (results_ct rfl rfl (run_loadVar_row _ _ _ _ _ _ _ hkz Tryd.underlying26 rfl (by kernel_rfl))) rfl hpz
end Go.Proofs.YtdjifickdcnacaaDoor
end

section
namespace Go.Proofs.YtdjifickdcnacaaDoor
open Go.RowKit
set_option linter.unusedVariables false
set_option linter.unusedSimpArgs false
set_option maxRecDepth 20000
def noPut (a : Int) (tx : ByteArray) : Bool := decide (a = 0) && decide (tx = ByteArray.empty)
set_option maxHeartbeats 800000 in
theorem tellsNoPut_any (k tt e s a : Int) (tx : ByteArray) (av : Option Addr) (n cap : Nat) (w : World) :
  Calls Tryd.prog 64 #[.agg #[.int .i64 k,.int .i64 tt,.int .i64 e,.int .i64 s,.int .i64 a,.string tx,.slice av n cap]] w fun r w' => r = .returned (.bool (noPut a tx)) ∧ Below w.heap.size w w' := by
 have HB0 : Hid (Below w.heap.size w (w.alloc (.cells #[.int .i64 k,.int .i64 tt,.int .i64 e,.int .i64 s,.int .i64 a,.string tx,.slice av n cap] 26))) := (Below.refl _ _).alloc (Nat.le_refl _) _
 by_cases ha : a = 0
 ·subst ha
  by_cases htx : tx = ⟨#[]⟩
  ·subst htx
   have hbt := text_same (⟨#[]⟩ : ByteArray)
   go_enter Tryd.func64,Tryd.ntmps64
   go_wp2_with fail
   go_ret
   exact ⟨rfl,HB0.out⟩
  ·have hbt : ¬ tx.toList = [] := empty_list htx
   have hbt2 : (tx.toList == []) = false := by rw [beq_eq_false_iff_ne]; exact hbt
   have HE : Hid (noPut 0 tx = false) := by show _ = _; unfold noPut; simp; exact htx
   go_enter Tryd.func64,Tryd.ntmps64
   go_wp2_with fail
   go_ret
   exact ⟨by rw [HE.out]; rfl,HB0.out⟩
 ·have hab : (a == 0) = false := by simp [ha]
  have HE : Hid (noPut a tx = false) := by show _ = _; unfold noPut; simp [ha]
  go_enter Tryd.func64,Tryd.ntmps64
  go_wp2_with fail
  go_ret
  exact ⟨by rw [HE.out]; rfl,HB0.out⟩
theorem valuesOk_none {vs : List ByteArray} (h : vs.length = 0) : valuesOk vs = true := by
 rw [List.length_eq_zero_iff.1 h]; rfl
theorem noteOk_mark {k tt e s a : Int} {tx : ByteArray} {vs : List ByteArray} (h : miIn (e,s,false) = false) : noteOk ⟨k,tt,e,s,a,tx,vs⟩ = false := by
 simp only [miIn,Bool.and_eq_false_iff,decide_eq_false_iff_not] at h
 cases hx : noteOk ⟨k,tt,e,s,a,tx,vs⟩ with
 | false => rfl
 | true =>
  exfalso
  simp only [noteOk,ntNum,inB,Bool.and_eq_true,decide_eq_true_eq] at hx
  omega
theorem noteOk_to {k tt e s a : Int} {tx : ByteArray} {vs : List ByteArray} (h : tt < 0 ∨ 1 < tt) : noteOk ⟨k,tt,e,s,a,tx,vs⟩ = false := by
 cases hx : noteOk ⟨k,tt,e,s,a,tx,vs⟩ with
 | false => rfl
 | true =>
  exfalso
  simp only [noteOk,ntNum,inB,Bool.and_eq_true,decide_eq_true_eq] at hx
  omega
theorem noteOk_rest {k tt e s a : Int} {tx : ByteArray} {vs : List ByteArray} (h : miIn (e,s,false) = true) (h1 : 0 <= tt) (h2 : tt <= 1) : noteOk ⟨k,tt,e,s,a,tx,vs⟩ = (inB k 1 3 && (inB a 0 63 && (decide (tx.size <= 24) && valuesOk vs)) && ntKind ⟨k,tt,e,s,a,tx,vs⟩) := by
 simp only [miIn,Bool.and_eq_true,decide_eq_true_eq] at h
 have e1 : inB tt 0 1 = true := by simp [inB,h1,h2]
 have e2 : inB e 0 1000000 = true := by simp [inB]; omega
 have e3 : inB s 0 1000000 = true := by simp [inB]; omega
 unfold noteOk ntNum
 simp only [e1,e2,e3,Bool.true_and]
theorem noteOk_put {tt e s a : Int} {tx : ByteArray} {vs : List ByteArray} (h : miIn (e,s,false) = true) (h1 : 0 <= tt) (h2 : tt <= 1) : noteOk ⟨1,tt,e,s,a,tx,vs⟩ = (decide (0 <= a) && decide (a < 64) && decide (tx.size <= 24) && decide (vs.length = 0)) := by
 rw [noteOk_rest h h1 h2]
 by_cases hv : vs.length = 0
 ·rw [valuesOk_none hv]
  rw [Bool.eq_iff_iff]
  simp [inB,ntKind,hv]
  omega
 ·rw [decide_eq_false hv]
  simp [ntKind,hv]
theorem noteOk_copy {tt e s a : Int} {tx : ByteArray} {vs : List ByteArray} (h : miIn (e,s,false) = true) (h1 : 0 <= tt) (h2 : tt <= 1) : noteOk ⟨2,tt,e,s,a,tx,vs⟩ = (noPut a tx && valuesOk vs) := by
 rw [noteOk_rest h h1 h2]
 by_cases ha : a = 0 <;> by_cases ht : tx = ByteArray.empty
 ·subst ha; subst ht; simp [inB,ntKind,noPut]
 ·simp [ntKind,noPut,ht]
 ·simp [ntKind,noPut,ha]
 ·simp [ntKind,noPut,ha]
theorem noteOk_have {tt e s a : Int} {tx : ByteArray} {vs : List ByteArray} (h : miIn (e,s,false) = true) (h1 : 0 <= tt) (h2 : tt <= 1) : noteOk ⟨3,tt,e,s,a,tx,vs⟩ = (noPut a tx && decide (vs.length = 0)) := by
 rw [noteOk_rest h h1 h2]
 by_cases ha : a = 0 <;> by_cases ht : tx = ByteArray.empty
 ·subst ha; subst ht
  by_cases hv : vs.length = 0
  ·rw [valuesOk_none hv]; simp [inB,ntKind,noPut,hv]
  ·simp [inB,ntKind,noPut,hv]
 ·simp [ntKind,noPut,ht]
 ·simp [ntKind,noPut,ha]
 ·simp [ntKind,noPut,ha]
theorem noteOk_else {k tt e s a : Int} {tx : ByteArray} {vs : List ByteArray} (h1 : ¬ k = 1) (h2 : ¬ k = 2) (h3 : ¬ k = 3) : noteOk ⟨k,tt,e,s,a,tx,vs⟩ = false := by
 cases hx : noteOk ⟨k,tt,e,s,a,tx,vs⟩ with
 | false => rfl
 | true =>
  exfalso
  simp only [noteOk,ntNum,inB,Bool.and_eq_true,decide_eq_true_eq] at hx
  omega
set_option maxHeartbeats 3200000 in
theorem implNoteOk_any (k tt e s a : Int) (tx : ByteArray) (vs : List ByteArray) (av : Option Addr) (n cap : Nat) (w : World) {lo hi : Nat} (h : Texts lo hi w av n vs) (hn : n <= 1048576) (hts : ∀ y ∈ vs,y.size <= 1048576) (hx : tx.size <= maxLen) :
  Calls Tryd.prog 14 #[.agg #[.int .i64 k,.int .i64 tt,.int .i64 e,.int .i64 s,.int .i64 a,.string tx,.slice av n cap]] w fun r w' => r = .returned (.bool (noteOk ⟨k,tt,e,s,a,tx,vs⟩)) ∧ Below w.heap.size w w' := by
 obtain ⟨wA,hwA⟩ : ∃ wA,wA = w.alloc (.cells #[.int .i64 k,.int .i64 tt,.int .i64 e,.int .i64 s,.int .i64 a,.string tx,.slice av n cap] 26) := ⟨_,rfl⟩
 have HBA : Hid (Below w.heap.size w wA) := by rw [hwA]; exact (Below.refl _ _).alloc (Nat.le_refl _) _
 have H0 : Hid (wA.heap[w.heap.size]? = some (.cells #[.int .i64 k,.int .i64 tt,.int .i64 e,.int .i64 s,.int .i64 a,.string tx,.slice av n cap] 26)) := by rw [hwA]; exact heap_new _ _
 have HT := hide (h.later HBA.out h.2.1)
 have HL := hide h.1
 have HTS := hide hts
 clear h hts
 obtain ⟨c0,c1,c2,c3,c4,c5,c6⟩ := note_cells H0.out
 go_enter Tryd.func14,Tryd.ntmps14
 go_upto_region 1 with fail
 rw [<- hwA]
 clear hwA
 by_cases h1 : tt < 0
 ·have HE : Hid (noteOk ⟨k,tt,e,s,a,tx,vs⟩ = false) := noteOk_to (.inl h1)
  go_wp2_with fail
  go_ret
  exact ⟨by rw [HE.out]; rfl,HBA.out⟩
 ·by_cases h2 : 1 < tt
  ·have HE : Hid (noteOk ⟨k,tt,e,s,a,tx,vs⟩ = false) := noteOk_to (.inr h2)
   go_wp2_with fail
   go_ret
   exact ⟨by rw [HE.out]; rfl,HBA.out⟩
  ·go_wp2_with fail
   refine (isMark_any e s false _).mono ?_
   cases hm : miIn (e,s,false)
   ·have HE : Hid (noteOk ⟨k,tt,e,s,a,tx,vs⟩ = false) := noteOk_mark hm
    rintro r w1 ⟨rfl,b1⟩
    have HB1 := hide (below_here HBA.out b1)
    clear b1 c0 c1 c2 c3 c4 c5 c6
    go_wp2_with fail
    go_ret
    exact ⟨by rw [HE.out]; rfl,HB1.out⟩
   ·rintro r w1 ⟨rfl,b1⟩
    have HB1 := hide (below_here HBA.out b1)
    have H1 := hide (block_on H0.out b1)
    have HT1 := hide (HT.out.later b1 HT.out.2.1)
    clear b1 c0 c1 c2 c3 c4 c5 c6 HBA H0 HT
    have HM := hide hm
    clear hm
    obtain ⟨c0,c1,c2,c3,c4,c5,c6⟩ := note_cells H1.out
    by_cases k1 : k = 1
    ·subst k1
     have HE := hide (noteOk_put (a := a) (tx := tx) (vs := vs) HM.out (by omega) (by omega : tt <= 1))
     by_cases a1 : 0 <= a
     ·by_cases a2 : a < 64
      ·by_cases a3 : (tx.size : Int) <= 24
       ·rcases Nat.eq_zero_or_pos n with h0 | h0
        ·subst h0
         go_wp2_with fail
         go_ret
         exact ⟨by rw [HE.out,decide_eq_true a1,decide_eq_true a2,decide_eq_true (by omega : tx.size <= 24),decide_eq_true HL.out]; rfl,HB1.out⟩
        ·have hnb : ((n : Int) == 0) = false := by simp; omega
         go_wp2_with fail
         go_ret
         exact ⟨by rw [HE.out,HL.out,decide_eq_false (by omega : ¬ n = 0),Bool.and_false]; rfl,HB1.out⟩
       ·go_wp2_with fail
        go_ret
        exact ⟨by rw [HE.out,decide_eq_false (by omega : ¬ tx.size <= 24),Bool.and_false,Bool.false_and]; rfl,HB1.out⟩
      ·go_wp2_with fail
       go_ret
       exact ⟨by rw [HE.out,decide_eq_false (by omega : ¬ a < 64),Bool.and_false,Bool.false_and,Bool.false_and]; rfl,HB1.out⟩
     ·go_wp2_with fail
      go_ret
      exact ⟨by rw [HE.out,decide_eq_false (by omega : ¬ 0 <= a),Bool.false_and,Bool.false_and,Bool.false_and]; rfl,HB1.out⟩
    ·have kb1 : (k == 1) = false := by simp [k1]
     by_cases k2 : k = 2
     ·subst k2
      have HE := hide (noteOk_copy (a := a) (tx := tx) (vs := vs) HM.out (by omega) (by omega : tt <= 1))
      go_wp2_with fail
      refine (tellsNoPut_any _ _ _ _ _ _ _ _ _ _).mono ?_
      cases hp : noPut a tx
      ·rintro r w2 ⟨rfl,b2⟩
       have HB2 := hide (below_here HB1.out b2)
       clear b2 c0 c1 c2 c3 c4 c5 c6
       go_wp2_with fail
       go_ret
       exact ⟨by rw [HE.out,hp]; rfl,HB2.out⟩
      ·rintro r w2 ⟨rfl,b2⟩
       have HB2 := hide (below_here HB1.out b2)
       have H2 := hide (block_on H1.out b2)
       have HT2 := hide (HT1.out.later b2 HT1.out.2.1)
       clear b2 c0 c1 c2 c3 c4 c5 c6 HB1 H1 HT1
       obtain ⟨c0,c1,c2,c3,c4,c5,c6⟩ := note_cells H2.out
       go_wp2_with fail
       refine (areValues_any av n cap vs _ HT2.out hn HTS.out).mono ?_
       rintro r w3 ⟨rfl,rfl⟩
       go_wp2_with fail
       go_ret
       exact ⟨by rw [HE.out,hp]; rfl,HB2.out⟩
     ·have kb2 : (k == 2) = false := by simp [k2]
      by_cases k3 : k = 3
      ·subst k3
       have HE := hide (noteOk_have (a := a) (tx := tx) (vs := vs) HM.out (by omega) (by omega : tt <= 1))
       go_wp2_with fail
       refine (tellsNoPut_any _ _ _ _ _ _ _ _ _ _).mono ?_
       cases hp : noPut a tx
       ·rintro r w2 ⟨rfl,b2⟩
        have HB2 := hide (below_here HB1.out b2)
        clear b2 c0 c1 c2 c3 c4 c5 c6
        go_wp2_with fail
        go_ret
        exact ⟨by rw [HE.out,hp]; rfl,HB2.out⟩
       ·rintro r w2 ⟨rfl,b2⟩
        have HB2 := hide (below_here HB1.out b2)
        have H2 := hide (block_on H1.out b2)
        clear b2 c0 c1 c2 c3 c4 c5 c6 HB1 H1
        obtain ⟨c0,c1,c2,c3,c4,c5,c6⟩ := note_cells H2.out
        rcases Nat.eq_zero_or_pos n with h0 | h0
        ·subst h0
         go_wp2_with fail
         go_ret
         exact ⟨by rw [HE.out,hp,decide_eq_true HL.out]; rfl,HB2.out⟩
        ·have hnb : ((n : Int) == 0) = false := by simp; omega
         go_wp2_with fail
         go_ret
         exact ⟨by rw [HE.out,HL.out,decide_eq_false (by omega : ¬ n = 0),Bool.and_false]; rfl,HB2.out⟩
      ·have kb3 : (k == 3) = false := by simp [k3]
       have HE : Hid (noteOk ⟨k,tt,e,s,a,tx,vs⟩ = false) := noteOk_else k1 k2 k3
       go_wp2_with fail
       go_ret
       exact ⟨by rw [HE.out]; rfl,HB1.out⟩
end Go.Proofs.YtdjifickdcnacaaDoor
end

