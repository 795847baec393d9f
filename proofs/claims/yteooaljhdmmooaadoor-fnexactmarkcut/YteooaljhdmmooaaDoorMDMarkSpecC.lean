/- The walks of chapter 13's model: ShowMark, ReadMark. -/
import Derived.Test.YteooaljhdmmooaaDoorMDMarkSpecA
import Derived.Test.YteooaljhdmmooaaDoorMDInfo
import Derived.Test.YteooaljhdmmooaaDoorMDBase
import Derived.Deep.Cut
import Derived.Lib.QuietBelow
import Derived.BigQuiet
namespace Go.Proofs.YteooaljhdmmooaaDoor
open Go.RowKit
set_option linter.unusedVariables false
set_option linter.unusedSimpArgs false
set_option maxRecDepth 20000

theorem miIn_eq (e q : Int) (b : Bool) : miIn (e, q, b) = (inB e 0 1000000 && inB q 0 1000000) := by
  unfold miIn inB
  simp only [Bool.and_assoc]
set_option maxHeartbeats 800000 in
theorem l13Mark_any (e q : Int) (b : Bool) (w : World) :
    Calls Tryd.prog 18 #[markV e q b] w fun r w' => r = .returned (.bool (miIn (e, q, b))) ∧ Below w.heap.size w w' := by
  have HB0 : Hid (Below w.heap.size w (w.alloc (.cells #[.int .i64 e, .int .i64 q, .bool b] 25))) := (Below.refl _ _).alloc (Nat.le_refl _) _
  unfold markV
  rw [miIn_eq]
  go_enter Tryd.func18, Tryd.ntmps18
  go_wp2_with fail
  refine (l1In_any _ _ _ _).mono ?_
  rintro r w1 ⟨rfl, rfl⟩
  cases h1 : inB e 0 1000000
  · go_wp2_with fail
    go_ret
    exact ⟨by simp [h1], HB0.out⟩
  · go_wp2_with fail
    refine (l1In_any _ _ _ _).mono ?_
    rintro r w1 ⟨rfl, rfl⟩
    go_wp2_with fail
    go_ret
    exact ⟨by simp [h1], HB0.out⟩
theorem l13Flag_any (b : Bool) (w : World) :
    Calls Tryd.prog 21 #[.bool b] w fun r w' => r = .returned (.string (flagB b)) ∧ w = w' := by
  cases b <;>
  · go_enter Tryd.func21, Tryd.ntmps21
    go_wp2_with fail
    go_ret
    exact ⟨rfl, rfl⟩

set_option maxHeartbeats 1600000 in
theorem specShowMark_any (e q : Int) (b : Bool) (w : World) :
    Calls Tryd.prog 6 #[markV e q b] w fun r w' => r = .returned (.string (showF (e, q, b))) ∧ Below w.heap.size w w' := by
  have HB0 : Hid (Below w.heap.size w (w.alloc (.cells #[.int .i64 e, .int .i64 q, .bool b] 25))) := (Below.refl _ _).alloc (Nat.le_refl _) _
  have HK : Hid ((w.alloc (.cells #[.int .i64 e, .int .i64 q, .bool b] 25)).heap[w.heap.size]? = some (.cells #[.int .i64 e, .int .i64 q, .bool b] 25)) := heap_new _ _
  have hs0 : (w.alloc (.cells #[.int .i64 e, .int .i64 q, .bool b] 25)).heap.size = w.heap.size + 1 := by simp
  cases hin : miIn (e, q, b)
  · have HE : Hid (showF (e, q, b) = ⟨#[]⟩) := by show _ = _; unfold showF; rw [hin]; rfl
    unfold markV
    go_enter Tryd.func6, Tryd.ntmps6
    go_wp2_with fail
    refine (l13Mark_any e q b _).mono ?_
    rw [hin]
    rintro r w1 ⟨rfl, b1⟩
    have HB1 := hide (below_here HB0.out b1)
    clear b1 hs0
    go_wp2_with fail
    go_ret
    exact ⟨by rw [HE.out]; rfl, HB1.out⟩
  · obtain ⟨E, Q, rfl, rfl, hE, hQ⟩ : ∃ E Q : Nat, e = (E : Int) ∧ q = (Q : Int) ∧ E ≤ 1000000 ∧ Q ≤ 1000000 := by
      simp only [miIn, Bool.and_eq_true, decide_eq_true_eq] at hin
      exact ⟨e.toNat, q.toNat, by omega, by omega, by omega, by omega⟩
    have HE : Hid (showF ((E : Int), (Q : Int), b) = checked (lineB E Q b)) := by show _ = _; unfold showF; rw [hin]; rfl
    have HLE := hide (line_parts E Q b)
    have hdE := dec_len hE
    have hdQ := dec_len hQ
    have HIN := hide hin
    clear hin
    obtain ⟨sE, hsE⟩ : ∃ s, s = mkB (Lib.decDigits E) := ⟨_, rfl⟩
    obtain ⟨sQ, hsQ⟩ : ∃ s, s = mkB (Lib.decDigits Q) := ⟨_, rfl⟩
    obtain ⟨sF, hsF⟩ : ∃ s, s = flagB b := ⟨_, rfl⟩
    have hzE : sE.size ≤ 7 := by rw [hsE, mkB_size]; exact hdE
    have hzQ : sQ.size ≤ 7 := by rw [hsQ, mkB_size]; exact hdQ
    have hzF : sF.size = 1 := by rw [hsF]; unfold flagB; rw [mkB_size]; rfl
    have hz32 : (⟨#[32]⟩ : ByteArray).size = 1 := rfl
    have hCE : ∀ W, Hid (Calls Tryd.prog 20 #[.int .i64 (E : Int)] W fun r w' => r = .returned (.string sE) ∧ Below W.heap.size W w') := fun W => by rw [hsE]; exact l1Int_any E hE W
    have hCQ : ∀ W, Hid (Calls Tryd.prog 20 #[.int .i64 (Q : Int)] W fun r w' => r = .returned (.string sQ) ∧ Below W.heap.size W w') := fun W => by rw [hsQ]; exact l1Int_any Q hQ W
    have hCF : ∀ W, Hid (Calls Tryd.prog 21 #[.bool b] W fun r w' => r = .returned (.string sF) ∧ W = w') := fun W => by rw [hsF]; exact l13Flag_any b W
    rw [← hsE, ← hsQ, ← hsF] at HLE
    obtain ⟨s1, hs1⟩ : ∃ s, s = sE ++ ⟨#[32]⟩ := ⟨_, rfl⟩
    obtain ⟨s2, hs2⟩ : ∃ s, s = s1 ++ sQ := ⟨_, rfl⟩
    obtain ⟨s3, hs3⟩ : ∃ s, s = s2 ++ ⟨#[32]⟩ := ⟨_, rfl⟩
    obtain ⟨s4, hs4⟩ : ∃ s, s = s3 ++ sF := ⟨_, rfl⟩
    have hz1 : s1.size ≤ 8 := by rw [hs1, ByteArray.size_append]; omega
    have hz2 : s2.size ≤ 15 := by rw [hs2, ByteArray.size_append]; omega
    have hz3 : s3.size ≤ 16 := by rw [hs3, ByteArray.size_append]; omega
    have hz4 : s4.size ≤ 17 := by rw [hs4, ByteArray.size_append]; omega
    have hop1 : ∀ W, (Op.stringOp .add sE ⟨#[32]⟩).run Tryd.prog W = .ok (.string s1) W := fun W => by rw [hs1]; exact run_string_add_sum _ _ _ (by omega)
    have hop2 : ∀ W, (Op.stringOp .add s1 sQ).run Tryd.prog W = .ok (.string s2) W := fun W => by rw [hs2]; exact run_string_add_sum _ _ _ (by omega)
    have hop3 : ∀ W, (Op.stringOp .add s2 ⟨#[32]⟩).run Tryd.prog W = .ok (.string s3) W := fun W => by rw [hs3]; exact run_string_add_sum _ _ _ (by omega)
    have hop4 : ∀ W, (Op.stringOp .add s3 sF).run Tryd.prog W = .ok (.string s4) W := fun W => by rw [hs4]; exact run_string_add_sum _ _ _ (by omega)
    have hCC : ∀ W, Hid (Calls Tryd.prog 19 #[.string s4] W fun r w' => r = .returned (.string (checked (lineB E Q b))) ∧ Below W.heap.size W w') := fun W => by
      have e4 : s4 = lineB E Q b := by rw [hs4, hs3, hs2, hs1]; exact HLE.out
      rw [← e4]
      exact specChecked_any _ W (by omega)
    clear hs1 hs2 hs3 hs4 HLE
    clear hsE hsQ hsF hdE hdQ
    unfold markV
    go_enter Tryd.func6, Tryd.ntmps6
    go_wp2_with fail
    refine (l13Mark_any _ _ b _).mono ?_
    rw [HIN.out]
    rintro r w1 ⟨rfl, b1⟩
    have HB1 := hide (below_here HB0.out b1)
    have HK1 := hide (block_on HK.out b1)
    have hws := b1.size
    rw [hs0] at hws
    clear b1 HB0 HK hs0
    obtain ⟨c0, c1, c2⟩ := mk_cells HK1.out
    have t0 := fun d os => cell_regrown c0 d os
    have t1 := fun d os => cell_regrown c1 d os
    have t2 := fun d os => cell_regrown c2 d os
    have cE : ∀ d os, Calls Tryd.prog 20 #[.int .i64 (E : Int)] (Go.Sort.grow (redrawn w1 d) os) fun e w'' => e = .returned (.string sE) ∧ ∃ p : Regrown, w'' = Go.Sort.grow (redrawn w1 p.d) p.os := fun d os => Calls.regrown_of ((hCE _).out)
    have cQ : ∀ d os, Calls Tryd.prog 20 #[.int .i64 (Q : Int)] (Go.Sort.grow (redrawn w1 d) os) fun e w'' => e = .returned (.string sQ) ∧ ∃ p : Regrown, w'' = Go.Sort.grow (redrawn w1 p.d) p.os := fun d os => Calls.regrown_of ((hCQ _).out)
    have cF : ∀ d os, Calls Tryd.prog 21 #[.bool b] (Go.Sort.grow (redrawn w1 d) os) fun e w'' => e = .returned (.string sF) ∧ ∃ p : Regrown, w'' = Go.Sort.grow (redrawn w1 p.d) p.os := fun d os => Calls.regrown_of ((hCF _).out.mono fun e w' hh => ⟨hh.1, hh.2 ▸ Below.refl _ _⟩)
    have cC : ∀ d os, Calls Tryd.prog 19 #[.string s4] (Go.Sort.grow (redrawn w1 d) os) fun e w'' => e = .returned (.string (checked (lineB E Q b))) ∧ ∃ p : Regrown, w'' = Go.Sort.grow (redrawn w1 p.d) p.os := fun d os => Calls.regrown_of ((hCC _).out)
    clear hCE hCQ hCF hCC hzE hzQ hzF hz32 hz1 hz2 hz3 hz4
    go_wp2_with fail
    refine wp_region_quiet_below (by kernel_rfl) (by kernel_rfl) ?_
    repeat (go_big_quiet_step (first | (go_at_call 20; with_reducible exact cE _ _) | (go_at_call 20; with_reducible exact cQ _ _) | (go_at_call 21; exact cF _ _) | (go_at_call 19; exact cC _ _)))
    refine wpQuiet_nil ?_
    intro _ hw'
    obtain ⟨⟨dq, osq⟩, hw''⟩ := hw'
    subst hw''
    have HR3 := hide (below_here HB1.out (below_regrown w1 dq osq))
    go_wp2_with fail
    go_ret
    exact ⟨by rw [HE.out]; rfl, HR3.out⟩
end Go.Proofs.YteooaljhdmmooaaDoor
