/- Chapter 13's program: isMark, ShowMark, copyOfTexts. -/
import Derived.Test.YteooaljhdmmooaaDoorMDFmtShelf
import Derived.Test.YteooaljhdmmooaaDoorMDMarkImplC
import Derived.Test.YteooaljhdmmooaaDoorMDMarkSpecA
import Derived.Test.YteooaljhdmmooaaDoorMDTextWalk
import Derived.Test.YteooaljhdmmooaaDoorMDCloneW
import Derived.Deep.Cut
import Derived.Lib.QuietBelow
import Derived.BigQuiet
namespace Go.Proofs.YteooaljhdmmooaaDoor
open Go.RowKit
set_option linter.unusedVariables false
set_option linter.unusedSimpArgs false
set_option maxRecDepth 20000

set_option maxHeartbeats 800000 in
theorem isMark_any (e q : Int) (b : Bool) (w : World) :
    Calls Tryd.prog 22 #[markV e q b] w fun r w' => r = .returned (.bool (miIn (e, q, b))) ∧ Below w.heap.size w w' := by
  have HB0 : Hid (Below w.heap.size w (w.alloc (.cells #[.int .i64 e, .int .i64 q, .bool b] 25))) := (Below.refl _ _).alloc (Nat.le_refl _) _
  unfold markV
  by_cases h1 : 0 ≤ e
  · by_cases h2 : e ≤ 1000000
    · by_cases h3 : 0 ≤ q
      · go_enter Tryd.func22, Tryd.ntmps22
        go_wp2_with fail
        go_ret
        exact ⟨by simp [miIn, h1, h2, h3] <;> omega, HB0.out⟩
      · go_enter Tryd.func22, Tryd.ntmps22
        go_wp2_with fail
        go_ret
        exact ⟨by simp [miIn, h1, h2, h3] <;> omega, HB0.out⟩
    · go_enter Tryd.func22, Tryd.ntmps22
      go_wp2_with fail
      go_ret
      exact ⟨by simp [miIn, h1, h2] <;> omega, HB0.out⟩
  · go_enter Tryd.func22, Tryd.ntmps22
    go_wp2_with fail
    go_ret
    exact ⟨by simp [miIn, h1] <;> omega, HB0.out⟩

set_option maxHeartbeats 1600000 in
theorem implShowMark_any (e q : Int) (b : Bool) (w : World) (hP : Pow w) :
    Calls Tryd.prog 8 #[markV e q b] w fun r w' => r = .returned (.string (showF (e, q, b))) ∧ Below w.heap.size w w' := by
  have HB0 : Hid (Below w.heap.size w (w.alloc (.cells #[.int .i64 e, .int .i64 q, .bool b] 25))) := (Below.refl _ _).alloc (Nat.le_refl _) _
  have HK : Hid ((w.alloc (.cells #[.int .i64 e, .int .i64 q, .bool b] 25)).heap[w.heap.size]? = some (.cells #[.int .i64 e, .int .i64 q, .bool b] 25)) := heap_new _ _
  have HP := hide hP
  clear hP
  cases hin : miIn (e, q, b)
  · have HE : Hid (showF (e, q, b) = ⟨#[]⟩) := by show _ = _; unfold showF; rw [hin]; rfl
    unfold markV
    go_enter Tryd.func8, Tryd.ntmps8
    go_wp2_with fail
    refine (isMark_any e q b _).mono ?_
    rw [hin]
    rintro r w1 ⟨rfl, b1⟩
    have HB1 := hide (below_here HB0.out b1)
    clear b1
    go_wp2_with fail
    go_ret
    exact ⟨by rw [HE.out]; rfl, HB1.out⟩
  · obtain ⟨E, Q, rfl, rfl, hE, hQ⟩ : ∃ E Q : Nat, e = (E : Int) ∧ q = (Q : Int) ∧ E ≤ 1000000 ∧ Q ≤ 1000000 := by
      simp only [miIn, Bool.and_eq_true, decide_eq_true_eq] at hin
      exact ⟨e.toNat, q.toNat, by omega, by omega, by omega, by omega⟩
    have HE : Hid (showF ((E : Int), (Q : Int), b) = checked (lineB E Q b)) := by show _ = _; unfold showF; rw [hin]; rfl
    have HLE := hide (line_parts E Q b)
    have hdE := dec_len hE
    have hdQ := dec_len hQ
    have HIN := hide hin
    clear hin
    obtain ⟨sE, hsE⟩ : ∃ s, s = mkB (Lib.decDigits E) := ⟨_, rfl⟩
    obtain ⟨sQ, hsQ⟩ : ∃ s, s = mkB (Lib.decDigits Q) := ⟨_, rfl⟩
    obtain ⟨sF, hsF⟩ : ∃ s, s = flagB b := ⟨_, rfl⟩
    have hzE : sE.size ≤ 7 := by rw [hsE, mkB_size]; exact hdE
    have hzQ : sQ.size ≤ 7 := by rw [hsQ, mkB_size]; exact hdQ
    have hzF : sF.size = 1 := by rw [hsF]; unfold flagB; rw [mkB_size]; rfl
    have hz32 : (⟨#[32]⟩ : ByteArray).size = 1 := rfl
    have hCE : ∀ W, Hid (Pow W → Calls Tryd.prog 24 #[.int .i64 (E : Int), .int .i64 10] W fun r w' => r = .returned (.string sE) ∧ Below W.heap.size W w') := fun W hp => by rw [hsE]; exact fmt_any E hE W hp
    have hCQ : ∀ W, Hid (Pow W → Calls Tryd.prog 24 #[.int .i64 (Q : Int), .int .i64 10] W fun r w' => r = .returned (.string sQ) ∧ Below W.heap.size W w') := fun W hp => by rw [hsQ]; exact fmt_any Q hQ W hp
    rw [← hsE, ← hsQ, ← hsF] at HLE
    obtain ⟨s1, hs1⟩ : ∃ s, s = sE ++ ⟨#[32]⟩ := ⟨_, rfl⟩
    obtain ⟨s2, hs2⟩ : ∃ s, s = s1 ++ sQ := ⟨_, rfl⟩
    obtain ⟨s3, hs3⟩ : ∃ s, s = s2 ++ ⟨#[32]⟩ := ⟨_, rfl⟩
    obtain ⟨s4, hs4⟩ : ∃ s, s = s3 ++ sF := ⟨_, rfl⟩
    have hz1 : s1.size ≤ 8 := by rw [hs1, ByteArray.size_append]; omega
    have hz2 : s2.size ≤ 15 := by rw [hs2, ByteArray.size_append]; omega
    have hz3 : s3.size ≤ 16 := by rw [hs3, ByteArray.size_append]; omega
    have hz4 : s4.size ≤ 17 := by rw [hs4, ByteArray.size_append]; omega
    have hop1 : ∀ W, (Op.stringOp .add sE ⟨#[32]⟩).run Tryd.prog W = .ok (.string s1) W := fun W => by rw [hs1]; exact run_string_add_sum _ _ _ (by omega)
    have hop2 : ∀ W, (Op.stringOp .add s1 sQ).run Tryd.prog W = .ok (.string s2) W := fun W => by rw [hs2]; exact run_string_add_sum _ _ _ (by omega)
    have hop3 : ∀ W, (Op.stringOp .add s2 ⟨#[32]⟩).run Tryd.prog W = .ok (.string s3) W := fun W => by rw [hs3]; exact run_string_add_sum _ _ _ (by omega)
    have hop4 : ∀ W, (Op.stringOp .add s3 sF).run Tryd.prog W = .ok (.string s4) W := fun W => by rw [hs4]; exact run_string_add_sum _ _ _ (by omega)
    have hCC : ∀ W, Hid (Calls Tryd.prog 23 #[.string s4] W fun r w' => r = .returned (.string (checked (lineB E Q b))) ∧ Below W.heap.size W w') := fun W => by
      have e4 : s4 = lineB E Q b := by rw [hs4, hs3, hs2, hs1]; exact HLE.out
      rw [← e4]
      exact implChecked_any _ W (by omega)
    clear hs1 hs2 hs3 hs4 HLE
    clear hsE hsQ hdE hdQ
    unfold markV
    go_enter Tryd.func8, Tryd.ntmps8
    go_wp2_with fail
    refine (isMark_any _ _ b _).mono ?_
    rw [HIN.out]
    rintro r w1 ⟨rfl, b1⟩
    have HB1 := hide (below_here HB0.out b1)
    have HK1 := hide (block_on HK.out b1)
    have HP1 := hide (HP.out.here HB1.out)
    clear b1 HB0 HK HP
    obtain ⟨c0, c1, c2⟩ := mk_cells HK1.out
    have t0 := fun d os => cell_regrown c0 d os
    have t1 := fun d os => cell_regrown c1 d os
    have t2 := fun d os => cell_regrown c2 d os
    have cE : ∀ d os, Calls Tryd.prog 24 #[.int .i64 (E : Int), .int .i64 10] (Go.Sort.grow (redrawn w1 d) os) fun e w'' => e = .returned (.string sE) ∧ ∃ p : Regrown, w'' = Go.Sort.grow (redrawn w1 p.d) p.os := fun d os => Calls.regrown_of ((hCE _).out (HP1.out.here (below_regrown w1 d os)))
    have cQ : ∀ d os, Calls Tryd.prog 24 #[.int .i64 (Q : Int), .int .i64 10] (Go.Sort.grow (redrawn w1 d) os) fun e w'' => e = .returned (.string sQ) ∧ ∃ p : Regrown, w'' = Go.Sort.grow (redrawn w1 p.d) p.os := fun d os => Calls.regrown_of ((hCQ _).out (HP1.out.here (below_regrown w1 d os)))
    have cC : ∀ d os, Calls Tryd.prog 23 #[.string s4] (Go.Sort.grow (redrawn w1 d) os) fun e w'' => e = .returned (.string (checked (lineB E Q b))) ∧ ∃ p : Regrown, w'' = Go.Sort.grow (redrawn w1 p.d) p.os := fun d os => Calls.regrown_of ((hCC _).out)
    clear hCE hCQ hCC hzE hzQ hzF hz32 hz1 hz2 hz3 hz4
    cases b <;>
    · unfold flagB mkB at hsF
      simp only [if_true, if_false, Bool.false_eq_true] at hsF
      subst hsF
      go_wp2_with fail
      refine wp_region_quiet_below (by kernel_rfl) (by kernel_rfl) ?_
      repeat (go_big_quiet_step (first | (go_at_call 24; with_reducible exact cE _ _) | (go_at_call 24; with_reducible exact cQ _ _) | (go_at_call 23; exact cC _ _)))
      refine wpQuiet_nil ?_
      intro _ hw'
      obtain ⟨⟨dq, osq⟩, hw''⟩ := hw'
      subst hw''
      have HR3 := hide (below_here HB1.out (below_regrown w1 dq osq))
      go_wp2_with fail
      go_ret
      exact ⟨by rw [HE.out]; rfl, HR3.out⟩

set_option maxHeartbeats 800000 in
theorem copyOfTexts_any (a : Option Addr) (n cap : Nat) (xs : List ByteArray) (w : World) {lo hi : Nat} (h : Texts lo hi w a n xs) (hn : n ≤ 1048576) (hts : ∀ s ∈ xs, s.size ≤ 1048576) :
    Calls Tryd.prog 28 #[.slice a n cap] w fun e w' => ∃ a', e = .returned (.slice a' n n) ∧ OwnTexts w.heap.size w'.heap.size w' a' n xs ∧ Below w.heap.size w w' := by
  obtain ⟨hl, hsz, hx⟩ := h
  have HL : Hid (xs.length = n) := hl
  have HTS := hide hts
  clear hl hts
  have hmk := run_make_row' (P := Tryd.prog) 28 9 (.string ByteArray.empty) 16 Tryd.underlying28 Tryd.infoStr rfl .i64 .i64 n (by omega) (by omega)
  go_enter Tryd.func28, Tryd.ntmps28
  go_wp2
  go_loopw [11] (fun i wr => ∃ k : Nat, k ≤ n ∧ i = .int .i64 k ∧ wr.rowIs w.heap.size 9 n (fun i => if i < k then cellT xs i else .string ByteArray.empty) ∧ Below w.heap.size w wr) (fun i _ => n - (intOf i).toNat)
  case atStart => exact ⟨0, Nat.zero_le _, rfl, (World.rowIs_made w (.string ByteArray.empty) n 9).congr (fun _ _ => by simp), (Below.refl _ _).alloc (Nat.le_refl _) _⟩
  case round =>
    obtain ⟨k, hk, rfl, hrow, hbel⟩ := hrel
    by_cases hlt : k < n
    · obtain ⟨b, off, rfl, _, hb, hc⟩ := hx (by omega)
      have hck : wr.cell? ⟨b, off + k, none⟩ = some (.string (xs.getD k ByteArray.empty)) := (hbel.cell (p := ⟨b, off + k, none⟩) (by show b < _; omega)).trans (hc k hlt)
      clear hc hx
      obtain ⟨z, hz⟩ : ∃ z, z = xs.getD k ByteArray.empty := ⟨_, rfl⟩
      have hzs : z.size ≤ 1048576 := HTS.out _ (by
        rw [hz, List.getD_eq_getElem?_getD, List.getElem?_eq_getElem (by rw [HL.out]; exact hlt)]
        exact List.getElem_mem _)
      rw [← hz] at hck
      have HZ : Hid (z = xs.getD k ByteArray.empty) := hz
      have HRW := hide hrow
      have HBL := hide hbel
      clear hz hrow hbel
      go_wp2_with fail
      refine (cloneT_any z wr hzs).mono ?_
      rintro e w2 ⟨rfl, b2⟩
      have hrow := HRW.out.of_block (b2.block _ HRW.out.lt)
      have hbel := below_here HBL.out b2
      have hco := hrow.cell hlt
      have hfo := hrow.frozen k
      have hR := (hrow.set k (.string z)).congr (g := fun i => if i < k + 1 then cellT xs i else .string ByteArray.empty) (fun j hj => rowT_step xs k j _ (by rw [HZ.out]; rfl))
      have hB := hbel.setCell (p := ⟨w.heap.size, k, none⟩) (Nat.le_refl _) (.string z)
      have HR := hide (hR)
      have HB := hide (hB)
      clear hR hB hrow hbel b2 HRW HBL hck
      go_wp2
      go_roundw
      case rel => exact ⟨k + 1, by omega, by go_num, HR.out, HB.out⟩
      case measure => simp [intOf]; omega
    · go_wp2
      go_ret
      have hs := hrow.lt
      exact ⟨_, rfl, ⟨HL.out, owned_of_row (hrow.congr (fun i hi => if_pos (by omega))) (Nat.le_refl _) hs (Nat.le_refl _)⟩, hbel⟩
end Go.Proofs.YteooaljhdmmooaaDoor
