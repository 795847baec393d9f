/- Chapter 15's program: tellsNoPut, NoteOk. -/
import Derived.Test.YthldcfiemfccpaaDoorRChipOwn2
import Derived.Test.YthldcfiemfccpaaDoorRLogSpecE
import Derived.Test.YthldcfiemfccpaaDoorRMarkMath
import Derived.Test.YthldcfiemfccpaaDoorRLogSpecD
namespace Go.Proofs.YthldcfiemfccpaaDoor
open Go.RowKit
set_option linter.unusedVariables false
set_option linter.unusedSimpArgs false
set_option maxRecDepth 20000

def noPut (a : Int) (tx : ByteArray) : Bool := decide (a = 0) && decide (tx = ByteArray.empty)
set_option maxHeartbeats 800000 in
theorem tellsNoPut_any (k tt e s a : Int) (tx : ByteArray) (av : Option Addr) (n cap : Nat) (w : World) :
    Calls Tryd.prog 35 #[.agg #[.int .i64 k, .int .i64 tt, .int .i64 e, .int .i64 s, .int .i64 a, .string tx, .slice av n cap]] w fun r w' => r = .returned (.bool (noPut a tx)) ∧ Below w.heap.size w w' := by
  have HB0 : Hid (Below w.heap.size w (w.alloc (.cells #[.int .i64 k, .int .i64 tt, .int .i64 e, .int .i64 s, .int .i64 a, .string tx, .slice av n cap] 27))) := (Below.refl _ _).alloc (Nat.le_refl _) _
  by_cases ha : a = 0
  · subst ha
    by_cases htx : tx = ⟨#[]⟩
    · subst htx
      have hbt := text_same (⟨#[]⟩ : ByteArray)
      go_enter Tryd.func35, Tryd.ntmps35
      go_wp2_with fail
      go_ret
      exact ⟨rfl, HB0.out⟩
    · have hbt : ¬ tx.toList = [] := empty_list htx
      have hbt2 : (tx.toList == []) = false := by rw [beq_eq_false_iff_ne]; exact hbt
      have HE : Hid (noPut 0 tx = false) := by show _ = _; unfold noPut; simp; exact htx
      go_enter Tryd.func35, Tryd.ntmps35
      go_wp2_with fail
      go_ret
      exact ⟨by rw [HE.out]; rfl, HB0.out⟩
  · have hab : (a == 0) = false := by simp [ha]
    have HE : Hid (noPut a tx = false) := by show _ = _; unfold noPut; simp [ha]
    go_enter Tryd.func35, Tryd.ntmps35
    go_wp2_with fail
    go_ret
    exact ⟨by rw [HE.out]; rfl, HB0.out⟩

theorem valuesOk_none {vs : List ByteArray} (h : vs.length = 0) : valuesOk vs = true := by
  rw [List.length_eq_zero_iff.1 h]; rfl
theorem noteOk_mark {k tt e s a : Int} {tx : ByteArray} {vs : List ByteArray} (h : miIn (e, s, false) = false) : noteOk ⟨k, tt, e, s, a, tx, vs⟩ = false := by
  simp only [miIn, Bool.and_eq_false_iff, decide_eq_false_iff_not] at h
  cases hx : noteOk ⟨k, tt, e, s, a, tx, vs⟩ with
  | false => rfl
  | true =>
    exfalso
    simp only [noteOk, ntNum, inB, Bool.and_eq_true, decide_eq_true_eq] at hx
    omega
theorem noteOk_to {k tt e s a : Int} {tx : ByteArray} {vs : List ByteArray} (h : tt < 0 ∨ 1 < tt) : noteOk ⟨k, tt, e, s, a, tx, vs⟩ = false := by
  cases hx : noteOk ⟨k, tt, e, s, a, tx, vs⟩ with
  | false => rfl
  | true =>
    exfalso
    simp only [noteOk, ntNum, inB, Bool.and_eq_true, decide_eq_true_eq] at hx
    omega
theorem noteOk_rest {k tt e s a : Int} {tx : ByteArray} {vs : List ByteArray} (h : miIn (e, s, false) = true) (h1 : 0 ≤ tt) (h2 : tt ≤ 1) : noteOk ⟨k, tt, e, s, a, tx, vs⟩ = (inB k 1 3 && (inB a 0 63 && (decide (tx.size ≤ 24) && valuesOk vs)) && ntKind ⟨k, tt, e, s, a, tx, vs⟩) := by
  simp only [miIn, Bool.and_eq_true, decide_eq_true_eq] at h
  have e1 : inB tt 0 1 = true := by simp [inB, h1, h2]
  have e2 : inB e 0 1000000 = true := by simp [inB]; omega
  have e3 : inB s 0 1000000 = true := by simp [inB]; omega
  unfold noteOk ntNum
  simp only [e1, e2, e3, Bool.true_and]
theorem noteOk_put {tt e s a : Int} {tx : ByteArray} {vs : List ByteArray} (h : miIn (e, s, false) = true) (h1 : 0 ≤ tt) (h2 : tt ≤ 1) : noteOk ⟨1, tt, e, s, a, tx, vs⟩ = (decide (0 ≤ a) && decide (a < 64) && decide (tx.size ≤ 24) && decide (vs.length = 0)) := by
  rw [noteOk_rest h h1 h2]
  by_cases hv : vs.length = 0
  · rw [valuesOk_none hv]
    rw [Bool.eq_iff_iff]
    simp [inB, ntKind, hv]
    omega
  · rw [decide_eq_false hv]
    simp [ntKind, hv]
theorem noteOk_copy {tt e s a : Int} {tx : ByteArray} {vs : List ByteArray} (h : miIn (e, s, false) = true) (h1 : 0 ≤ tt) (h2 : tt ≤ 1) : noteOk ⟨2, tt, e, s, a, tx, vs⟩ = (noPut a tx && valuesOk vs) := by
  rw [noteOk_rest h h1 h2]
  by_cases ha : a = 0 <;> by_cases ht : tx = ByteArray.empty
  · subst ha; subst ht; simp [inB, ntKind, noPut]
  · simp [ntKind, noPut, ht]
  · simp [ntKind, noPut, ha]
  · simp [ntKind, noPut, ha]
theorem noteOk_have {tt e s a : Int} {tx : ByteArray} {vs : List ByteArray} (h : miIn (e, s, false) = true) (h1 : 0 ≤ tt) (h2 : tt ≤ 1) : noteOk ⟨3, tt, e, s, a, tx, vs⟩ = (noPut a tx && decide (vs.length = 0)) := by
  rw [noteOk_rest h h1 h2]
  by_cases ha : a = 0 <;> by_cases ht : tx = ByteArray.empty
  · subst ha; subst ht
    by_cases hv : vs.length = 0
    · rw [valuesOk_none hv]; simp [inB, ntKind, noPut, hv]
    · simp [inB, ntKind, noPut, hv]
  · simp [ntKind, noPut, ht]
  · simp [ntKind, noPut, ha]
  · simp [ntKind, noPut, ha]
theorem noteOk_else {k tt e s a : Int} {tx : ByteArray} {vs : List ByteArray} (h1 : ¬ k = 1) (h2 : ¬ k = 2) (h3 : ¬ k = 3) : noteOk ⟨k, tt, e, s, a, tx, vs⟩ = false := by
  cases hx : noteOk ⟨k, tt, e, s, a, tx, vs⟩ with
  | false => rfl
  | true =>
    exfalso
    simp only [noteOk, ntNum, inB, Bool.and_eq_true, decide_eq_true_eq] at hx
    omega

set_option maxHeartbeats 3200000 in
theorem implNoteOk_any (k tt e s a : Int) (tx : ByteArray) (vs : List ByteArray) (av : Option Addr) (n cap : Nat) (w : World) {lo hi : Nat} (h : Texts lo hi w av n vs) (hn : n ≤ 1048576) (hts : ∀ y ∈ vs, y.size ≤ 1048576) (hx : tx.size ≤ maxLen) :
    Calls Tryd.prog 19 #[.agg #[.int .i64 k, .int .i64 tt, .int .i64 e, .int .i64 s, .int .i64 a, .string tx, .slice av n cap]] w fun r w' => r = .returned (.bool (noteOk ⟨k, tt, e, s, a, tx, vs⟩)) ∧ Below w.heap.size w w' := by
  obtain ⟨wA, hwA⟩ : ∃ wA, wA = w.alloc (.cells #[.int .i64 k, .int .i64 tt, .int .i64 e, .int .i64 s, .int .i64 a, .string tx, .slice av n cap] 27) := ⟨_, rfl⟩
  have HBA : Hid (Below w.heap.size w wA) := by rw [hwA]; exact (Below.refl _ _).alloc (Nat.le_refl _) _
  have H0 : Hid (wA.heap[w.heap.size]? = some (.cells #[.int .i64 k, .int .i64 tt, .int .i64 e, .int .i64 s, .int .i64 a, .string tx, .slice av n cap] 27)) := by rw [hwA]; exact heap_new _ _
  have HT := hide (h.later HBA.out h.2.1)
  have HL := hide h.1
  have HTS := hide hts
  clear h hts
  obtain ⟨c0, c1, c2, c3, c4, c5, c6⟩ := note_cells H0.out
  go_enter Tryd.func19, Tryd.ntmps19
  go_upto_region 1 with fail
  rw [← hwA]
  clear hwA
  by_cases h1 : tt < 0
  · have HE : Hid (noteOk ⟨k, tt, e, s, a, tx, vs⟩ = false) := noteOk_to (.inl h1)
    go_wp2_with fail
    go_ret
    exact ⟨by rw [HE.out]; rfl, HBA.out⟩
  · by_cases h2 : 1 < tt
    · have HE : Hid (noteOk ⟨k, tt, e, s, a, tx, vs⟩ = false) := noteOk_to (.inr h2)
      go_wp2_with fail
      go_ret
      exact ⟨by rw [HE.out]; rfl, HBA.out⟩
    · go_wp2_with fail
      refine (isMark_any e s false _).mono ?_
      cases hm : miIn (e, s, false)
      · have HE : Hid (noteOk ⟨k, tt, e, s, a, tx, vs⟩ = false) := noteOk_mark hm
        rintro r w1 ⟨rfl, b1⟩
        have HB1 := hide (below_here HBA.out b1)
        clear b1 c0 c1 c2 c3 c4 c5 c6
        go_wp2_with fail
        go_ret
        exact ⟨by rw [HE.out]; rfl, HB1.out⟩
      · rintro r w1 ⟨rfl, b1⟩
        have HB1 := hide (below_here HBA.out b1)
        have H1 := hide (block_on H0.out b1)
        have HT1 := hide (HT.out.later b1 HT.out.2.1)
        clear b1 c0 c1 c2 c3 c4 c5 c6 HBA H0 HT
        have HM := hide hm
        clear hm
        obtain ⟨c0, c1, c2, c3, c4, c5, c6⟩ := note_cells H1.out
        by_cases k1 : k = 1
        · subst k1
          have HE := hide (noteOk_put (a := a) (tx := tx) (vs := vs) HM.out (by omega) (by omega : tt ≤ 1))
          by_cases a1 : 0 ≤ a
          · by_cases a2 : a < 64
            · by_cases a3 : (tx.size : Int) ≤ 24
              · rcases Nat.eq_zero_or_pos n with h0 | h0
                · subst h0
                  go_wp2_with fail
                  go_ret
                  exact ⟨by rw [HE.out, decide_eq_true a1, decide_eq_true a2, decide_eq_true (by omega : tx.size ≤ 24), decide_eq_true HL.out]; rfl, HB1.out⟩
                · have hnb : ((n : Int) == 0) = false := by simp; omega
                  go_wp2_with fail
                  go_ret
                  exact ⟨by rw [HE.out, HL.out, decide_eq_false (by omega : ¬ n = 0), Bool.and_false]; rfl, HB1.out⟩
              · go_wp2_with fail
                go_ret
                exact ⟨by rw [HE.out, decide_eq_false (by omega : ¬ tx.size ≤ 24), Bool.and_false, Bool.false_and]; rfl, HB1.out⟩
            · go_wp2_with fail
              go_ret
              exact ⟨by rw [HE.out, decide_eq_false (by omega : ¬ a < 64), Bool.and_false, Bool.false_and, Bool.false_and]; rfl, HB1.out⟩
          · go_wp2_with fail
            go_ret
            exact ⟨by rw [HE.out, decide_eq_false (by omega : ¬ 0 ≤ a), Bool.false_and, Bool.false_and, Bool.false_and]; rfl, HB1.out⟩
        · have kb1 : (k == 1) = false := by simp [k1]
          by_cases k2 : k = 2
          · subst k2
            have HE := hide (noteOk_copy (a := a) (tx := tx) (vs := vs) HM.out (by omega) (by omega : tt ≤ 1))
            go_wp2_with fail
            refine (tellsNoPut_any _ _ _ _ _ _ _ _ _ _).mono ?_
            cases hp : noPut a tx
            · rintro r w2 ⟨rfl, b2⟩
              have HB2 := hide (below_here HB1.out b2)
              clear b2 c0 c1 c2 c3 c4 c5 c6
              go_wp2_with fail
              go_ret
              exact ⟨by rw [HE.out, hp]; rfl, HB2.out⟩
            · rintro r w2 ⟨rfl, b2⟩
              have HB2 := hide (below_here HB1.out b2)
              have H2 := hide (block_on H1.out b2)
              have HT2 := hide (HT1.out.later b2 HT1.out.2.1)
              clear b2 c0 c1 c2 c3 c4 c5 c6 HB1 H1 HT1
              obtain ⟨c0, c1, c2, c3, c4, c5, c6⟩ := note_cells H2.out
              go_wp2_with fail
              refine (areValues_any av n cap vs _ HT2.out hn HTS.out).mono ?_
              rintro r w3 ⟨rfl, rfl⟩
              go_wp2_with fail
              go_ret
              exact ⟨by rw [HE.out, hp]; rfl, HB2.out⟩
          · have kb2 : (k == 2) = false := by simp [k2]
            by_cases k3 : k = 3
            · subst k3
              have HE := hide (noteOk_have (a := a) (tx := tx) (vs := vs) HM.out (by omega) (by omega : tt ≤ 1))
              go_wp2_with fail
              refine (tellsNoPut_any _ _ _ _ _ _ _ _ _ _).mono ?_
              cases hp : noPut a tx
              · rintro r w2 ⟨rfl, b2⟩
                have HB2 := hide (below_here HB1.out b2)
                clear b2 c0 c1 c2 c3 c4 c5 c6
                go_wp2_with fail
                go_ret
                exact ⟨by rw [HE.out, hp]; rfl, HB2.out⟩
              · rintro r w2 ⟨rfl, b2⟩
                have HB2 := hide (below_here HB1.out b2)
                have H2 := hide (block_on H1.out b2)
                clear b2 c0 c1 c2 c3 c4 c5 c6 HB1 H1
                obtain ⟨c0, c1, c2, c3, c4, c5, c6⟩ := note_cells H2.out
                rcases Nat.eq_zero_or_pos n with h0 | h0
                · subst h0
                  go_wp2_with fail
                  go_ret
                  exact ⟨by rw [HE.out, hp, decide_eq_true HL.out]; rfl, HB2.out⟩
                · have hnb : ((n : Int) == 0) = false := by simp; omega
                  go_wp2_with fail
                  go_ret
                  exact ⟨by rw [HE.out, HL.out, decide_eq_false (by omega : ¬ n = 0), Bool.and_false]; rfl, HB2.out⟩
            · have kb3 : (k == 3) = false := by simp [k3]
              have HE : Hid (noteOk ⟨k, tt, e, s, a, tx, vs⟩ = false) := noteOk_else k1 k2 k3
              go_wp2_with fail
              go_ret
              exact ⟨by rw [HE.out]; rfl, HB1.out⟩
end Go.Proofs.YthldcfiemfccpaaDoor
