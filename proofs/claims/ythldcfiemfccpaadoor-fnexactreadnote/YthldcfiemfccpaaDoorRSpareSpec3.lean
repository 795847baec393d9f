/- Several texts in one: SpareSpec3, NoteLaw, NoteLaw2. -/
import Derived.Test.YthldcfiemfccpaaDoorRPutOwn
import Derived.Test.YthldcfiemfccpaaDoorRDrawBase
import Derived.Test.YthldcfiemfccpaaDoorRChipOwn2
import Derived.Test.YthldcfiemfccpaaDoorRTextWalk
import Derived.Test.YthldcfiemfccpaaDoorRTextBase
section
namespace Go.Proofs.YthldcfiemfccpaaDoor
open Go.RowKit
set_option linter.unusedVariables false
set_option linter.unusedSimpArgs false
set_option maxRecDepth 20000

/-- What Spares tells. -/
def sparesT (ts : List ByteArray) (d : Int) : List ByteArray := if columnsOk ts = true ∧ inB d 1 4 = true then (List.range d.toNat).map (spareT ts) else []
theorem sparesT_no {ts : List ByteArray} {d : Int} (h : columnsOk ts = false ∨ inB d 1 4 = false) : sparesT ts d = [] := by
  unfold sparesT
  rw [if_neg]
  rintro ⟨h1, h2⟩
  rcases h with h | h
  · rw [h] at h1; cases h1
  · rw [h] at h2; cases h2
theorem sparesT_yes {ts : List ByteArray} {D : Nat} (h : columnsOk ts = true) (h1 : 1 ≤ D) (h4 : D ≤ 4) : sparesT ts (D : Int) = (List.range D).map (spareT ts) := by
  unfold sparesT
  rw [if_pos ⟨h, by simp [inB]; omega⟩]; simp
theorem strV_one (s : ByteArray) : ∀ u ∈ [Value.string s], u.oneCell' = true := by
  intro u hu; simp only [List.mem_singleton] at hu; subst hu; rfl
/-- What an appended slice of texts owns, told by its cells. -/
theorem ownTexts_of {w : World} {base B n : Nat} {v : Value} {ts : List ByteArray} (h : w.ownsRow base 9 1 v n (ts.map Value.string)) (hB : B ≤ base) : ∃ a cap, v = .slice a n cap ∧ n ≤ cap ∧ OwnTexts B w.heap.size w a n ts := by
  obtain ⟨a, cap, rfl, hcap, hlen, _, how⟩ := owned_of_own h
  have hl : ts.length = n := by simpa using hlen
  refine ⟨a, cap, rfl, hcap, hl, how.1, fun hn => ?_⟩
  obtain ⟨b, off, rfl, h1, h2, h3⟩ := how.2 hn
  refine ⟨b, off, rfl, by omega, h2, fun i hi => ?_⟩
  obtain ⟨h4, h5⟩ := h3 i hi
  refine ⟨?_, h5⟩
  rw [h4]
  unfold cellT
  dsimp only
  rw [List.getD_eq_getElem?_getD, List.getD_eq_getElem?_getD, List.getElem?_map, List.getElem?_eq_getElem (by omega)]
  rfl

end Go.Proofs.YthldcfiemfccpaaDoor
end

section
namespace Go.Proofs.YthldcfiemfccpaaDoor
open Go.RowKit
set_option linter.unusedVariables false
set_option linter.unusedSimpArgs false
set_option maxRecDepth 20000

set_option maxHeartbeats 1600000 in
theorem szNote_any (k tt e s a : Int) (tx : ByteArray) (vs : List ByteArray) (av : Option Addr) (n cap : Nat) (L : Int) (w : World) {lo hi : Nat} (h : Texts lo hi w av n vs) (hn : n ≤ maxLen) (hts : ∀ y ∈ vs, y.size ≤ maxLen) (hx : tx.size ≤ maxLen) (hL0 : 0 ≤ L) (hL : L ≤ 1048576) :
    Calls Tryd.prog 5 #[.agg #[.int .i64 k, .int .i64 tt, .int .i64 e, .int .i64 s, .int .i64 a, .string tx, .slice av n cap], .int .i64 L] w fun r w' => (∃ q : Int, r = .returned (.int .i64 q) ∧ -1 ≤ q ∧ q ≤ 1048576 ∧ (0 ≤ q → q = L - (tx.size : Int) - (n : Int) - (total vs : Int))) ∧ Below w.heap.size w w' := by
  have HB := hide ((Below.refl w.heap.size w).alloc (Nat.le_refl _) (.cells #[.int .i64 k, .int .i64 tt, .int .i64 e, .int .i64 s, .int .i64 a, .string tx, .slice av n cap] 24))
  have hx2 : tx.size ≤ 9223372036854775807 := by unfold maxLen at hx; omega
  have hh := h.2.1
  go_enter Tryd.func5, Tryd.ntmps5
  by_cases h0 : L - (tx.size : Int) < 0
  · go_wp2_with fail
    go_ret
    exact ⟨⟨-1, rfl, by omega, by omega, by omega⟩, HB.out⟩
  · go_wp2_with fail
    refine (szT_from av n cap vs (L - (tx.size : Int)) _ (h.later HB.out hh) hn hts (by omega) (by omega)).mono ?_
    rintro r w1 ⟨⟨q, rfl, h1, h2, h3⟩, rfl⟩
    have H3 := hide h3
    clear h3
    by_cases hq : q < 0
    · go_wp2_with fail
      go_ret
      exact ⟨⟨-1, rfl, by omega, by omega, by omega⟩, HB.out⟩
    · go_wp2_with fail
      go_ret
      exact ⟨⟨q, rfl, h1, h2, H3.out⟩, HB.out⟩

set_option maxHeartbeats 1600000 in
theorem eqNote_same (k tt e s a : Int) (tx : ByteArray) (vs : List ByteArray) (av av' : Option Addr) (n cap cap' : Nat) (w : World) {lo hi lo' hi' : Nat} (h : Texts lo hi w av n vs) (h' : Texts lo' hi' w av' n vs) (hn : n ≤ 1048576) :
    Calls Tryd.prog 9 #[.agg #[.int .i64 k, .int .i64 tt, .int .i64 e, .int .i64 s, .int .i64 a, .string tx, .slice av n cap], .agg #[.int .i64 k, .int .i64 tt, .int .i64 e, .int .i64 s, .int .i64 a, .string tx, .slice av' n cap']] w fun r w' => r = .returned (.bool true) ∧ Below w.heap.size w w' := by
  obtain ⟨wA, hwA⟩ : ∃ wA, wA = (w.alloc (.cells #[.int .i64 k, .int .i64 tt, .int .i64 e, .int .i64 s, .int .i64 a, .string tx, .slice av n cap] 27)).alloc (.cells #[.int .i64 k, .int .i64 tt, .int .i64 e, .int .i64 s, .int .i64 a, .string tx, .slice av' n cap'] 27) := ⟨_, rfl⟩
  have HBA : Hid (Below w.heap.size w wA) := by rw [hwA]; exact (((Below.refl _ _).alloc (Nat.le_refl _) _).alloc (by simp) _)
  have HTA := hide (h.later HBA.out h.2.1)
  have HTB := hide (h'.later HBA.out h'.2.1)
  have hbt := text_same tx
  clear h h'
  go_enter Tryd.func9, Tryd.ntmps9
  go_wp2_with fail
  rw [← hwA]
  clear hwA
  refine (eqT_any av n cap vs av' n cap' vs wA HTA.out HTB.out hn hn).mono ?_
  rintro r w1 ⟨rfl, b1⟩
  have HB1 := hide (below_here HBA.out b1)
  clear b1
  simp only [decide_true]
  go_wp2_with fail
  go_ret
  exact ⟨rfl, HB1.out⟩

set_option maxHeartbeats 1600000 in
theorem toNote_any (k tt e s a : Int) (tx : ByteArray) (vs : List ByteArray) (av : Option Addr) (n cap : Nat) (w : World) {lo hi : Nat} (h : Texts lo hi w av n vs) (hn : n ≤ 1048576) :
    Calls Tryd.prog 7 #[.agg #[.int .i64 k, .int .i64 tt, .int .i64 e, .int .i64 s, .int .i64 a, .string tx, .slice av n cap]] w fun r w' => ∃ p, r = .returned (.agg #[.int .i64 k, .int .i64 tt, .int .i64 e, .int .i64 s, .int .i64 a, .string tx, .slice p n n]) ∧ OwnTexts w.heap.size w'.heap.size w' p n vs ∧ Below w.heap.size w w' := by
  obtain ⟨wA, hwA⟩ : ∃ wA, wA = ((w.alloc (.cells #[.int .i64 k, .int .i64 tt, .int .i64 e, .int .i64 s, .int .i64 a, .string tx, .slice av n cap] 24)).alloc (.cells #[.int .i64 0, .int .i64 0, .int .i64 0, .int .i64 0, .int .i64 0, .string ⟨#[]⟩, .slice none 0 0] 27)).alloc (.cells #[.int .i64 k, .int .i64 tt, .int .i64 e, .int .i64 s, .int .i64 a, .string tx, .slice none 0 0] 27) := ⟨_, rfl⟩
  have hzA : wA.heap.size = w.heap.size + 1 + 1 + 1 := by rw [hwA]; simp
  have HBA : Hid (Below w.heap.size w wA) := by rw [hwA]; exact ((((Below.refl _ _).alloc (Nat.le_refl _) _).alloc (by simp) _).alloc (by simp; omega) _)
  have H1 : Hid (wA.heap[w.heap.size + 1]? = some (.cells #[.int .i64 0, .int .i64 0, .int .i64 0, .int .i64 0, .int .i64 0, .string ⟨#[]⟩, .slice none 0 0] 27)) := by rw [hwA]; exact heap_old (heap_at (by simp))
  have H2 : Hid (wA.heap[w.heap.size + 1 + 1]? = some (.cells #[.int .i64 k, .int .i64 tt, .int .i64 e, .int .i64 s, .int .i64 a, .string tx, .slice none 0 0] 27)) := by rw [hwA]; exact heap_at (by simp)
  have HTA := hide (h.later HBA.out h.2.1)
  clear h
  go_enter Tryd.func7, Tryd.ntmps7
  go_wp2_with fail
  rw [← hwA]
  clear hwA
  refine (toT_any av n cap vs wA HTA.out hn).mono ?_
  rintro r w1 ⟨p, rfl, hown, b1⟩
  have K1 := hide (block_on H1.out b1)
  have K2 := hide (block_on H2.out b1)
  have hs1 := b1.size
  have HB1 := hide (below_here HBA.out b1)
  obtain ⟨d0, d1, d2, d3, d4, d5, d6⟩ := note_cells K1.out
  obtain ⟨e0, e1, e2, e3, e4, e5, e6⟩ := note_cells K2.out
  have f0 := four_frozen K1.out 0
  have f1 := four_frozen K1.out 1
  have f2 := four_frozen K1.out 2
  have f3 := four_frozen K1.out 3
  have f4 := four_frozen K1.out 4
  have f5 := four_frozen K1.out 5
  have f6 := four_frozen K1.out 6
  have g6 := four_frozen K2.out 6
  have HOW := hide hown
  clear hown b1 H1 H2 HTA
  have HAS := hide (note_aside (b := w.heap.size + 1) ((Aside.refl w.heap.size (w.heap.size + 3) w1).setCell (p := ⟨w.heap.size + 1 + 1, 6, none⟩) (by simp; omega) (by simp) (.slice p n n)) (by omega) (by omega) (.int .i64 k) (.int .i64 tt) (.int .i64 e) (.int .i64 s) (.int .i64 a) (.string tx) (.slice p n n))
  have HRS := hide (note_set (set_other K1.out (show w.heap.size + 1 + 1 ≠ w.heap.size + 1 by omega) (o := 6) (.slice p n n)) (.int .i64 k) (.int .i64 tt) (.int .i64 e) (.int .i64 s) (.int .i64 a) (.string tx) (.slice p n n))
  clear K1 K2
  go_wp2_with fail
  have hsz := HAS.out.size
  refine bodyPost_ret (results_cell rfl rfl (run_loadVar_row _ _ _ _ _ _ _ HRS.out Tryd.underlying27 rfl (by kernel_rfl))) rfl ⟨p, rfl, own_end (own_wide (HOW.out.aside HAS.out (.inr (by omega))) (by omega)), HB1.out.trans (HAS.out.below (Nat.le_refl _) (by omega))⟩
end Go.Proofs.YthldcfiemfccpaaDoor
end

section
namespace Go.Proofs.YthldcfiemfccpaaDoor
open Go.RowKit
set_option linter.unusedVariables false
set_option linter.unusedSimpArgs false
set_option maxRecDepth 20000

theorem aside_below2 {w w' : World} {lo hi : Nat} (h : Below w.heap.size w w') : Aside lo hi w w' := ⟨h.os, h.tape, h.output, h.size, fun k hk _ => h.block k hk⟩
set_option maxHeartbeats 800000 in
theorem markNote_any (k tt e s a : Int) (tx : ByteArray) (vs : List ByteArray) (av : Option Addr) (n cap : Nat) (w : World) {lo hi : Nat} (h : OwnTexts lo hi w av n vs) (hn : n ≤ 1048576) :
    Calls Tryd.prog 12 #[.agg #[.int .i64 k, .int .i64 tt, .int .i64 e, .int .i64 s, .int .i64 a, .string tx, .slice av n cap], .int .i64 1] w fun r w' => r = .returned (.int .i64 ((1 + n : Nat) : Int)) ∧ OwnTexts lo hi w' av n (marksT 1 n) ∧ Aside lo hi w w' := by
  obtain ⟨wA, hwA⟩ : ∃ wA, wA = w.alloc (.cells #[.int .i64 k, .int .i64 tt, .int .i64 e, .int .i64 s, .int .i64 a, .string tx, .slice av n cap] 27) := ⟨_, rfl⟩
  have HBA : Hid (Below w.heap.size w wA) := by rw [hwA]; exact (Below.refl _ _).alloc (Nat.le_refl _) _
  have HTA := hide (h.later HBA.out h.2.1)
  have HAA : Hid (Aside lo hi w wA) := aside_below2 HBA.out
  clear h
  go_enter Tryd.func12, Tryd.ntmps12
  go_wp2_with fail
  rw [← hwA]
  clear hwA
  refine (markTS_from av n cap vs 1 wA HTA.out hn (Nat.le_refl _) (by omega)).mono ?_
  rintro r w1 ⟨rfl, ho, ha⟩
  have HO := hide ho
  have HA := hide (HAA.out.trans ha)
  clear ho ha
  go_wp2_with fail
  go_ret
  exact ⟨rfl, HO.out, HA.out⟩
set_option maxHeartbeats 800000 in
theorem heldNote_any (k tt e s a : Int) (tx : ByteArray) (av : Option Addr) (n cap : Nat) (w : World) {lo hi : Nat} (h : Texts lo hi w av n (marksT 1 n)) (hn : n ≤ 1048576) :
    Calls Tryd.prog 13 #[.agg #[.int .i64 k, .int .i64 tt, .int .i64 e, .int .i64 s, .int .i64 a, .string tx, .slice av n cap], .int .i64 1] w fun r w' => r = .returned (.int .i64 ((1 + n : Nat) : Int)) ∧ Below w.heap.size w w' := by
  obtain ⟨wA, hwA⟩ : ∃ wA, wA = w.alloc (.cells #[.int .i64 k, .int .i64 tt, .int .i64 e, .int .i64 s, .int .i64 a, .string tx, .slice av n cap] 27) := ⟨_, rfl⟩
  have HBA : Hid (Below w.heap.size w wA) := by rw [hwA]; exact (Below.refl _ _).alloc (Nat.le_refl _) _
  have HTA := hide (h.later HBA.out h.2.1)
  clear h
  go_enter Tryd.func13, Tryd.ntmps13
  go_wp2_with fail
  rw [← hwA]
  clear hwA
  refine (heldTS_any av n cap 1 wA HTA.out hn (Nat.le_refl _) (by omega)).mono ?_
  rintro r w1 ⟨rfl, b1⟩
  have HB1 := hide (below_here HBA.out b1)
  clear b1
  have hp : ¬ ((1 + n : Nat) : Int) < 0 := by omega
  go_wp2_with fail
  go_ret
  exact ⟨rfl, HB1.out⟩
end Go.Proofs.YthldcfiemfccpaaDoor
end

