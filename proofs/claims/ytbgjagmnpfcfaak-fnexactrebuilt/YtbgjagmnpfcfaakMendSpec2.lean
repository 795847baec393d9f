/- What the model's Rebuilt holds on its way. -/
import Derived.Test.YtbgjagmnpfcfaakMendImpl
import Derived.Test.YtbgjagmnpfcfaakSolveSpec3
import Derived.Test.YtbgjagmnpfcfaakDrawSolve
import Derived.Maps.AppendAt
namespace Go.Proofs.Ytbgjagmnpfcfaak
open Go.RowKit
set_option linter.unusedVariables false
set_option linter.unusedSimpArgs false
set_option maxRecDepth 100000

theorem Try.infoB8 : (Try.prog.info? 67).map (fun i => (i.zero, i.size, i.bytes)) = some (some (.slice none 0 0), 1, 24) := by kernel_rfl
def nums (l : List Nat) : List Value := l.map fun x : Nat => Value.int .i64 (x : Int)
theorem nums_snoc (l : List Nat) (x : Nat) : nums (l ++ [x]) = nums l ++ [.int .i64 (x : Int)] := by simp [nums]
theorem nums_of {w : World} {base e n : Nat} {v : Value} {l : List Nat} (h : w.ownsRow base e 1 v n (nums l)) : ∃ a c, v = .slice a n c ∧ l.length = n ∧ Reads base w.heap.size w a n (fun i => .int .i64 (l.getD i 0 : Int)) := by
  obtain ⟨a, c, rfl, _, hl, _, ho⟩ := owned_of_own h
  have hl' : l.length = n := by simpa [nums] using hl
  refine ⟨a, c, rfl, hl', (ho.congr fun i hi => ?_).reads⟩
  unfold nums
  rw [List.getD_eq_getElem?_getD, List.getElem?_map, List.getElem?_eq_getElem (by omega), List.getD_eq_getElem?_getD, List.getElem?_eq_getElem (by omega)]
  rfl
theorem lostL_no {bs : List Bool} {C k : Nat} (h : k < C) (ht : isThere bs k = false) : lostL bs (Nat.min (k + 1) C) = lostL bs (Nat.min k C) ++ [k] := by
  have e1 : Nat.min (k + 1) C = k + 1 := Nat.min_eq_left (by omega)
  have e2 : Nat.min k C = k := Nat.min_eq_left (by omega)
  rw [e1, e2]
  unfold lostL
  rw [Sv.rest_succ, ht]; rfl
theorem lostL_yes {bs : List Bool} {C k : Nat} (h : C ≤ k ∨ isThere bs k = true) : lostL bs (Nat.min (k + 1) C) = lostL bs (Nat.min k C) := by
  by_cases hk : k < C
  · have ht : isThere bs k = true := by rcases h with h | h; · omega
                                        · exact h
    have e1 : Nat.min (k + 1) C = k + 1 := Nat.min_eq_left (by omega)
    have e2 : Nat.min k C = k := Nat.min_eq_left (by omega)
    rw [e1, e2]
    unfold lostL
    rw [Sv.rest_succ, ht]; simp
  · have e1 : Nat.min (k + 1) C = C := Nat.min_eq_right (by omega)
    have e2 : Nat.min k C = C := Nat.min_eq_right (by omega)
    rw [e1, e2]
theorem sparesL_yes {bs : List Bool} {C k : Nat} (h : C ≤ k) (ht : isThere bs k = true) : sparesL bs C (k + 1) = sparesL bs C k ++ [k - C] := by
  unfold sparesL
  rw [show k + 1 - C = (k - C) + 1 by omega, Sv.rest_succ, show C + (k - C) = k by omega, ht]; rfl
theorem sparesL_no {bs : List Bool} {C k : Nat} (h : k < C ∨ isThere bs k = false) : sparesL bs C (k + 1) = sparesL bs C k := by
  unfold sparesL
  by_cases hk : k < C
  · rw [show k + 1 - C = 0 by omega, show k - C = 0 by omega]
  · have ht : isThere bs k = false := by rcases h with h | h; · omega
                                         · exact h
    rw [show k + 1 - C = (k - C) + 1 by omega, Sv.rest_succ, show C + (k - C) = k by omega, ht]; simp
theorem haveK_no {ts : List ByteArray} {bs : List Bool} {k : Nat} (ht : isThere bs k = false) : haveK ts bs (k + 1) = haveK ts bs k := by rw [haveK_succ, ht]; simp
theorem haveK_yes {ts : List ByteArray} {bs : List Bool} {k : Nat} (ht : isThere bs k = true) : haveK ts bs (k + 1) = haveK ts bs k ++ [ts.getD k ByteArray.empty] := by rw [haveK_succ, ht]; rfl
theorem lost_min (bs : List Bool) (C k : Nat) : (lostL bs (Nat.min k C)).length ≤ 12 ∨ 12 < C := by
  by_cases h : C ≤ 12
  · left
    have := List.length_filter_le (fun i => !isThere bs i) (List.range (Nat.min k C))
    have h2 : Nat.min k C ≤ C := Nat.min_le_right _ _
    simp only [List.length_range] at this
    unfold lostL Sv.rest
    omega
  · right; omega
theorem spare_len (bs : List Bool) (C k : Nat) : (sparesL bs C k).length ≤ k - C := by
  have := List.length_filter_le (fun i => !(!isThere bs (C + i))) (List.range (k - C))
  simpa [sparesL, Sv.rest] using this
/-- The three lists that are being gathered. -/
structure Gath (base : Nat) (ts : List ByteArray) (bs : List Bool) (C k : Nat) (vh vl vs : Value) (w : World) : Prop where
  hav : w.ownsRow base 9 1 vh (haveK ts bs k).length ((haveK ts bs k).map Value.string)
  los : w.ownsRow base 2 1 vl (lostL bs (Nat.min k C)).length (nums (lostL bs (Nat.min k C)))
  spa : w.ownsRow base 2 1 vs (sparesL bs C k).length (nums (sparesL bs C k))
  ne : vl.ownBlock ≠ vs.ownBlock
theorem own_lt {w : World} {base e n : Nat} {v : Value} {xs : List Value} (h : w.ownsRow base e 1 v n xs) {k : Nat} (hk : v.ownBlock = some k) : base ≤ k ∧ k < w.heap.size := h.lt k hk
theorem own_apart {w w' : World} {base e n : Nat} {v v' : Value} {xs : List Value} (h : w.ownsRow base e 1 v n xs) (hg : w.grownBy w' v'.ownBlock) (hne : v.ownBlock ≠ v'.ownBlock) : w'.ownsRow base e 1 v n xs := by
  refine h.kept hg ?_
  rcases h.2 with ⟨rfl, _⟩ | ⟨g, cap, cur, rfl, _⟩
  · exact .inl rfl
  · exact .inr hne
theorem Gath.start (w : World) (ts : List ByteArray) (bs : List Bool) (C : Nat) : Gath w.heap.size ts bs C 0 (.slice (some ⟨w.heap.size, 0, none⟩) 0 0) (.slice (some ⟨w.heap.size + 1, 0, none⟩) 0 0) (.slice (some ⟨w.heap.size + 2, 0, none⟩) 0 0) (((w.alloc (.cells #[] 9)).alloc (.cells #[] 2)).alloc (.cells #[] 2)) := by
  have e1 : lostL bs (Nat.min 0 C) = [] := by
    have : Nat.min 0 C = 0 := Nat.min_eq_left (by omega)
    rw [this]; rfl
  have e2 : sparesL bs C 0 = [] := by unfold sparesL; rw [Nat.zero_sub]; rfl
  have e3 : haveK ts bs 0 = [] := rfl
  refine ⟨?_, ?_, ?_, ?_⟩
  · rw [e3]; exact ((own_made0 w 9).alloc _).alloc _
  · rw [e1]
    have := own_made0 (w.alloc (.cells #[] 9)) 2
    simp only [World.size_alloc] at this
    exact (own_base this (Nat.le_succ _)).alloc _
  · rw [e2]
    have := own_made0 ((w.alloc (.cells #[] 9)).alloc (.cells #[] 2)) 2
    simp only [World.size_alloc] at this
    exact own_base (base' := w.heap.size) this (by omega)
  · simp [Value.ownBlock]
theorem Gath.none {base k C : Nat} {ts : List ByteArray} {bs : List Bool} {vh vl vs : Value} {w : World} (h : Gath base ts bs C k vh vl vs w) (hk : C ≤ k) (ht : isThere bs k = false) : Gath base ts bs C (k + 1) vh vl vs w := by
  refine ⟨?_, ?_, ?_, h.ne⟩
  · rw [haveK_no ht]; exact h.hav
  · rw [lostL_yes (.inl hk)]; exact h.los
  · rw [sparesL_no (.inr ht)]; exact h.spa
theorem Gath.lost {base k C : Nat} {ts : List ByteArray} {bs : List Bool} {vh vl vs vl' : Value} {w w' : World} {tmp : Obj} (h : Gath base ts bs C k vh vl vs w) (hk : k < C) (ht : isThere bs k = false)
    (ho : w'.ownsRow base 2 1 vl' ((lostL bs (Nat.min k C)).length + 1) (nums (lostL bs (Nat.min k C)) ++ [.int .i64 (k : Int)])) (hg : (w.alloc tmp).grownBy w' vl.ownBlock) (hb : vl'.ownBlock = vl.ownBlock ∨ vl'.ownBlock = some (w.alloc tmp).heap.size) : Gath base ts bs C (k + 1) vh vl' vs w' := by
  refine ⟨?_, ?_, ?_, ?_⟩
  · rw [haveK_no ht]; exact own_other' (h.hav.alloc tmp) (h.los.alloc tmp) hg (by decide)
  · rw [lostL_no hk ht, nums_snoc, List.length_append]; exact ho
  · rw [sparesL_no (.inr ht)]; exact own_apart (h.spa.alloc tmp) hg (fun e => h.ne e.symm)
  · rcases hb with e | e
    · rw [e]; exact h.ne
    · rw [e]
      intro e2
      have := (own_lt (h.spa.alloc tmp) e2.symm).2
      omega
theorem Gath.have1 {base k C : Nat} {ts : List ByteArray} {bs : List Bool} {vh vl vs vh' : Value} {w w' : World} {tmp : Obj} (h : Gath base ts bs C k vh vl vs w) (hk : k < C) (ht : isThere bs k = true)
    (ho : w'.ownsRow base 9 1 vh' ((haveK ts bs k).length + 1) ((haveK ts bs k).map Value.string ++ [.string (ts.getD k ByteArray.empty)])) (hg : (w.alloc tmp).grownBy w' vh.ownBlock) : Gath base ts bs C (k + 1) vh' vl vs w' := by
  refine ⟨?_, ?_, ?_, h.ne⟩
  · rw [haveK_yes ht, List.map_append, List.length_append]; exact ho
  · rw [lostL_yes (.inr ht)]; exact own_other' (h.los.alloc tmp) (h.hav.alloc tmp) hg (by decide)
  · rw [sparesL_no (.inl hk)]; exact own_other' (h.spa.alloc tmp) (h.hav.alloc tmp) hg (by decide)
theorem Gath.have2 {base k C : Nat} {ts : List ByteArray} {bs : List Bool} {vh vl vs vh' vs' : Value} {w w' w'' : World} {tmp tmp2 : Obj} (h : Gath base ts bs C k vh vl vs w) (hk : C ≤ k) (ht : isThere bs k = true)
    (ho : w'.ownsRow base 9 1 vh' ((haveK ts bs k).length + 1) ((haveK ts bs k).map Value.string ++ [.string (ts.getD k ByteArray.empty)])) (hg : (w.alloc tmp).grownBy w' vh.ownBlock)
    (ho2 : w''.ownsRow base 2 1 vs' ((sparesL bs C k).length + 1) (nums (sparesL bs C k) ++ [.int .i64 ((k - C : Nat) : Int)])) (hg2 : (w'.alloc tmp2).grownBy w'' vs.ownBlock) (hb : vs'.ownBlock = vs.ownBlock ∨ vs'.ownBlock = some (w'.alloc tmp2).heap.size) : Gath base ts bs C (k + 1) vh' vl vs' w'' := by
  have hl' := own_other' (h.los.alloc tmp) (h.hav.alloc tmp) hg (by decide)
  have hs' := own_other' (h.spa.alloc tmp) (h.hav.alloc tmp) hg (by decide)
  refine ⟨?_, ?_, ?_, ?_⟩
  · rw [haveK_yes ht, List.map_append, List.length_append]; exact own_other' (ho.alloc tmp2) (hs'.alloc tmp2) hg2 (by decide)
  · rw [lostL_yes (.inr ht)]; exact own_apart (hl'.alloc tmp2) hg2 h.ne
  · rw [sparesL_yes hk ht, nums_snoc, List.length_append]; exact ho2
  · rcases hb with e | e
    · rw [e]; exact h.ne
    · rw [e]
      intro e2
      have := (own_lt (hl'.alloc tmp2) e2).2
      omega
theorem Gath.spare {base k C : Nat} {ts : List ByteArray} {bs : List Bool} {vh vl vs vh' : Value} {w w' : World} {tmp tmp2 : Obj} (h : Gath base ts bs C k vh vl vs w) (hg : (w.alloc tmp).grownBy w' vh.ownBlock) : (w'.alloc tmp2).ownsRow base 2 1 vs (sparesL bs C k).length (nums (sparesL bs C k)) :=
  (own_other' (h.spa.alloc tmp) (h.hav.alloc tmp) hg (by decide)).alloc tmp2
end Go.Proofs.Ytbgjagmnpfcfaak
namespace Go.Proofs.Ytbgjagmnpfcfaak
open Go.RowKit
set_option linter.unusedVariables false
set_option linter.unusedSimpArgs false
set_option maxRecDepth 100000

theorem row_grown {w w' : World} {p t n base e m : Nat} {f : Nat → Value} {v : Value} {xs : List Value} (h : w.rowIs p t n f) (hv : w.ownsRow base e 1 v m xs) (hg : w.grownBy w' v.ownBlock) (he : t ≠ e) : w'.rowIs p t n f := by
  refine h.of_block (hg.block p h.lt (fun eq => ?_))
  rcases hv.2 with ⟨rfl, _⟩ | ⟨g, cap, cur, rfl, _, hgb, _⟩
  · simp [Value.ownBlock] at eq
  · obtain rfl : p = g := by simpa [Value.ownBlock] using eq
    obtain ⟨c, h1, _⟩ := h
    rw [h1] at hgb
    simp at hgb
    exact he hgb.2
structure ByM (base k L : Nat) (w : World) (v : Value) (P : Nat → Nat) (B : Nat → Nat → Nat) : Prop where
  top : w.ownsRow base 67 1 v k ((List.range k).map fun i => Value.slice (some ⟨P i, 0, none⟩) L L)
  row : ∀ i, i < k → w.rowIs (P i) 5 L (fun j => .int .u8 (B i j : Int))
  low : ∀ i, i < k → base ≤ P i
  apart : ∀ i j, i < k → j < k → P i = P j → i = j
theorem ByM.start (w : World) (L : Nat) : ByM w.heap.size 0 L (w.alloc (.cells #[] 67)) (.slice (some ⟨w.heap.size, 0, none⟩) 0 0) (fun _ => 0) (fun _ _ => 0) :=
  ⟨own_made0 w _, fun i hi => absurd hi (by omega), fun i hi => absurd hi (by omega), fun i j hi => absurd hi (by omega)⟩
theorem ByM.step {base k L g : Nat} {wr w5 w6 : World} {v v' : Value} {P : Nat → Nat} {B : Nat → Nat → Nat} {x : Nat → Nat} {tmp : Obj} (h : ByM base k L wr v P B) (hb : Below wr.heap.size wr w5) (hgr : wr.heap.size ≤ g) (hbase : base ≤ wr.heap.size) (hrow : w5.rowIs g 5 L (fun j => .int .u8 (x j : Int)))
    (ho : w6.ownsRow base 67 1 v' (k + 1) (((List.range k).map fun i => Value.slice (some ⟨P i, 0, none⟩) L L) ++ [.slice (some ⟨g, 0, none⟩) L L])) (hg : (w5.alloc tmp).grownBy w6 v.ownBlock) : ByM base (k + 1) L w6 v' (fun i => if i = k then g else P i) (fun i => if i = k then x else B i) := by
  have ht5 := (own_below h.top hb).alloc tmp
  refine ⟨?_, fun i hi => ?_, fun i hi => ?_, fun i j hi hj e => ?_⟩
  · have e : ((List.range (k + 1)).map fun i => Value.slice (some ⟨if i = k then g else P i, 0, none⟩) L L) = ((List.range k).map fun i => Value.slice (some ⟨P i, 0, none⟩) L L) ++ [.slice (some ⟨g, 0, none⟩) L L] := by
      rw [List.range_succ, List.map_append]
      congr 1
      · apply List.map_congr_left
        intro i hi
        rw [List.mem_range] at hi
        simp [show i ≠ k by omega]
      · simp
    rw [e]; exact ho
  · by_cases e : i = k
    · simp only [e, if_true]
      exact row_grown (hrow.alloc tmp) ht5 hg (by decide)
    · simp only [if_neg e]
      exact row_grown ((row_below (h.row i (by omega)) hb (h.row i (by omega)).lt).alloc tmp) ht5 hg (by decide)
  · by_cases e : i = k
    · simp only [e, if_true]; omega
    · simp only [if_neg e]; exact h.low i (by omega)
  · by_cases e1 : i = k
    · by_cases e2 : j = k
      · omega
      · simp only [e1, if_true, if_neg e2] at e
        have := (h.row j (by omega)).lt
        omega
    · by_cases e2 : j = k
      · simp only [e2, if_true, if_neg e1] at e
        have := (h.row i (by omega)).lt
        omega
      · simp only [if_neg e1, if_neg e2] at e
        exact h.apart i j (by omega) (by omega) e
theorem ByM.congr {base k L : Nat} {w : World} {v : Value} {P : Nat → Nat} {B B' : Nat → Nat → Nat} (h : ByM base k L w v P B) (e : ∀ i, i < k → ∀ j, j < L → B i j = B' i j) : ByM base k L w v P B' :=
  ⟨h.top, fun i hi => (h.row i hi).congr (fun j hj => by rw [e i hi j hj]), h.low, h.apart⟩
theorem ByM.below {base k L : Nat} {w w' : World} {v : Value} {P : Nat → Nat} {B : Nat → Nat → Nat} (h : ByM base k L w v P B) (hb : Below w.heap.size w w') : ByM base k L w' v P B :=
  ⟨own_below h.top hb, fun i hi => row_below (h.row i hi) hb (h.row i hi).lt, h.low, h.apart⟩
theorem ByM.at {base k L : Nat} {w : World} {v : Value} {P : Nat → Nat} {B : Nat → Nat → Nat} (h : ByM base k L w v P B) (hk : 0 < k) : ∃ g c, v = .slice (some ⟨g, 0, none⟩) k c ∧ ∀ i, i < k → w.cell? ⟨g, i, none⟩ = some (.slice (some ⟨P i, 0, none⟩) L L) := by
  obtain ⟨a, c, rfl, _, hl, hs, ho⟩ := owned_of_own h.top
  obtain ⟨g, rfl⟩ := hs hk
  refine ⟨g, c, rfl, fun i hi => ?_⟩
  obtain ⟨b, off, e, _, _, hc⟩ := ho.2 hk
  cases e
  have := (hc i hi).1
  rw [Nat.zero_add] at this
  rw [this]
  dsimp only
  rw [List.getD_eq_getElem?_getD, List.getElem?_map, List.getElem?_range hi]; rfl
/-- A byte is written. -/
theorem ByM.set {base k L r j x : Nat} {w : World} {v : Value} {P : Nat → Nat} {B : Nat → Nat → Nat} (h : ByM base k L w v P B) (hr : r < k) : ByM base k L (w.setCell ⟨P r, j, none⟩ (.int .u8 (x : Int))) v P (fun a b => if a = r ∧ b = j then x else B a b) := by
  have hne : ∀ i, i < k → ∀ (n2 : Nat) (v2 : Value) (xs2 : List Value), w.ownsRow base 67 1 v2 n2 xs2 → v2.ownBlock ≠ some (P i) := by
    intro i hi n2 v2 xs2 h2 eq
    obtain ⟨c, h1, _⟩ := h.row i hi
    rcases h2.2 with ⟨rfl, _⟩ | ⟨g, cap, cur, rfl, _, hgb, _⟩
    · simp [Value.ownBlock] at eq
    · obtain rfl : g = P i := by simpa [Value.ownBlock] using eq
      rw [h1] at hgb
      simp at hgb
  refine ⟨?_, fun i hi => ?_, h.low, h.apart⟩
  · have h2 := h.top
    have h3 := hne r hr _ _ _ h2
    refine ⟨h2.1, ?_⟩
    rcases h2.2 with h0 | ⟨g, cap, cur, rfl, hbg, hgg, rest⟩
    · exact .inl h0
    · refine .inr ⟨g, cap, cur, rfl, hbg, ?_, rest⟩
      rw [Go.Deep.blk_setCell_other _ _ _ _ (by show g ≠ P r; intro e; exact h3 (by simp [Value.ownBlock, e]))]
      exact hgg
  · by_cases e : i = r
    · subst e
      refine ((h.row i hi).set j _).congr fun q _ => ?_
      by_cases e2 : q = j <;> simp [e2]
    · refine ((h.row i hi).setOther (a := ⟨P r, j, none⟩) (fun e2 => e (h.apart i r hi hr e2)) _).congr fun q _ => ?_
      simp [e]
/-- 'copy' of a text into a new row of bytes. -/
theorem copy_text (w : World) (s : ByteArray) (L : Nat) (hs : s.size = L) (hL : L ≤ 300) : ∃ w1, (Builtin.copy_ #[67, 9] 3 #[.slice (some ⟨w.heap.size, 0, none⟩) L L, .string s]).run Try.prog (w.alloc (.cells (madeCells #[.int .u8 0] L) 5)) = .ok (goInt L) w1 ∧ w1.rowIs w.heap.size 5 L (fun j => .int .u8 (byteN s j : Int)) ∧ Below w.heap.size w w1 := by
  subst hs
  obtain ⟨i0, hi, hz0, hz1, hz2⟩ := info_parts Try.infoU8s
  have hinfo : (Try.prog.info? 5).map (·.size) = some 1 := by rw [hi]; simp [hz1]
  obtain ⟨M, hM⟩ : ∃ M, M = madeCells #[Value.int .u8 0] s.size := ⟨_, rfl⟩
  have hMs : M.size = s.size := by rw [hM, size_madeCells]
  rw [← hM]
  have hcp := Lib.run_copy_row_string (P := Try.prog) (w.alloc (.cells M 5)) 67 9 3 5 w.heap.size 0 s.size s.size s M 5 Try.underlying67 hinfo (heap_alloc_new w _) (Nat.le_refl _) (by omega)
  obtain ⟨Y, hY⟩ : ∃ Y, Y = (M.toList.take 0 ++ Lib.byteCells s.data.toList ++ M.toList.drop (0 + s.size)).toArray := ⟨_, rfl⟩
  rw [← hY] at hcp
  have hYl : Y.toList = Lib.byteCells s.data.toList := by
    rw [hY, List.toList_toArray, List.take_zero, List.nil_append, List.drop_of_length_le (by rw [Array.length_toList]; omega), List.append_nil]
  have hYs : Y.size = s.size := by rw [← Array.length_toList, hYl, Lib.byteCells_length, ← Lib.size_eq]
  have hgY : ((w.alloc (.cells M 5)).setRow w.heap.size Y).heap[w.heap.size]? = some (.cells Y 5 (0, 0)) := setRow_heap _ _ M _ 5 (0, 0) (heap_alloc_new w _)
  have hb1 : Below w.heap.size w (w.alloc (.cells M 5)) := (Below.refl _ w).alloc (Nat.le_refl _) _
  have hb2 : Below w.heap.size (w.alloc (.cells M 5)) ((w.alloc (.cells M 5)).setRow w.heap.size Y) := ⟨rfl, rfl, rfl, by simp, fun k hk => setRow_other _ _ _ _ (by omega)⟩
  refine ⟨_, hcp, ⟨Y, hgY, hYs, fun j hj => ?_⟩, hb1.trans hb2⟩
  have hjl : j < s.data.toList.length := by rw [← Lib.size_eq]; exact hj
  rw [← Array.getElem?_toList, hYl]
  unfold Lib.byteCells byteN
  dsimp only
  rw [List.getElem?_map, List.getElem?_eq_getElem hjl, List.getD_eq_getElem?_getD, List.getElem?_eq_getElem hjl]
  rfl
/-- Rows of numbers that are told. -/
structure FacM (base n k : Nat) (w : World) (v : Value) (P C : Nat → Nat) (X : Nat → List Int) : Prop where
  top : w.ownsRow base 29 1 v k ((List.range k).map fun i => Value.slice (some ⟨P i, 0, none⟩) n (C i))
  row : ∀ i, i < k → w.ownsRow base 2 1 (.slice (some ⟨P i, 0, none⟩) n (C i)) n ((X i).map (Value.int .i64))
theorem FacM.start (w : World) (n : Nat) (X : Nat → List Int) : FacM w.heap.size n 0 (w.alloc (.cells #[] 29)) (.slice (some ⟨w.heap.size, 0, none⟩) 0 0) (fun _ => 0) (fun _ => 0) X := ⟨own_made0 w _, fun i hi => absurd hi (by omega)⟩
theorem FacM.step {base n k g c : Nat} {wr w5 w6 : World} {v v3 : Value} {P C : Nat → Nat} {X : Nat → List Int} {tmp : Obj} (h : FacM base n k wr v P C X) (hb : Below wr.heap.size wr w5) (hbase : base ≤ wr.heap.size) (hn : w5.ownsRow wr.heap.size 2 1 (.slice (some ⟨g, 0, none⟩) n c) n ((X k).map (Value.int .i64)))
    (h3 : w6.ownsRow base 29 1 v3 (k + 1) (((List.range k).map fun i => Value.slice (some ⟨P i, 0, none⟩) n (C i)) ++ [.slice (some ⟨g, 0, none⟩) n c])) (hg : (w5.alloc tmp).grownBy w6 v.ownBlock) : FacM base n (k + 1) w6 v3 (fun i => if i = k then g else P i) (fun i => if i = k then c else C i) X := by
  have hv := own_below h.top hb
  refine ⟨?_, fun i hi => ?_⟩
  · have e : ((List.range (k + 1)).map fun i => Value.slice (some ⟨if i = k then g else P i, 0, none⟩) n (if i = k then c else C i)) = ((List.range k).map fun i => Value.slice (some ⟨P i, 0, none⟩) n (C i)) ++ [.slice (some ⟨g, 0, none⟩) n c] := by
      rw [List.range_succ, List.map_append]
      congr 1
      · apply List.map_congr_left
        intro i hi
        rw [List.mem_range] at hi
        simp [show i ≠ k by omega]
      · simp
    rw [e]; exact h3
  · by_cases e : i = k
    · subst e
      simp only [if_true]
      exact own_other' ((own_base hn hbase).alloc tmp) (hv.alloc tmp) hg (by decide)
    · simp only [if_neg e]
      exact own_other' ((own_below (h.row i (by omega)) hb).alloc tmp) (hv.alloc tmp) hg (by decide)
theorem FacM.below {base n k : Nat} {w w' : World} {v : Value} {P C : Nat → Nat} {X : Nat → List Int} (h : FacM base n k w v P C X) (hb : Below w.heap.size w w') : FacM base n k w' v P C X := ⟨own_below h.top hb, fun i hi => own_below (h.row i hi) hb⟩
theorem FacM.rows {base n k : Nat} {w : World} {v : Value} {P C : Nat → Nat} {X : Nat → List Int} (h : FacM base n k w v P C X) (hX : ∀ i, i < k → (X i).length = n) : ∃ a cap, v = .slice a k cap ∧ Rows2 0 w.heap.size w a k ((List.range k).map X) := by
  obtain ⟨a, cap, rfl, _, _, _, ho⟩ := owned_of_own h.top
  have hXg : ∀ i, i < k → ((List.range k).map X).getD i [] = X i := fun i hi => by
    rw [List.getD_eq_getElem?_getD, List.getElem?_map, List.getElem?_range hi]; rfl
  refine ⟨a, cap, rfl, ⟨by simp, fun i => some ⟨P i, 0, none⟩, C, ?_, ?_⟩⟩
  · refine ((ho.congr (fun i hi => ?_)).reads).wide (Nat.zero_le _) (Nat.le_refl _) (Nat.le_refl _)
    rw [hXg i hi, hX i hi, List.getD_eq_getElem?_getD, List.getElem?_map, List.getElem?_range hi]; rfl
  · intro i hi
    rw [hXg i hi, hX i hi]
    exact own_ints (h.row i hi)
/-- The rows of shares, as the model tells them to Solved. -/
def facX (bs : List Bool) (C n cnt r : Nat) : List Int := (List.range cnt).map fun q => (factor ((lostL bs C).getD q 0) ((sparesL bs C n).getD r 0) : Int)
theorem facX_len (bs : List Bool) (C n cnt r : Nat) : (facX bs C n cnt r).length = cnt := by simp [facX]
theorem facX_get {bs : List Bool} {C n cnt r q : Nat} (hq : q < cnt) : (facX bs C n cnt r).getD q 0 = (factor ((lostL bs C).getD q 0) ((sparesL bs C n).getD r 0) : Int) := by
  unfold facX
  rw [List.getD_eq_getElem?_getD, List.getElem?_map, List.getElem?_range hq]; rfl
/-- What is right at a place. -/
def rightX (ts : List ByteArray) (bs : List Bool) (C cnt j : Nat) : List Int := (List.range cnt).map fun r => (takeR (ts.getD (C + (sparesL bs C ts.length).getD r 0) ByteArray.empty) ts (isThere bs) ((sparesL bs C ts.length).getD r 0) C j : Int)
theorem rightX_get {ts : List ByteArray} {bs : List Bool} {C cnt j r : Nat} (hr : r < cnt) : (rightX ts bs C cnt j).getD r 0 = (takeR (ts.getD (C + (sparesL bs C ts.length).getD r 0) ByteArray.empty) ts (isThere bs) ((sparesL bs C ts.length).getD r 0) C j : Int) := by
  unfold rightX
  rw [List.getD_eq_getElem?_getD, List.getElem?_map, List.getElem?_range hr]; rfl
/-- What Solved answers to them. -/
theorem solved_told {ts : List ByteArray} {bs : List Bool} {C cnt j : Nat} {out : List Int} {b : Bool} (hC : C ≤ 8) (hn : ts.length ≤ C + 4) (h0 : 0 < cnt) (h4 : cnt ≤ 8) (h1 : (lostL bs C).length = cnt) (h2 : cnt ≤ (sparesL bs C ts.length).length)
    (h : Answer ((List.range cnt).map (facX bs C ts.length cnt)) (rightX ts bs C cnt j) out b) : ∃ x : Nat → Nat, Sv.El cnt x ∧ out = (List.range cnt).map (fun i => (x i : Int)) ∧ ∀ r, r < cnt → Sv.dot (fun q => factor ((lostL bs C).getD q 0) ((sparesL bs C ts.length).getD r 0)) x cnt = takeR (ts.getD (C + (sparesL bs C ts.length).getD r 0) ByteArray.empty) ts (isThere bs) ((sparesL bs C ts.length).getD r 0) C j := by
  have hl : ((List.range cnt).map (facX bs C ts.length cnt)).length = cnt := by simp
  have hg : ∀ i, i < cnt → ((List.range cnt).map (facX bs C ts.length cnt)).getD i [] = facX bs C ts.length cnt i := fun i hi => by
    rw [List.getD_eq_getElem?_getD, List.getElem?_map, List.getElem?_range hi]; rfl
  have hsp : ∀ r, r < cnt → (sparesL bs C ts.length).getD r 0 < 16 := fun r hr => by have := spare_at (bs := bs) (C := C) (n := ts.length) (r := r) (by omega); omega
  have hlo : ∀ q, q < cnt → (lostL bs C).getD q 0 < 16 := fun q hq => by have := lost_at (bs := bs) (C := C) (k := q) (by omega); omega
  have hel : ∀ x : Nat, x < 256 → elem (x : Int) = true := fun x hx => by simp [elem, inB]; omega
  have hok : rowsOk ((List.range cnt).map (facX bs C ts.length cnt)) (rightX ts bs C cnt j) = true := by
    rw [rowsOk_iff hl]
    refine ⟨by omega, h4, by simp [rightX], elems_iff.2 (fun k hk => ?_), fun i hi => ?_⟩
    · have hk' : k < cnt := by simpa [rightX] using hk
      rw [rightX_get hk']
      exact hel _ (takeR_lt (by omega) (hsp k hk'))
    · rw [hg i hi]
      refine rowOk_y (facX_len _ _ _ _ _) (elems_iff.2 fun k hk => ?_)
      have hk' : k < cnt := by simpa [facX] using hk
      rw [facX_get hk']
      exact hel _ (factor_lt (hlo k hk') (hsp i hi))
  have hmat : ∀ i k, i < cnt → k < cnt → matOf ((List.range cnt).map (facX bs C ts.length cnt)) (rightX ts bs C cnt j) i k = factor ((lostL bs C).getD k 0) ((sparesL bs C ts.length).getD i 0) := by
    intro i k hi hk
    unfold matOf
    rw [hl, if_pos hk, hg i hi, facX_get hk]; rfl
  have hmr : ∀ i, i < cnt → matOf ((List.range cnt).map (facX bs C ts.length cnt)) (rightX ts bs C cnt j) i cnt = takeR (ts.getD (C + (sparesL bs C ts.length).getD i 0) ByteArray.empty) ts (isThere bs) ((sparesL bs C ts.length).getD i 0) C j := by
    intro i hi
    unfold matOf
    rw [hl, if_neg (by omega), rightX_get hi]; rfl
  rcases h with ⟨h3, _⟩ | ⟨_, h3⟩
  · rw [hok] at h3; cases h3
  · rw [hl] at h3
    have hb : b = true := by
      subst h1
      exact Sv.lost_told (p := isThere bs) (q := fun j => !isThere bs (C + j)) (C := C) (D := ts.length - C) (by omega) (by omega) h2 (fun i k hi hk => hmat i k hi hk) h3
    subst hb
    obtain ⟨x, hx, hxe, hd⟩ := Sv.told_solves h3
    refine ⟨x, hx, hxe, fun r hr => ?_⟩
    have := hd r hr
    rw [hmr r hr, Field.mul_one (takeR_lt (by omega) (hsp r hr))] at this
    rw [← this]
    exact Sv.dot_congr (fun q hq => (hmat r q hr hq).symm) (fun _ _ => rfl)
end Go.Proofs.Ytbgjagmnpfcfaak
namespace Go.Proofs.Ytbgjagmnpfcfaak
open Go.RowKit
set_option linter.unusedVariables false
set_option linter.unusedSimpArgs false
set_option maxRecDepth 100000

theorem FacM.rowsB {base n k : Nat} {w : World} {v : Value} {P C : Nat → Nat} {X : Nat → List Int} (h : FacM base n k w v P C X) (hX : ∀ i, i < k → (X i).length = n) : ∃ a cap, v = .slice a k cap ∧ Rows2 base w.heap.size w a k ((List.range k).map X) := by
  obtain ⟨a, cap, rfl, _, _, _, ho⟩ := owned_of_own h.top
  have hXg : ∀ i, i < k → ((List.range k).map X).getD i [] = X i := fun i hi => by
    rw [List.getD_eq_getElem?_getD, List.getElem?_map, List.getElem?_range hi]; rfl
  refine ⟨a, cap, rfl, ⟨by simp, fun i => some ⟨P i, 0, none⟩, C, ?_, ?_⟩⟩
  · refine (ho.congr (fun i hi => ?_)).reads
    rw [hXg i hi, hX i hi, List.getD_eq_getElem?_getD, List.getElem?_map, List.getElem?_range hi]; rfl
  · intro i hi
    rw [hXg i hi, hX i hi]
    obtain ⟨a', cap', e, _, hl, _, ho'⟩ := owned_of_own (h.row i hi)
    cases e
    rw [List.length_map] at hl
    exact ⟨hl, (ho'.congr (fun j hj => map_cell (X i) j (by omega))).reads⟩
/-- A column's bytes where the first 'at' places are solved. -/
def BX (ts : List ByteArray) (bs : List Bool) (C p : Nat) (X : Nat → Nat → Nat) (i j : Nat) : Nat := if isThere bs i then byteN (ts.getD i ByteArray.empty) j else if j < p then X (lostAt bs C i) j else 0
theorem BX_zero_lt (ts : List ByteArray) (bs : List Bool) (C : Nat) (X : Nat → Nat → Nat) (i j : Nat) : BX ts bs C 0 X i j < 256 := by
  unfold BX
  split
  · exact byteN_lt _ _
  · simp
theorem BX_step_lt {ts : List ByteArray} {bs : List Bool} {C cnt p : Nat} {X : Nat → Nat → Nat} {x : Nat → Nat} (h1 : (lostL bs C).length = cnt) (hla : ∀ i, i < C → isThere bs i = false → lostAt bs C i < (lostL bs C).length) (h : ∀ i, i < C → ∀ j, BX ts bs C p X i j < 256) (hx : ∀ y, y < cnt → x y < 256) : ∀ i, i < C → ∀ j, BX ts bs C (p + 1) (fun y j => if j = p then x y else X y j) i j < 256 := by
  intro i hi j
  have h2 := h i hi j
  unfold BX at h2 ⊢
  cases ht : isThere bs i
  · rw [ht] at h2
    have := hla i hi ht
    by_cases e : j = p
    · simp [e, hx _ (show lostAt bs C i < cnt by omega)]
    · by_cases e2 : j < p
      · simp [e, e2, show j < p + 1 by omega] at h2 ⊢; exact h2
      · simp [e2, show ¬ j < p + 1 by omega]
  · simp [byteN_lt]
theorem takeR_zero (s : ByteArray) (ts : List ByteArray) (p : Nat → Bool) (j k : Nat) : takeR s ts p j 0 k = byteN s k := by simp [takeR, Sv.part]
def Sol (ts : List ByteArray) (bs : List Bool) (C cnt p : Nat) (X : Nat → Nat → Nat) : Prop := ∀ j, j < p → (∀ x, x < cnt → X x j < 256) ∧ ∀ r, r < cnt → Sv.dot (fun q => factor ((lostL bs C).getD q 0) ((sparesL bs C ts.length).getD r 0)) (fun q => X q j) cnt = takeR (ts.getD (C + (sparesL bs C ts.length).getD r 0) ByteArray.empty) ts (isThere bs) ((sparesL bs C ts.length).getD r 0) C j
theorem lostAt_lt {bs : List Bool} {C i : Nat} (hi : i < C) (ht : isThere bs i = false) : lostAt bs C i < (lostL bs C).length := by
  obtain ⟨q, hq, e⟩ := Sv.rest_has (p := isThere bs) hi ht
  have h5 : q < (lostL bs C).length := hq
  have h6 : (lostL bs C).getD q 0 = i := e
  rw [← h6, lostAt_at h5]; exact h5
theorem text_self {s : ByteArray} {L : Nat} (h : s.size = L) : textN L (byteN s) = s :=
  text_ext size_text h (fun k hk => byteN_text hk (byteN_lt s k))
theorem textN_congr {L : Nat} {x y : Nat → Nat} (h : ∀ k, k < L → x k = y k) : textN L x = textN L y := by
  unfold textN
  congr 1
  apply List.map_congr_left
  intro k hk
  rw [List.mem_range] at hk
  rw [h k hk]
theorem mend_end {ts : List ByteArray} {bs : List Bool} {C cnt L p : Nat} {X : Nat → Nat → Nat} (hC : C ≤ 8) (hCn : C ≤ ts.length) (hn : ts.length ≤ C + 4) (h1 : (lostL bs C).length = cnt) (h2 : cnt ≤ (sparesL bs C ts.length).length) (hsz : ∀ i, i < ts.length → isThere bs i = true → (ts.getD i ByteArray.empty).size = L) (hend : p = L ∨ cnt = 0) (hs : Sol ts bs C cnt p X) : Mended ts bs C L ((List.range C).map fun a => textN L (BX ts bs C p X a)) := by
  have e : ((List.range C).map fun a => textN L (BX ts bs C p X a)) = mendOut ts bs C ((List.range cnt).map fun q => textN L (X q)) := by
    unfold mendOut
    apply List.map_congr_left
    intro i hi
    rw [List.mem_range] at hi
    cases ht : isThere bs i
    · have hlt := lostAt_lt hi ht
      have hp : p = L := by
        rcases hend with h | h
        · exact h
        · omega
      rw [if_neg (by simp), List.getD_eq_getElem?_getD, List.getElem?_map, List.getElem?_range (by omega)]
      simp only [Option.map_some, Option.getD_some]
      refine textN_congr fun k hk => ?_
      unfold BX
      rw [ht, if_neg (by simp), if_pos (by omega)]
    · rw [if_pos rfl]
      have : textN L (BX ts bs C p X i) = textN L (byteN (ts.getD i ByteArray.empty)) := textN_congr fun k hk => by unfold BX; rw [ht, if_pos rfl]
      rw [this, text_self (hsz i (by omega) ht)]
  rw [e]
  refine mended_of hC hCn hn h1 h2 hsz ⟨X, fun q hq => ?_, fun q hq k hk => ?_, fun r hr k hk => ?_⟩
  · rw [List.getD_eq_getElem?_getD, List.getElem?_map, List.getElem?_range hq]; rfl
  · exact (hs k (by omega)).1 q hq
  · exact (hs k (by omega)).2 r hr
/-- While one place is being filled in. -/
def BY (ts : List ByteArray) (bs : List Bool) (C p : Nat) (X : Nat → Nat → Nat) (x : Nat → Nat) (kk : Nat) (i j : Nat) : Nat := if j = p ∧ isThere bs i = false ∧ lostAt bs C i < kk then x (lostAt bs C i) else BX ts bs C p X i j
theorem BY_zero (ts : List ByteArray) (bs : List Bool) (C p : Nat) (X : Nat → Nat → Nat) (x : Nat → Nat) (i j : Nat) : BX ts bs C p X i j = BY ts bs C p X x 0 i j := by
  unfold BY
  rw [if_neg (by omega)]
theorem BY_step {ts : List ByteArray} {bs : List Bool} {C p kk : Nat} {X : Nat → Nat → Nat} {x : Nat → Nat} (hk : kk < (lostL bs C).length) {i j : Nat} (hi : i < C) : (if i = (lostL bs C).getD kk 0 ∧ j = p then x kk else BY ts bs C p X x kk i j) = BY ts bs C p X x (kk + 1) i j := by
  have hl := lost_at hk
  by_cases e1 : i = (lostL bs C).getD kk 0
  · by_cases e2 : j = p
    · rw [if_pos ⟨e1, e2⟩]
      unfold BY
      rw [e1, if_pos ⟨e2, hl.2, by rw [lostAt_at hk]; omega⟩, lostAt_at hk]
    · rw [if_neg (fun h => e2 h.2)]
      unfold BY
      rw [if_neg (fun h => e2 h.1), if_neg (fun h => e2 h.1)]
  · rw [if_neg (fun h => e1 h.1)]
    unfold BY
    by_cases e2 : j = p ∧ isThere bs i = false
    · have e3 : lostAt bs C i ≠ kk := fun e => e1 (by rw [← e, at_lostAt hi e2.2])
      by_cases e4 : lostAt bs C i < kk
      · rw [if_pos ⟨e2.1, e2.2, e4⟩, if_pos ⟨e2.1, e2.2, by omega⟩]
      · rw [if_neg (fun h => e4 h.2.2), if_neg (fun h => by have := h.2.2; omega)]
    · rw [if_neg (fun h => e2 ⟨h.1, h.2.1⟩), if_neg (fun h => e2 ⟨h.1, h.2.1⟩)]
theorem BY_all {ts : List ByteArray} {bs : List Bool} {C p cnt : Nat} {X : Nat → Nat → Nat} {x : Nat → Nat} (h1 : (lostL bs C).length = cnt) {i j : Nat} (hi : i < C) : BY ts bs C p X x cnt i j = BX ts bs C (p + 1) (fun y j => if j = p then x y else X y j) i j := by
  unfold BY BX
  cases ht : isThere bs i
  · have hlt := lostAt_lt hi ht
    by_cases e : j = p
    · rw [if_pos ⟨e, rfl, by omega⟩]
      simp [e]
    · rw [if_neg (fun h => e h.1)]
      by_cases e2 : j < p
      · simp [e, e2, show j < p + 1 by omega]
      · simp [e2, show ¬ j < p + 1 by omega]
  · rw [if_neg (by simp), if_pos rfl, if_pos rfl]
theorem Sol.step {ts : List ByteArray} {bs : List Bool} {C cnt p : Nat} {X : Nat → Nat → Nat} {x : Nat → Nat} (h : Sol ts bs C cnt p X) (hx : ∀ y, y < cnt → x y < 256) (hd : ∀ r, r < cnt → Sv.dot (fun q => factor ((lostL bs C).getD q 0) ((sparesL bs C ts.length).getD r 0)) x cnt = takeR (ts.getD (C + (sparesL bs C ts.length).getD r 0) ByteArray.empty) ts (isThere bs) ((sparesL bs C ts.length).getD r 0) C p) : Sol ts bs C cnt (p + 1) (fun y j => if j = p then x y else X y j) := by
  intro j hj
  by_cases e : j = p
  · subst e
    refine ⟨fun y hy => by simp [hx y hy], fun r hr => ?_⟩
    rw [← hd r hr]
    exact Sv.dot_congr (fun _ _ => rfl) (fun _ _ => by simp)
  · obtain ⟨h1, h2⟩ := h j (by omega)
    refine ⟨fun y hy => by simp [e, h1 y hy], fun r hr => ?_⟩
    rw [← h2 r hr]
    exact Sv.dot_congr (fun _ _ => rfl) (fun _ _ => by simp [e])
end Go.Proofs.Ytbgjagmnpfcfaak
