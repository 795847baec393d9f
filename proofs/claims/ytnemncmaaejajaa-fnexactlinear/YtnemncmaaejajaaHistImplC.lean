/- Chapter 19, the program: a trial. -/
import Derived.Test.YtnemncmaaejajaaHistImplB
namespace Go.Proofs.Ytnemncmaaejajaa
open Go.RowKit
set_option linter.unusedVariables false
set_option linter.unusedSimpArgs false
set_option maxRecDepth 20000

theorem h9_one2 {W : World} {b : Nat} {c0 c1 : Value} {t : TypeId} {fr : Nat × Nat} (h : W.heap[b]? = some (.cells #[c0, c1] t fr)) (v1 : Value) : (W.setCell ⟨b, 1, none⟩ v1).heap[b]? = some (.cells #[c0, v1] t fr) := set_block h 1 v1 (by simp)
theorem txNos_take {L : List O9} {k : Nat} (h : k < L.length) : (txNos L).take (k + 1) = (txNos L).take k ++ [txtNo L (o9At L k).t] := by
  unfold txNos
  rw [List.take_succ_eq_append_getElem (by rw [List.length_map]; exact h), List.getElem_map, o9At_get h]
theorem h9_empty (t : ByteArray) : t.toList.isEmpty = decide (t = ByteArray.empty) := by
  rw [← text_eq, show ByteArray.empty.toList = [] by rw [ByteArray.toList_eq]; rfl]
  cases t.toList <;> rfl
theorem own_keepS {w w' : World} {base e s n : Nat} {v : Value} {xs : List Value} (h : w.ownsRow base e s v n xs) (hb : ∀ j, j < w.heap.size → w'.heap[j]? = w.heap[j]?) : w'.ownsRow base e s v n xs := by
  refine ⟨h.1, ?_⟩
  rcases h.2 with h1 | ⟨g, cap, cur, e1, h2, hg, h3⟩
  · exact .inl h1
  · exact .inr ⟨g, cap, cur, e1, h2, (hb g (Array.getElem?_eq_some_iff.1 hg).1).trans hg, h3⟩
set_option maxHeartbeats 3200000 in
theorem trialOf_any (a : Option Addr) (n cap : Nat) (L : List O9) (w : World) {lo hi : Nat} (h : Ops9 lo hi w a n L) (hn : n ≤ 12) :
    Calls Try.prog 37 #[.slice a n cap] w fun e w' => ∃ v, e = .returned (.agg #[.slice a n cap, v]) ∧ w'.ownsRow w.heap.size 2 1 v n ((txNos L).map (Value.int .i64)) ∧ Below w.heap.size w w' := by
  obtain ⟨wA, hwA⟩ : ∃ wA, wA = ((w.alloc (.cells #[.slice none 0 0, .slice none 0 0] 56)).alloc (.cells #[.slice a n cap, .slice none 0 0] 56)) := ⟨_, rfl⟩
  have hzA : wA.heap.size = w.heap.size + 1 + 1 := by rw [hwA]; simp
  have HBA : Hid (Below w.heap.size w wA) := by rw [hwA]; exact ((Below.refl _ _).alloc (Nat.le_refl _) _).alloc (by simp) _
  have H0 : Hid (wA.heap[w.heap.size]? = some (.cells #[.slice none 0 0, .slice none 0 0] 56)) := by rw [hwA]; exact heap_old (heap_new _ _)
  have H1 : Hid (wA.heap[w.heap.size + 1]? = some (.cells #[.slice a n cap, .slice none 0 0] 56)) := by rw [hwA]; exact heap_at (by simp)
  have HY := hide h
  have HZA := hide hzA
  clear h hzA
  go_enter Try.func37, Try.ntmps37
  go_upto_region 2 with fail
  rw [← hwA]
  clear hwA
  go_wp2_with fail
  go_loopw [11] (fun i wr => ∃ (k : Nat) (av : Option Addr) (cv : Nat), k ≤ n ∧ i = .int .i64 (k : Int) ∧ wr.heap[w.heap.size]? = some (.cells #[.slice none 0 0, .slice none 0 0] 56) ∧ wr.heap[w.heap.size + 1]? = some (.cells #[.slice a n cap, .slice av k cv] 56) ∧ wr.ownsRow (w.heap.size + 1 + 1) 2 1 (.slice av k cv) k (((txNos L).take k).map (Value.int .i64)) ∧ Below w.heap.size w wr) (fun i _ => n - (intOf i).toNat)
  case atStart => exact ⟨0, none, 0, Nat.zero_le _, rfl, H0.out, H1.out, ⟨rfl, .inl ⟨rfl, rfl⟩⟩, HBA.out⟩
  case round =>
    obtain ⟨k, av, cv, hk, rfl, hr0, hr1, hown, hbel⟩ := hrel

    obtain ⟨w1, hw1⟩ : ∃ w1, w1 = wr := ⟨_, rfl⟩
    subst hw1
    have HR0 := hide hr0
    have HR1 := hide hr1
    have HO := hide hown
    have HB := hide hbel
    have HS1 : Hid (w.heap.size + 1 + 1 ≤ w1.heap.size) := by show _ ≤ _; have := (Array.getElem?_eq_some_iff.1 hr1).1; omega
    clear hr0 hr1 hown hbel H0 H1 HBA
    by_cases hlt : k < n
    · obtain ⟨b, off, rfl, _, hb, hc⟩ := HY.out.2.2 (by omega)
      obtain ⟨x0, x1, x2, x3, x4⟩ := op9_row hc HB.out (show b < w.heap.size by have := HY.out.2.1; omega) hlt
      have hkn : (k : Int) < (n : Int) := by omega
      have HKL : Hid (k < L.length) := by show k < _; rw [HY.out.1]; exact hlt
      have HTK := hide (txNos_take HKL.out)
      obtain ⟨x, hx⟩ : ∃ x, x = o9At L k := ⟨_, rfl⟩
      have HX := hide hx
      rw [← hx] at x0 x1 x2 x3 x4 HTK
      obtain ⟨w2, hw2⟩ : ∃ w2, w2 = w1.alloc (o9O x 45) := ⟨_, rfl⟩
      have HP : Hid (w2.heap[w1.heap.size]? = some (o9O x 45)) := by rw [hw2]; exact heap_new _ _
      have HB2 : Hid (Below w1.heap.size w1 w2) := by rw [hw2]; exact (Below.refl _ _).alloc (Nat.le_refl _) _
      have HIX := hide (indexText_any (some ⟨b, off, none⟩) n cap L x w1.heap.size 45 w2 (HY.out.later (below_here HB.out HB2.out) HY.out.2.1) (by omega) HP.out)
      obtain ⟨xa, xw, xt, xb, xe⟩ := x
      dsimp only at x0 x1 x2 x3 x4
      clear hc hx
      go_upto_region 5 with fail
      rw [← hw2]
      clear hw2 x0 x1 x2 x3 x4
      obtain ⟨y0, y1, y2, y3, y4⟩ := op9_cells HP.out
      dsimp only at y2
      clear y0 y1 y3 y4
      have HNE : Hid (xt.toList.isEmpty = decide (xt = ByteArray.empty)) := h9_empty xt
      have HR1' : Hid (w2.heap[w.heap.size + 1]? = some (.cells #[.slice (some ⟨b, off, none⟩) n cap, .slice av k cv] 56)) := block_on HR1.out HB2.out
      obtain ⟨em, hem⟩ : ∃ em, xt.toList.isEmpty = em := ⟨_, rfl⟩
      have HEM : Hid (em = decide (xt = ByteArray.empty)) := by show _ = _; rw [← hem]; exact HNE.out
      clear HNE
      go_upto_if 17 with fail
      clear hem
      go_cut [6] from 12 to 27 (fun q wx => q = .int .i64 (txtNo L xt) ∧ Below w2.heap.size w2 wx)
      case first =>
        cases em with
        | true =>
          have HT : Hid (txtNo L xt = -1) := by show _ = _; unfold txtNo; rw [if_pos (of_decide_eq_true HEM.out.symm)]
          go_wp2_with fail
          go_meet
          exact ⟨by rw [HT.out], Below.refl _ _⟩
        | false =>
          have HT : Hid (txtNo L xt = idxT L xt) := by show _ = _; unfold txtNo; rw [if_neg (of_decide_eq_false HEM.out.symm)]
          go_wp2_with fail
          refine HIX.out.mono ?_
          rintro e w3 ⟨rfl, b3⟩
          have HB3 := hide b3
          clear b3
          go_wp2_with fail
          go_meet
          exact ⟨by rw [HT.out], HB3.out⟩
      case rest =>
        obtain ⟨rfl, hb3⟩ := hcut
        have HB3 := hide hb3
        have HZ3 : Hid (w1.heap.size < wc.heap.size) := by
          show _ < _
          have := (Array.getElem?_eq_some_iff.1 HP.out).1
          have := hb3.size
          omega
        have HR13 := hide (block_on HR1'.out hb3)
        have HR03 := hide (block_on (block_on HR0.out HB2.out) hb3)
        have HO3 : Hid (wc.ownsRow (w.heap.size + 1 + 1) 2 1 (.slice av k cv) k (((txNos L).take k).map (Value.int .i64))) := by
          have ha : Aside w1.heap.size w1.heap.size w1 wc := ⟨hb3.os.trans HB2.out.os, hb3.tape.trans HB2.out.tape, hb3.output.trans HB2.out.output, Nat.le_of_lt HZ3.out, fun j hj _ => (hb3.block j (Nat.lt_of_lt_of_le hj HB2.out.size)).trans (HB2.out.block j hj)⟩
          exact own_keepS HO.out (fun j hj => (hb3.block j (Nat.lt_of_lt_of_le hj HB2.out.size)).trans (HB2.out.block j hj))
        have HBW : Hid (Below w.heap.size w wc) := below_here (below_here HB.out HB2.out) hb3
        clear hb3 HIX HR1' HP HB2 HO HB HR0 HR1
        obtain ⟨c0, c1⟩ := h9_two HR13.out
        have f1 := four_frozen HR13.out 1
        obtain ⟨N, hN⟩ : ∃ N, txtNo L xt = N := ⟨_, rfl⟩
        have HN := hide hN
        rw [hN]
        obtain ⟨v5, w5, hap, ho5, hg5⟩ := added_int (c := 1) (x := N) (World.ownsRow.alloc HO3.out (.cells #[.int .i64 N] 2)) (heap_new wc _) (by have := HKL.out; omega) (by have := HS1.out; have := HZ3.out; simp; omega)
        obtain ⟨a5, c5, rfl, _⟩ := owned_of_own ho5
        have HAP := hide hap
        have HO5 := hide ho5
        have hkeep : ∀ j X, wc.heap[j]? = some X → (some j ≠ Value.ownBlock (.slice av k cv)) → w5.heap[j]? = some X := fun j X hj hne => (hg5.block j (by have := (Array.getElem?_eq_some_iff.1 hj).1; simp; omega) hne).trans (heap_old hj)
        have hvb : ∀ j, Value.ownBlock (.slice av k cv) = some j → w.heap.size + 1 + 1 ≤ j := fun j e => (World.ownsRow.lt HO3.out j e).1
        have HR15 := hide (hkeep _ _ HR13.out (fun e => by have := hvb _ e.symm; omega))
        have HR05 := hide (hkeep _ _ HR03.out (fun e => by have := hvb _ e.symm; omega))
        have HB5 : Hid (Below w.heap.size w w5) := Below.grown (HBW.out.alloc HBW.out.size (.cells #[.int .i64 N] 2)) hg5 (by have := HBW.out.size; simp; omega) (fun j e => by have := hvb j e; omega)
        clear hN hap ho5 hkeep hvb hg5
        have f5 := four_frozen HR15.out 1
        have g5 := (h9_two HR15.out).2
        have HRW := hide (h9_one2 HR15.out (.slice a5 (k + 1) c5))
        have HAS : Hid (Aside (w.heap.size + 1) (w.heap.size + 1 + 1) w5 (w5.setCell ⟨w.heap.size + 1, 1, none⟩ (.slice a5 (k + 1) c5))) := (Aside.refl _ _ _).setCell (p := ⟨w.heap.size + 1, 1, none⟩) (Nat.le_refl _) (Nat.lt_succ_self _) _
        have HKN : Hid (k + 1 ≤ n) := hlt
        have HTN : Hid ((txNos L).take (k + 1) = (txNos L).take k ++ [N]) := by show _ = _; rw [HTK.out, ← HN.out]
        go_wp2_with (at_builtin; refine Lib.wpList_append_run _ rfl (.tmp 22) (.tmp 24) _ _ rfl _ _ rfl rfl _ _ HAP.out ?_)
        go_roundw
        case rel => exact ⟨k + 1, a5, c5, HKN.out, by go_num, (HAS.out.block _ (Array.getElem?_eq_some_iff.1 HR05.out).1 (.inl (Nat.lt_succ_self _))).trans HR05.out, HRW.out, by rw [HTN.out]; exact own_asideH HO5.out HAS.out (Nat.le_refl _), HB5.out.setCell (p := ⟨w.heap.size + 1, 1, none⟩) (Nat.le_succ _) _⟩
        case measure => have := HKN.out; simp [intOf]; omega
    · obtain rfl : k = n := by omega
      have hT : (txNos L).take k = txNos L := List.take_of_length_le (by unfold txNos; rw [List.length_map, HY.out.1]; exact Nat.le_refl _)
      have HO2 := hide (hT ▸ HO.out)
      clear hT
      obtain ⟨c0, c1⟩ := h9_two HR1.out
      obtain ⟨d0, d1⟩ := h9_two HR0.out
      have f0 := four_frozen HR0.out 0
      have f1 := four_frozen HR0.out 1
      have HAS : Hid (Aside w.heap.size (w.heap.size + 1) w1 ((w1.setCell ⟨w.heap.size, 0, none⟩ (.slice a k cap)).setCell ⟨w.heap.size, 1, none⟩ (.slice av k cv))) := ((Aside.refl _ _ _).setCell (p := ⟨w.heap.size, 0, none⟩) (Nat.le_refl _) (Nat.lt_succ_self _) _).setCell (p := ⟨w.heap.size, 1, none⟩) (Nat.le_refl _) (Nat.lt_succ_self _) _
      have HRS := hide (h9_set2 HR0.out (.slice a k cap) (.slice av k cv))
      go_wp2_with fail
      refine bodyPost_ret (results_cell rfl rfl (run_loadVar_row _ _ _ _ _ _ _ HRS.out Try.underlying56 rfl (by kernel_rfl))) rfl ⟨_, rfl, own_monoH (own_asideH HO2.out HAS.out (by omega)) (by omega), HB.out.trans (HAS.out.below (Nat.le_refl _) HB.out.size)⟩
end Go.Proofs.Ytnemncmaaejajaa
