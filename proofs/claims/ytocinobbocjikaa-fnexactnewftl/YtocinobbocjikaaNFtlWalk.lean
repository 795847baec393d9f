/- Several texts in one: FtlWalk, ChipImplA, ChipNewS. -/
import Derived.Test.YtocinobbocjikaaNChipOkS
import Derived.Deep.RegionWith
section
namespace Go.Proofs.Ytocinobbocjikaa
open Go.RowKit
set_option linter.unusedVariables false
set_option maxRecDepth 20000

theorem five_cells {W : World} {b : Nat} {c0 c1 c2 c3 c4 : Value} {t : TypeId} {fr : Nat × Nat} (h : W.heap[b]? = some (.cells #[c0, c1, c2, c3, c4] t fr)) :
    W.cell? ⟨b, 0, none⟩ = some c0 ∧ W.cell? ⟨b, 1, none⟩ = some c1 ∧ W.cell? ⟨b, 2, none⟩ = some c2 ∧ W.cell? ⟨b, 3, none⟩ = some c3 ∧ W.cell? ⟨b, 4, none⟩ = some c4 := by
  simp [World.cell?, h]

theorem five_set {W : World} {b : Nat} {c0 c1 c2 c3 c4 : Value} {t : TypeId} {fr : Nat × Nat} (h : W.heap[b]? = some (.cells #[c0, c1, c2, c3, c4] t fr)) (v0 v1 v2 v3 v4 : Value) :
    (((((W.setCell ⟨b, 0, none⟩ v0).setCell ⟨b, 1, none⟩ v1).setCell ⟨b, 2, none⟩ v2).setCell ⟨b, 3, none⟩ v3).setCell ⟨b, 4, none⟩ v4).heap[b]? = some (.cells #[v0, v1, v2, v3, v4] t fr) :=
  set_block (set_block (set_block (set_block (set_block h 0 v0 (by simp)) 1 v1 (by simp)) 2 v2 (by simp)) 3 v3 (by simp)) 4 v4 (by simp)
theorem five_aside {lo hi b : Nat} {a w : World} (h : Aside lo hi a w) (h1 : lo ≤ b) (h2 : b < hi) (v0 v1 v2 v3 v4 : Value) :
    Aside lo hi a (((((w.setCell ⟨b, 0, none⟩ v0).setCell ⟨b, 1, none⟩ v1).setCell ⟨b, 2, none⟩ v2).setCell ⟨b, 3, none⟩ v3).setCell ⟨b, 4, none⟩ v4) :=
  ((((h.setCell (p := ⟨b, 0, none⟩) h1 h2 v0).setCell (p := ⟨b, 1, none⟩) h1 h2 v1).setCell (p := ⟨b, 2, none⟩) h1 h2 v2).setCell (p := ⟨b, 3, none⟩) h1 h2 v3).setCell (p := ⟨b, 4, none⟩) h1 h2 v4

theorem Places.mk_of {lo hi n : Nat} {w w' : World} {a : Option Addr} {ps : List Pl} (h : Places lo hi w a n ps) {l r : Nat} (hb : Aside l r w w') (hB : hi ≤ l ∨ r ≤ lo) : Places lo hi w' a n ps := ⟨h.1, h.2.aside hb hB⟩
set_option maxHeartbeats 1600000 in
theorem eqFtl_same (z : Int) (a b : Option Addr) (n ca cb : Nat) (qs : List Sq) (am bm : Option Addr) (m cam cbm : Nat) (ps : List Pl) (op st : Int) (w : World) {lo hi lo' hi' lp rp lp' rp' : Nat} (h : Squares lo hi w a n qs) (h' : Squares lo' hi' w b n qs) (hhi : hi ≤ w.heap.size) (hhi' : hi' ≤ w.heap.size) (hfit : n + weight qs ≤ 1048576) (hp : Places lp rp w am m ps) (hp' : Places lp' rp' w bm m ps) (hrp : rp ≤ w.heap.size) (hrp' : rp' ≤ w.heap.size) (hm : m ≤ 1048576) :
    Calls Try.prog 22 #[.agg #[.int .i64 z, .slice a n ca, .slice am m cam, .int .i64 op, .int .i64 st], .agg #[.int .i64 z, .slice b n cb, .slice bm m cbm, .int .i64 op, .int .i64 st]] w fun e w' => e = .returned (.bool true) ∧ Below w.heap.size w w' := by
  obtain ⟨wA, hwA⟩ : ∃ wA, wA = (w.alloc (.cells #[.int .i64 z, .slice a n ca, .slice am m cam, .int .i64 op, .int .i64 st] 42)).alloc (.cells #[.int .i64 z, .slice b n cb, .slice bm m cbm, .int .i64 op, .int .i64 st] 42) := ⟨_, rfl⟩
  have hzA : wA.heap.size = w.heap.size + 1 + 1 := by rw [hwA]; simp
  have HBA : Hid (Below w.heap.size w wA) := by rw [hwA]; exact ((Below.refl _ _).alloc (Nat.le_refl _) _).alloc (by simp) _
  have H0 : Hid (wA.heap[w.heap.size]? = some (.cells #[.int .i64 z, .slice a n ca, .slice am m cam, .int .i64 op, .int .i64 st] 42)) := by rw [hwA]; exact heap_old (heap_new _ _)
  have H1 : Hid (wA.heap[w.heap.size + 1]? = some (.cells #[.int .i64 z, .slice b n cb, .slice bm m cbm, .int .i64 op, .int .i64 st] 42)) := by rw [hwA]; exact heap_at (by simp)
  have HS := hide (h.later HBA.out hhi)
  have HS' := hide (h'.later HBA.out hhi')
  have HP := hide (hp.later HBA.out hrp)
  have HP' := hide (hp'.later HBA.out hrp')
  clear h h' hp hp'
  obtain ⟨c0, c1, c2, c3, c4⟩ := five_cells H0.out
  obtain ⟨d0, d1, d2, d3, d4⟩ := five_cells H1.out
  go_enter Try.func22, Try.ntmps22
  go_wp2_with fail
  rw [← hwA]
  clear hwA
  refine (eqChip_same z a b n ca cb qs wA HS.out HS'.out (by omega) (by omega) hfit).mono ?_
  rintro e w1 ⟨rfl, b1⟩
  have K0 := hide (block_on H0.out b1)
  have K1 := hide (block_on H1.out b1)
  have Q0 := hide (HP.out.later b1 (by omega))
  have Q1 := hide (HP'.out.later b1 (by omega))
  have HB1 := hide (below_here HBA.out b1)
  clear b1 c0 c1 c2 c3 c4 d0 d1 d2 d3 d4 H0 H1
  obtain ⟨c0, c1, c2, c3, c4⟩ := five_cells K0.out
  obtain ⟨d0, d1, d2, d3, d4⟩ := five_cells K1.out
  go_wp2_with fail
  refine (eqPlaceS_same am bm m cam cbm ps w1 Q0.out Q1.out hm).mono ?_
  rintro e w2 ⟨rfl, b2⟩
  have E0 := hide (block_on K0.out b2)
  have E1 := hide (block_on K1.out b2)
  have HB2 := hide (below_here HB1.out b2)
  clear b2 c0 c1 c2 c3 c4 d0 d1 d2 d3 d4 K0 K1
  obtain ⟨c0, c1, c2, c3, c4⟩ := five_cells E0.out
  obtain ⟨d0, d1, d2, d3, d4⟩ := five_cells E1.out
  go_wp2_with fail
  go_ret
  exact ⟨rfl, HB2.out⟩
end Go.Proofs.Ytocinobbocjikaa
end

section
namespace Go.Proofs.Ytocinobbocjikaa
open Go.RowKit
set_option linter.unusedVariables false
set_option maxRecDepth 20000

set_option maxHeartbeats 400000 in
theorem isLayout_any (q z : Int) (w : World) :
    Calls Try.prog 58 #[.int .i64 q, .int .i64 z] w fun e w' => e = .returned (.bool (inB q 1 12 && inB z 1 8)) ∧ w = w' := by
  by_cases h1 : 1 ≤ q
  · have g1 : decide (q ≥ 1) = true := by simpa using h1
    by_cases h2 : q ≤ 12
    · by_cases h3 : 1 ≤ z
      · have g3 : decide (z ≥ 1) = true := by simpa using h3
        have HE : Hid ((inB q 1 12 && inB z 1 8) = decide (z ≤ 8)) := by show _ = _; simp [inB, h1, h2, h3]
        go_enter Try.func58, Try.ntmps58
        go_wp2_with fail
        go_ret
        exact ⟨ret_bool HE.out.symm, rfl⟩
      · have g3 : decide (z ≥ 1) = false := by simpa using h3
        have HE : Hid ((inB q 1 12 && inB z 1 8) = false) := by show _ = _; simp [inB, h3]
        go_enter Try.func58, Try.ntmps58
        go_wp2_with fail
        go_ret
        exact ⟨ret_bool HE.out.symm, rfl⟩
    · have HE : Hid ((inB q 1 12 && inB z 1 8) = false) := by show _ = _; simp [inB, h2]
      go_enter Try.func58, Try.ntmps58
      go_wp2_with fail
      go_ret
      exact ⟨ret_bool HE.out.symm, rfl⟩
  · have g1 : decide (q ≥ 1) = false := by simpa using h1
    have HE : Hid ((inB q 1 12 && inB z 1 8) = false) := by show _ = _; simp [inB, h1]
    go_enter Try.func58, Try.ntmps58
    go_wp2_with fail
    go_ret
    exact ⟨ret_bool HE.out.symm, rfl⟩

set_option maxHeartbeats 400000 in
theorem canBeWritten_any (s : ByteArray) (w : World) (hs : s.size ≤ maxLen) :
    Calls Try.prog 71 #[.string s] w fun e w' => e = .returned (.bool (txOk s)) ∧ w = w' := by
  unfold maxLen at hs
  by_cases h1 : s = ⟨#[]⟩
  · subst h1
    go_enter Try.func71, Try.ntmps71
    go_wp2_with fail
    go_ret
    exact ⟨rfl, rfl⟩
  · have h2 : 1 ≤ s.size := by
      rcases Nat.eq_zero_or_pos s.size with h | h
      · exact absurd (ByteArray.ext (Array.eq_empty_of_size_eq_zero h)) h1
      · exact h
    have g1 : s.toList.isEmpty = false := by
      rw [List.isEmpty_eq_false_iff]
      intro e
      rw [ByteArray.toList_eq] at e
      have h3 : s.data.toList.length = s.size := rfl
      rw [e] at h3
      simp at h3
      omega
    clear h1
    have HE : Hid (txOk s = decide ((s.size : Int) ≤ 200)) := by show _ = _; unfold txOk; rw [decide_eq_true h2, Bool.true_and]; congr 1; apply propext; omega
    go_enter Try.func71, Try.ntmps71
    go_wp2_with fail
    go_ret
    exact ⟨ret_bool HE.out.symm, rfl⟩

set_option maxHeartbeats 800000 in
theorem isSquare_any (a : Option Addr) (cap : Nat) (ts : List ByteArray) (zw : Int) (bd : Bool) (z : Int) (w : World) {lo hi : Nat} (h : Texts lo hi w a ts.length ts) (hhi : hi ≤ w.heap.size) (hn : ts.length ≤ maxLen) (hts : ∀ s ∈ ts, s.size ≤ maxLen) :
    Calls Try.prog 59 #[.agg #[.slice a ts.length cap, .int .i64 zw, .bool bd], .int .i64 z] w fun e w' => e = .returned (.bool (sqOk z (ts, zw, bd))) ∧ Below w.heap.size w w' := by
  obtain ⟨wA, hwA⟩ : ∃ wA, wA = w.alloc (.cells #[.slice a ts.length cap, .int .i64 zw, .bool bd] 40) := ⟨_, rfl⟩
  have hzA : wA.heap.size = w.heap.size + 1 := by rw [hwA]; simp
  have HBA : Hid (Below w.heap.size w wA) := by rw [hwA]; exact (Below.refl _ _).alloc (Nat.le_refl _) _
  have H1 : Hid (wA.heap[w.heap.size]? = some (.cells #[.slice a ts.length cap, .int .i64 zw, .bool bd] 40)) := by rw [hwA]; exact heap_new _ _
  have HT := hide (h.later HBA.out hhi)
  have HF := hide hts
  unfold maxLen at hn
  clear h hts
  obtain ⟨c0, c1, c2⟩ := three_cells H1.out
  by_cases hle : (ts.length : Int) ≤ z
  · have g1 : decide ((ts.length : Int) > z) = false := by simp; omega
    by_cases h0 : 0 ≤ zw
    · have g2 : decide (zw < 0) = false := by simp; omega
      by_cases hM : zw ≤ 1000000
      · have g3 : decide (zw > 1000000) = false := by simp; omega
        have HE : Hid (sqOk z (ts, zw, bd) = ts.all txOk) := by show _ = _; unfold sqOk inB; simp [hle, h0, hM]
        go_enter Try.func59, Try.ntmps59
        go_wp2_with fail
        rw [← hwA]
        clear hwA c0 c1 c2 g1 g2 g3
        go_loopw [25, 6] (fun i _ wr => ∃ k : Nat, k ≤ ts.length ∧ i = .int .i64 (k : Int) ∧ (ts.take k).all txOk = true ∧ wA = wr) (fun i _ _ => ts.length - (intOf i).toNat)
        case atStart => exact ⟨0, Nat.zero_le _, rfl, by simp, rfl⟩
        case round =>
          obtain ⟨k, hk, rfl, hall, rfl⟩ := hrel
          have HA := hide hall
          clear hall
          by_cases hlt : k < ts.length
          · obtain ⟨_, _, hx⟩ := HT.out
            obtain ⟨b, off, rfl, _, hb, hc⟩ := hx (by omega)
            have hck : wA.cell? ⟨b, off + k, none⟩ = some (.string (ts.getD k ByteArray.empty)) := hc k hlt
            clear hc hx
            have HFJ := hide (fun h => tx_all_fall (k := k) hlt h)
            have HSJ := hide (fun h => tx_all_step (k := k) hlt HA.out h)
            have hx9 : (ts.getD k ByteArray.empty).size ≤ maxLen := by
              refine HF.out _ ?_
              rw [List.getD_eq_getElem?_getD, List.getElem?_eq_getElem hlt]
              exact List.getElem_mem _
            generalize ts.getD k ByteArray.empty = x at *
            go_wp2_with fail
            refine (canBeWritten_any x wA hx9).mono ?_
            rintro e w1 ⟨rfl, rfl⟩
            cases hx : txOk x with
            | true =>
              have HOK := hide (HSJ.out hx)
              go_wp2_with fail
              exact ⟨⟨k + 1, by omega, by go_num, HOK.out, trivial⟩, by simp [intOf]; omega⟩
            | false =>
              have HNO := hide (HFJ.out hx)
              go_wp2_with fail
              go_ret
              exact ⟨ret_bool (by rw [HE.out, HNO.out]), HBA.out⟩
          · go_wp2_with fail
            go_ret
            refine ⟨ret_bool ?_, HBA.out⟩
            have h9 := HA.out
            rw [List.take_of_length_le (by omega)] at h9
            rw [HE.out, h9]
      · have g3 : decide (zw > 1000000) = true := by simp; omega
        have HE : Hid (sqOk z (ts, zw, bd) = false) := by show _ = _; unfold sqOk inB; simp [hM]
        go_enter Try.func59, Try.ntmps59
        go_wp2_with fail
        rw [← hwA]
        go_ret
        exact ⟨ret_bool HE.out.symm, HBA.out⟩
    · have g2 : decide (zw < 0) = true := by simp; omega
      have HE : Hid (sqOk z (ts, zw, bd) = false) := by show _ = _; unfold sqOk inB; simp [h0]
      go_enter Try.func59, Try.ntmps59
      go_wp2_with fail
      rw [← hwA]
      go_ret
      exact ⟨ret_bool HE.out.symm, HBA.out⟩
  · have g1 : decide ((ts.length : Int) > z) = true := by simp; omega
    have HE : Hid (sqOk z (ts, zw, bd) = false) := by show _ = _; unfold sqOk; simp [hle]
    go_enter Try.func59, Try.ntmps59
    go_wp2_with fail
    rw [← hwA]
    go_ret
    exact ⟨ret_bool HE.out.symm, HBA.out⟩

set_option maxHeartbeats 1600000 in
theorem implChipOk_any (z : Int) (a : Option Addr) (n cap : Nat) (qs : List Sq) (w : World) {lo hi : Nat} (h : Squares lo hi w a n qs) (hhi : hi ≤ w.heap.size) (hn : n ≤ 1048576) (hf : ∀ x ∈ qs, sqFits x) :
    Calls Try.prog 30 #[.agg #[.int .i64 z, .slice a n cap]] w fun e w' => e = .returned (.bool (chipOk z qs)) ∧ Below w.heap.size w w' := by
  obtain ⟨wA, hwA⟩ : ∃ wA, wA = w.alloc (.cells #[.int .i64 z, .slice a n cap] 26) := ⟨_, rfl⟩
  have hzA : wA.heap.size = w.heap.size + 1 := by rw [hwA]; simp
  have HBA : Hid (Below w.heap.size w wA) := by rw [hwA]; exact (Below.refl _ _).alloc (Nat.le_refl _) _
  have H1 : Hid (wA.heap[w.heap.size]? = some (.cells #[.int .i64 z, .slice a n cap] 26)) := by rw [hwA]; exact heap_new _ _
  have HSQ := hide (h.later HBA.out hhi)
  have HL := hide h.1
  have HF := hide hf
  clear h hf
  obtain ⟨a0, a1⟩ := two_cells H1.out
  go_enter Try.func30, Try.ntmps30
  go_wp2_with fail
  rw [← hwA]
  clear hwA
  refine (isLayout_any (n : Int) z wA).mono ?_
  rintro e w1 ⟨rfl, rfl⟩
  cases hlay : (inB (n : Int) 1 12 && inB z 1 8) with
  | false =>
    have HNO : Hid (chipOk z qs = false) := by
      show _ = _
      unfold chipOk
      rw [HL.out]
      unfold inB at hlay ⊢
      by_cases h1 : 1 ≤ n <;> by_cases h2 : n ≤ 12 <;> by_cases h3 : 1 ≤ z <;> by_cases h4 : z ≤ 8 <;> simp [h1, h2, h3, h4] at hlay ⊢ <;> omega
    go_wp2_with fail
    go_ret
    exact ⟨ret_bool HNO.out.symm, HBA.out⟩
  | true =>
    have HYES : Hid (chipOk z qs = qs.all (sqOk z)) := by
      show _ = _
      unfold chipOk
      rw [HL.out]
      unfold inB at hlay ⊢
      simp at hlay
      rw [decide_eq_true (show (1 : Int) ≤ z by omega), decide_eq_true (show z ≤ 8 by omega), decide_eq_true (show 1 ≤ n by omega), decide_eq_true (show n ≤ 12 by omega)]
      simp
    clear hlay
    go_wp2_with fail
    clear a0 a1
    go_loopw [15, 4] (fun i _ wr => ∃ k : Nat, k ≤ n ∧ i = .int .i64 (k : Int) ∧ (qs.take k).all (sqOk z) = true ∧ Below wA.heap.size wA wr) (fun i _ _ => n - (intOf i).toNat)
    case atStart => exact ⟨0, Nat.zero_le _, rfl, by simp, Below.refl _ _⟩
    case round =>
      obtain ⟨k, hk, rfl, hall, hbel⟩ := hrel
      have HAL := hide hall
      have HBB := hide hbel
      clear hall
      by_cases hlt : k < n
      · have hql : k < qs.length := by rw [HL.out]; exact hlt
        obtain ⟨_, A, C, hx, ht⟩ := HSQ.out
        obtain ⟨b, off, rfl, _, hb, hc⟩ := hx.2 (by omega)
        obtain ⟨c0, c1, c2⟩ := sq_cells hc hbel (show b < wA.heap.size by omega) hlt
        have HTX := hide ((ht k hlt).later hbel (by omega))
        have HFI := hide (sq_fits HF.out hql)
        have HFA := hide (fun h => sq_all_fall (z := z) hql h)
        have HST := hide (fun h => sq_all_step (z := z) hql HAL.out h)
        clear hc hx ht
        generalize sqAt qs k = y at *
        obtain ⟨ts, zw, bd⟩ := y
        dsimp only at c0 c1 c2
        obtain ⟨wB, hwB⟩ : ∃ wB, wB = wr.alloc (.cells #[.slice (A k) ts.length (C k), .int .i64 zw, .bool bd] 40) := ⟨_, rfl⟩
        have HB1 : Hid (Below wr.heap.size wr wB) := by rw [hwB]; exact (Below.refl _ _).alloc (Nat.le_refl _) _
        have HB0 : Hid (wB.heap[wr.heap.size]? = some (.cells #[.slice (A k) ts.length (C k), .int .i64 zw, .bool bd] 40)) := by rw [hwB]; exact heap_new _ _
        obtain ⟨a0, a1⟩ := two_cells (block_on (block_on H1.out hbel) HB1.out)
        have HTB := hide (HTX.out.later HB1.out HTX.out.2.1)
        have hzB : wB.heap.size = wr.heap.size + 1 := by rw [hwB]; simp
        rw [hwB] at a0 a1
        go_wp2_with fail
        rw [← hwB]
        clear a0 a1 c0 c1 c2 hwB
        refine (isSquare_any (A k) (C k) ts zw bd z wB HTB.out (by have := HTX.out.2.1; omega) HFI.out.2.1 HFI.out.1).mono ?_
        rintro e w2 ⟨rfl, b2⟩
        have HB2 := hide (below_here (below_here HBB.out HB1.out) b2)
        clear b2 hbel
        cases hok : sqOk z (ts, zw, bd) with
        | true =>
          have HOK := hide (HST.out hok)
          go_wp2_with fail
          exact ⟨⟨k + 1, by omega, by go_num, HOK.out, HB2.out⟩, by simp [intOf]; omega⟩
        | false =>
          have HNO := hide (HFA.out hok)
          go_wp2_with fail
          go_ret
          exact ⟨ret_bool HNO.out.symm, below_here HBA.out HB2.out⟩
      · go_wp2_with fail
        go_ret
        refine ⟨ret_bool ?_, below_here HBA.out HBB.out⟩
        have h9 := HAL.out
        rw [List.take_of_length_le (by rw [HL.out]; omega)] at h9
        rw [HYES.out, h9]

set_option maxHeartbeats 400000 in
theorem hasSquare_any (z : Int) (a : Option Addr) (n cap : Nat) (q : Int) (w : World) :
    Calls Try.prog 38 #[.agg #[.int .i64 z, .slice a n cap], .int .i64 q] w fun e w' => e = .returned (.bool (inB q 0 ((n : Int) - 1))) ∧ Below w.heap.size w w' := by
  have HBA := hide ((Below.refl w.heap.size w).alloc (Nat.le_refl _) (.cells #[.int .i64 z, .slice a n cap] 26))
  by_cases h0 : 0 ≤ q
  · have g0 : decide (q ≥ 0) = true := by simpa using h0
    have HE : Hid (inB q 0 ((n : Int) - 1) = decide (q < (n : Int))) := by show _ = _; unfold inB; rw [decide_eq_true h0, Bool.true_and]; congr 1; apply propext; omega
    go_enter Try.func38, Try.ntmps38
    go_wp2_with fail
    go_ret
    exact ⟨ret_bool HE.out.symm, HBA.out⟩
  · have g0 : decide (q ≥ 0) = false := by simpa using h0
    have HE : Hid (inB q 0 ((n : Int) - 1) = false) := by show _ = _; unfold inB; rw [decide_eq_false h0, Bool.false_and]
    go_enter Try.func38, Try.ntmps38
    go_wp2_with fail
    go_ret
    exact ⟨ret_bool HE.out.symm, HBA.out⟩
end Go.Proofs.Ytocinobbocjikaa
end

section
namespace Go.Proofs.Ytocinobbocjikaa
open Go.RowKit
set_option linter.unusedVariables false
set_option maxRecDepth 20000

theorem sqAt_new (n i : Nat) : sqAt (List.replicate n (([], 0, false) : Sq)) i = ([], 0, false) := by
  unfold sqAt
  rw [List.getD_eq_getElem?_getD, List.getElem?_replicate]
  split <;> rfl
theorem cellQ_new (n j : Nat) : zero3 j = cellQ (fun _ => none) (fun _ => 0) (List.replicate n (([], 0, false) : Sq)) j := by
  unfold cellQ zero3
  rw [sqAt_new]
  rfl
theorem squares_new {lo g n : Nat} {w : World} (h : Owned g (g + 1) w (some ⟨g, 0, none⟩) (3 * n) zero3) (hlo : lo ≤ g) : OwnSquares lo w.heap.size w (some ⟨g, 0, none⟩) n (List.replicate n ([], 0, false)) := by
  have hs := h.1
  refine ⟨g, 0, fun _ => none, fun _ => 0, fun _ => g, ⟨by simp, h.congr (fun j _ => cellQ_new n j), fun _ => rfl, fun i _ => ?_, fun i _ => by rw [sqAt_new]; exact Nat.le_refl _, ⟨hlo, by omega⟩, fun i _ => ⟨hlo, by omega⟩, fun i _ h' => ?_, fun i j _ _ _ h' => ?_, Nat.le_refl _⟩⟩
  · rw [sqAt_new]
    exact ⟨rfl, hs, fun h' => absurd h' (by simp)⟩
  · rw [sqAt_new] at h'
    exact absurd h' (by simp)
  · rw [sqAt_new] at h'
    exact absurd h' (by simp)

set_option maxHeartbeats 1600000 in
theorem specNewChip_any (n : Nat) (z : Int) (w : World) (h1 : 1 ≤ n) (h2 : n ≤ 12) (hz : inB z 1 8 = true) :
    Calls Try.prog 46 #[.int .i64 (n : Int), .int .i64 z] w fun e w' => ∃ a, e = .returned (.tuple #[.agg #[.int .i64 z, .slice a n n], .bool true]) ∧ OwnSquares w.heap.size w'.heap.size w' a n (List.replicate n ([], 0, false)) ∧ Below w.heap.size w w' := by
  obtain ⟨wA, hwA⟩ : ∃ wA, wA = w.alloc (.cells #[.int .i64 0, .slice none 0 0] 26) := ⟨_, rfl⟩
  have hzA : wA.heap.size = w.heap.size + 1 := by rw [hwA]; simp
  have HBA : Hid (Below w.heap.size w wA) := by rw [hwA]; exact (Below.refl _ _).alloc (Nat.le_refl _) _
  have H1 : Hid (wA.heap[w.heap.size]? = some (.cells #[.int .i64 0, .slice none 0 0] 26)) := by rw [hwA]; exact heap_new _ _
  have hi : inB (n : Int) 1 12 = true := by unfold inB; simp; omega
  have hmk := make3 (P := Try.prog) 24 40 (.slice none 0 0) (.int .i64 0) (.bool false) 40 Try.underlying24 Try.infoSq n (by omega) (by omega) wA
  go_enter Try.func46, Try.ntmps46
  go_wp2_with fail
  rw [← hwA]
  clear hwA
  refine (l1In_any (n : Int) 1 12 wA).mono ?_
  rintro e w1 ⟨rfl, rfl⟩
  rw [hi]
  go_wp2_with fail
  refine (l1In_any z 1 8 wA).mono ?_
  rintro e w1 ⟨rfl, rfl⟩
  rw [hz]
  obtain ⟨a0, a1⟩ := two_cells H1.out
  have f0 := four_frozen H1.out 0
  have f1 := four_frozen H1.out 1
  go_wp2_with fail
  have HRS := hide (two_set H1.out (.int .i64 z) (.slice (some ⟨w.heap.size + 1, 0, none⟩) n n))
  have HAS := hide (two_aside (b := w.heap.size) (Aside.refl w.heap.size (w.heap.size + 1) wA) (Nat.le_refl _) (Nat.lt_succ_self _) (.int .i64 z) (.slice (some ⟨w.heap.size + 1, 0, none⟩) n n))
  have hsW : ((wA.setCell ⟨w.heap.size, 0, none⟩ (.int .i64 z)).setCell ⟨w.heap.size, 1, none⟩ (.slice (some ⟨w.heap.size + 1, 0, none⟩) n n)).heap.size = w.heap.size + 1 := by rw [Go.Deep.nblk_setCell, Go.Deep.nblk_setCell, hzA]
  have HBW := hide (HBA.out.trans (HAS.out.below (Nat.le_refl _) (by omega)))
  have HOW := hide (made3 ((wA.setCell ⟨w.heap.size, 0, none⟩ (.int .i64 z)).setCell ⟨w.heap.size, 1, none⟩ (.slice (some ⟨w.heap.size + 1, 0, none⟩) n n)) n 40)
  rw [hsW] at HOW
  refine bodyPost_ret (results_ct rfl rfl (run_loadVar_row _ _ _ _ _ _ _ (heap_old HRS.out) Try.underlying26 rfl (by kernel_rfl))) rfl ⟨_, rfl, squares_new HOW.out (by omega), HBW.out.alloc (by omega) _⟩

set_option maxHeartbeats 800000 in
theorem specNewChip_no (q z : Int) (w : World) (h : (inB q 1 12 && inB z 1 8) = false) :
    Calls Try.prog 46 #[.int .i64 q, .int .i64 z] w fun e w' => e = .returned (.tuple #[.agg #[.int .i64 0, .slice none 0 0], .bool false]) ∧ Below w.heap.size w w' := by
  obtain ⟨wA, hwA⟩ : ∃ wA, wA = w.alloc (.cells #[.int .i64 0, .slice none 0 0] 26) := ⟨_, rfl⟩
  have hzA : wA.heap.size = w.heap.size + 1 := by rw [hwA]; simp
  have HBA : Hid (Below w.heap.size w wA) := by rw [hwA]; exact (Below.refl _ _).alloc (Nat.le_refl _) _
  have H1 : Hid (wA.heap[w.heap.size]? = some (.cells #[.int .i64 0, .slice none 0 0] 26)) := by rw [hwA]; exact heap_new _ _
  obtain ⟨a0, a1⟩ := two_cells H1.out
  have f0 := four_frozen H1.out 0
  have f1 := four_frozen H1.out 1
  have HRS := hide (two_set H1.out (.int .i64 0) (.slice none 0 0))
  have HAS := hide (two_aside (b := w.heap.size) (Aside.refl w.heap.size (w.heap.size + 1) wA) (Nat.le_refl _) (Nat.lt_succ_self _) (.int .i64 0) (.slice none 0 0))
  have HBW := hide (HBA.out.trans (HAS.out.below (Nat.le_refl _) (by omega)))
  go_enter Try.func46, Try.ntmps46
  go_wp2_with fail
  rw [← hwA]
  clear hwA
  refine (l1In_any q 1 12 wA).mono ?_
  rintro e w1 ⟨rfl, rfl⟩
  by_cases hq : inB q 1 12 = true
  · rw [hq] at h ⊢
    have hz : inB z 1 8 = false := by simpa using h
    go_wp2_with fail
    refine (l1In_any z 1 8 wA).mono ?_
    rintro e w1 ⟨rfl, rfl⟩
    rw [hz]
    go_wp2_with fail
    refine bodyPost_ret (results_ct rfl rfl (run_loadVar_row _ _ _ _ _ _ _ HRS.out Try.underlying26 rfl (by kernel_rfl))) rfl ⟨rfl, HBW.out⟩
  · have hq' : inB q 1 12 = false := by simpa using hq
    rw [hq']
    go_wp2_with fail
    refine bodyPost_ret (results_ct rfl rfl (run_loadVar_row _ _ _ _ _ _ _ HRS.out Try.underlying26 rfl (by kernel_rfl))) rfl ⟨rfl, HBW.out⟩
end Go.Proofs.Ytocinobbocjikaa
end

