/- Chapter 13's program: ReadMark, the slots, Newest. -/
import Derived.Test.YteooaljhdmmooaaDoorMDMarkImplB
import Derived.Test.YteooaljhdmmooaaDoorMDMarkImplA
import Derived.Test.YteooaljhdmmooaaDoorMDTextBase
namespace Go.Proofs.YteooaljhdmmooaaDoor
open Go.RowKit
set_option linter.unusedVariables false
set_option linter.unusedSimpArgs false
set_option maxRecDepth 20000

set_option maxHeartbeats 800000 in
theorem implReadMark_any (s : ByteArray) (hs : s.size ≤ 1048576) (w : World) :
    Calls Tryd.prog 51 #[.string s] w fun r w' => r = .returned (.tuple #[optV (readM s), .bool (readM s).isSome]) ∧ Below w.heap.size w w' := by
  obtain ⟨w0, hw0⟩ : ∃ w0, w0 = w.alloc (.cells #[.int .i64 0, .int .i64 0, .bool false] 25) := ⟨_, rfl⟩
  have HB0 : Hid (Below w.heap.size w w0) := by rw [hw0]; exact (Below.refl _ _).alloc (Nat.le_refl _) _
  have HK : Hid (w0.heap[w.heap.size]? = some (.cells #[.int .i64 0, .int .i64 0, .bool false] 25)) := by rw [hw0]; exact heap_new _ _
  go_enter Tryd.func51, Tryd.ntmps51
  go_wp2_with fail
  rw [← hw0]
  clear hw0
  refine (implWhole_any s w0 (by omega)).mono ?_
  rintro r w1 ⟨rfl, b1⟩
  have HB1 := hide (below_here HB0.out b1)
  have HK1 := hide (block_on HK.out b1)
  clear b1 HB0 HK
  cases hw : whole s
  · have HN : Hid (readM s = none) := readM_none fun m hm => by rw [hm.whole] at hw; cases hw
    obtain ⟨d0, d1, d2⟩ := mk_cells HK1.out
    have f0 := mk_frozen HK1.out 0
    have f1 := mk_frozen HK1.out 1
    have f2 := mk_frozen HK1.out 2
    have HF := hide (mk_set HK1.out (.int .i64 0) (.int .i64 0) (.bool false))
    have HG := hide (mk_below HB1.out (Nat.le_refl _) (.int .i64 0) (.int .i64 0) (.bool false))
    go_wp2_with fail
    refine bodyPost_ret (results_ct rfl rfl (run_loadVar_row _ _ _ _ _ _ _ HF.out Tryd.underlying25 rfl (by kernel_rfl))) rfl ⟨?_, HG.out⟩
    rw [HN.out]; rfl
  · have h2 : 2 ≤ s.size := by
      unfold whole at hw
      simp at hw
      exact hw.1
    have HW := hide hw
    have hsub : (s.extract 0 (s.size - 2)).size ≤ 1048576 := by simp; omega
    clear hw
    go_wp2_with fail
    refine (markIn_any _ hsub w1).mono ?_
    rintro r w2 ⟨hor, b2⟩
    have HB2 := hide (below_here HB1.out b2)
    have HK2 := hide (block_on HK1.out b2)
    clear b2 HB1 HK1 hsub
    obtain ⟨d0, d1, d2⟩ := mk_cells HK2.out
    have f0 := mk_frozen HK2.out 0
    have f1 := mk_frozen HK2.out 1
    have f2 := mk_frozen HK2.out 2
    rcases hor with ⟨m, hm, hl, rfl⟩ | ⟨hno, rfl⟩
    · have HR : Hid (readM s = some m) := readM_some (mkOf_line HW.out hm hl)
      obtain ⟨e, q, b⟩ := m
      have HF := hide (mk_set HK2.out (.int .i64 (e : Int)) (.int .i64 (q : Int)) (.bool b))
      have HG := hide (mk_below HB2.out (Nat.le_refl _) (.int .i64 (e : Int)) (.int .i64 (q : Int)) (.bool b))
      clear hm hl
      unfold markV
      go_wp2_with fail
      refine bodyPost_ret (results_ct rfl rfl (run_loadVar_row _ _ _ _ _ _ _ HF.out Tryd.underlying25 rfl (by kernel_rfl))) rfl ⟨?_, HG.out⟩
      rw [HR.out]; rfl
    · have HN : Hid (readM s = none) := readM_none fun m hm => hno _ _ _ hm.1.1 hm.1.2 hm.line
      have HF := hide (mk_set HK2.out (.int .i64 0) (.int .i64 0) (.bool false))
      have HG := hide (mk_below HB2.out (Nat.le_refl _) (.int .i64 0) (.int .i64 0) (.bool false))
      clear hno
      unfold markV
      go_wp2_with fail
      refine bodyPost_ret (results_ct rfl rfl (run_loadVar_row _ _ _ _ _ _ _ HF.out Tryd.underlying25 rfl (by kernel_rfl))) rfl ⟨?_, HG.out⟩
      rw [HN.out]; rfl

set_option maxHeartbeats 800000 in
theorem isLess_any (e q e' q' : Nat) (b b' : Bool) (w : World) :
    Calls Tryd.prog 41 #[markV (e : Int) (q : Int) b, markV (e' : Int) (q' : Int) b'] w fun r w' => r = .returned (.bool (lessM (e, q, b) (e', q', b'))) ∧ Below w.heap.size w w' := by
  have HB0 : Hid (Below w.heap.size w ((w.alloc (.cells #[.int .i64 (e : Int), .int .i64 (q : Int), .bool b] 25)).alloc (.cells #[.int .i64 (e' : Int), .int .i64 (q' : Int), .bool b'] 25))) := ((Below.refl _ _).alloc (Nat.le_refl _) _).alloc (by simp) _
  unfold markV
  by_cases he : e = e'
  · subst he
    have HL : Hid (lessM (e, q, b) (e, q', b') = decide (q < q')) := by
      show _ = _
      simp [lessM]
    go_enter Tryd.func41, Tryd.ntmps41
    go_wp2_with fail
    go_ret
    exact ⟨by rw [HL.out]; rfl, HB0.out⟩
  · have he2 : ¬ (e : Int) = (e' : Int) := by omega
    have he3 : ((e : Int) != (e' : Int)) = true := by simp; omega
    have he4 : ((e : Int) == (e' : Int)) = false := by simp; omega
    have HL : Hid (lessM (e, q, b) (e', q', b') = decide (e < e')) := by
      show _ = _
      simp [lessM, he]
    go_enter Tryd.func41, Tryd.ntmps41
    go_wp2_with fail
    go_ret
    exact ⟨by rw [HL.out]; rfl, HB0.out⟩

set_option maxHeartbeats 800000 in
theorem areSlots_any (a : Option Addr) (n cap : Nat) (ts : List ByteArray) (w : World) {lo hi : Nat} (h : Texts lo hi w a n ts) (hn : n ≤ 1048576) (hts : ∀ s ∈ ts, s.size ≤ 1048576) :
    Calls Tryd.prog 27 #[.slice a n cap] w fun r w' => r = .returned (.bool (slotsOk ts)) ∧ w' = w := by
  have HL := hide h.1
  by_cases h2 : n = 2
  · subst h2
    have HTS := hide hts
    obtain ⟨b, off, rfl, _, _, hc⟩ := h.2.2 (by omega)
    obtain ⟨s0, s1, rfl⟩ : ∃ s0 s1, ts = [s0, s1] := by
      have := HL.out
      match ts, this with
      | [x, y], _ => exact ⟨x, y, rfl⟩
    have g0 : w.cell? ⟨b, off, none⟩ = some (.string s0) := hc 0 (by omega)
    have g1 : w.cell? ⟨b, off + 1, none⟩ = some (.string s1) := hc 1 (by omega)
    have z0 := HTS.out s0 (by simp)
    have z1 := HTS.out s1 (by simp)
    have HS : Hid (slotsOk [s0, s1] = (decide (s0.size ≤ 40) && decide (s1.size ≤ 40))) := by
      show _ = _
      simp [slotsOk]
    clear h hc hts HTS
    by_cases h0 : s0.size ≤ 40
    · by_cases h1 : s1.size ≤ 40
      · go_enter Tryd.func27, Tryd.ntmps27
        go_wp2_with fail
        go_loopw [10] (fun i wr => ∃ k : Nat, k ≤ 2 ∧ i = .int .i64 (k : Int) ∧ wr = w) (fun i _ => 2 - (intOf i).toNat)
        case atStart => exact ⟨0, by omega, rfl, rfl⟩
        case round =>
          obtain ⟨k, hk, rfl, rfl⟩ := hrel
          rcases (by omega : k = 0 ∨ k = 1 ∨ k = 2) with rfl | rfl | rfl
          · simp only [show ((0 : Nat) : Int) = 0 from rfl]
            go_wp2_with fail
            go_roundw
            case rel => exact ⟨1, by omega, rfl, by trivial⟩
            case measure => simp [intOf]
          · simp only [show ((1 : Nat) : Int) = 1 from rfl]
            go_wp2_with fail
            go_roundw
            case rel => exact ⟨2, by omega, rfl, by trivial⟩
            case measure => simp [intOf]
          · simp only [show ((2 : Nat) : Int) = 2 from rfl]
            go_wp2_with fail
            go_ret
            exact ⟨by rw [HS.out]; simp [h0, h1], rfl⟩
      · go_enter Tryd.func27, Tryd.ntmps27
        go_wp2_with fail
        go_loopw [10] (fun i wr => ∃ k : Nat, k ≤ 1 ∧ i = .int .i64 (k : Int) ∧ wr = w) (fun i _ => 2 - (intOf i).toNat)
        case atStart => exact ⟨0, by omega, rfl, rfl⟩
        case round =>
          obtain ⟨k, hk, rfl, rfl⟩ := hrel
          rcases (by omega : k = 0 ∨ k = 1) with rfl | rfl
          · simp only [show ((0 : Nat) : Int) = 0 from rfl]
            go_wp2_with fail
            go_roundw
            case rel => exact ⟨1, by omega, rfl, by trivial⟩
            case measure => simp [intOf]
          · simp only [show ((1 : Nat) : Int) = 1 from rfl]
            go_wp2_with fail
            go_ret
            exact ⟨by rw [HS.out]; simp [h1], rfl⟩
    · go_enter Tryd.func27, Tryd.ntmps27
      go_wp2_with fail
      go_loopw [10] (fun i wr => ∃ k : Nat, k ≤ 0 ∧ i = .int .i64 (k : Int) ∧ wr = w) (fun i _ => 2 - (intOf i).toNat)
      case atStart => exact ⟨0, by omega, rfl, rfl⟩
      case round =>
        obtain ⟨k, hk, rfl, rfl⟩ := hrel
        obtain rfl : k = 0 := by omega
        simp only [show ((0 : Nat) : Int) = 0 from rfl]
        go_wp2_with fail
        go_ret
        exact ⟨by rw [HS.out]; simp [h0], rfl⟩
  · have h3 : ¬ (n : Int) = 2 := by omega
    have HS : Hid (slotsOk ts = false) := by
      show _ = _
      unfold slotsOk
      rw [HL.out]
      simp [h2]
    clear h hts
    go_enter Tryd.func27, Tryd.ntmps27
    go_wp2_with fail
    go_ret
    exact ⟨by rw [HS.out]; rfl, rfl⟩


set_option maxHeartbeats 3200000 in
theorem implNewest_any (a : Option Addr) (n cap : Nat) (ts : List ByteArray) (w : World) {lo hi : Nat} (h : Texts lo hi w a n ts) (hn : n ≤ 1048576) (hts : ∀ s ∈ ts, s.size ≤ 1048576) :
    Calls Tryd.prog 40 #[.slice a n cap] w fun r w' => r = .returned (newV (newestF ts)) ∧ Below w.heap.size w w' := by
  have hhi := h.2.1
  obtain ⟨w0, hw0⟩ : ∃ w0, w0 = (w.alloc (.cells #[.int .i64 0, .int .i64 0, .bool false] 25)).alloc (.cells #[.int .i64 0, .int .i64 0, .bool false] 25) := ⟨_, rfl⟩
  have HB0 : Hid (Below w.heap.size w w0) := by rw [hw0]; exact ((Below.refl _ _).alloc (Nat.le_refl _) _).alloc (by simp) _
  have HK : Hid (w0.heap[w.heap.size]? = some (.cells #[.int .i64 0, .int .i64 0, .bool false] 25)) := by rw [hw0]; exact heap_old (heap_new _ _)
  have HN : Hid (w0.heap[w.heap.size + 1]? = some (.cells #[.int .i64 0, .int .i64 0, .bool false] 25)) := by rw [hw0]; exact heap_at (by simp)
  have hT0 : Texts lo hi w0 a n ts := h.later HB0.out hhi
  have HL := hide h.1
  have HT := hide h
  clear h
  cases hsl : slotsOk ts
  · have HE : Hid (newestF ts = none) := newestF_no hsl
    go_enter Tryd.func40, Tryd.ntmps40
    go_upto_region 2 with fail
    rw [← hw0]
    clear hw0
    go_wp2_with fail
    refine (areSlots_any a n cap ts w0 hT0 hn hts).mono ?_
    rw [hsl]
    rintro r w1 ⟨rfl, rfl⟩
    obtain ⟨d0, d1, d2⟩ := mk_cells HK.out
    have f0 := mk_frozen HK.out 0
    have f1 := mk_frozen HK.out 1
    have f2 := mk_frozen HK.out 2
    obtain ⟨e0, e1, e2⟩ := mk_cells HN.out
    have HF := hide (mk_set HK.out (.int .i64 0) (.int .i64 0) (.bool false))
    have HG := hide (mk_below HB0.out (Nat.le_refl _) (.int .i64 0) (.int .i64 0) (.bool false))
    go_wp2_with fail
    refine bodyPost_ret (results_ct rfl rfl (run_loadVar_row _ _ _ _ _ _ _ HF.out Tryd.underlying25 rfl (by kernel_rfl))) rfl ⟨?_, HG.out⟩
    rw [HE.out]; rfl
  · have hn2 : n = 2 := by
      have h1 := HL.out
      unfold slotsOk at hsl
      simp at hsl
      omega
    subst hn2
    obtain ⟨s0, s1, rfl⟩ : ∃ s0 s1, ts = [s0, s1] := by
      have := HL.out
      match ts, this with
      | [x, y], _ => exact ⟨x, y, rfl⟩
    have HE := hide (newestF_two s0 s1 hsl)
    have z0 := hts s0 (by simp)
    have z1 := hts s1 (by simp)
    have HT0 := hide hT0
    have HTS := hide hts
    have HSL := hide hsl
    clear hT0 hts hsl
    go_enter Tryd.func40, Tryd.ntmps40
    go_upto_region 2 with fail
    rw [← hw0]
    clear hw0
    go_wp2_with fail
    refine (areSlots_any a 2 cap _ w0 HT0.out (by omega) HTS.out).mono ?_
    rw [HSL.out]
    rintro r w1 ⟨rfl, rfl⟩
    obtain ⟨b, off, rfl, _, _, hc⟩ := HT.out.2.2 (by omega)
    have g0 : w.cell? ⟨b, off, none⟩ = some (.string s0) := hc 0 (by omega)
    have g1 : w.cell? ⟨b, off + 1, none⟩ = some (.string s1) := hc 1 (by omega)
    clear hc
    go_wp2_with fail
    go_loopw [5, 18] (fun v i wr => ∃ (k : Nat) (st : Option (Mk × Nat)) (E Q : Nat) (B : Bool), k ≤ 2 ∧ i = .int .i64 (k : Int) ∧ v = .int .i64 (atV st) ∧ st = mstAt s0 s1 k ∧ stM st = (E, Q, B) ∧ Below w.heap.size w wr ∧ wr.heap[w.heap.size]? = some (.cells #[.int .i64 0, .int .i64 0, .bool false] 25) ∧ wr.heap[w.heap.size + 1]? = some (.cells #[.int .i64 (E : Int), .int .i64 (Q : Int), .bool B] 25)) (fun _ i _ => 2 - (intOf i).toNat)
    case atStart => exact ⟨0, none, 0, 0, false, by omega, rfl, rfl, rfl, rfl, HB0.out, HK.out, HN.out⟩
    case round =>
      obtain ⟨k, st, E, Q, B, hk, rfl, rfl, hst, hem, hb, hk0, hk1⟩ := hrel
      have HBW := hide hb
      have HK0 := hide hk0
      have HK1 := hide hk1
      have hszr : w.heap.size + 2 ≤ wr.heap.size := by
        have := (Array.getElem?_eq_some_iff.1 hk1).1
        omega
      clear hb hk0 hk1
      have gg0 := mcell_on g0 HBW.out
      have gg1 := mcell_on g1 HBW.out
      rcases (by omega : k = 0 ∨ k = 1 ∨ k = 2) with rfl | rfl | rfl
      · simp only [show ((0 : Nat) : Int) = 0 from rfl]
        obtain rfl : st = none := hst
        injection hem with hE hem
        injection hem with hQ hB
        subst hE hQ hB
        unfold atV
        simp only
        go_wp2_with fail
        refine (implReadMark_any s0 z0 wr).mono ?_
        cases hr : readM s0 with
        | none =>
          rintro r w2 ⟨rfl, b2⟩
          have HB2 := hide (below_here HBW.out b2)
          have H02 := hide (block_on HK0.out b2)
          have H12 := hide (block_on HK1.out b2)
          have hsz : w.heap.size + 2 ≤ w2.heap.size := Nat.le_trans hszr b2.size
          clear b2 HBW HK0 HK1
          obtain ⟨w3, hw3⟩ : ∃ w3, w3 = w2.alloc (.cells #[.int .i64 0, .int .i64 0, .bool false] 25) := ⟨_, rfl⟩
          have HB3 : Hid (Below w.heap.size w w3) := by rw [hw3]; exact HB2.out.alloc HB2.out.size _
          have H03 : Hid (w3.heap[w.heap.size]? = some (.cells #[.int .i64 0, .int .i64 0, .bool false] 25)) := by rw [hw3]; exact heap_old H02.out
          have H13 : Hid (w3.heap[w.heap.size + 1]? = some (.cells #[.int .i64 0, .int .i64 0, .bool false] 25)) := by rw [hw3]; exact heap_old H12.out
          have HM3 : Hid (w3.heap[w2.heap.size]? = some (.cells #[.int .i64 0, .int .i64 0, .bool false] 25)) := by rw [hw3]; exact heap_new _ _
          clear HB2 H02 H12
          unfold optV markV
          go_upto_region 8 with fail
          rw [← hw3]
          clear hw3
          obtain ⟨d0, d1, d2⟩ := mk_cells H13.out
          obtain ⟨e0, e1, e2⟩ := mk_cells HM3.out
          go_wp2_with fail
          go_roundw
          case rel => exact ⟨1, none, 0, 0, false, by omega, rfl, rfl, (by unfold mstAt; rw [hr]; rfl), rfl, HB3.out, H03.out, H13.out⟩
          case measure => simp [intOf]
        | some m =>
          obtain ⟨e, q, b⟩ := m
          rintro r w2 ⟨rfl, b2⟩
          have HB2 := hide (below_here HBW.out b2)
          have H02 := hide (block_on HK0.out b2)
          have H12 := hide (block_on HK1.out b2)
          have hsz : w.heap.size + 2 ≤ w2.heap.size := Nat.le_trans hszr b2.size
          clear b2 HBW HK0 HK1
          obtain ⟨w3, hw3⟩ : ∃ w3, w3 = w2.alloc (.cells #[.int .i64 (e : Int), .int .i64 (q : Int), .bool b] 25) := ⟨_, rfl⟩
          have HB3 : Hid (Below w.heap.size w w3) := by rw [hw3]; exact HB2.out.alloc HB2.out.size _
          have H03 : Hid (w3.heap[w.heap.size]? = some (.cells #[.int .i64 0, .int .i64 0, .bool false] 25)) := by rw [hw3]; exact heap_old H02.out
          have H13 : Hid (w3.heap[w.heap.size + 1]? = some (.cells #[.int .i64 0, .int .i64 0, .bool false] 25)) := by rw [hw3]; exact heap_old H12.out
          have HM3 : Hid (w3.heap[w2.heap.size]? = some (.cells #[.int .i64 (e : Int), .int .i64 (q : Int), .bool b] 25)) := by rw [hw3]; exact heap_new _ _
          clear HB2 H02 H12
          unfold optV markV
          go_upto_region 8 with fail
          rw [← hw3]
          clear hw3
          obtain ⟨d0, d1, d2⟩ := mk_cells H13.out
          obtain ⟨e0, e1, e2⟩ := mk_cells HM3.out
          have f0 := mk_frozen H13.out 0
          have f1 := mk_frozen H13.out 1
          have f2 := mk_frozen H13.out 2
          have HF := hide (mk_set H13.out (.int .i64 (e : Int)) (.int .i64 (q : Int)) (.bool b))
          have HG := hide (mk_below HB3.out (by omega) (.int .i64 (e : Int)) (.int .i64 (q : Int)) (.bool b) (b := w.heap.size + 1))
          have H04 : Hid ((((w3.setCell ⟨w.heap.size + 1, 0, none⟩ (.int .i64 (e : Int))).setCell ⟨w.heap.size + 1, 1, none⟩ (.int .i64 (q : Int))).setCell ⟨w.heap.size + 1, 2, none⟩ (.bool b)).heap[w.heap.size]? = some (.cells #[.int .i64 0, .int .i64 0, .bool false] 25)) := by
            show _ = _
            rw [mset_other (by omega), mset_other (by omega), mset_other (by omega)]
            exact H03.out
          go_wp2_with fail
          go_roundw
          case rel => exact ⟨1, some ((e, q, b), 0), e, q, b, by omega, rfl, rfl, (by unfold mstAt; rw [hr]; rfl), rfl, HG.out, H04.out, HF.out⟩
          case measure => simp [intOf]
      · simp only [show ((1 : Nat) : Int) = 1 from rfl]
        cases hr0 : readM s0 with
        | none =>
          have hst0 : st = none := by rw [hst]; unfold mstAt; rw [hr0]; rfl
          subst hst0
          injection hem with hE hem
          injection hem with hQ hB
          subst hE hQ hB
          unfold atV
          simp only
          go_wp2_with fail
          refine (implReadMark_any s1 z1 wr).mono ?_
          cases hr : readM s1 with
          | none =>
            rintro r w2 ⟨rfl, b2⟩
            have HB2 := hide (below_here HBW.out b2)
            have H02 := hide (block_on HK0.out b2)
            have H12 := hide (block_on HK1.out b2)
            have hsz : w.heap.size + 2 ≤ w2.heap.size := Nat.le_trans hszr b2.size
            clear b2 HBW HK0 HK1
            obtain ⟨w3, hw3⟩ : ∃ w3, w3 = w2.alloc (.cells #[.int .i64 0, .int .i64 0, .bool false] 25) := ⟨_, rfl⟩
            have HB3 : Hid (Below w.heap.size w w3) := by rw [hw3]; exact HB2.out.alloc HB2.out.size _
            have H03 : Hid (w3.heap[w.heap.size]? = some (.cells #[.int .i64 0, .int .i64 0, .bool false] 25)) := by rw [hw3]; exact heap_old H02.out
            have H13 : Hid (w3.heap[w.heap.size + 1]? = some (.cells #[.int .i64 0, .int .i64 0, .bool false] 25)) := by rw [hw3]; exact heap_old H12.out
            have HM3 : Hid (w3.heap[w2.heap.size]? = some (.cells #[.int .i64 0, .int .i64 0, .bool false] 25)) := by rw [hw3]; exact heap_new _ _
            clear HB2 H02 H12
            unfold optV markV
            go_upto_region 8 with fail
            rw [← hw3]
            clear hw3
            obtain ⟨d0, d1, d2⟩ := mk_cells H13.out
            obtain ⟨e0, e1, e2⟩ := mk_cells HM3.out
            go_wp2_with fail
            go_roundw
            case rel => exact ⟨2, none, 0, 0, false, by omega, rfl, rfl, (by unfold mstAt; rw [hr0, hr]; rfl), rfl, HB3.out, H03.out, H13.out⟩
            case measure => simp [intOf]
          | some m =>
            obtain ⟨e, q, b⟩ := m
            rintro r w2 ⟨rfl, b2⟩
            have HB2 := hide (below_here HBW.out b2)
            have H02 := hide (block_on HK0.out b2)
            have H12 := hide (block_on HK1.out b2)
            have hsz : w.heap.size + 2 ≤ w2.heap.size := Nat.le_trans hszr b2.size
            clear b2 HBW HK0 HK1
            obtain ⟨w3, hw3⟩ : ∃ w3, w3 = w2.alloc (.cells #[.int .i64 (e : Int), .int .i64 (q : Int), .bool b] 25) := ⟨_, rfl⟩
            have HB3 : Hid (Below w.heap.size w w3) := by rw [hw3]; exact HB2.out.alloc HB2.out.size _
            have H03 : Hid (w3.heap[w.heap.size]? = some (.cells #[.int .i64 0, .int .i64 0, .bool false] 25)) := by rw [hw3]; exact heap_old H02.out
            have H13 : Hid (w3.heap[w.heap.size + 1]? = some (.cells #[.int .i64 0, .int .i64 0, .bool false] 25)) := by rw [hw3]; exact heap_old H12.out
            have HM3 : Hid (w3.heap[w2.heap.size]? = some (.cells #[.int .i64 (e : Int), .int .i64 (q : Int), .bool b] 25)) := by rw [hw3]; exact heap_new _ _
            clear HB2 H02 H12
            unfold optV markV
            go_upto_region 8 with fail
            rw [← hw3]
            clear hw3
            obtain ⟨d0, d1, d2⟩ := mk_cells H13.out
            obtain ⟨e0, e1, e2⟩ := mk_cells HM3.out
            have f0 := mk_frozen H13.out 0
            have f1 := mk_frozen H13.out 1
            have f2 := mk_frozen H13.out 2
            have HF := hide (mk_set H13.out (.int .i64 (e : Int)) (.int .i64 (q : Int)) (.bool b))
            have HG := hide (mk_below HB3.out (by omega) (.int .i64 (e : Int)) (.int .i64 (q : Int)) (.bool b) (b := w.heap.size + 1))
            have H04 : Hid ((((w3.setCell ⟨w.heap.size + 1, 0, none⟩ (.int .i64 (e : Int))).setCell ⟨w.heap.size + 1, 1, none⟩ (.int .i64 (q : Int))).setCell ⟨w.heap.size + 1, 2, none⟩ (.bool b)).heap[w.heap.size]? = some (.cells #[.int .i64 0, .int .i64 0, .bool false] 25)) := by
              show _ = _
              rw [mset_other (by omega), mset_other (by omega), mset_other (by omega)]
              exact H03.out
            go_wp2_with fail
            go_roundw
            case rel => exact ⟨2, some ((e, q, b), 1), e, q, b, by omega, rfl, rfl, (by unfold mstAt; rw [hr0, hr]; rfl), rfl, HG.out, H04.out, HF.out⟩
            case measure => simp [intOf]
        | some m0 =>
          obtain ⟨E', Q', B'⟩ := m0
          have hst0 : st = some ((E', Q', B'), 0) := by rw [hst]; unfold mstAt; rw [hr0]; rfl
          subst hst0
          injection hem with hE hem
          injection hem with hQ hB
          subst hE hQ hB
          unfold atV
          simp only [show ((0 : Nat) : Int) = 0 from rfl]
          go_wp2_with fail
          refine (implReadMark_any s1 z1 wr).mono ?_
          cases hr : readM s1 with
          | none =>
            rintro r w2 ⟨rfl, b2⟩
            have HB2 := hide (below_here HBW.out b2)
            have H02 := hide (block_on HK0.out b2)
            have H12 := hide (block_on HK1.out b2)
            have hsz : w.heap.size + 2 ≤ w2.heap.size := Nat.le_trans hszr b2.size
            clear b2 HBW HK0 HK1
            obtain ⟨w3, hw3⟩ : ∃ w3, w3 = w2.alloc (.cells #[.int .i64 0, .int .i64 0, .bool false] 25) := ⟨_, rfl⟩
            have HB3 : Hid (Below w.heap.size w w3) := by rw [hw3]; exact HB2.out.alloc HB2.out.size _
            have H03 : Hid (w3.heap[w.heap.size]? = some (.cells #[.int .i64 0, .int .i64 0, .bool false] 25)) := by rw [hw3]; exact heap_old H02.out
            have H13 : Hid (w3.heap[w.heap.size + 1]? = some (.cells #[.int .i64 (E' : Int), .int .i64 (Q' : Int), .bool B'] 25)) := by rw [hw3]; exact heap_old H12.out
            have HM3 : Hid (w3.heap[w2.heap.size]? = some (.cells #[.int .i64 0, .int .i64 0, .bool false] 25)) := by rw [hw3]; exact heap_new _ _
            clear HB2 H02 H12
            unfold optV markV
            go_upto_region 8 with fail
            rw [← hw3]
            clear hw3
            obtain ⟨d0, d1, d2⟩ := mk_cells H13.out
            obtain ⟨e0, e1, e2⟩ := mk_cells HM3.out
            go_wp2_with fail
            go_roundw
            case rel => exact ⟨2, some ((E', Q', B'), 0), E', Q', B', by omega, rfl, rfl, (by unfold mstAt; rw [hr0, hr]; rfl), rfl, HB3.out, H03.out, H13.out⟩
            case measure => simp [intOf]
          | some m =>
            obtain ⟨e, q, b⟩ := m
            rintro r w2 ⟨rfl, b2⟩
            have HB2 := hide (below_here HBW.out b2)
            have H02 := hide (block_on HK0.out b2)
            have H12 := hide (block_on HK1.out b2)
            have hsz : w.heap.size + 2 ≤ w2.heap.size := Nat.le_trans hszr b2.size
            clear b2 HBW HK0 HK1
            obtain ⟨w3, hw3⟩ : ∃ w3, w3 = w2.alloc (.cells #[.int .i64 (e : Int), .int .i64 (q : Int), .bool b] 25) := ⟨_, rfl⟩
            have HB3 : Hid (Below w.heap.size w w3) := by rw [hw3]; exact HB2.out.alloc HB2.out.size _
            have H03 : Hid (w3.heap[w.heap.size]? = some (.cells #[.int .i64 0, .int .i64 0, .bool false] 25)) := by rw [hw3]; exact heap_old H02.out
            have H13 : Hid (w3.heap[w.heap.size + 1]? = some (.cells #[.int .i64 (E' : Int), .int .i64 (Q' : Int), .bool B'] 25)) := by rw [hw3]; exact heap_old H12.out
            have HM3 : Hid (w3.heap[w2.heap.size]? = some (.cells #[.int .i64 (e : Int), .int .i64 (q : Int), .bool b] 25)) := by rw [hw3]; exact heap_new _ _
            clear HB2 H02 H12
            unfold optV markV
            go_upto_region 8 with fail
            rw [← hw3]
            clear hw3
            obtain ⟨d0, d1, d2⟩ := mk_cells H13.out
            obtain ⟨e0, e1, e2⟩ := mk_cells HM3.out
            go_wp2_with fail
            refine (isLess_any E' Q' e q B' b w3).mono ?_
            cases hle : lessM (E', Q', B') (e, q, b) with
            | false =>
              rintro r w4 ⟨rfl, b4⟩
              have HB4 := hide (below_here HB3.out b4)
              have H04 := hide (block_on H03.out b4)
              have H14 := hide (block_on H13.out b4)
              clear b4 HB3 H03 H13 HM3 d0 d1 d2 e0 e1 e2
              go_wp2_with fail
              go_roundw
              case rel => exact ⟨2, some ((E', Q', B'), 0), E', Q', B', by omega, rfl, rfl, (by unfold mstAt; rw [hr0, hr]; simp [newM, hle]), rfl, HB4.out, H04.out, H14.out⟩
              case measure => simp [intOf]
            | true =>
              rintro r w4 ⟨rfl, b4⟩
              have HB4 := hide (below_here HB3.out b4)
              have H04 := hide (block_on H03.out b4)
              have H14 := hide (block_on H13.out b4)
              have HM4 := hide (block_on HM3.out b4)
              clear b4 HB3 H03 H13 HM3 d0 d1 d2 e0 e1 e2
              obtain ⟨d0, d1, d2⟩ := mk_cells H14.out
              obtain ⟨e0, e1, e2⟩ := mk_cells HM4.out
              have f0 := mk_frozen H14.out 0
              have f1 := mk_frozen H14.out 1
              have f2 := mk_frozen H14.out 2
              have HF := hide (mk_set H14.out (.int .i64 (e : Int)) (.int .i64 (q : Int)) (.bool b))
              have HG := hide (mk_below HB4.out (by omega) (.int .i64 (e : Int)) (.int .i64 (q : Int)) (.bool b) (b := w.heap.size + 1))
              have H05 : Hid ((((w4.setCell ⟨w.heap.size + 1, 0, none⟩ (.int .i64 (e : Int))).setCell ⟨w.heap.size + 1, 1, none⟩ (.int .i64 (q : Int))).setCell ⟨w.heap.size + 1, 2, none⟩ (.bool b)).heap[w.heap.size]? = some (.cells #[.int .i64 0, .int .i64 0, .bool false] 25)) := by
                show _ = _
                rw [mset_other (by omega), mset_other (by omega), mset_other (by omega)]
                exact H04.out
              go_wp2_with fail
              go_roundw
              case rel => exact ⟨2, some ((e, q, b), 1), e, q, b, by omega, rfl, rfl, (by unfold mstAt; rw [hr0, hr]; simp [newM, hle]), rfl, HG.out, H05.out, HF.out⟩
              case measure => simp [intOf]
      · simp only [show ((2 : Nat) : Int) = 2 from rfl]
        have HFE : Hid (newestF [s0, s1] = st) := by show _ = _; rw [HE.out, hst]
        obtain ⟨d0, d1, d2⟩ := mk_cells HK0.out
        have f0 := mk_frozen HK0.out 0
        have f1 := mk_frozen HK0.out 1
        have f2 := mk_frozen HK0.out 2
        obtain ⟨e0, e1, e2⟩ := mk_cells HK1.out
        have HF := hide (mk_set HK0.out (.int .i64 (E : Int)) (.int .i64 (Q : Int)) (.bool B))
        have HG := hide (mk_below HBW.out (Nat.le_refl _) (.int .i64 (E : Int)) (.int .i64 (Q : Int)) (.bool B))
        have HEM := hide hem
        clear hst hem
        go_wp2_with fail
        refine bodyPost_ret (results_ct rfl rfl (run_loadVar_row _ _ _ _ _ _ _ HF.out Tryd.underlying25 rfl (by kernel_rfl))) rfl ⟨?_, HG.out⟩
        rw [HFE.out]
        unfold newV
        rw [HEM.out]; rfl
end Go.Proofs.YteooaljhdmmooaaDoor
