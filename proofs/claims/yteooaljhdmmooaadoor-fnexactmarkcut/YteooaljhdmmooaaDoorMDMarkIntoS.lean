/- The walks of chapter 13's model: l13Into, Marked, MarkCut. -/
import Derived.Test.YteooaljhdmmooaaDoorMDMarkSpecD
import Derived.Test.YteooaljhdmmooaaDoorMDChipGrow
import Derived.Test.YteooaljhdmmooaaDoorMDMarkPut
namespace Go.Proofs.YteooaljhdmmooaaDoor
open Go.RowKit
set_option linter.unusedVariables false
set_option linter.unusedSimpArgs false
set_option maxRecDepth 20000

set_option maxHeartbeats 1600000 in
theorem l13Into_any (a : Option Addr) (n cap : Nat) (ts : List ByteArray) (e q : Int) (b : Bool) (w : World) {lo hi : Nat} (h : Texts lo hi w a n ts) (hn : n ≤ 1048576) (hts : ∀ s ∈ ts, s.size ≤ 1048576) :
    Calls Tryd.prog 26 #[.slice a n cap, markV e q b] w fun r w' => r = .returned (.int .i64 (intoV (intoF ts (e, q, b)))) ∧ Below w.heap.size w w' := by
  have hhi := h.2.1
  obtain ⟨w0, hw0⟩ : ∃ w0, w0 = w.alloc (.cells #[.int .i64 e, .int .i64 q, .bool b] 25) := ⟨_, rfl⟩
  have HB0 : Hid (Below w.heap.size w w0) := by rw [hw0]; exact (Below.refl _ _).alloc (Nat.le_refl _) _
  have HK0 : Hid (w0.heap[w.heap.size]? = some (.cells #[.int .i64 e, .int .i64 q, .bool b] 25)) := by rw [hw0]; exact heap_new _ _
  have HT := hide h
  have HTS := hide hts
  clear h hts
  unfold markV
  go_enter Tryd.func26, Tryd.ntmps26
  go_upto_region 1 with fail
  rw [← hw0]
  clear hw0
  go_wp2_with fail
  refine (specNewest_any a n cap ts w0 (HT.out.later HB0.out hhi) hn HTS.out).mono ?_
  obtain ⟨st, hst⟩ : ∃ st, st = newestF ts := ⟨_, rfl⟩
  rw [← hst]
  obtain ⟨E, Q, B, hem⟩ : ∃ E Q B, stM st = (E, Q, B) := ⟨_, _, _, rfl⟩
  have HEM := hide hem
  have HST := hide hst
  unfold newV
  rw [hem]
  clear hem hst
  unfold markV
  rintro r w1 ⟨rfl, b1⟩
  have hb1 := below_here HB0.out b1
  have hk1 := block_on HK0.out b1
  obtain ⟨w2, hw2⟩ : ∃ w2, w2 = w1.alloc (.cells #[.int .i64 (E : Int), .int .i64 (Q : Int), .bool B] 25) := ⟨_, rfl⟩
  have HB2 : Hid (Below w.heap.size w w2) := by rw [hw2]; exact hb1.alloc hb1.size _
  have HK2 : Hid (w2.heap[w.heap.size]? = some (.cells #[.int .i64 e, .int .i64 q, .bool b] 25)) := by rw [hw2]; exact heap_old hk1
  have HN2 : Hid (w2.heap[w1.heap.size]? = some (.cells #[.int .i64 (E : Int), .int .i64 (Q : Int), .bool B] 25)) := by rw [hw2]; exact heap_new _ _
  clear b1 hb1 hk1 HB0 HK0
  go_upto_region 2 with fail
  rw [← hw2]
  clear hw2
  go_wp2_with fail
  refine (l13Slots_any a n cap ts w2 (HT.out.later HB2.out hhi) hn HTS.out).mono ?_
  cases hsl : slotsOk ts
  · have HI : Hid (intoF ts (e, q, b) = none) := by show _ = _; unfold intoF; rw [hsl]; rfl
    rintro r w3 ⟨rfl, rfl⟩
    go_wp2_with fail
    go_ret
    exact ⟨by rw [HI.out]; rfl, HB2.out⟩
  · rintro r w3 ⟨rfl, rfl⟩
    obtain ⟨c0, c1, c2⟩ := mk_cells HK2.out
    go_wp2_with fail
    refine (l13Mark_any e q b w3).mono ?_
    cases hin : miIn (e, q, b)
    · have HI : Hid (intoF ts (e, q, b) = none) := by show _ = _; unfold intoF; rw [hsl, hin]; rfl
      rintro r w4 ⟨rfl, b4⟩
      have HB4 := hide (below_here HB2.out b4)
      clear b4 c0 c1 c2
      go_wp2_with fail
      go_ret
      exact ⟨by rw [HI.out]; rfl, HB4.out⟩
    · rintro r w4 ⟨rfl, b4⟩
      have HB4 := hide (below_here HB2.out b4)
      have HK4 := hide (block_on HK2.out b4)
      have HN4 := hide (block_on HN2.out b4)
      clear b4 c0 c1 c2 HB2 HK2 HN2
      obtain ⟨c0, c1, c2⟩ := mk_cells HK4.out
      obtain ⟨d0, d1, d2⟩ := mk_cells HN4.out
      have hmi : ∃ X Y : Nat, e = (X : Int) ∧ q = (Y : Int) := by
        simp only [miIn, Bool.and_eq_true, decide_eq_true_eq] at hin
        exact ⟨e.toNat, q.toNat, by omega, by omega⟩
      obtain ⟨X, Y, rfl, rfl⟩ := hmi
      cases st with
      | none =>
        have HI : Hid (intoF ts ((X : Int), (Y : Int), b) = some 0) := by show _ = _; unfold intoF; rw [hsl, hin, ← HST.out]; rfl
        unfold atV
        simp only
        go_wp2_with fail
        go_ret
        exact ⟨by rw [HI.out]; rfl, HB4.out⟩
      | some pr =>
        obtain ⟨m, k⟩ := pr
        have hm : m = (E, Q, B) := HEM.out
        have hk2 := newest_at HST.out.symm
        unfold atV
        simp only
        go_wp2_with fail
        refine (l13Less_any X Y E Q b B w4).mono ?_
        have HIE : Hid (intoF ts ((X : Int), (Y : Int), b) = if lessM (X, Y, b) (E, Q, B) then none else some (1 - k)) := by
          show _ = _
          unfold intoF
          rw [hsl, hin, ← HST.out, hm]
          rfl
        cases hle : lessM (X, Y, b) (E, Q, B)
        · rw [hle] at HIE
          rintro r w5 ⟨rfl, b5⟩
          have HB5 := hide (below_here HB4.out b5)
          clear b5 c0 c1 c2 d0 d1 d2
          rcases hk2 with rfl | rfl
          · simp only [show ((0 : Nat) : Int) = 0 from rfl]
            go_wp2_with fail
            go_ret
            exact ⟨by rw [HIE.out]; rfl, HB5.out⟩
          · simp only [show ((1 : Nat) : Int) = 1 from rfl]
            go_wp2_with fail
            go_ret
            exact ⟨by rw [HIE.out]; rfl, HB5.out⟩
        · rw [hle] at HIE
          rintro r w5 ⟨rfl, b5⟩
          have HB5 := hide (below_here HB4.out b5)
          clear b5 c0 c1 c2 d0 d1 d2
          go_wp2_with fail
          go_ret
          exact ⟨by rw [HIE.out]; rfl, HB5.out⟩

set_option maxHeartbeats 1600000 in
theorem specMarked_any (a : Option Addr) (n cap : Nat) (ts : List ByteArray) (e q : Int) (b : Bool) (w : World) {lo hi : Nat} (h : Texts lo hi w a n ts) (hn : n ≤ 1048576) (hts : ∀ s ∈ ts, s.size ≤ 1048576) :
    Calls Tryd.prog 10 #[.slice a n cap, markV e q b] w fun r w' => ∃ a' c', r = .returned (.tuple #[.slice a' (markedF ts (e, q, b)).length c', .bool (intoF ts (e, q, b)).isSome]) ∧ OwnTexts w.heap.size w'.heap.size w' a' (markedF ts (e, q, b)).length (markedF ts (e, q, b)) ∧ Below w.heap.size w w' := by
  have hhi := h.2.1
  obtain ⟨w0, hw0⟩ : ∃ w0, w0 = w.alloc (.cells #[.int .i64 e, .int .i64 q, .bool b] 25) := ⟨_, rfl⟩
  have HB0 : Hid (Below w.heap.size w w0) := by rw [hw0]; exact (Below.refl _ _).alloc (Nat.le_refl _) _
  have HK0 : Hid (w0.heap[w.heap.size]? = some (.cells #[.int .i64 e, .int .i64 q, .bool b] 25)) := by rw [hw0]; exact heap_new _ _
  have hz0 : w0.heap.size = w.heap.size + 1 := by rw [hw0]; simp
  have HT := hide h
  have HL := hide h.1
  have HTS := hide hts
  clear h hts
  unfold markV
  go_enter Tryd.func10, Tryd.ntmps10
  go_upto_region 1 with fail
  rw [← hw0]
  clear hw0
  go_wp2_with fail
  refine (l13Slots_any a n cap ts w0 (HT.out.later HB0.out hhi) hn HTS.out).mono ?_
  cases hsl : slotsOk ts
  · have HI : Hid (intoF ts (e, q, b) = none) := by show _ = _; unfold intoF; rw [hsl]; rfl
    have HM : Hid (markedF ts (e, q, b) = []) := by show _ = _; unfold markedF; rw [hsl]; rfl
    rintro r w1 ⟨rfl, rfl⟩
    have hown := own_made0 w1 9
    obtain ⟨a', c', e1, _, hot⟩ := ownTexts_of (B := w1.heap.size) (ts := []) hown (Nat.le_refl _)
    have HOT := hide hot
    have HBN := hide (HB0.out.alloc HB0.out.size (.cells #[] 9))
    cases e1
    have HZ0 := hide hz0
    clear hown hot hz0
    go_wp2_with fail
    go_ret2
    exact ⟨_, _, by rw [HM.out, HI.out]; rfl, by rw [HM.out]; exact own_wide (lo' := w.heap.size) HOT.out (by have := HZ0.out; omega), HBN.out⟩
  · have h2 : ts.length = 2 := by
      unfold slotsOk at hsl
      simp at hsl
      exact hsl.1
    obtain rfl : n = ts.length := HL.out.symm
    rintro r w1 ⟨rfl, rfl⟩
    obtain ⟨wB, hwB⟩ : ∃ wB, wB = w1.alloc (.cells #[] 9) := ⟨_, rfl⟩
    have hzB : wB.heap.size = w1.heap.size + 1 := by rw [hwB]; simp
    have hbB : Below w1.heap.size w1 wB := by rw [hwB]; exact (Below.refl _ _).alloc (Nat.le_refl _) _
    have HBB := hide (below_here HB0.out hbB)
    have HKB := hide (block_on HK0.out hbB)
    have hmade : wB.ownsRow w1.heap.size 9 1 (.slice (some ⟨w1.heap.size, 0, none⟩) 0 0) 0 [] := by rw [hwB]; exact own_made0 w1 9
    obtain ⟨a', c', w2, hap, hpo, hgr, hfr⟩ := append_pages (P := Tryd.prog) Tryd.infoStrC Tryd.underlying28 hmade (by omega) (c := cap) (HT.out.later HBB.out hhi) hn
    have HAP := hide hap
    have HB2 := hide (HBB.out.grown hgr (by omega) (fun m hm => by simp only [Option.some.injEq] at hm; omega))
    have HK2 : Hid (w2.heap[w.heap.size]? = some (.cells #[.int .i64 e, .int .i64 q, .bool b] 25)) := (hgr.block w.heap.size (by omega) (fun e => by simp only [Option.some.injEq] at e; omega)).trans HKB.out
    obtain ⟨a'', c'', e1, _, hot⟩ := ownTexts_of (B := w1.heap.size) (ts := ts) hpo (Nat.le_refl _)
    cases e1
    have HOT := hide hot
    have HZ0 := hide hz0
    have H2 := hide h2
    clear hap hpo hgr hfr hmade hot hbB hz0 hzB h2
    go_upto_region 4 with (at_builtin; (first | rw [← hwB] | skip); refine wpList_append_eq rfl (.tmp 12) (.tmp 13) 28 rfl _ _ _ w2 rfl rfl HAP.out ?_)
    clear hwB HAP HBB HKB
    obtain ⟨k0, k1, k2⟩ := mk_cells HK2.out
    go_wp2_with fail
    refine (l13Into_any a ts.length cap ts e q b w2 (HT.out.later HB2.out hhi) hn HTS.out).mono ?_
    rintro r w3 ⟨rfl, b3⟩
    have HB3 := hide (below_here HB2.out b3)
    have HK3 := hide (block_on HK2.out b3)
    have HO3 := hide (own_wide (HOT.out.later b3 HOT.out.2.1) (show w.heap.size ≤ w1.heap.size by have := HZ0.out; omega))
    clear b3 HB2 HK2 HOT k0 k1 k2
    cases hin : intoF ts (e, q, b) with
    | none =>
      have HM : Hid (markedF ts (e, q, b) = ts) := by show _ = _; unfold markedF; rw [hsl, hin]; rfl
      unfold intoV
      simp only
      go_wp2_with fail
      go_ret2
      exact ⟨_, _, by rw [HM.out, hin]; rfl, by rw [HM.out]; exact own_end HO3.out, HB3.out⟩
    | some k =>
      obtain ⟨_, _, _, hk2⟩ := into_at hin
      have HM : Hid (markedF ts (e, q, b) = ts.set k (showF (e, q, b))) := by show _ = _; unfold markedF; rw [hsl, hin]; rfl
      have HML : Hid ((markedF ts (e, q, b)).length = ts.length) := by show _ = _; rw [HM.out]; simp
      obtain ⟨k0, k1, k2⟩ := mk_cells HK3.out
      unfold intoV
      simp only
      rcases (by omega : k = 0 ∨ k = 1) with rfl | rfl
      · simp only [show ((0 : Nat) : Int) = 0 from rfl]
        go_wp2_with fail
        refine (specShowMark_any e q b w3).mono ?_
        rintro r w4 ⟨rfl, b4⟩
        have HB4 := hide (below_here HB3.out b4)
        have HO4 := hide (own_end (HO3.out.later b4 HO3.out.2.1))
        clear b4 k0 k1 k2 HB3 HO3 HK3
        have h2 := H2.out
        obtain ⟨bb, off, rfl, hlo, hhib, hcc⟩ := HO4.out.2.2 (by omega)
        have g : w4.cell? ⟨bb, off, none⟩ = some (cellT ts 0) := (hcc 0 (by omega)).1
        have gf : w4.frozen? ⟨bb, off, none⟩ = false := (hcc 0 (by omega)).2
        have hblk : bb < w4.heap.size := hhib
        have HP := hide (OwnTexts.put HO4.out (k := 0) (by omega) (showF (e, q, b)))
        have HB5 := hide (HB4.out.setCell (p := ⟨bb, off + 0, none⟩) hlo (.string (showF (e, q, b))))
        clear hcc h2
        have h2i : (ts.length : Int) = 2 := by have := H2.out; omega
        go_wp2_with fail
        go_ret2
        exact ⟨_, _, by rw [HML.out, hin, H2.out]; rfl, by rw [HML.out, HM.out]; exact own_set HP.out, HB5.out⟩
      · simp only [show ((1 : Nat) : Int) = 1 from rfl]
        go_wp2_with fail
        refine (specShowMark_any e q b w3).mono ?_
        rintro r w4 ⟨rfl, b4⟩
        have HB4 := hide (below_here HB3.out b4)
        have HO4 := hide (own_end (HO3.out.later b4 HO3.out.2.1))
        clear b4 k0 k1 k2 HB3 HO3 HK3
        have h2 := H2.out
        obtain ⟨bb, off, rfl, hlo, hhib, hcc⟩ := HO4.out.2.2 (by omega)
        have g : w4.cell? ⟨bb, off + 1, none⟩ = some (cellT ts 1) := (hcc 1 (by omega)).1
        have gf : w4.frozen? ⟨bb, off + 1, none⟩ = false := (hcc 1 (by omega)).2
        have hblk : bb < w4.heap.size := hhib
        have HP := hide (OwnTexts.put HO4.out (k := 1) (by omega) (showF (e, q, b)))
        have HB5 := hide (HB4.out.setCell (p := ⟨bb, off + 1, none⟩) hlo (.string (showF (e, q, b))))
        clear hcc h2
        have h2i : (ts.length : Int) = 2 := by have := H2.out; omega
        go_wp2_with fail
        go_ret2
        exact ⟨_, _, by rw [HML.out, hin, H2.out]; rfl, by rw [HML.out, HM.out]; exact own_set HP.out, HB5.out⟩
end Go.Proofs.YteooaljhdmmooaaDoor
