/- Chapter 13's program: slotFor, Marked, MarkCut. -/
import Derived.Test.YteooaljhdmmooaaDoorMDMarkShowI
import Derived.Test.YteooaljhdmmooaaDoorMDMarkPut
namespace Go.Proofs.YteooaljhdmmooaaDoor
open Go.RowKit
set_option linter.unusedVariables false
set_option linter.unusedSimpArgs false
set_option maxRecDepth 20000

set_option maxHeartbeats 1600000 in
theorem slotFor_any (a : Option Addr) (n cap : Nat) (ts : List ByteArray) (e q : Int) (b : Bool) (w : World) {lo hi : Nat} (h : Texts lo hi w a n ts) (hn : n ≤ 1048576) (hts : ∀ s ∈ ts, s.size ≤ 1048576) :
    Calls Tryd.prog 29 #[.slice a n cap, markV e q b] w fun r w' => r = .returned (.tuple #[.int .i64 ((intoF ts (e, q, b)).getD 0 : Nat), .bool (intoF ts (e, q, b)).isSome]) ∧ Below w.heap.size w w' := by
  have hhi := h.2.1
  obtain ⟨w0, hw0⟩ : ∃ w0, w0 = w.alloc (.cells #[.int .i64 e, .int .i64 q, .bool b] 25) := ⟨_, rfl⟩
  have HB0 : Hid (Below w.heap.size w w0) := by rw [hw0]; exact (Below.refl _ _).alloc (Nat.le_refl _) _
  have HK0 : Hid (w0.heap[w.heap.size]? = some (.cells #[.int .i64 e, .int .i64 q, .bool b] 25)) := by rw [hw0]; exact heap_new _ _
  have HT := hide h
  have HTS := hide hts
  clear h hts
  unfold markV
  go_enter Tryd.func29, Tryd.ntmps29
  go_upto_region 1 with fail
  rw [← hw0]
  clear hw0
  go_wp2_with fail
  refine (implNewest_any a n cap ts w0 (HT.out.later HB0.out hhi) hn HTS.out).mono ?_
  obtain ⟨st, hst⟩ : ∃ st, st = newestF ts := ⟨_, rfl⟩
  rw [← hst]
  obtain ⟨E, Q, B, hem⟩ : ∃ E Q B, stM st = (E, Q, B) := ⟨_, _, _, rfl⟩
  have HEM := hide hem
  have HST := hide hst
  unfold newV
  rw [hem]
  clear hem hst
  unfold markV
  rintro r w1 ⟨rfl, b1⟩
  have hb1 := below_here HB0.out b1
  have hk1 := block_on HK0.out b1
  obtain ⟨w2, hw2⟩ : ∃ w2, w2 = w1.alloc (.cells #[.int .i64 (E : Int), .int .i64 (Q : Int), .bool B] 25) := ⟨_, rfl⟩
  have HB2 : Hid (Below w.heap.size w w2) := by rw [hw2]; exact hb1.alloc hb1.size _
  have HK2 : Hid (w2.heap[w.heap.size]? = some (.cells #[.int .i64 e, .int .i64 q, .bool b] 25)) := by rw [hw2]; exact heap_old hk1
  have HN2 : Hid (w2.heap[w1.heap.size]? = some (.cells #[.int .i64 (E : Int), .int .i64 (Q : Int), .bool B] 25)) := by rw [hw2]; exact heap_new _ _
  clear b1 hb1 hk1 HB0 HK0
  go_upto_region 2 with fail
  rw [← hw2]
  clear hw2
  go_wp2_with fail
  refine (areSlots_any a n cap ts w2 (HT.out.later HB2.out hhi) hn HTS.out).mono ?_
  cases hsl : slotsOk ts
  · have HI : Hid (intoF ts (e, q, b) = none) := by show _ = _; unfold intoF; rw [hsl]; rfl
    rintro r w3 ⟨rfl, rfl⟩
    go_wp2_with fail
    go_ret2
    exact ⟨by rw [HI.out]; rfl, HB2.out⟩
  · rintro r w3 ⟨rfl, rfl⟩
    obtain ⟨c0, c1, c2⟩ := mk_cells HK2.out
    go_wp2_with fail
    refine (isMark_any e q b w3).mono ?_
    cases hin : miIn (e, q, b)
    · have HI : Hid (intoF ts (e, q, b) = none) := by show _ = _; unfold intoF; rw [hsl, hin]; rfl
      rintro r w4 ⟨rfl, b4⟩
      have HB4 := hide (below_here HB2.out b4)
      clear b4 c0 c1 c2
      go_wp2_with fail
      go_ret2
      exact ⟨by rw [HI.out]; rfl, HB4.out⟩
    · rintro r w4 ⟨rfl, b4⟩
      have HB4 := hide (below_here HB2.out b4)
      have HK4 := hide (block_on HK2.out b4)
      have HN4 := hide (block_on HN2.out b4)
      clear b4 c0 c1 c2 HB2 HK2 HN2
      obtain ⟨c0, c1, c2⟩ := mk_cells HK4.out
      obtain ⟨d0, d1, d2⟩ := mk_cells HN4.out
      have hmi : ∃ X Y : Nat, e = (X : Int) ∧ q = (Y : Int) := by
        simp only [miIn, Bool.and_eq_true, decide_eq_true_eq] at hin
        exact ⟨e.toNat, q.toNat, by omega, by omega⟩
      obtain ⟨X, Y, rfl, rfl⟩ := hmi
      cases st with
      | none =>
        have HI : Hid (intoF ts ((X : Int), (Y : Int), b) = some 0) := by show _ = _; unfold intoF; rw [hsl, hin, ← HST.out]; rfl
        have hz : (0, 0, false) = (E, Q, B) := HEM.out
        injection hz with hzE hz
        injection hz with hzQ hzB
        subst hzE hzQ hzB
        have HLZ : Hid (lessM (X, Y, b) (0, 0, false) = false) := by show _ = _; simp [lessM]
        unfold atV
        simp only
        go_wp2_with fail
        refine (isLess_any X Y 0 0 b false w4).mono ?_
        rw [HLZ.out]
        rintro r w5 ⟨rfl, b5⟩
        have HB5 := hide (below_here HB4.out b5)
        clear b5 c0 c1 c2 d0 d1 d2
        go_wp2_with fail
        go_ret2
        exact ⟨by rw [HI.out]; rfl, HB5.out⟩
      | some pr =>
        obtain ⟨m, k⟩ := pr
        have hm : m = (E, Q, B) := HEM.out
        have hk2 := newest_at HST.out.symm
        unfold atV
        simp only
        go_wp2_with fail
        refine (isLess_any X Y E Q b B w4).mono ?_
        have HIE : Hid (intoF ts ((X : Int), (Y : Int), b) = if lessM (X, Y, b) (E, Q, B) then none else some (1 - k)) := by
          show _ = _
          unfold intoF
          rw [hsl, hin, ← HST.out, hm]
          rfl
        cases hle : lessM (X, Y, b) (E, Q, B)
        · rw [hle] at HIE
          rintro r w5 ⟨rfl, b5⟩
          have HB5 := hide (below_here HB4.out b5)
          clear b5 c0 c1 c2 d0 d1 d2
          rcases hk2 with rfl | rfl
          · simp only [show ((0 : Nat) : Int) = 0 from rfl]
            go_wp2_with fail
            go_ret2
            exact ⟨by rw [HIE.out]; rfl, HB5.out⟩
          · simp only [show ((1 : Nat) : Int) = 1 from rfl]
            go_wp2_with fail
            go_ret2
            exact ⟨by rw [HIE.out]; rfl, HB5.out⟩
        · rw [hle] at HIE
          rintro r w5 ⟨rfl, b5⟩
          have HB5 := hide (below_here HB4.out b5)
          clear b5 c0 c1 c2 d0 d1 d2
          go_wp2_with fail
          go_ret2
          exact ⟨by rw [HIE.out]; rfl, HB5.out⟩

set_option maxHeartbeats 1600000 in
theorem implMarked_any (a : Option Addr) (n cap : Nat) (ts : List ByteArray) (e q : Int) (b : Bool) (w : World) {lo hi : Nat} (h : Texts lo hi w a n ts) (hn : n ≤ 1048576) (hts : ∀ s ∈ ts, s.size ≤ 1048576) (hP : Pow w) :
    Calls Tryd.prog 12 #[.slice a n cap, markV e q b] w fun r w' => ∃ a' c', r = .returned (.tuple #[.slice a' (markedF ts (e, q, b)).length c', .bool (intoF ts (e, q, b)).isSome]) ∧ OwnTexts w.heap.size w'.heap.size w' a' (markedF ts (e, q, b)).length (markedF ts (e, q, b)) ∧ Below w.heap.size w w' := by
  have hhi := h.2.1
  obtain ⟨w1, hw0⟩ : ∃ w0, w0 = w.alloc (.cells #[.int .i64 e, .int .i64 q, .bool b] 25) := ⟨_, rfl⟩
  have HB0 : Hid (Below w.heap.size w w1) := by rw [hw0]; exact (Below.refl _ _).alloc (Nat.le_refl _) _
  have HK0 : Hid (w1.heap[w.heap.size]? = some (.cells #[.int .i64 e, .int .i64 q, .bool b] 25)) := by rw [hw0]; exact heap_new _ _
  have HT := hide h
  have HL := hide h.1
  have HTS := hide hts
  have HPW := hide hP
  clear h hts hP
  unfold markV
  go_enter Tryd.func12, Tryd.ntmps12
  go_upto_region 1 with fail
  rw [← hw0]
  clear hw0
  go_wp2_with fail
  refine (areSlots_any a n cap ts w1 (HT.out.later HB0.out hhi) hn HTS.out).mono ?_
  cases hsl : slotsOk ts
  · have HI : Hid (intoF ts (e, q, b) = none) := by show _ = _; unfold intoF; rw [hsl]; rfl
    have HM : Hid (markedF ts (e, q, b) = []) := by show _ = _; unfold markedF; rw [hsl]; rfl
    rintro r w2 ⟨rfl, rfl⟩
    go_wp2_with fail
    go_ret2
    exact ⟨_, _, by rw [HM.out, HI.out]; rfl, by rw [HM.out]; exact ⟨rfl, Nat.le_refl _, fun h => absurd h (by decide)⟩, HB0.out⟩
  · have h2 : ts.length = 2 := by
      unfold slotsOk at hsl
      simp at hsl
      exact hsl.1
    have H2 := hide h2
    clear h2
    obtain rfl : n = ts.length := HL.out.symm
    rintro r w2 ⟨rfl, rfl⟩
    go_wp2_with fail
    refine (copyOfTexts_any a ts.length cap ts w2 (HT.out.later HB0.out hhi) hn HTS.out).mono ?_
    rintro r w3 ⟨a', rfl, hot, b3⟩
    have HO3 := hide (own_wide (lo' := w.heap.size) hot HB0.out.size)
    have HB3 := hide (below_here HB0.out b3)
    have HK3 := hide (block_on HK0.out b3)
    clear hot b3 HB0 HK0
    obtain ⟨k0, k1, k2⟩ := mk_cells HK3.out
    go_wp2_with fail
    refine (slotFor_any a ts.length cap ts e q b w3 (HT.out.later HB3.out hhi) hn HTS.out).mono ?_
    rintro r w4 ⟨rfl, b4⟩
    have HB4 := hide (below_here HB3.out b4)
    have HK4 := hide (block_on HK3.out b4)
    have HO4 := hide (own_end (HO3.out.later b4 HO3.out.2.1))
    clear b4 HB3 HK3 HO3 k0 k1 k2
    cases hin : intoF ts (e, q, b) with
    | none =>
      have HM : Hid (markedF ts (e, q, b) = ts) := by show _ = _; unfold markedF; rw [hsl, hin]; rfl
      go_wp2_with fail
      go_ret2
      exact ⟨_, _, by rw [HM.out, hin]; rfl, by rw [HM.out]; exact HO4.out, HB4.out⟩
    | some k =>
      obtain ⟨_, _, _, hk2⟩ := into_at hin
      have HM : Hid (markedF ts (e, q, b) = ts.set k (showF (e, q, b))) := by show _ = _; unfold markedF; rw [hsl, hin]; rfl
      have HML : Hid ((markedF ts (e, q, b)).length = ts.length) := by show _ = _; rw [HM.out]; simp
      obtain ⟨k0, k1, k2⟩ := mk_cells HK4.out
      simp only [Option.getD_some, Option.isSome_some]
      rcases (by omega : k = 0 ∨ k = 1) with rfl | rfl
      · simp only [show ((0 : Nat) : Int) = 0 from rfl]
        go_wp2_with fail
        refine (implShowMark_any e q b w4 (HPW.out.here HB4.out)).mono ?_
        rintro r w5 ⟨rfl, b5⟩
        have HB5 := hide (below_here HB4.out b5)
        have HO5 := hide (own_end (HO4.out.later b5 HO4.out.2.1))
        clear b5 k0 k1 k2 HB4 HO4 HK4
        have h2 := H2.out
        obtain ⟨bb, off, rfl, hlo, hhib, hcc⟩ := HO5.out.2.2 (by omega)
        have g : w5.cell? ⟨bb, off, none⟩ = some (cellT ts 0) := (hcc 0 (by omega)).1
        have gf : w5.frozen? ⟨bb, off, none⟩ = false := (hcc 0 (by omega)).2
        have hblk : bb < w5.heap.size := hhib
        have HP := hide (OwnTexts.put HO5.out (k := 0) (by omega) (showF (e, q, b)))
        have HB6 := hide (HB5.out.setCell (p := ⟨bb, off + 0, none⟩) hlo (.string (showF (e, q, b))))
        clear hcc h2
        have h2i : (ts.length : Int) = 2 := by have := H2.out; omega
        go_wp2_with fail
        go_ret2
        exact ⟨_, _, by rw [HML.out, hin, H2.out]; rfl, by rw [HML.out, HM.out]; exact own_set HP.out, HB6.out⟩
      · simp only [show ((1 : Nat) : Int) = 1 from rfl]
        go_wp2_with fail
        refine (implShowMark_any e q b w4 (HPW.out.here HB4.out)).mono ?_
        rintro r w5 ⟨rfl, b5⟩
        have HB5 := hide (below_here HB4.out b5)
        have HO5 := hide (own_end (HO4.out.later b5 HO4.out.2.1))
        clear b5 k0 k1 k2 HB4 HO4 HK4
        have h2 := H2.out
        obtain ⟨bb, off, rfl, hlo, hhib, hcc⟩ := HO5.out.2.2 (by omega)
        have g : w5.cell? ⟨bb, off + 1, none⟩ = some (cellT ts 1) := (hcc 1 (by omega)).1
        have gf : w5.frozen? ⟨bb, off + 1, none⟩ = false := (hcc 1 (by omega)).2
        have hblk : bb < w5.heap.size := hhib
        have HP := hide (OwnTexts.put HO5.out (k := 1) (by omega) (showF (e, q, b)))
        have HB6 := hide (HB5.out.setCell (p := ⟨bb, off + 1, none⟩) hlo (.string (showF (e, q, b))))
        clear hcc h2
        have h2i : (ts.length : Int) = 2 := by have := H2.out; omega
        go_wp2_with fail
        go_ret2
        exact ⟨_, _, by rw [HML.out, hin, H2.out]; rfl, by rw [HML.out, HM.out]; exact own_set HP.out, HB6.out⟩

set_option maxHeartbeats 1600000 in
theorem implMarkCut_any (a : Option Addr) (n cap : Nat) (ts : List ByteArray) (e q : Int) (b : Bool) (z : Int) (w : World) {lo hi : Nat} (h : Texts lo hi w a n ts) (hn : n ≤ 1048576) (hts : ∀ s ∈ ts, s.size ≤ 1048576) (hP : Pow w) :
    Calls Tryd.prog 17 #[.slice a n cap, markV e q b, .int .i64 z] w fun r w' => ∃ a' c', r = .returned (.slice a' n c') ∧ OwnTexts w.heap.size w'.heap.size w' a' n (markCutF ts (e, q, b) z) ∧ Below w.heap.size w w' := by
  have hhi := h.2.1
  obtain ⟨w2, hw0⟩ : ∃ w0, w0 = w.alloc (.cells #[.int .i64 e, .int .i64 q, .bool b] 25) := ⟨_, rfl⟩
  have HB0 : Hid (Below w.heap.size w w2) := by rw [hw0]; exact (Below.refl _ _).alloc (Nat.le_refl _) _
  have HK0 : Hid (w2.heap[w.heap.size]? = some (.cells #[.int .i64 e, .int .i64 q, .bool b] 25)) := by rw [hw0]; exact heap_new _ _
  have HT := hide h
  have HL := hide h.1
  have HTS := hide hts
  have HPW := hide hP
  clear h hts hP
  unfold markV
  go_enter Tryd.func17, Tryd.ntmps17
  go_upto_region 1 with fail
  rw [← hw0]
  clear hw0
  obtain rfl : n = ts.length := HL.out.symm
  go_wp2_with fail
  refine (copyOfTexts_any a ts.length cap ts w2 (HT.out.later HB0.out hhi) hn HTS.out).mono ?_
  rintro r w3 ⟨a', rfl, hot, b3⟩
  have HO3 := hide (own_wide (lo' := w.heap.size) hot HB0.out.size)
  have HB3 := hide (below_here HB0.out b3)
  have HK3 := hide (block_on HK0.out b3)
  clear hot b3 HB0 HK0
  obtain ⟨k0, k1, k2⟩ := mk_cells HK3.out
  go_wp2_with fail
  refine (slotFor_any a ts.length cap ts e q b w3 (HT.out.later HB3.out hhi) hn HTS.out).mono ?_
  rintro r w4 ⟨rfl, b4⟩
  have HB4 := hide (below_here HB3.out b4)
  have HK4 := hide (block_on HK3.out b4)
  have HO4 := hide (own_end (HO3.out.later b4 HO3.out.2.1))
  clear b4 HB3 HK3 HO3 k0 k1 k2
  cases hin : intoF ts (e, q, b) with
  | none =>
    have HM : Hid (markCutF ts (e, q, b) z = ts) := by show _ = _; unfold markCutF; rw [hin]
    go_wp2_with fail
    go_ret
    exact ⟨_, _, rfl, by rw [HM.out]; exact HO4.out, HB4.out⟩
  | some k =>
    obtain ⟨_, hmi, h2, hk2⟩ := into_at hin
    have HM : Hid (markCutF ts (e, q, b) z = ts.set k ((showF (e, q, b)).extract 0 (cutN z (showF (e, q, b)).size))) := by show _ = _; unfold markCutF; rw [hin]
    have H2 := hide h2
    have hzs := showF_size (m := (e, q, b)) hmi
    clear h2 hmi
    obtain ⟨k0, k1, k2⟩ := mk_cells HK4.out
    simp only [Option.getD_some, Option.isSome_some]
    rcases (by omega : k = 0 ∨ k = 1) with rfl | rfl
    · simp only [show ((0 : Nat) : Int) = 0 from rfl]
      go_wp2_with fail
      refine (implShowMark_any e q b w4 (HPW.out.here HB4.out)).mono ?_
      rintro r w5 ⟨rfl, b5⟩
      generalize showF (e, q, b) = t at *
      have HB5 := hide (below_here HB4.out b5)
      have HO5 := hide (own_end (HO4.out.later b5 HO4.out.2.1))
      clear b5 k0 k1 k2 HB4 HO4 HK4
      obtain ⟨x, hx⟩ : ∃ x : Nat, x = cutN z t.size := ⟨_, rfl⟩
      have hxs : x ≤ t.size := by rw [hx]; unfold cutN; omega
      have hxm : min (max z 0) (t.size : Int) = (x : Int) := by rw [hx]; unfold cutN; omega
      rw [← hx] at HM
      clear hx
      have h2 := H2.out
      obtain ⟨bb, off, rfl, hlo, hhib, hcc⟩ := HO5.out.2.2 (by omega)
      have g : w5.cell? ⟨bb, off, none⟩ = some (cellT ts 0) := (hcc 0 (by omega)).1
      have gf : w5.frozen? ⟨bb, off, none⟩ = false := (hcc 0 (by omega)).2
      have hblk : bb < w5.heap.size := hhib
      have HP := hide (OwnTexts.put HO5.out (k := 0) (by omega) (t.extract 0 x))
      have HB6 := hide (HB5.out.setCell (p := ⟨bb, off + 0, none⟩) hlo (.string (t.extract 0 x)))
      clear hcc h2
      have h2i : (ts.length : Int) = 2 := by have := H2.out; omega
      go_wp2_with fail
      go_ret
      exact ⟨_, _, by rw [H2.out]; rfl, by rw [HM.out]; exact own_set HP.out, HB6.out⟩
    · simp only [show ((1 : Nat) : Int) = 1 from rfl]
      go_wp2_with fail
      refine (implShowMark_any e q b w4 (HPW.out.here HB4.out)).mono ?_
      rintro r w5 ⟨rfl, b5⟩
      generalize showF (e, q, b) = t at *
      have HB5 := hide (below_here HB4.out b5)
      have HO5 := hide (own_end (HO4.out.later b5 HO4.out.2.1))
      clear b5 k0 k1 k2 HB4 HO4 HK4
      obtain ⟨x, hx⟩ : ∃ x : Nat, x = cutN z t.size := ⟨_, rfl⟩
      have hxs : x ≤ t.size := by rw [hx]; unfold cutN; omega
      have hxm : min (max z 0) (t.size : Int) = (x : Int) := by rw [hx]; unfold cutN; omega
      rw [← hx] at HM
      clear hx
      have h2 := H2.out
      obtain ⟨bb, off, rfl, hlo, hhib, hcc⟩ := HO5.out.2.2 (by omega)
      have g : w5.cell? ⟨bb, off + 1, none⟩ = some (cellT ts 1) := (hcc 1 (by omega)).1
      have gf : w5.frozen? ⟨bb, off + 1, none⟩ = false := (hcc 1 (by omega)).2
      have hblk : bb < w5.heap.size := hhib
      have HP := hide (OwnTexts.put HO5.out (k := 1) (by omega) (t.extract 0 x))
      have HB6 := hide (HB5.out.setCell (p := ⟨bb, off + 1, none⟩) hlo (.string (t.extract 0 x)))
      clear hcc h2
      have h2i : (ts.length : Int) = 2 := by have := H2.out; omega
      go_wp2_with fail
      go_ret
      exact ⟨_, _, by rw [H2.out]; rfl, by rw [HM.out]; exact own_set HP.out, HB6.out⟩
end Go.Proofs.YteooaljhdmmooaaDoor
