/- The walk of chapter 13's model: MarkCut. -/
import Derived.Test.YteooaljhdmmooaaDoorMDMarkIntoS
namespace Go.Proofs.YteooaljhdmmooaaDoor
open Go.RowKit
set_option linter.unusedVariables false
set_option linter.unusedSimpArgs false
set_option maxRecDepth 20000

theorem mmin_any (x y : Int) (w : World) : Calls Tryd.prog 32 #[.int .i64 x, .int .i64 y] w fun r w' => r = .returned (.int .i64 (min x y)) ∧ w' = w := by
  by_cases h : x < y
  · go_enter Tryd.func32, Tryd.ntmps32
    go_wp2_with fail
    go_ret
    exact ⟨ret_i64 (by omega), rfl⟩
  · go_enter Tryd.func32, Tryd.ntmps32
    go_wp2_with fail
    go_ret
    exact ⟨ret_i64 (by omega), rfl⟩
theorem mmax_any (x y : Int) (w : World) : Calls Tryd.prog 31 #[.int .i64 x, .int .i64 y] w fun r w' => r = .returned (.int .i64 (max x y)) ∧ w' = w := by
  by_cases h : y < x
  · go_enter Tryd.func31, Tryd.ntmps31
    go_wp2_with fail
    go_ret
    exact ⟨ret_i64 (by omega), rfl⟩
  · go_enter Tryd.func31, Tryd.ntmps31
    go_wp2_with fail
    go_ret
    exact ⟨ret_i64 (by omega), rfl⟩

set_option maxHeartbeats 1600000 in
theorem specMarkCut_any (a : Option Addr) (n cap : Nat) (ts : List ByteArray) (e q : Int) (b : Bool) (z : Int) (w : World) {lo hi : Nat} (h : Texts lo hi w a n ts) (hn : n ≤ 1048576) (hts : ∀ s ∈ ts, s.size ≤ 1048576) :
    Calls Tryd.prog 16 #[.slice a n cap, markV e q b, .int .i64 z] w fun r w' => ∃ a' c', r = .returned (.slice a' n c') ∧ OwnTexts w.heap.size w'.heap.size w' a' n (markCutF ts (e, q, b) z) ∧ Below w.heap.size w w' := by
  have hhi := h.2.1
  obtain ⟨w1, hw0⟩ : ∃ w0, w0 = w.alloc (.cells #[.int .i64 e, .int .i64 q, .bool b] 25) := ⟨_, rfl⟩
  have HB0 : Hid (Below w.heap.size w w1) := by rw [hw0]; exact (Below.refl _ _).alloc (Nat.le_refl _) _
  have HK0 : Hid (w1.heap[w.heap.size]? = some (.cells #[.int .i64 e, .int .i64 q, .bool b] 25)) := by rw [hw0]; exact heap_new _ _
  have hz0 : w1.heap.size = w.heap.size + 1 := by rw [hw0]; simp
  have HT := hide h
  have HL := hide h.1
  have HTS := hide hts
  clear h hts
  unfold markV
  go_enter Tryd.func16, Tryd.ntmps16
  go_upto_region 1 with fail
  rw [← hw0]
  clear hw0
  obtain rfl : n = ts.length := HL.out.symm
  obtain ⟨wB, hwB⟩ : ∃ wB, wB = w1.alloc (.cells #[] 9) := ⟨_, rfl⟩
  have hzB : wB.heap.size = w1.heap.size + 1 := by rw [hwB]; simp
  have hbB : Below w1.heap.size w1 wB := by rw [hwB]; exact (Below.refl _ _).alloc (Nat.le_refl _) _
  have HBB := hide (below_here HB0.out hbB)
  have HKB := hide (block_on HK0.out hbB)
  have hmade : wB.ownsRow w1.heap.size 9 1 (.slice (some ⟨w1.heap.size, 0, none⟩) 0 0) 0 [] := by rw [hwB]; exact own_made0 w1 9
  obtain ⟨a', c', w2, hap, hpo, hgr, hfr⟩ := append_pages (P := Tryd.prog) Tryd.infoStrC Tryd.underlying28 hmade (by omega) (c := cap) (HT.out.later HBB.out hhi) hn
  have HAP := hide hap
  have HB2 := hide (HBB.out.grown hgr (by omega) (fun m hm => by simp only [Option.some.injEq] at hm; omega))
  have HK2 : Hid (w2.heap[w.heap.size]? = some (.cells #[.int .i64 e, .int .i64 q, .bool b] 25)) := (hgr.block w.heap.size (by omega) (fun e => by simp only [Option.some.injEq] at e; omega)).trans HKB.out
  obtain ⟨a'', c'', e1, _, hot⟩ := ownTexts_of (B := w1.heap.size) (ts := ts) hpo (Nat.le_refl _)
  cases e1
  have HOT := hide hot
  have HZ0 := hide hz0
  clear hap hpo hgr hfr hmade hot hbB hz0 hzB
  go_upto_region 2 with (at_builtin; (first | rw [← hwB] | skip); refine wpList_append_eq rfl (.tmp 10) (.tmp 11) 28 rfl _ _ _ w2 rfl rfl HAP.out ?_)
  clear hwB HAP HBB HKB
  obtain ⟨k0, k1, k2⟩ := mk_cells HK2.out
  go_wp2_with fail
  refine (l13Into_any a ts.length cap ts e q b w2 (HT.out.later HB2.out hhi) hn HTS.out).mono ?_
  rintro r w3 ⟨rfl, b3⟩
  have HB3 := hide (below_here HB2.out b3)
  have HK3 := hide (block_on HK2.out b3)
  have HO3 := hide (own_wide (HOT.out.later b3 HOT.out.2.1) (show w.heap.size ≤ w1.heap.size by have := HZ0.out; omega))
  clear b3 HB2 HK2 HOT k0 k1 k2
  cases hin : intoF ts (e, q, b) with
  | none =>
    have HM : Hid (markCutF ts (e, q, b) z = ts) := by show _ = _; unfold markCutF; rw [hin]
    unfold intoV
    simp only
    go_wp2_with fail
    go_ret
    exact ⟨_, _, rfl, by rw [HM.out]; exact own_end HO3.out, HB3.out⟩
  | some k =>
    obtain ⟨_, hmi, h2, hk2⟩ := into_at hin
    have HM : Hid (markCutF ts (e, q, b) z = ts.set k ((showF (e, q, b)).extract 0 (cutN z (showF (e, q, b)).size))) := by show _ = _; unfold markCutF; rw [hin]
    have H2 := hide h2
    have hzs := showF_size (m := (e, q, b)) hmi
    clear h2 hmi
    obtain ⟨k0, k1, k2⟩ := mk_cells HK3.out
    unfold intoV
    simp only
    rcases (by omega : k = 0 ∨ k = 1) with rfl | rfl
    · simp only [show ((0 : Nat) : Int) = 0 from rfl]
      go_wp2_with fail
      refine (specShowMark_any e q b w3).mono ?_
      rintro r w4 ⟨rfl, b4⟩
      generalize showF (e, q, b) = t at *
      have HB4 := hide (below_here HB3.out b4)
      have HO4 := hide (own_end (HO3.out.later b4 HO3.out.2.1))
      clear b4 k0 k1 k2 HB3 HO3 HK3
      obtain ⟨x, hx⟩ : ∃ x : Nat, x = cutN z t.size := ⟨_, rfl⟩
      have hxs : x ≤ t.size := by rw [hx]; unfold cutN; omega
      have hxm : max 0 (min z (t.size : Int)) = (x : Int) := by rw [hx]; unfold cutN; omega
      rw [← hx] at HM
      clear hx
      have HXM := hide hxm
      clear hxm
      go_wp2_with fail
      refine (mmin_any z (t.size : Int) w4).mono ?_
      rintro r w5 ⟨rfl, rfl⟩
      go_wp2_with fail
      refine (mmax_any 0 (min z (t.size : Int)) w5).mono ?_
      rw [HXM.out]
      rintro r w6 ⟨rfl, rfl⟩
      have h2 := H2.out
      obtain ⟨bb, off, rfl, hlo, hhib, hcc⟩ := HO4.out.2.2 (by omega)
      have g : w6.cell? ⟨bb, off, none⟩ = some (cellT ts 0) := (hcc 0 (by omega)).1
      have gf : w6.frozen? ⟨bb, off, none⟩ = false := (hcc 0 (by omega)).2
      have hblk : bb < w6.heap.size := hhib
      have HP := hide (OwnTexts.put HO4.out (k := 0) (by omega) (t.extract 0 x))
      have HB5 := hide (HB4.out.setCell (p := ⟨bb, off + 0, none⟩) hlo (.string (t.extract 0 x)))
      clear hcc h2
      have h2i : (ts.length : Int) = 2 := by have := H2.out; omega
      go_wp2_with fail
      go_ret
      exact ⟨_, _, by rw [H2.out]; rfl, by rw [HM.out]; exact own_set HP.out, HB5.out⟩
    · simp only [show ((1 : Nat) : Int) = 1 from rfl]
      go_wp2_with fail
      refine (specShowMark_any e q b w3).mono ?_
      rintro r w4 ⟨rfl, b4⟩
      generalize showF (e, q, b) = t at *
      have HB4 := hide (below_here HB3.out b4)
      have HO4 := hide (own_end (HO3.out.later b4 HO3.out.2.1))
      clear b4 k0 k1 k2 HB3 HO3 HK3
      obtain ⟨x, hx⟩ : ∃ x : Nat, x = cutN z t.size := ⟨_, rfl⟩
      have hxs : x ≤ t.size := by rw [hx]; unfold cutN; omega
      have hxm : max 0 (min z (t.size : Int)) = (x : Int) := by rw [hx]; unfold cutN; omega
      rw [← hx] at HM
      clear hx
      have HXM := hide hxm
      clear hxm
      go_wp2_with fail
      refine (mmin_any z (t.size : Int) w4).mono ?_
      rintro r w5 ⟨rfl, rfl⟩
      go_wp2_with fail
      refine (mmax_any 0 (min z (t.size : Int)) w5).mono ?_
      rw [HXM.out]
      rintro r w6 ⟨rfl, rfl⟩
      have h2 := H2.out
      obtain ⟨bb, off, rfl, hlo, hhib, hcc⟩ := HO4.out.2.2 (by omega)
      have g : w6.cell? ⟨bb, off + 1, none⟩ = some (cellT ts 1) := (hcc 1 (by omega)).1
      have gf : w6.frozen? ⟨bb, off + 1, none⟩ = false := (hcc 1 (by omega)).2
      have hblk : bb < w6.heap.size := hhib
      have HP := hide (OwnTexts.put HO4.out (k := 1) (by omega) (t.extract 0 x))
      have HB5 := hide (HB4.out.setCell (p := ⟨bb, off + 1, none⟩) hlo (.string (t.extract 0 x)))
      clear hcc h2
      have h2i : (ts.length : Int) = 2 := by have := H2.out; omega
      go_wp2_with fail
      go_ret
      exact ⟨_, _, by rw [H2.out]; rfl, by rw [HM.out]; exact own_set HP.out, HB5.out⟩
end Go.Proofs.YteooaljhdmmooaaDoor
