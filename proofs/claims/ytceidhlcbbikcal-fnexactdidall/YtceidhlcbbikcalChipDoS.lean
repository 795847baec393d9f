/- The model's l8Do: a Job done to a Chip itself. -/
import Derived.Test.YtceidhlcbbikcalChipOnly
import Derived.Deep.RegionLaw
import Derived.Deep.AppendLies
import Derived.Deep.QuietTactic
import Derived.BigQuiet
namespace Go.Proofs.Ytceidhlcbbikcal
open Go.RowKit
set_option linter.unusedVariables false
set_option maxRecDepth 20000

theorem GrowSqs.fresh {B n g : Nat} {w w' : World} {qs : List Sq} {A : Nat → Option Addr} {C : Nat → Nat} (h : GrowSqs B w n qs g A C) (hb : Below w.heap.size w w') : GrowSqs B w' n qs g A C := h.later hb
/-- A page written behind Square i's, as the walk leaves it. -/
theorem GrowSqs.wrote {B n g i g' c' : Nat} {w w1 : World} {qs : List Sq} {A : Nat → Option Addr} {C : Nat → Nat} {tx : ByteArray} (h : GrowSqs B w n qs g A C) (hi : i < n) (hg : w.grownBy w1 (oB (A i)))
    (ho : w1.ownsRow B 9 1 (.slice (some ⟨g', 0, none⟩) ((sqAt qs i).1.length + 1) c') ((sqAt qs i).1.length + 1) (pgV (sqAt qs i).1 ++ [.string tx])) (hat : oB (A i) = some g' ∨ w.heap.size ≤ g') :
    GrowSqs B (w1.setCell ⟨g, i * 3, none⟩ (.slice (some ⟨g', 0, none⟩) ((sqAt qs i).1.length + 1) c')) n (qs.set i ((sqAt qs i).1 ++ [tx], (sqAt qs i).2.1, (sqAt qs i).2.2)) g (upd A i (some ⟨g', 0, none⟩)) (upd C i c') := by
  have e : (sqAt qs i).1.length + 1 = ((sqAt qs i).1 ++ [tx]).length := by simp
  rw [e, pgV_snoc] at ho
  rw [e]
  exact h.setPages hi hg ho (fun m hm => by have e' : some g' = some m := hm; simp only [Option.some.injEq] at e'; subst e'; exact hat)

theorem two_moved (w : World) (o : Obj) (g j k : Nat) (u v : Value) (h : g < w.heap.size) : ((w.alloc o).setCell ⟨g, j, none⟩ u).setCell ⟨g, k, none⟩ v = ((w.setCell ⟨g, j, none⟩ u).setCell ⟨g, k, none⟩ v).alloc o := by
  rw [World.setCell_alloc_past _ _ _ _ h, World.setCell_alloc_past _ _ _ _ (by rw [Go.Deep.nblk_setCell]; exact h)]

theorem cells01 {W : World} {b : Nat} {cs : Array Value} {t : TypeId} {fr : Nat × Nat} {c0 c1 : Value} (h : W.heap[b]? = some (.cells cs t fr)) (h0 : cs[0]? = some c0) (h1 : cs[1]? = some c1) : W.cell? ⟨b, 0, none⟩ = some c0 ∧ W.cell? ⟨b, 1, none⟩ = some c1 := by
  simp [World.cell?, h, h0, h1]
set_option maxHeartbeats 1600000 in
theorem l8Do_at (p c B : Nat) (z : Int) (n : Nat) (qs : List Sq) (g : Nat) (A : Nat → Option Addr) (C : Nat → Nat) (kd sq : Int) (tx : ByteArray) (w : World) (hG : GrowSqs B w n qs g A C) (hB : B ≤ w.heap.size) {ca : Array Value} {ct : TypeId} {cf : Nat × Nat}
    (hp : w.heap[p]? = some (.cells ca ct cf)) (hc0 : ca[0]? = some (.int .i64 z)) (hc1 : ca[1]? = some (.slice (some ⟨g, 0, none⟩) n c)) (hpg : p ≠ g) (hok : chipOk z qs = true) (htx : tx.size ≤ maxLen) :
    Calls Try.prog 40 #[.pointer (some ⟨p, 0, none⟩), .agg #[.int .i64 kd, .int .i64 sq, .string tx]] w fun e w' => e = .returned (.bool (canJ z qs (kd, sq, tx))) ∧ ∃ A' C', GrowSqs B w' n (doJ z qs (kd, sq, tx)) g A' C' ∧ Only B g w w' := by
  obtain ⟨wA, hwA⟩ : ∃ wA, wA = w.alloc (.cells #[.int .i64 kd, .int .i64 sq, .string tx] 48) := ⟨_, rfl⟩
  have hzA : wA.heap.size = w.heap.size + 1 := by rw [hwA]; simp
  have HBA : Hid (Below w.heap.size w wA) := by rw [hwA]; exact (Below.refl _ _).alloc (Nat.le_refl _) _
  have HJ : Hid (wA.heap[w.heap.size]? = some (.cells #[.int .i64 kd, .int .i64 sq, .string tx] 48)) := by rw [hwA]; exact heap_new _ _
  have HP := hide (block_on hp HBA.out)
  have HGA := hide (hG.later HBA.out)
  have hpl : p < w.heap.size := (Array.getElem?_eq_some_iff.1 hp).1
  have hgl : g < w.heap.size := by have := hG.row.1; omega
  have HL := hide hG.len
  have HOK := hide hok
  have hn12 : n ≤ 12 := by have := (chipOk_parts hok).2.2.2.1; rw [hG.len] at this; exact this
  have HC : ∀ w9, Hid (Below wA.heap.size wA w9 → Calls Try.prog 51 #[.agg #[.int .i64 z, .slice (some ⟨g, 0, none⟩) n c], .agg #[.int .i64 kd, .int .i64 sq, .string tx]] w9 fun e w' => e = .returned (.bool (canJ z qs (kd, sq, tx))) ∧ Below w9.heap.size w9 w') := fun w9 h9 =>
    l8Can_any z (some ⟨g, 0, none⟩) n c qs kd sq tx w9 ((HGA.out.later h9).ownS.squares) (Nat.le_refl _) (by omega) (chipOk_fits HOK.out) htx
  clear hG hp hok
  obtain ⟨a0, a1⟩ := cells01 HP.out hc0 hc1
  obtain ⟨j0, j1, j2⟩ := three_cells HJ.out
  go_enter Try.func40, Try.ntmps40
  go_upto_region 1 with fail
  rw [← hwA]
  clear hwA
  go_cut [11] (fun d wx => d = .bool (!canJ z qs (kd, sq, tx)) ∧ Below wA.heap.size wA wx)
  case first =>
    go_region_with (go_at_call 51; refine ((HC _).out (by exact (Below.refl _ wA).drew)).mono ?_; rintro e w1 ⟨rfl, b1⟩; have HB1 := hide ((Below.refl wA.heap.size wA).drew.trans b1); clear b1)
    all_goals
      go_wp2_with fail
      go_meet
      exact ⟨rfl, HB1.out⟩
  obtain ⟨rfl, hcb⟩ := hcut
  obtain ⟨w1, hw1⟩ : ∃ w1, w1 = wc := ⟨_, rfl⟩
  subst hw1
  have HB1 := hide hcb
  clear hcb
  have hs1 := HB1.out.size
  have HP1 := hide (block_on HP.out HB1.out)
  have HJ1 := hide (block_on HJ.out HB1.out)
  have HG1 := hide (HGA.out.later HB1.out)
  have HW1 := hide (below_here HBA.out HB1.out)
  clear a0 a1 j0 j1 j2 HP HJ HGA HC HB1
  obtain ⟨a0, a1⟩ := cells01 HP1.out hc0 hc1
  obtain ⟨j0, j1, j2⟩ := three_cells HJ1.out
  cases hcan : canJ z qs (kd, sq, tx) with
  | false =>
    go_wp2_with fail
    go_ret
    exact ⟨ret_bool hcan.symm, A, C, by rw [doJ_no hcan]; exact HG1.out, only_of_below HW1.out hB⟩
  | true =>
    obtain ⟨i, hi, hil, hbad, hkk⟩ := canJ_parts hcan
    dsimp only at hi hkk
    subst hi
    have hin : i < n := by rw [← HL.out]; exact hil
    have HDO := hide (doJ_yes hcan)
    obtain ⟨c0, c1, c2⟩ := HG1.out.cells hin
    have hsq := sqOk_parts (chipOk_at HOK.out hil)
    have hl8 : (sqAt qs i).1.length ≤ 8 := by have := hsq.1; have := (chipOk_parts HOK.out).2.1; omega
    have hzw0 := hsq.2.1
    have hzw1 := hsq.2.2.1
    have HKK := hide (canK_kind hkk)
    have hlt2 : (i : Int) < (n : Int) := by omega
    have HCAN := hide hcan
    clear hcan hkk hsq
    go_upto_region 3 with fail
    go_quiet (fail)
    have HBQ : Hid (Below w1.heap.size w1 (w1.drewN nq)) := ⟨rfl, rfl, rfl, Nat.le_refl _, fun _ _ => rfl⟩
    have hsq : w1.heap.size = (w1.drewN nq).heap.size := rfl
    generalize w1.drewN nq = wq at *
    have HPQ := hide (block_on HP1.out HBQ.out)
    have HJQ := hide (block_on HJ1.out HBQ.out)
    have HGQ := hide (HG1.out.later HBQ.out)
    have HWQ := hide (below_here HW1.out HBQ.out)
    clear a0 a1 j0 j1 j2 c0 c1 c2 HP1 HJ1 HG1 HW1 HBQ
    obtain ⟨j0, j1, j2⟩ := three_cells HJQ.out
    obtain ⟨c0, c1, c2⟩ := HGQ.out.cells hin
    have f0 := HGQ.out.open_ (show i * 3 < 3 * n by omega)
    have f1 := HGQ.out.open_ (show i * 3 + 1 < 3 * n by omega)
    have f2 := HGQ.out.open_ (show i * 3 + 2 < 3 * n by omega)
    have HCT : Hid (canJ z qs (kd, (i : Int), tx) = true) := HCAN.out
    have hgq : g < wq.heap.size := by omega
    rcases HKK.out with ⟨rfl, k1, k2, k3⟩ | ⟨rfl, k1⟩ | rfl
    · have HSQ : Hid (sqDo (sqAt qs i) 1 tx = ((sqAt qs i).1 ++ [tx], (sqAt qs i).2.1, (sqAt qs i).2.2)) := rfl
      clear HKK c1 c2 f1 f2 j1
      obtain ⟨i0, hi0, hzz0, hzz1, hzz2⟩ := info_parts Try.infoStrC
      have HBB := hide ((Below.refl wq.heap.size wq).alloc (Nat.le_refl _) (.cells #[.string tx] 9))
      have HGB := hide (HGQ.out.later HBB.out)
      have HPB := hide (HGB.out.pages.own i hin)
      have HPD : Hid (World.ownsRow (wq.alloc (.cells #[.string tx] 9)).drew B 9 1 (.slice (A i) (sqAt qs i).1.length (C i)) (sqAt qs i).1.length (pgV (sqAt qs i).1)) := (HPB.out).drew
      have hzB : (wq.alloc (.cells #[.string tx] 9)).heap.size = wq.heap.size + 1 := by simp
      have c0' := (HBB.out.cell (p := ⟨g, i * 3, none⟩) hgq).trans c0
      have f0' := (HBB.out.frozen (p := ⟨g, i * 3, none⟩) hgq).trans f0
      have HNE : Hid (some g ≠ (Value.slice (A i) (sqAt qs i).1.length (C i)).ownBlock) := by show _ ≠ _; rw [ownBlock_slice]; exact fun e => HGQ.out.apartG i hin e.symm
      go_upto_region 6 with fail
      go_region_law (refine step_append_lies _ (by rfl) _ _ _ (by rfl) B 9 i0 (.string ByteArray.empty) 1 16 Try.underlying61 hi0 hzz0 hzz1 hzz2 rfl (by decide) (.slice (A i) (sqAt qs i).1.length (C i)) (sqAt qs i).1.length (pgV (sqAt qs i).1) (by rfl) HPD.out ⟨wq.heap.size, 0, none⟩ 1 1 [.string tx] (by rfl) rfl (cell_one_new _ _ _) (by simp [Value.oneCell']) (by omega) (by unfold maxLen; omega) (by omega) (by simp; omega) (wq.heap.size + 1) (by simp) ?_; intro g' c' w5 hown5 hgr5 hat5 hlt5; have c5 := (hgr5.cell_far ⟨g, i * 3, none⟩ (by simp; omega) HNE.out).trans c0'; have f5 := (hgr5.frozen_far ⟨g, i * 3, none⟩ (by simp; omega) HNE.out).trans f0'; have HO5 := hide hown5; have HR5 := hide hgr5; have HA5 := hide hat5; clear hown5 hgr5 hat5)
      all_goals
        have HR6 : Hid ((wq.alloc (.cells #[.string tx] 9)).grownBy w5 (oB (A i))) := ⟨HR5.out.os, HR5.out.tape, HR5.out.output, HR5.out.size, fun k hk hne => HR5.out.block k hk (by rw [ownBlock_slice]; exact hne)⟩
        have HGF := hide (HGB.out.wrote hin HR6.out HO5.out (HA5.out.imp (fun e => by rw [ownBlock_slice] at e; exact e) (fun e => by omega)))
        have HON := hide ((((only_of_below (B := B) (g := g) HWQ.out hB).on HBB.out (by omega)).grown HPB.out HR6.out (by omega)).set HGQ.out.atG (i * 3) (.slice (some ⟨g', 0, none⟩) ((sqAt qs i).1.length + 1) c'))
        go_wp2_with fail
        go_ret
        exact ⟨ret_bool HCT.out.symm, _, _, by rw [HDO.out, HSQ.out]; exact HGF.out, HON.out⟩
    · have HSQ : Hid (sqDo (sqAt qs i) 2 tx = ([], (sqAt qs i).2.1 + 1, (sqAt qs i).2.2)) := rfl
      clear HKK
      have HBB := hide ((Below.refl wq.heap.size wq).alloc (Nat.le_refl _) (.cells #[] 9))
      have HPB := hide ((own_made0 wq 9).mono (show B ≤ wq.heap.size by omega))
      have HG2 := hide (HGQ.out.setPages hin (w1 := wq.alloc (.cells #[] 9)) (a' := some ⟨wq.heap.size, 0, none⟩) (c' := 0) (ts' := []) (grown_below HBB.out _) HPB.out (fun m hm => .inr (by have e : some wq.heap.size = some m := hm; simp only [Option.some.injEq] at e; omega)))
      have HG3 := hide (HG2.out.setWipes hin ((sqAt qs i).2.1 + 1))
      have HON := hide ((((only_of_below (B := B) (g := g) HWQ.out hB).on HBB.out (by omega)).set HGQ.out.atG (i * 3) (.slice (some ⟨wq.heap.size, 0, none⟩) 0 0)).set HGQ.out.atG (i * 3 + 1) (.int .i64 ((sqAt qs i).2.1 + 1)))
      have HSS : Hid ((qs.set i ([], (sqAt qs i).2.1, (sqAt qs i).2.2)).set i ((sqAt (qs.set i ([], (sqAt qs i).2.1, (sqAt qs i).2.2)) i).1, (sqAt qs i).2.1 + 1, (sqAt (qs.set i ([], (sqAt qs i).2.1, (sqAt qs i).2.2)) i).2.2) = qs.set i ([], (sqAt qs i).2.1 + 1, (sqAt qs i).2.2)) := by
        show _ = _
        rw [List.set_set, sqAt_set qs _ hil, if_pos rfl]
      have HEQ := hide (two_moved wq (.cells #[] 9) g (i * 3) (i * 3 + 1) (.slice (some ⟨wq.heap.size, 0, none⟩) 0 0) (.int .i64 ((sqAt qs i).2.1 + 1)) hgq)
      have d0 := (HBB.out.cell (p := ⟨g, i * 3, none⟩) hgq).trans c0
      have e0 := (HBB.out.frozen (p := ⟨g, i * 3, none⟩) hgq).trans f0
      have d1 := (HBB.out.cell (p := ⟨g, i * 3 + 1, none⟩) hgq).trans c1
      have e1 := (HBB.out.frozen (p := ⟨g, i * 3 + 1, none⟩) hgq).trans f1
      generalize hzw : (sqAt qs i).2.1 = zw at *
      go_wp2_with fail
      go_ret
      exact ⟨ret_bool HCT.out.symm, upd A i (some ⟨wq.heap.size, 0, none⟩), upd C i 0, by rw [HDO.out, HSQ.out, ← HSS.out, ← HEQ.out]; exact HG3.out, by rw [← HEQ.out]; exact HON.out⟩
    · have HSQ : Hid (sqDo (sqAt qs i) 3 tx = ((sqAt qs i).1, (sqAt qs i).2.1, true)) := rfl
      clear HKK
      have HGF := hide (HGQ.out.setBad hin true)
      have HON := hide ((only_of_below (B := B) (g := g) HWQ.out hB).set HGQ.out.atG (i * 3 + 2) (.bool true))
      go_wp2_with fail
      go_ret
      exact ⟨ret_bool HCT.out.symm, A, C, by rw [HDO.out, HSQ.out]; exact HGF.out, HON.out⟩
theorem l8Do_any (p c B : Nat) (z : Int) (n : Nat) (qs : List Sq) (g : Nat) (A : Nat → Option Addr) (C : Nat → Nat) (kd sq : Int) (tx : ByteArray) (w : World) (hG : GrowSqs B w n qs g A C) (hB : B ≤ w.heap.size)
    (hp : w.heap[p]? = some (.cells #[.int .i64 z, .slice (some ⟨g, 0, none⟩) n c] 36)) (hpg : p ≠ g) (hok : chipOk z qs = true) (htx : tx.size ≤ maxLen) :
    Calls Try.prog 40 #[.pointer (some ⟨p, 0, none⟩), .agg #[.int .i64 kd, .int .i64 sq, .string tx]] w fun e w' => e = .returned (.bool (canJ z qs (kd, sq, tx))) ∧ ∃ A' C', GrowSqs B w' n (doJ z qs (kd, sq, tx)) g A' C' ∧ Only B g w w' :=
  l8Do_at p c B z n qs g A C kd sq tx w hG hB hp rfl rfl hpg hok htx
end Go.Proofs.Ytceidhlcbbikcal
