/- Several texts in one: ChipCutS, ChipImplD, ChipImplE. -/
import Derived.Test.YtoocbagnfkgbfaaGreatDoorBChipGrow
import Derived.Test.YtoocbagnfkgbfaaGreatDoorBQuietTail
import Derived.Test.YtoocbagnfkgbfaaGreatDoorBChipOkS
import Derived.Lib.QuietBelow
import Derived.BigQuiet
section
namespace Go.Proofs.YtoocbagnfkgbfaaGreatDoor
open Go.RowKit
set_option linter.unusedVariables false
set_option maxRecDepth 20000

/-- How many bytes of n are there where power failed behind b. -/
def partN (n : Nat) (b : Int) : Nat := if b < 1 then 1 else if b ≤ (n : Int) then b.toNat else n
def part (s : ByteArray) (b : Int) : ByteArray := s.extract 0 (partN s.size b)
theorem partN_le {n : Nat} (b : Int) (h : 1 ≤ n) : 1 ≤ partN n b ∧ partN n b ≤ n := by
  unfold partN
  split
  · omega
  · split <;> omega
theorem part_size {s : ByteArray} (b : Int) (h : 1 ≤ s.size) : 1 ≤ (part s b).size ∧ (part s b).size ≤ s.size := by
  have := partN_le (n := s.size) b h
  unfold part
  rw [ByteArray.size_extract]
  omega
def sqCut (q : Sq) (kd : Int) (tx : ByteArray) (b : Int) : Sq := if kd = 1 then (q.1 ++ [part tx b], q.2.1, q.2.2) else if kd = 2 then (q.1.map (part · b), q.2.1 + 1, q.2.2) else q
def cutJ (z : Int) (qs : List Sq) (j : Jb) (b : Int) : List Sq := if canJ z qs j then qs.set j.2.1.toNat (sqCut (sqAt qs j.2.1.toNat) j.1 j.2.2 b) else qs
theorem cutJ_yes {z : Int} {qs : List Sq} {kd : Int} {i : Nat} {tx : ByteArray} {b : Int} (h : canJ z qs (kd, (i : Int), tx) = true) : cutJ z qs (kd, (i : Int), tx) b = qs.set i (sqCut (sqAt qs i) kd tx b) := by
  unfold cutJ; rw [if_pos h]; simp
theorem cutJ_no {z : Int} {qs : List Sq} {j : Jb} {b : Int} (h : canJ z qs j = false) : cutJ z qs j b = qs := by
  unfold cutJ; rw [if_neg (by rw [h]; simp)]
theorem set_sqAt (qs : List Sq) {i : Nat} (h : i < qs.length) : qs.set i (sqAt qs i) = qs := by
  unfold sqAt
  rw [List.getD_eq_getElem?_getD, List.getElem?_eq_getElem h]
  exact List.set_getElem_self h
theorem sqCut_ok {z : Int} {q : Sq} {kd : Int} {tx : ByteArray} {b : Int} (h : sqOk z q = true) (hk : canK z q kd tx = true) : sqOk z (sqCut q kd tx b) = true := by
  have h0 := h
  unfold sqOk inB at h ⊢
  simp only [Bool.and_eq_true, decide_eq_true_eq, List.all_eq_true] at h ⊢
  obtain ⟨h1, ⟨h2, h3⟩, h4⟩ := h
  have hp : ∀ s : ByteArray, txOk s = true → txOk (part s b) = true := fun s hs => by
    unfold txOk at hs ⊢
    simp only [Bool.and_eq_true, decide_eq_true_eq] at hs ⊢
    have := part_size b hs.1
    omega
  rcases canK_kind hk with ⟨rfl, k1, k2, k3⟩ | ⟨rfl, k1⟩ | rfl
  · unfold sqCut
    rw [if_pos rfl]
    refine ⟨by simp; omega, ⟨h2, h3⟩, fun s hs => ?_⟩
    simp only [List.mem_append, List.mem_singleton] at hs
    rcases hs with hs | rfl
    · exact h4 s hs
    · exact hp tx (by unfold txOk; simp [k2, k3])
  · unfold sqCut
    rw [if_neg (by decide), if_pos rfl]
    refine ⟨by simpa using h1, ⟨by show 0 ≤ q.2.1 + 1; omega, by show q.2.1 + 1 ≤ 1000000; omega⟩, fun s hs => ?_⟩
    obtain ⟨t, ht, rfl⟩ := List.mem_map.1 hs
    exact hp t (h4 t ht)
  · unfold sqCut
    rw [if_neg (by decide), if_neg (by decide)]
    exact ⟨h1, ⟨h2, h3⟩, h4⟩
theorem cutJ_ok {z : Int} {qs : List Sq} {j : Jb} {b : Int} (h : chipOk z qs = true) : chipOk z (cutJ z qs j b) = true := by
  cases hc : canJ z qs j with
  | false => rw [cutJ_no hc]; exact h
  | true =>
    obtain ⟨i, hi, hl, _, hk⟩ := canJ_parts hc
    obtain ⟨kd, sq, tx⟩ := j
    dsimp only at hi hk
    subst hi
    rw [cutJ_yes hc]
    exact set_ok h (sqCut_ok (chipOk_at h hl) hk)
/-- The first k turned by f. -/
def mixL (f : ByteArray → ByteArray) (ts : List ByteArray) (k : Nat) : List ByteArray := (ts.take k).map f ++ ts.drop k
theorem mixL_zero (f : ByteArray → ByteArray) (ts : List ByteArray) : mixL f ts 0 = ts := by simp [mixL]
theorem mixL_all (f : ByteArray → ByteArray) (ts : List ByteArray) : mixL f ts ts.length = ts.map f := by simp [mixL]
theorem mixL_length (f : ByteArray → ByteArray) (ts : List ByteArray) (k : Nat) : (mixL f ts k).length = ts.length := by simp [mixL]; omega
theorem mixL_at (f : ByteArray → ByteArray) {ts : List ByteArray} {k : Nat} (h : k < ts.length) : (mixL f ts k)[k]? = some (ts.getD k ByteArray.empty) := by
  unfold mixL
  rw [List.getElem?_append_right (by simp; omega), List.length_map, List.length_take, Nat.min_eq_left (by omega), Nat.sub_self, List.getElem?_drop, Nat.add_zero, List.getD_eq_getElem?_getD, List.getElem?_eq_getElem h]
  rfl
theorem mixL_step (f : ByteArray → ByteArray) {ts : List ByteArray} {k : Nat} (h : k < ts.length) : (mixL f ts k).set k (f (ts.getD k ByteArray.empty)) = mixL f ts (k + 1) := by
  unfold mixL
  rw [List.set_append_right _ _ (by simp; omega), List.length_map, List.length_take, Nat.min_eq_left (by omega), Nat.sub_self, List.drop_eq_getElem_cons h, List.set_cons_zero, List.take_succ_eq_append_getElem h, List.map_append, List.getD_eq_getElem?_getD, List.getElem?_eq_getElem h]
  simp
theorem getD_memT {ts : List ByteArray} {k : Nat} (h : k < ts.length) : ts.getD k ByteArray.empty ∈ ts := by
  rw [List.getD_eq_getElem?_getD, List.getElem?_eq_getElem h]; exact List.getElem_mem h

set_option maxHeartbeats 400000 in
theorem l1MinC_any (x y : Int) (w : World) : Calls Tryz.prog 91 #[.int .i64 x, .int .i64 y] w fun e w' => e = .returned (.int .i64 (if x < y then x else y)) ∧ w = w' := by
  by_cases h : x < y
  · rw [if_pos h]
    go_enter Tryz.func91, Tryz.ntmps91
    go_wp2_with fail
    go_ret
    exact ⟨rfl, rfl⟩
  · rw [if_neg h]
    go_enter Tryz.func91, Tryz.ntmps91
    go_wp2_with fail
    go_ret
    exact ⟨rfl, rfl⟩
set_option maxHeartbeats 400000 in
theorem l1Max_any (x y : Int) (w : World) : Calls Tryz.prog 90 #[.int .i64 x, .int .i64 y] w fun e w' => e = .returned (.int .i64 (if y < x then x else y)) ∧ w = w' := by
  by_cases h : y < x
  · rw [if_pos h]
    have g : decide (x > y) = true := by simpa using h
    go_enter Tryz.func90, Tryz.ntmps90
    go_wp2_with fail
    go_ret
    exact ⟨rfl, rfl⟩
  · rw [if_neg h]
    have g : decide (x > y) = false := by simpa using h
    go_enter Tryz.func90, Tryz.ntmps90
    go_wp2_with fail
    go_ret
    exact ⟨rfl, rfl⟩
set_option maxHeartbeats 400000 in
theorem l8Part_any (s : ByteArray) (b : Int) (w : World) (h1 : 1 ≤ s.size) (h2 : s.size ≤ 200) : Calls Tryz.prog 146 #[.string s, .int .i64 b] w fun e w' => e = .returned (.string (part s b)) ∧ w = w' := by
  obtain ⟨r, hr⟩ : ∃ r, r = (if b < (s.size : Int) then b else (s.size : Int)) := ⟨_, rfl⟩
  have HK : Hid ((if r < 1 then 1 else r) = ((partN s.size b : Nat) : Int)) := by
    show _ = _
    rw [hr]
    unfold partN
    by_cases c1 : b < 1 <;> by_cases c2 : b < (s.size : Int) <;> by_cases c3 : b ≤ (s.size : Int) <;> simp only [c1, c2, c3, if_true, if_false] <;> (try split) <;> omega
  have hk := partN_le (n := s.size) b h1
  have HP : Hid (part s b = s.extract 0 (partN s.size b)) := rfl
  go_enter Tryz.func146, Tryz.ntmps146
  go_wp2_with fail
  refine (l1MinC_any b (s.size : Int) w).mono ?_
  rintro e w1 ⟨rfl, rfl⟩
  rw [← hr]
  clear hr
  go_wp2_with fail
  refine (l1Max_any 1 _ w).mono ?_
  rintro e w1 ⟨rfl, rfl⟩
  rw [HK.out]
  generalize partN s.size b = K at *
  go_wp2_with fail
  go_ret
  exact ⟨by rw [HP.out]; rfl, rfl⟩

set_option maxHeartbeats 1600000 in
theorem l8Cut_any (p c B : Nat) (z : Int) (n : Nat) (qs : List Sq) (g : Nat) (A : Nat → Option Addr) (C : Nat → Nat) (kd sq : Int) (tx : ByteArray) (by_ : Int) (w : World) (hG : GrowSqs B w n qs g A C) (hB : B ≤ w.heap.size)
    (hp : w.heap[p]? = some (.cells #[.int .i64 z, .slice (some ⟨g, 0, none⟩) n c] 26)) (hpg : p ≠ g) (hok : chipOk z qs = true) (htx : tx.size ≤ maxLen) :
    Calls Tryz.prog 93 #[.pointer (some ⟨p, 0, none⟩), .agg #[.int .i64 kd, .int .i64 sq, .string tx], .int .i64 by_] w fun e w' => e = .returned (.tuple #[]) ∧ ∃ A' C', GrowSqs B w' n (cutJ z qs (kd, sq, tx) by_) g A' C' ∧ Only B g w w' := by
  obtain ⟨wA, hwA⟩ : ∃ wA, wA = w.alloc (.cells #[.int .i64 kd, .int .i64 sq, .string tx] 119) := ⟨_, rfl⟩
  have hzA : wA.heap.size = w.heap.size + 1 := by rw [hwA]; simp
  have HBA : Hid (Below w.heap.size w wA) := by rw [hwA]; exact (Below.refl _ _).alloc (Nat.le_refl _) _
  have HJ : Hid (wA.heap[w.heap.size]? = some (.cells #[.int .i64 kd, .int .i64 sq, .string tx] 119)) := by rw [hwA]; exact heap_new _ _
  have HP := hide (block_on hp HBA.out)
  have HGA := hide (hG.later HBA.out)
  have hpl : p < w.heap.size := (Array.getElem?_eq_some_iff.1 hp).1
  have hgl : g < w.heap.size := by have := hG.row.1; omega
  have HL := hide hG.len
  have HOK := hide hok
  have hn12 : n ≤ 12 := by have := (chipOk_parts hok).2.2.2.1; rw [hG.len] at this; exact this
  have HC : ∀ w9, Hid (Below wA.heap.size wA w9 → Calls Tryz.prog 145 #[.agg #[.int .i64 z, .slice (some ⟨g, 0, none⟩) n c], .agg #[.int .i64 kd, .int .i64 sq, .string tx]] w9 fun e w' => e = .returned (.bool (canJ z qs (kd, sq, tx))) ∧ Below w9.heap.size w9 w') := fun w9 h9 =>
    l8Can_any z (some ⟨g, 0, none⟩) n c qs kd sq tx w9 ((HGA.out.later h9).ownS.squares) (Nat.le_refl _) (by omega) (chipOk_fits HOK.out) htx
  clear hG hp hok
  obtain ⟨a0, a1⟩ := two_cells HP.out
  obtain ⟨j0, j1, j2⟩ := three_cells HJ.out
  go_enter Tryz.func93, Tryz.ntmps93
  go_upto_region 1 with fail
  rw [← hwA]
  clear hwA
  go_cut [13] (fun d wx => d = .bool (!canJ z qs (kd, sq, tx)) ∧ Below wA.heap.size wA wx)
  case first =>
    go_region_with (go_at_call 145; refine ((HC _).out (by exact (Below.refl _ wA).drew)).mono ?_; rintro e w1 ⟨rfl, b1⟩; have HB1 := hide ((Below.refl wA.heap.size wA).drew.trans b1); clear b1)
    all_goals
      go_wp2_with fail
      go_meet
      exact ⟨rfl, HB1.out⟩
  obtain ⟨rfl, hcb⟩ := hcut
  obtain ⟨w1, hw1⟩ : ∃ w1, w1 = wc := ⟨_, rfl⟩
  subst hw1
  have HB1 := hide hcb
  clear hcb
  have hs1 := HB1.out.size
  have HP1 := hide (block_on HP.out HB1.out)
  have HJ1 := hide (block_on HJ.out HB1.out)
  have HG1 := hide (HGA.out.later HB1.out)
  have HW1 := hide (below_here HBA.out HB1.out)
  clear a0 a1 j0 j1 j2 HP HJ HGA HC HB1
  obtain ⟨a0, a1⟩ := two_cells HP1.out
  obtain ⟨j0, j1, j2⟩ := three_cells HJ1.out
  cases hcan : canJ z qs (kd, sq, tx) with
  | false =>
    go_wp2_with fail
    first | go_end0 | (simp only [Exit.inBlock, Exit.then]; refine bodyPost_ret (results_none rfl _ _ _) rfl ?_) | refine bodyPost_ret (results_none rfl _ _ _) rfl ?_
    exact ⟨rfl, A, C, by rw [cutJ_no hcan]; exact HG1.out, only_of_below HW1.out hB⟩
  | true =>
    simp only [Bool.not_true]
    obtain ⟨i, hi, hil, hbad, hkk⟩ := canJ_parts hcan
    dsimp only at hi hkk
    subst hi
    have hin : i < n := by rw [← HL.out]; exact hil
    have HDO := hide (cutJ_yes hcan (b := by_))
    obtain ⟨c0, c1, c2⟩ := HG1.out.cells hin
    have hsq := sqOk_parts (chipOk_at HOK.out hil)
    have hl8 : (sqAt qs i).1.length ≤ 8 := by have := hsq.1; have := (chipOk_parts HOK.out).2.1; omega
    have hzw0 := hsq.2.1
    have hzw1 := hsq.2.2.1
    have HKK := hide (canK_kind hkk)
    have hlt2 : (i : Int) < (n : Int) := by omega
    have HCAN := hide hcan
    clear hcan hkk hsq
    go_upto_region 2 with fail
    go_quiet (fail)
    have HBQ : Hid (Below w1.heap.size w1 (w1.drewN nq)) := ⟨rfl, rfl, rfl, Nat.le_refl _, fun _ _ => rfl⟩
    have hsq : w1.heap.size = (w1.drewN nq).heap.size := rfl
    generalize w1.drewN nq = wq at *
    have HPQ := hide (block_on HP1.out HBQ.out)
    have HJQ := hide (block_on HJ1.out HBQ.out)
    have HGQ := hide (HG1.out.later HBQ.out)
    have HWQ := hide (below_here HW1.out HBQ.out)
    clear a0 a1 j0 j1 j2 c0 c1 c2 HP1 HJ1 HG1 HW1 HBQ
    obtain ⟨j0, j1, j2⟩ := three_cells HJQ.out
    obtain ⟨c0, c1, c2⟩ := HGQ.out.cells hin
    have f0 := HGQ.out.open_ (show i * 3 < 3 * n by omega)
    have f1 := HGQ.out.open_ (show i * 3 + 1 < 3 * n by omega)
    have f2 := HGQ.out.open_ (show i * 3 + 2 < 3 * n by omega)
    have HCT : Hid (canJ z qs (kd, (i : Int), tx) = true) := HCAN.out
    have hgq : g < wq.heap.size := by omega
    rcases HKK.out with ⟨rfl, k1, k2, k3⟩ | ⟨rfl, k1⟩ | rfl
    · have HSQ : Hid (sqCut (sqAt qs i) 1 tx by_ = ((sqAt qs i).1 ++ [part tx by_], (sqAt qs i).2.1, (sqAt qs i).2.2)) := rfl
      have HLP : ∀ w9, Hid (Calls Tryz.prog 146 #[.string tx, .int .i64 by_] w9 fun e w' => e = .returned (.string (part tx by_)) ∧ w9 = w') := fun w9 => l8Part_any tx by_ w9 k2 k3
      clear HKK c1 c2 f1 f2 j1
      generalize part tx by_ = px at *
      obtain ⟨i0, hi0, hzz0, hzz1, hzz2⟩ := info_parts Tryz.infoStrC
      have HBB := hide ((Below.refl wq.heap.size wq).alloc (Nat.le_refl _) (.cells #[.string px] 9))
      have HGB := hide (HGQ.out.later HBB.out)
      have HPB := hide (HGB.out.pages.own i hin)
      have HPD : Hid (World.ownsRow (wq.alloc (.cells #[.string px] 9)).drew B 9 1 (.slice (A i) (sqAt qs i).1.length (C i)) (sqAt qs i).1.length (pgV (sqAt qs i).1)) := (HPB.out).drew
      have hzB : (wq.alloc (.cells #[.string px] 9)).heap.size = wq.heap.size + 1 := by simp
      have c0' := (HBB.out.cell (p := ⟨g, i * 3, none⟩) hgq).trans c0
      have f0' := (HBB.out.frozen (p := ⟨g, i * 3, none⟩) hgq).trans f0
      have HNE : Hid (some g ≠ (Value.slice (A i) (sqAt qs i).1.length (C i)).ownBlock) := by show _ ≠ _; rw [ownBlock_slice]; exact fun e => HGQ.out.apartG i hin e.symm
      go_upto_region 5 with fail
      go_region_law (first
        | (refine step_append_lies _ (by rfl) _ _ _ (by rfl) B 9 i0 (.string ByteArray.empty) 1 16 Tryz.underlying49 hi0 hzz0 hzz1 hzz2 rfl (by decide) (.slice (A i) (sqAt qs i).1.length (C i)) (sqAt qs i).1.length (pgV (sqAt qs i).1) (by rfl) HPD.out ⟨wq.heap.size, 0, none⟩ 1 1 [.string px] (by rfl) rfl (cell_one_new _ _ _) (by simp [Value.oneCell']) (by omega) (by unfold maxLen; omega) (by omega) (by simp; omega) (wq.heap.size + 1) (by simp) ?_; intro g' c' w5 hown5 hgr5 hat5 hlt5; have c5 := (hgr5.cell_far ⟨g, i * 3, none⟩ (by simp; omega) HNE.out).trans c0'; have f5 := (hgr5.frozen_far ⟨g, i * 3, none⟩ (by simp; omega) HNE.out).trans f0'; have HO5 := hide hown5; have HR5 := hide hgr5; have HA5 := hide hat5; clear hown5 hgr5 hat5)
        | (go_simp; go_at_call 146; refine (HLP _).out.mono ?_; rintro e w9 ⟨rfl, rfl⟩; dsimp only))
      all_goals
        have HR6 : Hid ((wq.alloc (.cells #[.string px] 9)).grownBy w5 (oB (A i))) := ⟨HR5.out.os, HR5.out.tape, HR5.out.output, HR5.out.size, fun k hk hne => HR5.out.block k hk (by rw [ownBlock_slice]; exact hne)⟩
        have HGF := hide (HGB.out.wrote hin HR6.out HO5.out (HA5.out.imp (fun e => by rw [ownBlock_slice] at e; exact e) (fun e => by omega)))
        have HON := hide ((((only_of_below (B := B) (g := g) HWQ.out hB).on HBB.out (by omega)).grown HPB.out HR6.out (by omega)).set HGQ.out.atG (i * 3) (.slice (some ⟨g', 0, none⟩) ((sqAt qs i).1.length + 1) c'))
        go_wp2_with fail
        go_end0
        exact ⟨rfl, _, _, by rw [HDO.out, HSQ.out]; exact HGF.out, HON.out⟩
    · have HSQ : Hid (sqCut (sqAt qs i) 2 tx by_ = ((sqAt qs i).1.map (part · by_), (sqAt qs i).2.1 + 1, (sqAt qs i).2.2)) := rfl
      have HTS : Hid (∀ s ∈ (sqAt qs i).1, 1 ≤ s.size ∧ s.size ≤ 200) := (sqOk_parts (chipOk_at HOK.out hil)).2.2.2
      clear HKK c0 c1 c2 f0 f1 f2 j1 j2
      have HON0 := hide (only_of_below (B := B) (g := g) HWQ.out hB)
      obtain ⟨ts, hts⟩ : ∃ ts, ts = (sqAt qs i).1 := ⟨_, rfl⟩
      have HTE := hide hts
      rw [← hts] at hl8 HTS HSQ
      clear hts
      obtain ⟨q0, hq0⟩ : ∃ q0, q0 = sqAt qs i := ⟨_, rfl⟩
      rw [← hq0] at HSQ hzw0 hzw1 k1 HTE
      have HQ0 := hide hq0
      clear hq0 hbad
      have HG0 : Hid (GrowSqs B wq n (qs.set i (mixL (part · by_) ts 0, q0.2.1, q0.2.2)) g A C) := by
        have e : qs.set i (mixL (part · by_) ts 0, q0.2.1, q0.2.2) = qs := by
          have e1 : (mixL (part · by_) ts 0, q0.2.1, q0.2.2) = sqAt qs i := by rw [mixL_zero, HTE.out, ← HQ0.out]
          rw [e1]
          exact set_sqAt qs hil
        rw [e]; exact HGQ.out
      go_wp2_with fail
      go_loopw [7] (fun t wr => ∃ k : Nat, k ≤ ts.length ∧ t = .int .i64 (k : Int) ∧ GrowSqs B wr n (qs.set i (mixL (part · by_) ts k, q0.2.1, q0.2.2)) g A C ∧ Only B g w wr) (fun t _ => ts.length - (intOf t).toNat)
      case atStart => exact ⟨0, Nat.zero_le _, rfl, HG0.out, HON0.out⟩
      case round =>
        obtain ⟨k, hk, rfl, hGk, hOk⟩ := hrel
        have HGK := hide hGk
        have HOK2 := hide hOk
        obtain ⟨c0, c1, c2⟩ := hGk.cells hin
        have f1 := hGk.open_ (show i * 3 + 1 < 3 * n by omega)
        have HPO := hide (hGk.pages.own i hin)
        have hgr : g < wr.heap.size := by have := hGk.row.1; omega
        rw [sqAt_set qs _ hil, if_pos rfl] at c0 c1 c2 HPO
        dsimp only at c0 c1 c2 HPO
        rw [mixL_length] at c0
        clear hGk hOk c2
        by_cases hlt : k < ts.length
        · rcases pg_form HPO.out with ⟨_, e, _⟩ | ⟨pb, hA, hB1, hB2, _⟩
          · exact absurd (congrArg List.length e) (by rw [mixL_length, List.length_nil]; omega)
          · rw [hA] at c0
            have HPO2 : Hid (PgOwn B wr (some ⟨pb, 0, none⟩) (C i) (mixL (part · by_) ts k)) := by rw [← hA]; exact HPO.out
            have hck : wr.cell? ⟨pb, k, none⟩ = some (.string (ts.getD k ByteArray.empty)) := by
              rw [HPO2.out.cellAt k (by rw [mixL_length]; omega)]
              unfold pgV
              rw [List.getElem?_map, mixL_at (part · by_) hlt]
              rfl
            have hfk : wr.frozen? ⟨pb, k, none⟩ = false := HPO2.out.frozenAt k
            have htk := HTS.out _ (getD_memT hlt)
            have HLP : ∀ w9, Hid (Calls Tryz.prog 146 #[.string (ts.getD k ByteArray.empty), .int .i64 by_] w9 fun e w' => e = .returned (.string (part (ts.getD k ByteArray.empty) by_)) ∧ w9 = w') := fun w9 => l8Part_any _ by_ w9 htk.1 htk.2
            have HGN := hide (HGK.out.setText (k := k) hin hA (part (ts.getD k ByteArray.empty) by_))
            have HON := hide (HOK2.out.setPg HPO2.out k (.string (part (ts.getD k ByteArray.empty) by_)))
            have HSS : Hid ((qs.set i (mixL (part · by_) ts k, q0.2.1, q0.2.2)).set i ((sqAt (qs.set i (mixL (part · by_) ts k, q0.2.1, q0.2.2)) i).1.set k (part (ts.getD k ByteArray.empty) by_), (sqAt (qs.set i (mixL (part · by_) ts k, q0.2.1, q0.2.2)) i).2.1, (sqAt (qs.set i (mixL (part · by_) ts k, q0.2.1, q0.2.2)) i).2.2) = qs.set i (mixL (part · by_) ts (k + 1), q0.2.1, q0.2.2)) := by
              show _ = _
              rw [List.set_set, sqAt_set qs _ hil, if_pos rfl, mixL_step (part · by_) hlt]
            clear HPO HPO2 htk c1 f1
            generalize hpx : part (ts.getD k ByteArray.empty) by_ = px at *
            generalize ts.getD k ByteArray.empty = x at *
            clear hpx
            go_wp2_with fail
            refine wp_region_quiet_tail 14 (by kernel_rfl) (by kernel_rfl) ?_
            simp only [List.take_succ_cons, List.take_zero, List.drop_succ_cons, List.drop_zero]
            repeat (go_big_quiet_step ((go_at_call 146; exact Calls.quiet_of_same ((HLP _).out.mono fun e w' hh => ⟨hh.1, hh.2.symm⟩))))
            refine wpQuiet_nil ?_
            rintro _ ⟨nq, rfl⟩
            go_wp2_with fail
            rw [HSS.out] at HGN
            go_roundw
            case rel => exact ⟨k + 1, by omega, by go_num, HGN.out.later ⟨rfl, rfl, rfl, Nat.le_refl _, fun _ _ => rfl⟩, HON.out.on ⟨rfl, rfl, rfl, Nat.le_refl _, fun _ _ => rfl⟩ (by rw [Go.Deep.nblk_setCell]; omega)⟩
            case measure => simp [intOf]; omega
        · obtain rfl : k = ts.length := by omega
          have HGN := hide (HGK.out.setWipes hin (q0.2.1 + 1))
          have HON := hide (HOK2.out.set HGK.out.atG (i * 3 + 1) (.int .i64 (q0.2.1 + 1)))
          have HSS : Hid ((qs.set i (mixL (part · by_) ts ts.length, q0.2.1, q0.2.2)).set i ((sqAt (qs.set i (mixL (part · by_) ts ts.length, q0.2.1, q0.2.2)) i).1, q0.2.1 + 1, (sqAt (qs.set i (mixL (part · by_) ts ts.length, q0.2.1, q0.2.2)) i).2.2) = qs.set i (ts.map (part · by_), q0.2.1 + 1, q0.2.2)) := by
            show _ = _
            rw [List.set_set, sqAt_set qs _ hil, if_pos rfl, mixL_all]
          generalize q0.2.1 = zw at *
          go_wp2_with fail
          go_end0
          first | exact ⟨rfl, A, C, by rw [HDO.out, ← HQ0.out, HSQ.out, ← HSS.out]; exact HGN.out, HON.out⟩ | exact ⟨rfl, ⟨A, C, by rw [HDO.out, ← HQ0.out, HSQ.out, ← HSS.out]; exact HGN.out⟩, HON.out⟩
    · have HSQ : Hid (sqCut (sqAt qs i) 3 tx by_ = sqAt qs i) := rfl
      clear HKK
      go_wp2_with fail
      go_end0
      exact ⟨rfl, A, C, by rw [HDO.out, HSQ.out, set_sqAt qs hil]; exact HGQ.out, only_of_below HWQ.out hB⟩
end Go.Proofs.YtoocbagnfkgbfaaGreatDoor
end

section
namespace Go.Proofs.YtoocbagnfkgbfaaGreatDoor
open Go.RowKit
set_option linter.unusedVariables false
set_option maxRecDepth 20000

theorem part_low {s : ByteArray} {b : Int} (h : b < 1) : part s b = s.extract 0 1 := by unfold part partN; rw [if_pos h]
theorem part_mid {s : ByteArray} {b : Nat} (h : 1 ≤ b) (h2 : b ≤ s.size) : part s (b : Int) = s.extract 0 b := by
  unfold part partN; rw [if_neg (by omega), if_pos (by omega)]; simp
theorem part_high {s : ByteArray} {b : Int} (h : (s.size : Int) < b) (h1 : 1 ≤ s.size) : part s b = s.extract 0 s.size := by
  unfold part partN; rw [if_neg (by omega), if_neg (by omega)]

set_option maxHeartbeats 800000 in
theorem firstBytes_any (s : ByteArray) (b : Int) (w : World) (h1 : 1 ≤ s.size) (h2 : s.size ≤ 200) : Calls Tryz.prog 186 #[.string s, .int .i64 b] w fun e w' => e = .returned (.string (part s b)) ∧ w = w' := by
  by_cases c1 : b < 1
  · have HE := hide (part_low (s := s) c1)
    go_enter Tryz.func186, Tryz.ntmps186
    go_wp2_with fail
    go_ret
    exact ⟨by rw [HE.out]; rfl, rfl⟩
  · obtain ⟨B, rfl⟩ : ∃ B : Nat, b = (B : Int) := ⟨b.toNat, by omega⟩
    have hB1 : 1 ≤ B := by omega
    by_cases c2 : B ≤ s.size
    · have HE := hide (part_mid hB1 c2)
      go_enter Tryz.func186, Tryz.ntmps186
      go_wp2_with fail
      go_ret
      exact ⟨by rw [HE.out]; rfl, rfl⟩
    · have HE := hide (part_high (s := s) (b := (B : Int)) (by omega) h1)
      go_enter Tryz.func186, Tryz.ntmps186
      go_wp2_with fail
      go_ret
      exact ⟨by rw [HE.out, ByteArray.extract_zero_size]; rfl, rfl⟩

/-- The shapes. -/
inductive Sh where
  | none | write (s : ByteArray) | wipe | half (b : Int) | spoil
def shV : Sh → Value
  | .none => .nilIface
  | .write s => .iface 213 (.agg #[.string s])
  | .wipe => .iface 215 (.agg #[])
  | .half b => .iface 217 (.agg #[.int .i64 b])
  | .spoil => .iface 218 (.agg #[])
def shOf (kd : Int) (tx : ByteArray) : Sh := if kd = 1 then .write tx else if kd = 2 then .wipe else if kd = 3 then .spoil else .none

/-! ### The type switches -/
theorem Tryz.asWrWr (v : Value) (w : World) : (Instr.typeAssert (.iface 213 v) 170 213 true).run Tryz.prog w = .ok (.tuple #[v, .bool true]) w := by kernel_rfl
theorem Tryz.asWiWr (v : Value) (w : World) : (Instr.typeAssert (.iface 215 v) 170 213 true).run Tryz.prog w = .ok (.tuple #[.agg #[.string ByteArray.empty], .bool false]) w := by kernel_rfl
theorem Tryz.asWiWi (v : Value) (w : World) : (Instr.typeAssert (.iface 215 v) 170 215 true).run Tryz.prog w = .ok (.tuple #[v, .bool true]) w := by kernel_rfl
theorem Tryz.asHaWr (v : Value) (w : World) : (Instr.typeAssert (.iface 217 v) 170 213 true).run Tryz.prog w = .ok (.tuple #[.agg #[.string ByteArray.empty], .bool false]) w := by kernel_rfl
theorem Tryz.asHaWi (v : Value) (w : World) : (Instr.typeAssert (.iface 217 v) 170 215 true).run Tryz.prog w = .ok (.tuple #[.agg #[], .bool false]) w := by kernel_rfl
theorem Tryz.asHaHa (v : Value) (w : World) : (Instr.typeAssert (.iface 217 v) 170 217 true).run Tryz.prog w = .ok (.tuple #[v, .bool true]) w := by kernel_rfl
theorem Tryz.asHaSp (v : Value) (w : World) : (Instr.typeAssert (.iface 217 v) 170 218 true).run Tryz.prog w = .ok (.tuple #[.agg #[], .bool false]) w := by kernel_rfl
theorem Tryz.asSpWr (v : Value) (w : World) : (Instr.typeAssert (.iface 218 v) 170 213 true).run Tryz.prog w = .ok (.tuple #[.agg #[.string ByteArray.empty], .bool false]) w := by kernel_rfl
theorem Tryz.asSpWi (v : Value) (w : World) : (Instr.typeAssert (.iface 218 v) 170 215 true).run Tryz.prog w = .ok (.tuple #[.agg #[], .bool false]) w := by kernel_rfl
theorem Tryz.asSpHa (v : Value) (w : World) : (Instr.typeAssert (.iface 218 v) 170 217 true).run Tryz.prog w = .ok (.tuple #[.agg #[.int .i64 0], .bool false]) w := by kernel_rfl
theorem Tryz.asSpSp (v : Value) (w : World) : (Instr.typeAssert (.iface 218 v) 170 218 true).run Tryz.prog w = .ok (.tuple #[v, .bool true]) w := by kernel_rfl
theorem Tryz.asNoWr (w : World) : (Instr.typeAssert .nilIface 170 213 true).run Tryz.prog w = .ok (.tuple #[.agg #[.string ByteArray.empty], .bool false]) w := by kernel_rfl
theorem Tryz.asNoWi (w : World) : (Instr.typeAssert .nilIface 170 215 true).run Tryz.prog w = .ok (.tuple #[.agg #[], .bool false]) w := by kernel_rfl
theorem Tryz.asNoHa (w : World) : (Instr.typeAssert .nilIface 170 217 true).run Tryz.prog w = .ok (.tuple #[.agg #[.int .i64 0], .bool false]) w := by kernel_rfl
theorem Tryz.asNoSp (w : World) : (Instr.typeAssert .nilIface 170 218 true).run Tryz.prog w = .ok (.tuple #[.agg #[], .bool false]) w := by kernel_rfl

set_option maxHeartbeats 800000 in
theorem shapeOf_any (kd sq : Int) (tx : ByteArray) (w : World) : Calls Tryz.prog 184 #[.agg #[.int .i64 kd, .int .i64 sq, .string tx]] w fun e w' => e = .returned (shV (shOf kd tx)) ∧ Below w.heap.size w w' := by
  have HB := hide ((Below.refl w.heap.size w).alloc (Nat.le_refl _) (.cells #[.int .i64 kd, .int .i64 sq, .string tx] 119))
  by_cases h1 : kd = 1
  · subst h1
    go_enter Tryz.func184, Tryz.ntmps184
    go_wp2_with fail
    go_ret
    exact ⟨rfl, HB.out⟩
  · by_cases h2 : kd = 2
    · subst h2
      go_enter Tryz.func184, Tryz.ntmps184
      go_wp2_with fail
      go_ret
      exact ⟨rfl, HB.out⟩
    · by_cases h3 : kd = 3
      · subst h3
        go_enter Tryz.func184, Tryz.ntmps184
        go_wp2_with fail
        go_ret
        exact ⟨rfl, HB.out⟩
      · have g1 : (kd == 1) = false := by simpa using h1
        have g2 : (kd == 2) = false := by simpa using h2
        have g3 : (kd == 3) = false := by simpa using h3
        have HE : Hid (shV (shOf kd tx) = .nilIface) := by show _ = _; unfold shOf; rw [if_neg h1, if_neg h2, if_neg h3]; rfl
        go_enter Tryz.func184, Tryz.ntmps184
        go_wp2_with fail
        go_ret
        exact ⟨by rw [HE.out]; rfl, HB.out⟩

/-- Is a shape taken? -/
def takesS (z : Int) (q : Sq) : Sh → Bool
  | .write s => decide ((q.1.length : Int) < z) && txOk s
  | .wipe => decide (q.2.1 < 1000000)
  | .spoil => true
  | _ => false
theorem takesS_of (z : Int) (q : Sq) (kd : Int) (tx : ByteArray) : takesS z q (shOf kd tx) = canK z q kd tx := by
  unfold shOf canK
  by_cases h1 : kd = 1
  · rw [if_pos h1, if_pos h1]; rfl
  · rw [if_neg h1, if_neg h1]
    by_cases h2 : kd = 2
    · rw [if_pos h2, if_pos h2]; rfl
    · rw [if_neg h2, if_neg h2]
      by_cases h3 : kd = 3
      · rw [if_pos h3, decide_eq_true h3]; rfl
      · rw [if_neg h3, decide_eq_false h3]; rfl

set_option maxHeartbeats 1600000 in
theorem takes_any (a : Option Addr) (cap : Nat) (q : Sq) (z : Int) (sh : Sh) (w : World) (hl : q.1.length ≤ 8) (hs : ∀ s, sh = .write s → s.size ≤ maxLen) :
    Calls Tryz.prog 185 #[.agg #[.slice a q.1.length cap, .int .i64 q.2.1, .bool q.2.2], .int .i64 z, shV sh] w fun e w' => e = .returned (.bool (!q.2.2 && takesS z q sh)) ∧ Below w.heap.size w w' := by
  obtain ⟨ts, zw, bd⟩ := q
  dsimp only at hl ⊢
  obtain ⟨wA, hwA⟩ : ∃ wA, wA = w.alloc (.cells #[.slice a ts.length cap, .int .i64 zw, .bool bd] 51) := ⟨_, rfl⟩
  have hzA : wA.heap.size = w.heap.size + 1 := by rw [hwA]; simp
  have HBA : Hid (Below w.heap.size w wA) := by rw [hwA]; exact (Below.refl _ _).alloc (Nat.le_refl _) _
  have H1 : Hid (wA.heap[w.heap.size]? = some (.cells #[.slice a ts.length cap, .int .i64 zw, .bool bd] 51)) := by rw [hwA]; exact heap_new _ _
  obtain ⟨c0, c1, c2⟩ := three_cells H1.out
  cases bd with
  | true =>
    go_enter Tryz.func185, Tryz.ntmps185
    go_wp2_with fail
    rw [← hwA]
    go_ret
    exact ⟨rfl, HBA.out⟩
  | false =>
    cases sh with
    | none =>
      have q0 := Tryz.asNoWr
      have q1 := Tryz.asNoWi
      have q2 := Tryz.asNoSp
      go_enter Tryz.func185, Tryz.ntmps185
      unfold shV
      go_wp2_with fail
      rw [← hwA]
      go_ret
      exact ⟨rfl, HBA.out⟩
    | write s =>
      have q0 := Tryz.asWrWr (.agg #[.string s])
      have hs' := hs s rfl
      have HB2 := hide ((Below.refl wA.heap.size wA).alloc (Nat.le_refl _) (.cells #[.string s] 213))
      have c0' := (HB2.out.cell (p := ⟨w.heap.size, 0, none⟩) (by show w.heap.size < _; omega)).trans c0
      by_cases hlt : (ts.length : Int) < z
      · have g1 : decide ((ts.length : Int) < z) = true := by simpa using hlt
        have HE : Hid ((!false && takesS z (ts, zw, false) (.write s)) = txOk s) := by show _ = _; unfold takesS; rw [g1]; rfl
        go_enter Tryz.func185, Tryz.ntmps185
        unfold shV
        go_upto_region 1 with fail
        rw [← hwA]
        clear hwA
        go_wp2_with fail
        refine (canBeWritten_any s _ hs').mono ?_
        rintro e w1 ⟨rfl, rfl⟩
        go_wp2_with fail
        go_ret
        exact ⟨ret_bool HE.out.symm, below_here HBA.out HB2.out⟩
      · have g1 : decide ((ts.length : Int) < z) = false := by simpa using hlt
        have HE : Hid ((!false && takesS z (ts, zw, false) (.write s)) = false) := by show _ = _; unfold takesS; rw [g1]; rfl
        go_enter Tryz.func185, Tryz.ntmps185
        unfold shV
        go_upto_region 1 with fail
        rw [← hwA]
        clear hwA
        go_wp2_with fail
        go_ret
        exact ⟨ret_bool HE.out.symm, below_here HBA.out HB2.out⟩
    | wipe =>
      have q0 := Tryz.asWiWr (.agg #[])
      have q1 := Tryz.asWiWi (.agg #[])
      have HB2 := hide ((Below.refl wA.heap.size wA).alloc (Nat.le_refl _) (.cells #[] 215))
      have c1' := (HB2.out.cell (p := ⟨w.heap.size, 1, none⟩) (by show w.heap.size < _; omega)).trans c1
      go_enter Tryz.func185, Tryz.ntmps185
      unfold shV
      go_upto_region 1 with fail
      rw [← hwA]
      clear hwA
      go_wp2_with fail
      go_ret
      exact ⟨rfl, below_here HBA.out HB2.out⟩
    | half b =>
      have q0 := Tryz.asHaWr (.agg #[.int .i64 b])
      have q1 := Tryz.asHaWi (.agg #[.int .i64 b])
      have q2 := Tryz.asHaSp (.agg #[.int .i64 b])
      go_enter Tryz.func185, Tryz.ntmps185
      unfold shV
      go_wp2_with fail
      rw [← hwA]
      go_ret
      exact ⟨rfl, HBA.out⟩
    | spoil =>
      have q0 := Tryz.asSpWr (.agg #[])
      have q1 := Tryz.asSpWi (.agg #[])
      have q2 := Tryz.asSpSp (.agg #[])
      have HB2 := hide ((Below.refl wA.heap.size wA).alloc (Nat.le_refl _) (.cells #[] 218))
      go_enter Tryz.func185, Tryz.ntmps185
      unfold shV
      go_upto_region 1 with fail
      rw [← hwA]
      clear hwA
      go_wp2_with fail
      go_ret
      exact ⟨rfl, below_here HBA.out HB2.out⟩
end Go.Proofs.YtoocbagnfkgbfaaGreatDoor
end

section
namespace Go.Proofs.YtoocbagnfkgbfaaGreatDoor
open Go.RowKit
set_option linter.unusedVariables false
set_option maxRecDepth 20000

def shT (qs : List Sq) (j : Jb) : Sh := if inB j.2.1 0 ((qs.length : Int) - 1) then shOf j.1 j.2.2 else .none
theorem canJ_no {z : Int} {qs : List Sq} {j : Jb} (h : inB j.2.1 0 ((qs.length : Int) - 1) = false) : canJ z qs j = false := by unfold canJ; rw [h]; rfl
theorem canJ_yes {z : Int} {qs : List Sq} {j : Jb} (h : inB j.2.1 0 ((qs.length : Int) - 1) = true) : canJ z qs j = (!(sqAt qs j.2.1.toNat).2.2 && canK z (sqAt qs j.2.1.toNat) j.1 j.2.2) := by unfold canJ; rw [h]; rfl

set_option maxHeartbeats 1600000 in
theorem takenShape_any (z : Int) (a : Option Addr) (n cap : Nat) (qs : List Sq) (kd sq : Int) (tx : ByteArray) (w : World) {lo hi : Nat} (h : Squares lo hi w a n qs) (hhi : hi ≤ w.heap.size) (hn : n ≤ 12) (hl : ∀ q ∈ qs, q.1.length ≤ 8) (htx : tx.size ≤ maxLen) :
    Calls Tryz.prog 142 #[.agg #[.int .i64 z, .slice a n cap], .agg #[.int .i64 kd, .int .i64 sq, .string tx]] w fun e w' => e = .returned (.tuple #[shV (shT qs (kd, sq, tx)), .bool (canJ z qs (kd, sq, tx))]) ∧ Below w.heap.size w w' := by
  obtain ⟨wA, hwA⟩ : ∃ wA, wA = (w.alloc (.cells #[.int .i64 z, .slice a n cap] 26)).alloc (.cells #[.int .i64 kd, .int .i64 sq, .string tx] 119) := ⟨_, rfl⟩
  have hzA : wA.heap.size = w.heap.size + 1 + 1 := by rw [hwA]; simp
  have HBA : Hid (Below w.heap.size w wA) := by rw [hwA]; exact ((Below.refl _ _).alloc (Nat.le_refl _) _).alloc (by simp) _
  have H1 : Hid (wA.heap[w.heap.size]? = some (.cells #[.int .i64 z, .slice a n cap] 26)) := by rw [hwA]; exact heap_old (heap_new _ _)
  have H2 : Hid (wA.heap[w.heap.size + 1]? = some (.cells #[.int .i64 kd, .int .i64 sq, .string tx] 119)) := by rw [hwA]; exact heap_at (by simp)
  have HSQ := hide (h.later HBA.out hhi)
  have HL := hide h.1
  have HL8 := hide hl
  clear h hl
  obtain ⟨a0, a1⟩ := two_cells H1.out
  obtain ⟨b0, b1, b2⟩ := three_cells H2.out
  go_enter Tryz.func142, Tryz.ntmps142
  go_upto_region 1 with fail
  rw [← hwA]
  clear hwA
  go_wp2_with fail
  refine (hasSquare_any z a n cap sq wA).mono ?_
  rintro e w1 ⟨rfl, hb1⟩
  have hs1 := hb1.size
  have K1 := hide (block_on H1.out hb1)
  have K2 := hide (block_on H2.out hb1)
  have HS1 := hide (HSQ.out.later hb1 (by omega))
  have HB1 := hide (below_here HBA.out hb1)
  clear hb1 H1 H2 HSQ HBA a0 a1 b0 b1 b2
  cases hin : inB sq 0 ((n : Int) - 1) with
  | false =>
    have hin' : inB sq 0 ((qs.length : Int) - 1) = false := by rw [HL.out]; exact hin
    have HE : Hid (shV (shT qs (kd, sq, tx)) = .nilIface) := by show _ = _; unfold shT; dsimp only; rw [hin']; rfl
    have HC := hide (canJ_no (z := z) (qs := qs) (j := (kd, sq, tx)) hin')
    go_wp2_with fail
    go_ret2
    exact ⟨by rw [HE.out, HC.out]; rfl, HB1.out⟩
  | true =>
    have hin' : inB sq 0 ((qs.length : Int) - 1) = true := by rw [HL.out]; exact hin
    have HE : Hid (shT qs (kd, sq, tx) = shOf kd tx) := by show _ = _; unfold shT; dsimp only; rw [hin']; rfl
    have HC := hide (canJ_yes (z := z) (qs := qs) (j := (kd, sq, tx)) hin')
    unfold inB at hin
    simp only [Bool.and_eq_true, decide_eq_true_eq] at hin
    obtain ⟨i, rfl⟩ : ∃ i : Nat, sq = (i : Int) := ⟨sq.toNat, by omega⟩
    have hlt : i < n := by omega
    have hql : i < qs.length := by rw [HL.out]; exact hlt
    obtain ⟨b0, b1, b2⟩ := three_cells K2.out
    go_upto_region 3 with fail
    go_wp2_with fail
    refine (shapeOf_any kd (i : Int) tx w1).mono ?_
    rintro e w2 ⟨rfl, hb2⟩
    have hs2 := hb2.size
    have K12 := hide (block_on K1.out hb2)
    have K22 := hide (block_on K2.out hb2)
    have HS2 := hide (HS1.out.later hb2 (by omega))
    have HB2 := hide (below_here HB1.out hb2)
    clear hb2 K1 K2 HS1 HB1 b0 b1 b2
    obtain ⟨_, A, C, hx, ht⟩ := HS2.out
    obtain ⟨b, off, rfl, _, hb, hc⟩ := hx.2 (by omega)
    obtain ⟨c0, c1, c2⟩ := sq_cells hc (Below.refl w2.heap.size w2) (show b < w2.heap.size by have := hx.1; omega) hlt
    have hl8 := HL8.out _ (sqAt_mem hql)
    obtain ⟨a0, a1⟩ := two_cells K12.out
    obtain ⟨b0, b1, b2⟩ := three_cells K22.out
    have HTK : Hid (takesS z (sqAt qs i) (shOf kd tx) = canK z (sqAt qs i) kd tx) := takesS_of _ _ _ _
    have hsw : ∀ s, shOf kd tx = .write s → s.size ≤ maxLen := fun s e => by
      unfold shOf at e
      split at e
      · cases e; exact htx
      · split at e
        · cases e
        · split at e <;> cases e
    have cT : ∀ d os, Calls Tryz.prog 185 #[.agg #[.slice (A i) (sqAt qs i).1.length (C i), .int .i64 (sqAt qs i).2.1, .bool (sqAt qs i).2.2], .int .i64 z, shV (shOf kd tx)] (Go.Sort.grow (redrawn w2 d) os) fun e w'' => e = .returned (.bool (canJ z qs (kd, (i : Int), tx))) ∧ ∃ p : Regrown, w'' = Go.Sort.grow (redrawn w2 p.d) p.os := fun d os => Calls.regrown_of ((takes_any (A i) (C i) (sqAt qs i) z (shOf kd tx) _ hl8 hsw).mono (fun e w' h => ⟨by rw [h.1, HC.out, HTK.out]; rfl, h.2⟩))
    have k0 := fun d os => cell_regrown a0 d os
    have k1 := fun d os => cell_regrown a1 d os
    have k2 := fun d os => cell_regrown b1 d os
    have k3 := fun d os => cell_regrown c0 d os
    have k4 := fun d os => cell_regrown c1 d os
    have k5 := fun d os => cell_regrown c2 d os
    clear hc hx ht
    obtain ⟨sv, hsv⟩ : ∃ sv, sv = shV (shOf kd tx) := ⟨_, rfl⟩
    have HSV : Hid (sv = shV (shT qs (kd, (i : Int), tx))) := by show _ = _; rw [HE.out]; exact hsv
    rw [← hsv] at cT ⊢
    clear hsv HE HC HTK hsw
    generalize sqAt qs i = y at *
    obtain ⟨ts, zw, bd⟩ := y
    obtain ⟨cj, hcj⟩ : ∃ cj, cj = canJ z qs (kd, (i : Int), tx) := ⟨_, rfl⟩
    rw [← hcj] at cT
    have HCJ := hide hcj
    clear hcj
    go_wp2_with fail
    refine wp_region_quiet_below (by kernel_rfl) (by kernel_rfl) ?_
    repeat (go_big_quiet_step ((go_at_call 185; exact cT _ _)))
    refine wpQuiet_nil ?_
    intro _ hw'
    obtain ⟨⟨dq, osq⟩, hw''⟩ := hw'
    subst hw''
    have HB3 := hide (below_here HB2.out (below_regrown w2 dq osq))
    go_wp2_with fail
    go_ret2
    exact ⟨by rw [← HSV.out, ← HCJ.out]; rfl, HB3.out⟩

/-- What is left of a shape where power fails. -/
def shCut (b : Int) : Sh → Sh
  | .write s => .write (part s b)
  | .wipe => .half b
  | _ => .none
set_option maxHeartbeats 800000 in
theorem cutShort_any (sh : Sh) (b : Int) (w : World) (hs : ∀ s, sh = .write s → 1 ≤ s.size ∧ s.size ≤ 200) :
    Calls Tryz.prog 144 #[shV sh, .int .i64 b] w fun e w' => e = .returned (shV (shCut b sh)) ∧ Below w.heap.size w w' := by
  cases sh with
  | none =>
    have q0 := Tryz.asNoWr
    have q1 := Tryz.asNoWi
    go_enter Tryz.func144, Tryz.ntmps144
    unfold shV
    go_wp2_with fail
    go_ret
    exact ⟨rfl, Below.refl _ _⟩
  | write s =>
    have q0 := Tryz.asWrWr (.agg #[.string s])
    have hs' := hs s rfl
    have HB := hide ((Below.refl w.heap.size w).alloc (Nat.le_refl _) (.cells #[.string s] 213))
    rw [show shV (.write s) = .iface 213 (.agg #[.string s]) from rfl]
    go_enter Tryz.func144, Tryz.ntmps144
    go_wp2_with fail
    refine (firstBytes_any s b _ hs'.1 hs'.2).mono ?_
    rintro e w1 ⟨rfl, rfl⟩
    go_wp2_with fail
    go_ret
    exact ⟨rfl, HB.out⟩
  | wipe =>
    have q0 := Tryz.asWiWr (.agg #[])
    have q1 := Tryz.asWiWi (.agg #[])
    have HB := hide ((Below.refl w.heap.size w).alloc (Nat.le_refl _) (.cells #[] 215))
    rw [show shV .wipe = .iface 215 (.agg #[]) from rfl]
    go_enter Tryz.func144, Tryz.ntmps144
    go_wp2_with fail
    go_ret
    exact ⟨rfl, HB.out⟩
  | half c =>
    have q0 := Tryz.asHaWr (.agg #[.int .i64 c])
    have q1 := Tryz.asHaWi (.agg #[.int .i64 c])
    go_enter Tryz.func144, Tryz.ntmps144
    unfold shV
    go_wp2_with fail
    go_ret
    exact ⟨rfl, Below.refl _ _⟩
  | spoil =>
    have q0 := Tryz.asSpWr (.agg #[])
    have q1 := Tryz.asSpWi (.agg #[])
    go_enter Tryz.func144, Tryz.ntmps144
    unfold shV
    go_wp2_with fail
    go_ret
    exact ⟨rfl, Below.refl _ _⟩
end Go.Proofs.YtoocbagnfkgbfaaGreatDoor
end

