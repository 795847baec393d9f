/- The walks of the small functions that the exact laws go through, of slices of slices of int64. -/
import Derived.Test.YtbgjagmnpfcfaakTextBase
import Derived.Test.YtbgjagmnpfcfaakWalkM
import Derived.Deep.RegionWith
namespace Go.Proofs.Ytbgjagmnpfcfaak
open Go.RowKit
set_option linter.unusedVariables false
set_option linter.unusedSimpArgs false
set_option maxRecDepth 20000

theorem Try.infoSI : (Try.prog.info? 29).map (fun i => (i.zero, i.size, i.bytes)) = some (some (.slice none 0 0), 1, 24) := by kernel_rfl
theorem aside_newR {lo hi : Nat} {w w' : World} (h : Below w.heap.size w w') : Aside lo hi w w' := ⟨h.os, h.tape, h.output, h.size, fun k hk _ => h.block k hk⟩
theorem Reads.wide {lo hi lo' hi' n : Nat} {w : World} {a : Option Addr} {f : Nat → Value} (h : Reads lo hi w a n f) (h1 : lo' ≤ lo) (h2 : hi ≤ hi') (h3 : hi' ≤ w.heap.size) : Reads lo' hi' w a n f :=
  ⟨h3, fun hn => by
    obtain ⟨b, off, e, h4, h5, h6⟩ := h.2 hn
    exact ⟨b, off, e, by omega, by omega, h6⟩⟩
theorem Ints.wide {lo hi lo' hi' n : Nat} {w : World} {a : Option Addr} {xs : List Int} (h : Ints lo hi w a n xs) (h1 : lo' ≤ lo) (h2 : hi ≤ hi') (h3 : hi' ≤ w.heap.size) : Ints lo' hi' w a n xs := ⟨h.1, h.2.wide h1 h2 h3⟩
theorem Aside.wide {lo hi lo' hi' : Nat} {w w' : World} (h : Aside lo hi w w') (h1 : lo' ≤ lo) (h2 : hi ≤ hi') : Aside lo' hi' w w' := ⟨h.os, h.tape, h.output, h.size, fun k hk h' => h.block k hk (by omega)⟩
/-- Rows of int64 of one's own: each in blocks of its own, one behind the other. -/
def OwnRows (lo hi : Nat) (w : World) (a : Option Addr) (n : Nat) (xss : List (List Int)) : Prop :=
  xss.length = n ∧ ∃ (H : Nat → Nat) (A : Nat → Option Addr) (C : Nat → Nat), lo ≤ H 0 ∧ (∀ i j, i ≤ j → j ≤ n → H i ≤ H j) ∧ H n ≤ hi ∧ hi ≤ w.heap.size ∧
    Owned lo (H 0) w a n (fun i => .slice (A i) (xss.getD i []).length (C i)) ∧ ∀ i, i < n → OwnInts (H i) (H (i + 1)) w (A i) (xss.getD i []).length (xss.getD i [])
theorem OwnRows.rows {lo hi n : Nat} {w : World} {a : Option Addr} {xss : List (List Int)} (h : OwnRows lo hi w a n xss) : Rows2 lo hi w a n xss := by
  obtain ⟨h1, H, A, C, h2, h3, h4, h5, h6, h7⟩ := h
  have h0 := h3 0 n (by omega) (Nat.le_refl _)
  exact ⟨h1, A, C, h6.reads.wide (Nat.le_refl _) (by omega) h5, fun i hi => (h7 i hi).ints.wide (Nat.le_trans h2 (h3 0 i (by omega) (by omega))) (Nat.le_trans (h3 (i + 1) n (by omega) (Nat.le_refl _)) h4) h5⟩
theorem OwnRows.later {lo hi n : Nat} {w w' : World} {a : Option Addr} {xss : List (List Int)} (h : OwnRows lo hi w a n xss) {B : Nat} (hb : Below B w w') (hB : hi ≤ B) : OwnRows lo hi w' a n xss := by
  obtain ⟨h1, H, A, C, h2, h3, h4, h5, h6, h7⟩ := h
  have h0 := h3 0 n (by omega) (Nat.le_refl _)
  exact ⟨h1, H, A, C, h2, h3, h4, Nat.le_trans h5 hb.size, h6.later hb (by omega), fun i hi => (h7 i hi).later hb (by have := h3 (i + 1) n (by omega) (Nat.le_refl _); omega)⟩

/-- All numbers of the rows. -/
def totalI (xss : List (List Int)) : Nat := (xss.map (·.length)).sum
theorem totalI_take (ts : List (List Int)) (k : Nat) (h : k < ts.length) : totalI (ts.take (k + 1)) = totalI (ts.take k) + (ts.getD k []).length := by
  unfold totalI
  rw [List.take_succ_eq_append_getElem h, List.getD_eq_getElem?_getD, List.getElem?_eq_getElem h, List.map_append, List.sum_append]
  rfl
theorem totalI_le {ts : List (List Int)} {s : List Int} (h : s ∈ ts) : s.length ≤ totalI ts := by
  unfold totalI
  induction ts with
  | nil => cases h
  | cons t ts ih =>
    rw [List.map_cons, List.sum_cons]
    rcases List.mem_cons.1 h with e | e
    · subst e; omega
    · have := ih e; omega
theorem totalI_whole (ts : List (List Int)) (k : Nat) : totalI (ts.take k) ≤ totalI ts := by
  unfold totalI
  conv => rhs; rw [← List.take_append_drop k ts, List.map_append, List.sum_append]
  omega
theorem getR_mem {ts : List (List Int)} {k : Nat} (h : k < ts.length) : ts.getD k [] ∈ ts := by
  rw [List.getD_eq_getElem?_getD, List.getElem?_eq_getElem h]; exact List.getElem_mem _

set_option maxHeartbeats 400000 in
theorem szI_any (a : Option Addr) (n cap : Nat) (l : Int) (w : World) (hn : n ≤ 9223372036854775807) (h0 : 0 ≤ l) (h1 : l ≤ 1048576) :
    Calls Try.prog 45 #[.slice a n cap, .int .i64 l] w fun e w' => e = .returned (.int .i64 (if (n : Int) ≤ l then l - n else -1)) ∧ w = w' := by
  by_cases h : (n : Int) ≤ l
  · rw [if_pos h]
    go_enter Try.func45, Try.ntmps45
    go_wp2
    go_ret
    exact ⟨rfl, rfl⟩
  · rw [if_neg h]
    go_enter Try.func45, Try.ntmps45
    go_wp2
    go_ret
    exact ⟨rfl, rfl⟩

set_option maxHeartbeats 400000 in
/-- What is left of room for them. -/
theorem szR_any (a : Option Addr) (n cap : Nat) (xss : List (List Int)) (w : World) {lo hi : Nat} (h : Rows2 lo hi w a n xss) (hn : n ≤ maxLen) (hxs : ∀ s ∈ xss, s.length ≤ maxLen) :
    Calls Try.prog 15 #[.slice a n cap, .int .i64 1048576] w fun e w' => (∃ r : Int, e = .returned (.int .i64 r) ∧ -1 ≤ r ∧ r ≤ 1048576 ∧ (0 ≤ r → n + totalI xss ≤ 1048576)) ∧ w = w' := by
  obtain ⟨hl, A, C, ⟨hsz, hx⟩, hr⟩ := h
  unfold maxLen at hn hxs
  have HL : Hid (xss.length = n) := hl
  have HX := hide hxs
  clear hl hxs hr
  by_cases hb : n ≤ 1048576
  · go_enter Try.func15, Try.ntmps15
    go_wp2_with fail
    go_loop [1, 5] (fun t i => ∃ k : Nat, k ≤ n ∧ i = .int .i64 k ∧ n + totalI (xss.take k) ≤ 1048576 ∧ t = .int .i64 (1048576 - (n : Int) - (totalI (xss.take k) : Int))) (fun _ i => n - (intOf i).toNat)
    case atStart => exact ⟨0, Nat.zero_le _, rfl, by simp [totalI]; omega, by simp [totalI]⟩
    case round =>
      obtain ⟨k, hk, rfl, htot, rfl⟩ := hrel
      by_cases hlt : k < n
      · obtain ⟨b, off, rfl, _, hb1, hc⟩ := hx (by omega)
        have hck := hc k hlt
        clear hc hx
        have HT : Hid (totalI (xss.take (k + 1)) = totalI (xss.take k) + (xss.getD k []).length) := totalI_take xss k (by rw [HL.out]; exact hlt)
        have hz9 : (xss.getD k []).length ≤ 9223372036854775807 := Nat.le_trans (HX.out _ (getR_mem (by rw [HL.out]; exact hlt))) (by omega)
        generalize (xss.getD k []).length = z at hck hz9 HT
        generalize totalI (xss.take k) = q at *
        generalize A k = p at *
        by_cases h0 : n + q + z ≤ 1048576
        · go_wp2_with fail
          refine (szI_any _ _ _ _ _ hz9 (by omega) (by omega)).mono ?_
          rw [if_pos (by omega)]
          rintro e w1 ⟨rfl, rfl⟩
          go_wp2_with fail
          go_round
          case rel => exact ⟨k + 1, by omega, by go_num, by rw [HT.out]; omega, by rw [HT.out]; go_num⟩
          case measure => simp [intOf]; omega
        · go_wp2_with fail
          refine (szI_any _ _ _ _ _ hz9 (by omega) (by omega)).mono ?_
          rw [if_neg (by omega)]
          rintro e w1 ⟨rfl, rfl⟩
          go_wp2_with fail
          go_ret
          exact ⟨⟨-1, rfl, by omega, by omega, by omega⟩, rfl⟩
      · have HW : Hid (totalI (xss.take k) = totalI xss) := by show _ = _; rw [List.take_of_length_le (by rw [HL.out]; omega)]
        generalize totalI (xss.take k) = q at *
        go_wp2_with fail
        go_ret
        exact ⟨⟨_, rfl, by omega, by omega, fun _ => by have := HW.out; omega⟩, rfl⟩
  · go_enter Try.func15, Try.ntmps15
    go_wp2_with fail
    go_ret
    exact ⟨⟨-1, rfl, by omega, by omega, by omega⟩, rfl⟩

set_option maxHeartbeats 800000 in
/-- A copy in new memory. -/
theorem toR_any (a : Option Addr) (n cap : Nat) (xss : List (List Int)) (w : World) {lo hi : Nat} (h : Rows2 lo hi w a n xss) (hn : n ≤ 1048576) (hxs : ∀ s ∈ xss, s.length ≤ 1048576) :
    Calls Try.prog 17 #[.slice a n cap] w fun e w' => ∃ a', e = .returned (.slice a' n n) ∧ OwnRows w.heap.size w'.heap.size w' a' n xss ∧ Below w.heap.size w w' := by
  obtain ⟨hl, A, C, ⟨hsz, hx⟩, hr⟩ := h
  have HL : Hid (xss.length = n) := hl
  have HX := hide hxs
  have HR := hide hr
  clear hl hxs hr
  have hmk := run_make_row' (P := Try.prog) 28 29 (.slice none 0 0) 24 Try.underlying28 Try.infoSI rfl .i64 .i64 n (by omega) (by omega)
  go_enter Try.func17, Try.ntmps17
  go_wp2_with fail
  go_loopw [4] (fun i wr => ∃ (k : Nat) (H : Nat → Nat) (P : Nat → Option Addr), k ≤ n ∧ i = .int .i64 k ∧ H 0 = w.heap.size + 1 ∧ (∀ i j, i ≤ j → j ≤ k → H i ≤ H j) ∧ H k = wr.heap.size ∧
    Owned w.heap.size (w.heap.size + 1) wr (some ⟨w.heap.size, 0, none⟩) n (fun i => if i < k then .slice (P i) (xss.getD i []).length (xss.getD i []).length else .slice none 0 0) ∧ (∀ i, i < k → OwnInts (H i) (H (i + 1)) wr (P i) (xss.getD i []).length (xss.getD i [])) ∧ Below w.heap.size w wr) (fun i _ => n - (intOf i).toNat)
  case atStart => exact ⟨0, fun _ => w.heap.size + 1, fun _ => none, Nat.zero_le _, rfl, rfl, fun _ _ _ _ => Nat.le_refl _, by simp, owned_of_row ((World.rowIs_made w (.slice none 0 0) n 29).congr (fun _ _ => by simp)) (Nat.le_refl _) (Nat.lt_succ_self _) (by simp), fun i hi => absurd hi (by omega), (Below.refl _ _).alloc (Nat.le_refl _) _⟩
  case round =>
    obtain ⟨k, H, P, hk, rfl, hH0, hHm, hHk, hrow, hrows, hbel⟩ := hrel
    by_cases hlt : k < n
    · obtain ⟨b, off, rfl, _, hb, hc⟩ := hx (by omega)
      have hck := (hbel.cell (p := ⟨b, off + k, none⟩) (by show b < _; omega)).trans (hc k hlt)
      have HIk := hide ((HR.out k hlt).later hbel (by omega))
      have hz9 := HX.out _ (getR_mem (show k < xss.length by rw [HL.out]; exact hlt))
      have HRW := hide hrow
      have HRS := hide hrows
      have HBB := hide hbel
      have HHM := hide hHm
      have HHK := hide hHk
      have HH0 := hide hH0
      clear hc hrow hrows hbel hHm hHk hH0
      obtain ⟨z, hz⟩ : ∃ z, z = (xss.getD k []).length := ⟨_, rfl⟩
      rw [← hz] at hck hz9
      have HZ := hide hz
      have HIZ : Hid (Ints lo hi wr (A k) z (xss.getD k [])) := by have := HIk.out; rw [← hz] at this; exact this
      clear hz HIk
      generalize A k = p at hck HIZ
      go_wp2_with fail
      refine (to_any p z _ _ wr HIZ.out hz9).mono ?_
      rintro e w2 ⟨p', rfl, hoi, b2⟩
      have hro := (HRW.out.later b2 (by have := HRW.out.1; omega))
      obtain ⟨hco, hfo, _, _⟩ := hro.at0 hlt
      simp only [Nat.lt_irrefl, if_false] at hco
      have hs2 := b2.size
      have hs1 := HBB.out.size
      have HNEW : Hid (∃ (k' : Nat) (H : Nat → Nat) (P : Nat → Option Addr), k' ≤ n ∧ Value.int .i64 ((k : Int) + 1) = .int .i64 k' ∧ H 0 = w.heap.size + 1 ∧ (∀ i j, i ≤ j → j ≤ k' → H i ≤ H j) ∧ H k' = (w2.setCell ⟨w.heap.size, k, none⟩ (.slice p' z z)).heap.size ∧
          Owned w.heap.size (w.heap.size + 1) (w2.setCell ⟨w.heap.size, k, none⟩ (.slice p' z z)) (some ⟨w.heap.size, 0, none⟩) n (fun i => if i < k' then .slice (P i) (xss.getD i []).length (xss.getD i []).length else .slice none 0 0) ∧
          (∀ i, i < k' → OwnInts (H i) (H (i + 1)) (w2.setCell ⟨w.heap.size, k, none⟩ (.slice p' z z)) (P i) (xss.getD i []).length (xss.getD i [])) ∧ Below w.heap.size w (w2.setCell ⟨w.heap.size, k, none⟩ (.slice p' z z))) := by
        have hsc : (w2.setCell ⟨w.heap.size, k, none⟩ (.slice p' z z)).heap.size = w2.heap.size := Go.Deep.nblk_setCell _ _ _
        have hasd : Aside w.heap.size (w.heap.size + 1) w2 (w2.setCell ⟨w.heap.size, k, none⟩ (.slice p' z z)) := (Aside.refl _ _ _).setCell (p := ⟨w.heap.size, k, none⟩) (Nat.le_refl _) (Nat.lt_succ_self _) _
        have h0k := HHM.out 0 k (by omega) (Nat.le_refl _)
        rw [HH0.out, HHK.out] at h0k
        refine ⟨k + 1, fun i => if i = k + 1 then w2.heap.size else H i, fun i => if i = k then p' else P i, by omega, by go_num, ?_, ?_, ?_, ?_, ?_, (below_here HBB.out b2).setCell (p := ⟨w.heap.size, k, none⟩) (Nat.le_refl _) _⟩
        · dsimp only; rw [if_neg (by omega)]; exact HH0.out
        · intro i j hij hjk
          dsimp only
          by_cases e1 : j = k + 1
          · rw [if_pos e1]
            by_cases e2 : i = k + 1
            · rw [if_pos e2]; exact Nat.le_refl _
            · rw [if_neg e2]
              have := HHM.out i k (by omega) (Nat.le_refl _)
              rw [HHK.out] at this
              omega
          · rw [if_neg e1, if_neg (by omega)]
            exact HHM.out i j hij (by omega)
        · dsimp only; rw [if_pos rfl, hsc]
        · refine (hro.set0 hlt _).congr fun i _ => ?_
          dsimp only
          by_cases e1 : i = k
          · subst e1; rw [if_pos rfl, if_pos (by omega), if_pos rfl, HZ.out]
          · rw [if_neg e1, if_neg e1]
            by_cases e2 : i < k
            · rw [if_pos e2, if_pos (by omega)]
            · rw [if_neg e2, if_neg (by omega)]
        · intro i hi
          dsimp only
          by_cases e1 : i = k
          · subst e1
            rw [if_neg (by omega), if_pos rfl, if_pos rfl, HHK.out, ← HZ.out]
            exact hoi.aside hasd (.inr (by omega))
          · rw [if_neg (by omega), if_neg (by omega), if_neg e1]
            have h1 := HHM.out (i + 1) k (by omega) (Nat.le_refl _)
            rw [HHK.out] at h1
            have h2 := HHM.out 0 i (by omega) (by omega)
            rw [HH0.out] at h2
            exact ((HRS.out i (by omega)).later b2 (by omega)).aside hasd (.inr (by omega))
      clear HHM HHK HH0 HRW HRS HBB hoi b2 hro hs2 hs1
      go_wp2_with fail
      exact ⟨HNEW.out, by simp [intOf]; omega⟩
    · obtain rfl : k = n := by omega
      go_wp2_with fail
      go_ret
      refine ⟨_, rfl, ⟨HL.out, H, P, fun i => (xss.getD i []).length, by rw [hH0]; omega, hHm, by omega, Nat.le_refl _, ?_, hrows⟩, hbel⟩
      rw [hH0]
      exact hrow.congr (fun i hi => by rw [if_pos hi])

theorem takeR_step {xs ys : List (List Int)} {n k : Nat} (hx : xs.length = n) (hy : ys.length = n) (hk : k < n) (ht : xs.take k = ys.take k) (he : xs.getD k [] = ys.getD k []) : xs.take (k + 1) = ys.take (k + 1) := by
  rw [List.getD_eq_getElem?_getD, List.getD_eq_getElem?_getD, List.getElem?_eq_getElem (by omega), List.getElem?_eq_getElem (by omega)] at he
  simp only [Option.getD_some] at he
  rw [List.take_succ_eq_append_getElem (by omega), List.take_succ_eq_append_getElem (by omega), ht, he]
theorem takeR_fall {xs ys : List (List Int)} {k : Nat} (he : xs.getD k [] ≠ ys.getD k []) : decide (xs = ys) = false := by
  simp; intro e; subst e; exact he rfl
theorem takeR_whole {xs ys : List (List Int)} {n k : Nat} (hx : xs.length = n) (hy : ys.length = n) (hk : n ≤ k) (ht : xs.take k = ys.take k) : decide (xs = ys) = true := by
  rw [List.take_of_length_le (by omega), List.take_of_length_le (by omega)] at ht
  simpa using ht

set_option maxHeartbeats 800000 in
theorem eqR_any (a : Option Addr) (n cap : Nat) (xss : List (List Int)) (a' : Option Addr) (n' cap' : Nat) (yss : List (List Int)) (w : World) {lo hi lo' hi' : Nat} (h : Rows2 lo hi w a n xss) (h' : Rows2 lo' hi' w a' n' yss) (hn : n ≤ 1048576) (hn' : n' ≤ 1048576) (hxs : ∀ s ∈ xss, s.length ≤ 1048576) (hys : ∀ s ∈ yss, s.length ≤ 1048576) :
    Calls Try.prog 21 #[.slice a n cap, .slice a' n' cap'] w fun e w' => e = .returned (.bool (decide (xss = yss))) ∧ Below w.heap.size w w' := by
  obtain ⟨hl, A, C, ⟨hsz, hx⟩, hr⟩ := h
  obtain ⟨hl', A', C', ⟨hsz', hx'⟩, hr'⟩ := h'
  have HL : Hid (xss.length = n) := hl
  have HL' : Hid (yss.length = n') := hl'
  have HR := hide hr
  have HR' := hide hr'
  have HX := hide hxs
  have HY := hide hys
  clear hl hl' hr hr' hxs hys
  by_cases he : n = n'
  · subst he
    go_enter Try.func21, Try.ntmps21
    go_wp2_with fail
    go_loopw [5] (fun i wr => ∃ k : Nat, k ≤ n ∧ i = .int .i64 k ∧ xss.take k = yss.take k ∧ Below w.heap.size w wr) (fun i _ => n - (intOf i).toNat)
    case atStart => exact ⟨0, Nat.zero_le _, rfl, rfl, Below.refl _ _⟩
    case round =>
      obtain ⟨k, hk, rfl, hall, hbel⟩ := hrel
      have HA : Hid (xss.take k = yss.take k) := hall
      clear hall
      by_cases hlt : k < n
      · obtain ⟨b, off, rfl, _, hb, hc⟩ := hx (by omega)
        obtain ⟨b', off', rfl, _, hb', hc'⟩ := hx' (by omega)
        have hck := (hbel.cell (p := ⟨b, off + k, none⟩) (by show b < _; omega)).trans (hc k hlt)
        have hck' := (hbel.cell (p := ⟨b', off' + k, none⟩) (by show b' < _; omega)).trans (hc' k hlt)
        have HI := hide ((HR.out k hlt).later hbel (by omega))
        have HI' := hide ((HR'.out k hlt).later hbel (by omega))
        have hz9 := HX.out _ (getR_mem (show k < xss.length by rw [HL.out]; exact hlt))
        have hz9' := HY.out _ (getR_mem (show k < yss.length by rw [HL'.out]; exact hlt))
        have HBB := hide hbel
        clear hc hx hc' hx' hbel
        obtain ⟨z, hz⟩ : ∃ z, z = xss.getD k [] := ⟨_, rfl⟩
        obtain ⟨y, hy⟩ : ∃ z, z = yss.getD k [] := ⟨_, rfl⟩
        have HZ := hide hz
        have HYY := hide hy
        rw [← hz] at hck hz9 HI
        rw [← hy] at hck' hz9' HI'
        clear hz hy
        have HCC : ∀ w2, Hid (Below wr.heap.size wr w2 → Calls Try.prog 20 #[.slice (A k) z.length (C k), .slice (A' k) y.length (C' k)] w2 fun e w' => e = .returned (.bool (decide (z = y))) ∧ Below w2.heap.size w2 w') := fun w2 hb2 =>
          eq_any _ _ _ _ _ _ _ _ w2 (HI.out.later hb2 (by have := HI.out.2.1; omega)) (HI'.out.later hb2 (by have := HI'.out.2.1; omega)) hz9 hz9'
        obtain ⟨zl, hzl⟩ : ∃ l, l = z.length := ⟨_, rfl⟩
        obtain ⟨yl, hyl⟩ : ∃ l, l = y.length := ⟨_, rfl⟩
        rw [← hzl] at hck HCC
        rw [← hyl] at hck' HCC
        generalize A k = p at hck HCC
        generalize A' k = p' at hck' HCC
        generalize C k = cp at hck HCC
        generalize C' k = cp' at hck' HCC
        clear hzl hyl HI HI' hz9 hz9'
        by_cases h0 : z = y
        · have HS := hide (takeR_step HL.out HL'.out hlt HA.out (HZ.out.symm.trans (h0.trans HYY.out)))
          have e0 : decide (z = y) = true := by simpa using h0
          rw [e0] at HCC
          clear h0 e0
          go_wp2_with fail
          go_region_with (go_at_call 20; refine ((HCC _).out (Below.refl _ wr).drew).mono ?_; rintro e w1 ⟨rfl, b1⟩; have HB1 := hide (below_here (show Below w.heap.size w wr.drew from HBB.out.drew) b1); clear b1)
          all_goals go_wp2_with fail
          all_goals exact ⟨⟨k + 1, by omega, by go_num, HS.out, HB1.out⟩, by simp [intOf]; omega⟩
        · have HN := hide (takeR_fall (k := k) (xs := xss) (ys := yss) (by rw [← HZ.out, ← HYY.out]; exact h0))
          have e0 : decide (z = y) = false := by simpa using h0
          rw [e0] at HCC
          clear h0 e0
          go_wp2_with fail
          go_region_with (go_at_call 20; refine ((HCC _).out (Below.refl _ wr).drew).mono ?_; rintro e w1 ⟨rfl, b1⟩; have HB1 := hide (below_here (show Below w.heap.size w wr.drew from HBB.out.drew) b1); clear b1)
          all_goals go_wp2_with fail
          all_goals go_ret
          all_goals exact ⟨ret_bool HN.out.symm, HB1.out⟩
      · go_wp2_with fail
        go_ret
        exact ⟨ret_bool (takeR_whole HL.out HL'.out (by omega) HA.out).symm, hbel⟩
  · have e0 : ((n : Int) == (n' : Int)) = false := by simp; omega
    have e1 : ((n : Int) != (n' : Int)) = true := by simp; omega
    go_enter Try.func21, Try.ntmps21
    go_wp2_with fail
    go_ret
    exact ⟨ret_bool (by simp; intro e; subst e; exact he (HL.out.symm.trans HL'.out)), Below.refl _ _⟩

set_option maxHeartbeats 800000 in
/-- Marks are written into all rows. -/
theorem markR_any (a : Option Addr) (n cap : Nat) (xss : List (List Int)) (w : World) {lo hi : Nat} (h : OwnRows lo hi w a n xss) (hn : n + totalI xss ≤ 1048576) :
    Calls Try.prog 22 #[.slice a n cap, .int .i64 1] w fun e w' => e = .returned (.int .i64 ((1 + totalI xss : Nat) : Int)) ∧ Aside lo hi w w' := by
  obtain ⟨hl, H, A, C, h2, h3, h4, h5, h6, h7⟩ := h
  have HL := hide hl
  have H3 := hide h3
  have H6 := hide h6
  have H7 := hide h7
  have h0n := h3 0 n (by omega) (Nat.le_refl _)
  clear hl h3 h6 h7
  go_enter Try.func22, Try.ntmps22
  go_wp2_with fail
  go_loopw [1, 5] (fun t i wr => ∃ k : Nat, k ≤ n ∧ i = .int .i64 k ∧ t = .int .i64 ((1 + totalI (xss.take k) : Nat) : Int) ∧ Aside (H 0) (H n) w wr ∧ ∀ i, k ≤ i → i < n → OwnInts (H i) (H (i + 1)) wr (A i) (xss.getD i []).length (xss.getD i [])) (fun _ i _ => n - (intOf i).toNat)
  case atStart => exact ⟨0, Nat.zero_le _, rfl, by simp [totalI], Aside.refl _ _ _, fun i _ hi => H7.out i hi⟩
  case round =>
    obtain ⟨k, hk, rfl, rfl, hasd, hrows⟩ := hrel
    have htl := totalI_whole xss k
    by_cases hlt : k < n
    · have hro := H6.out.aside hasd (.inl (Nat.le_refl _))
      obtain ⟨b, off, rfl, hb1, hb2, hc⟩ := hro.2 (by omega)
      have hck := (hc k hlt).1
      dsimp only at hck
      have hik := hrows k (Nat.le_refl _) hlt
      have HT : Hid (totalI (xss.take (k + 1)) = totalI (xss.take k) + (xss.getD k []).length) := totalI_take xss k (by rw [HL.out]; exact hlt)
      have htl1 := totalI_whole xss (k + 1)
      rw [HT.out] at htl1
      have HAS := hide hasd
      have HRS := hide hrows
      clear hc hro hasd hrows
      obtain ⟨z, hz⟩ : ∃ z, z = (xss.getD k []).length := ⟨_, rfl⟩
      rw [← hz] at hck hik HT htl1
      have HIK := hide hik
      have HZ := hide hz
      clear hik hz
      generalize totalI (xss.take k) = q at *
      obtain ⟨p, hp⟩ : ∃ p, p = A k := ⟨_, rfl⟩
      rw [← hp] at hck HIK
      have HP := hide hp
      clear hp
      go_wp2_with fail
      refine (mark_any p z _ _ (1 + (q : Int)) wr HIK.out (by omega) (by omega) (by omega)).mono ?_
      rintro e w2 ⟨rfl, _, d2⟩
      have h3a := H3.out 0 k (by omega) (by omega)
      have h3b := H3.out (k + 1) n (by omega) (Nat.le_refl _)
      have HAS2 := hide (HAS.out.trans (d2.wide h3a h3b))
      have HRS2 : Hid (∀ i, k + 1 ≤ i → i < n → OwnInts (H i) (H (i + 1)) w2 (A i) (xss.getD i []).length (xss.getD i [])) := fun i h1 h2 => (HRS.out i (by omega) h2).aside d2 (.inr (H3.out (k + 1) i h1 (by omega)))
      clear d2 HAS HRS h3a h3b
      go_wp2_with fail
      exact ⟨⟨k + 1, by omega, by go_num, by rw [HT.out]; go_num, HAS2.out, HRS2.out⟩, by simp [intOf]; omega⟩
    · obtain rfl : k = n := by omega
      have HW : Hid (totalI (xss.take k) = totalI xss) := by show _ = _; rw [List.take_of_length_le (by rw [HL.out]; omega)]
      have HAS := hide (hasd.wide h2 h4)
      clear hasd hrows
      generalize totalI (xss.take k) = q at *
      go_wp2_with fail
      go_ret
      exact ⟨ret_i64 (by have := HW.out; omega), HAS.out⟩
end Go.Proofs.Ytbgjagmnpfcfaak
