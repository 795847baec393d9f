/- The walks of the small functions that the exact laws go through, of slices of booleans. -/
import Derived.Test.YtdaemaefkikheaaReadBase
import Derived.Test.YtdaemaefkikheaaWalkA
namespace Go.Proofs.Ytdaemaefkikheaa
open Go.RowKit
set_option linter.unusedVariables false
set_option maxRecDepth 20000

theorem Try.infoB : (Try.prog.info? 4).map (fun i => (i.zero, i.size, i.bytes)) = some (some (.bool false), 1, 1) := by kernel_rfl
theorem takeB_step {xs ys : List Bool} {n k : Nat} (hx : xs.length = n) (hy : ys.length = n) (hk : k < n) (ht : xs.take k = ys.take k) (he : xs.getD k false = ys.getD k false) : xs.take (k + 1) = ys.take (k + 1) := by
  have e1 : ∀ l : List Bool, k < l.length → l.take (k + 1) = l.take k ++ [l.getD k false] := fun l h => by
    rw [List.take_succ_eq_append_getElem h, List.getD_eq_getElem?_getD, List.getElem?_eq_getElem h]; rfl
  rw [e1 xs (by omega), e1 ys (by omega), ht, he]
theorem takeB_fall {xs ys : List Bool} {k : Nat} (he : xs.getD k false ≠ ys.getD k false) : decide (xs = ys) = false := by
  simp only [decide_eq_false_iff_not]; intro e; exact he (by rw [e])
theorem takeB_whole {xs ys : List Bool} {n k : Nat} (hx : xs.length = n) (hy : ys.length = n) (hk : n ≤ k) (ht : xs.take k = ys.take k) : decide (xs = ys) = true := by
  rw [List.take_of_length_le (by omega), List.take_of_length_le (by omega)] at ht; simpa using ht

set_option maxHeartbeats 400000 in
theorem eqB_any (a : Option Addr) (n cap : Nat) (xs : List Bool) (a' : Option Addr) (n' cap' : Nat) (ys : List Bool) (w : World) {lo hi lo' hi' : Nat} (h : Bools lo hi w a n xs) (h' : Bools lo' hi' w a' n' ys) (hn : n ≤ 1048576) (hn' : n' ≤ 1048576) :
    Calls Try.prog 72 #[.slice a n cap, .slice a' n' cap'] w fun e w' => e = .returned (.bool (decide (xs = ys))) ∧ Below w.heap.size w w' := by
  obtain ⟨hl, hsz, hx⟩ := h
  obtain ⟨hl', hsz', hx'⟩ := h'
  have HL : Hid (xs.length = n) := hl
  have HL' : Hid (ys.length = n') := hl'
  clear hl hl'
  by_cases he : n = n'
  · subst he
    go_enter Try.func72, Try.ntmps72
    go_wp2
    go_loopw [5] (fun i wr => ∃ k : Nat, k ≤ n ∧ i = .int .i64 k ∧ xs.take k = ys.take k ∧ Below w.heap.size w wr) (fun i _ => n - (intOf i).toNat)
    case atStart => exact ⟨0, Nat.zero_le _, rfl, rfl, Below.refl _ _⟩
    case round =>
      obtain ⟨k, hk, rfl, hall, hbel⟩ := hrel
      have HA : Hid (xs.take k = ys.take k) := hall
      clear hall
      by_cases hlt : k < n
      · obtain ⟨b, off, rfl, _, hb, hc⟩ := hx (by omega)
        obtain ⟨b', off', rfl, _, hb', hc'⟩ := hx' (by omega)
        have hck : wr.cell? ⟨b, off + k, none⟩ = some (.bool (xs.getD k false)) := (hbel.cell (p := ⟨b, off + k, none⟩) (by show b < _; omega)).trans (hc k hlt)
        have hck' : wr.cell? ⟨b', off' + k, none⟩ = some (.bool (ys.getD k false)) := (hbel.cell (p := ⟨b', off' + k, none⟩) (by show b' < _; omega)).trans (hc' k hlt)
        clear hc hx hc' hx'
        obtain ⟨z, hz⟩ : ∃ z, z = xs.getD k false := ⟨_, rfl⟩
        rw [← hz] at hck
        have HZ : Hid (z = xs.getD k false) := hz
        clear hz
        obtain ⟨y, hy⟩ : ∃ z, z = ys.getD k false := ⟨_, rfl⟩
        rw [← hy] at hck'
        have HY : Hid (y = ys.getD k false) := hy
        clear hy
        by_cases h0 : z = y
        · subst h0
          have e1 : (z != z) = false := by simp
          go_wp2
          go_quiet (fail)
          go_wp2
          go_roundw
          case rel => exact ⟨k + 1, by omega, by go_num, takeB_step HL.out HL'.out hlt HA.out (HZ.out.symm.trans HY.out), below_drewN hbel _⟩
          case measure => simp [intOf]; omega
        · have e0 : (z == y) = false := by simpa using h0
          have e1 : (z != y) = true := by simpa using h0
          go_wp2
          go_quiet (fail)
          go_wp2
          go_ret
          exact ⟨ret_bool (takeB_fall (k := k) (by rw [← HZ.out, ← HY.out]; exact h0)).symm, below_drewN hbel _⟩
      · go_wp2
        go_ret
        exact ⟨ret_bool (takeB_whole HL.out HL'.out (by omega) HA.out).symm, hbel⟩
  · have e0 : ((n : Int) == (n' : Int)) = false := by simp; omega
    have e1 : ((n : Int) != (n' : Int)) = true := by simp; omega
    go_enter Try.func72, Try.ntmps72
    go_wp2
    go_ret
    exact ⟨ret_bool (by simp; intro e; subst e; exact he (HL.out.symm.trans HL'.out)), Below.refl _ _⟩

theorem rowB_step (xs : List Bool) (k j : Nat) (v : Value) (hv : v = cellO xs k) : (if j = k then v else if j < k then cellO xs j else .bool false) = (if j < k + 1 then cellO xs j else .bool false) := by
  by_cases h : j = k
  · subst h; simp [hv]
  · by_cases h2 : j < k
    · rw [if_neg h, if_pos h2, if_pos (by omega)]
    · rw [if_neg h, if_neg h2, if_neg (by omega)]

set_option maxHeartbeats 400000 in
/-- A copy in new memory. -/
theorem toB_any (a : Option Addr) (n cap : Nat) (xs : List Bool) (w : World) {lo hi : Nat} (h : Bools lo hi w a n xs) (hn : n ≤ 1048576) :
    Calls Try.prog 60 #[.slice a n cap] w fun e w' => ∃ a', e = .returned (.slice a' n n) ∧ OwnBools w.heap.size w'.heap.size w' a' n xs ∧ Below w.heap.size w w' := by
  obtain ⟨hl, hsz, hx⟩ := h
  have HL : Hid (xs.length = n) := hl
  clear hl
  have hmk := run_make_row' (P := Try.prog) 23 4 (.bool false) 1 Try.underlying23 Try.infoB rfl .i64 .i64 n (by omega) (by omega)
  go_enter Try.func60, Try.ntmps60
  go_wp2
  go_loopw [4] (fun i wr => ∃ k : Nat, k ≤ n ∧ i = .int .i64 k ∧ wr.rowIs w.heap.size 4 n (fun i => if i < k then cellO xs i else .bool false) ∧ Below w.heap.size w wr) (fun i _ => n - (intOf i).toNat)
  case atStart => exact ⟨0, Nat.zero_le _, rfl, (World.rowIs_made w (.bool false) n 4).congr (fun _ _ => by simp), (Below.refl _ _).alloc (Nat.le_refl _) _⟩
  case round =>
    obtain ⟨k, hk, rfl, hrow, hbel⟩ := hrel
    by_cases hlt : k < n
    · obtain ⟨b, off, rfl, _, hb, hc⟩ := hx (by omega)
      have hck : wr.cell? ⟨b, off + k, none⟩ = some (.bool (xs.getD k false)) := (hbel.cell (p := ⟨b, off + k, none⟩) (by show b < _; omega)).trans (hc k hlt)
      clear hc hx
      obtain ⟨z, hz⟩ : ∃ z, z = xs.getD k false := ⟨_, rfl⟩
      rw [← hz] at hck
      have HZ : Hid (z = xs.getD k false) := hz
      clear hz
      have hco := hrow.cell hlt
      have hfo := hrow.frozen k
      have hR := (hrow.set k (.bool z)).congr (g := fun i => if i < k + 1 then cellO xs i else .bool false) (fun j hj => rowB_step xs k j _ (by rw [HZ.out]; rfl))
      have hB := hbel.setCell (p := ⟨w.heap.size, k, none⟩) (Nat.le_refl _) (.bool z)
      have HR := hide (hR)
      have HB := hide (hB)
      clear hR hB hrow hbel
      go_wp2
      go_roundw
      case rel => exact ⟨k + 1, by omega, by go_num, HR.out, HB.out⟩
      case measure => simp [intOf]; omega
    · go_wp2
      go_ret
      have hs := hrow.lt
      exact ⟨_, rfl, ⟨HL.out, owned_of_row (hrow.congr (fun i hi => if_pos (by omega))) (Nat.le_refl _) hs (Nat.le_refl _)⟩, hbel⟩

set_option maxHeartbeats 400000 in
/-- They are overwritten. -/
theorem markB_any (a : Option Addr) (n cap : Nat) (f : Nat → Value) (m : Int) (w : World) {lo hi : Nat} (h : Owned lo hi w a n f) (hn : n ≤ 1048576) (m0 : 0 ≤ m) (m1 : m ≤ 2097152) :
    Calls Try.prog 78 #[.slice a n cap, .int .i64 m] w fun e w' => e = .returned (.int .i64 (m + n)) ∧ Aside lo hi w w' := by
  have hx := h
  go_enter Try.func78, Try.ntmps78
  go_wp2
  go_loopw [1, 5] (fun t i wr => ∃ k : Nat, k ≤ n ∧ i = .int .i64 k ∧ t = .int .i64 (m + k) ∧ (∃ g, Owned lo hi wr a n g) ∧ Aside lo hi w wr) (fun _ i _ => n - (intOf i).toNat)
  case atStart => exact ⟨0, Nat.zero_le _, rfl, by simp, ⟨_, hx⟩, Aside.refl _ _ _⟩
  case round =>
    obtain ⟨k, hk, rfl, rfl, ⟨g, hrow⟩, hasd⟩ := hrel
    by_cases hlt : k < n
    · obtain ⟨b, off, rfl, hb1, hb2, hc⟩ := hrow.2 (by omega)
      obtain ⟨hco, hfo⟩ := hc k hlt
      obtain ⟨v, hv⟩ : ∃ v, v = (m + (k : Int)) % 3 := ⟨_, rfl⟩
      have HRB := fun v => hide (⟨⟨_, hrow.set hlt v⟩, hasd.setCell (p := ⟨b, off + k, none⟩) hb1 hb2 v⟩ : (∃ g, Owned lo hi (wr.setCell ⟨b, off + k, none⟩ v) (some ⟨b, off, none⟩) n g) ∧ Aside lo hi w (wr.setCell ⟨b, off + k, none⟩ v))
      clear hrow hasd hc hx h hv
      go_wp2
      go_roundw
      case rel => exact ⟨k + 1, by omega, by go_num, by go_num, (HRB _).out.1, (HRB _).out.2⟩
      case measure => simp [intOf]; omega
    · go_wp2
      go_ret
      exact ⟨ret_i64 (by omega), hasd⟩
end Go.Proofs.Ytdaemaefkikheaa
