/- A new Witness, on both sides, and the laws' walks over a Witness's flags. -/
import Derived.Test.YtdaemaefkikheaaWitMath
import Derived.Test.YtdaemaefkikheaaBoolWalk
import Derived.Test.YtdaemaefkikheaaMarkKit
import Derived.Deep.Cut
namespace Go.Proofs.Ytdaemaefkikheaa
open Go.RowKit
set_option linter.unusedVariables false
set_option linter.unusedSimpArgs false
set_option maxRecDepth 20000

abbrev wnV (x : Wn) (a : Option Addr) (n c : Nat) : Value := .agg #[.int .i64 x.e, .int .i64 x.h, .slice a n c]
theorem below_asideW {lo hi : Nat} {w w' : World} (h : Below w.heap.size w w') (hh : hi ≤ w.heap.size) : Aside lo hi w w' := ⟨h.os, h.tape, h.output, h.size, fun k hk _ => h.block k hk⟩
theorem own_lowW {lo lo' hi : Nat} {w : World} {a : Option Addr} {n : Nat} {f : Nat → Value} (h : Owned lo hi w a n f) (hl : lo' ≤ lo) : Owned lo' hi w a n f :=
  ⟨h.1, fun h0 => by obtain ⟨b, off, e, h1, h2, h3⟩ := h.2 h0; exact ⟨b, off, e, by omega, h2, h3⟩⟩
/-- The flag that a mark m leaves. -/
def flagM (m : Int) (i : Nat) : Value := .bool ((m + (i : Int)) % 3 == 0)
theorem flag_step (f : Nat → Value) (m : Int) (k j : Nat) : (if j = k then flagM m k else if j < k then flagM m j else f j) = (if j < k + 1 then flagM m j else f j) := by
  by_cases h : j = k
  · subst h; simp
  · by_cases h2 : j < k
    · rw [if_neg h, if_pos h2, if_pos (by omega)]
    · rw [if_neg h, if_neg h2, if_neg (by omega)]

set_option maxHeartbeats 400000 in
theorem markBS_any (a : Option Addr) (n cap : Nat) (f : Nat → Value) (m : Int) (w : World) {lo hi : Nat} (h : Owned lo hi w a n f) (hn : n ≤ 1048576) (m0 : 0 ≤ m) (m1 : m ≤ 2097152) :
    Calls Try.prog 78 #[.slice a n cap, .int .i64 m] w fun e w' => e = .returned (.int .i64 (m + n)) ∧ Owned lo hi w' a n (flagM m) ∧ Aside lo hi w w' := by
  have hx := h
  go_enter Try.func78, Try.ntmps78
  go_wp2
  go_loopw [1, 5] (fun t i wr => ∃ k : Nat, k ≤ n ∧ i = .int .i64 k ∧ t = .int .i64 (m + k) ∧ Owned lo hi wr a n (fun i => if i < k then flagM m i else f i) ∧ Aside lo hi w wr) (fun _ i _ => n - (intOf i).toNat)
  case atStart => exact ⟨0, Nat.zero_le _, rfl, by simp, hx.congr (fun _ _ => by simp), Aside.refl _ _ _⟩
  case round =>
    obtain ⟨k, hk, rfl, rfl, hrow, hasd⟩ := hrel
    by_cases hlt : k < n
    · obtain ⟨b, off, rfl, hb1, hb2, hc⟩ := hrow.2 (by omega)
      obtain ⟨hco, hfo⟩ := hc k hlt
      simp only [Nat.lt_irrefl, if_false] at hco
      have hR := (hrow.set hlt (flagM m k)).congr (g := fun i => if i < k + 1 then flagM m i else f i) (fun j hj => flag_step f m k j)
      have hB := hasd.setCell (p := ⟨b, off + k, none⟩) hb1 hb2 (flagM m k)
      unfold flagM at hR hB
      have HR := hide hR
      have HB := hide hB
      clear hrow hasd hc hx h hR hB
      go_wp2
      go_roundw
      case rel => exact ⟨k + 1, by omega, by go_num, by go_num, HR.out, HB.out⟩
      case measure => simp [intOf]; omega
    · go_wp2
      go_ret
      exact ⟨ret_i64 (by omega), hrow.congr (fun i hi => if_pos (by omega)), hasd⟩

set_option maxHeartbeats 400000 in
theorem heldBS_any (a : Option Addr) (n cap : Nat) (m : Int) (w : World) {lo hi : Nat} (h : Reads lo hi w a n (flagM m)) (hn : n ≤ 1048576) (m0 : 0 ≤ m) (m1 : m ≤ 2097152) :
    Calls Try.prog 80 #[.slice a n cap, .int .i64 m] w fun e w' => e = .returned (.int .i64 (m + n)) ∧ w = w' := by
  obtain ⟨hsz, hx⟩ := h
  go_enter Try.func80, Try.ntmps80
  go_wp2
  go_loop [1, 5] (fun t i => ∃ k : Nat, k ≤ n ∧ i = .int .i64 k ∧ t = .int .i64 (m + k)) (fun _ i => n - (intOf i).toNat)
  case atStart => exact ⟨0, Nat.zero_le _, rfl, by simp⟩
  case round =>
    obtain ⟨k, hk, rfl, rfl⟩ := hrel
    by_cases hlt : k < n
    · obtain ⟨b, off, rfl, _, _, hc⟩ := hx (by omega)
      have hck : w.cell? ⟨b, off + k, none⟩ = some (.bool ((m + (k : Int)) % 3 == 0)) := hc k hlt
      have hee : (((m + (k : Int)) % 3 == 0) != ((m + (k : Int)) % 3 == 0)) = false := by simp
      clear hc hx
      go_wp2
      go_round
      case rel => exact ⟨k + 1, by omega, by go_num, by go_num⟩
      case measure => simp [intOf]; omega
    · go_wp2
      go_ret
      exact ⟨ret_i64 (by omega), rfl⟩

set_option maxHeartbeats 400000 in
theorem eqWitness_any (x y : Wn) (a : Option Addr) (n c : Nat) (a' : Option Addr) (n' c' : Nat) (w : World) {lo hi lo' hi' : Nat} (h : Bools lo hi w a n x.s) (h' : Bools lo' hi' w a' n' y.s) (hhi : hi ≤ w.heap.size) (hhi' : hi' ≤ w.heap.size) (hn : n ≤ 1048576) (hn' : n' ≤ 1048576) :
    Calls Try.prog 36 #[wnV x a n c, wnV y a' n' c'] w fun e w' => e = .returned (.bool (decide (x.e = y.e) && (decide (x.h = y.h) && decide (x.s = y.s)))) ∧ Below w.heap.size w w' := by
  obtain ⟨w1, hw1⟩ : ∃ w1, w1 = (w.alloc (.cells #[.int .i64 x.e, .int .i64 x.h, .slice a n c] 33)).alloc (.cells #[.int .i64 y.e, .int .i64 y.h, .slice a' n' c'] 33) := ⟨_, rfl⟩
  have HB1 : Hid (Below w.heap.size w w1) := by rw [hw1]; exact ((Below.refl _ _).alloc (Nat.le_refl _) _).alloc (by simp) _
  have HA1 : Hid (w1.heap[w.heap.size]? = some (.cells #[.int .i64 x.e, .int .i64 x.h, .slice a n c] 33)) := by rw [hw1]; exact heap_old (heap_new _ _)
  have HR1 : Hid (w1.heap[w.heap.size + 1]? = some (.cells #[.int .i64 y.e, .int .i64 y.h, .slice a' n' c'] 33)) := by rw [hw1]; exact heap_at (by simp)
  have HS := hide (h.later HB1.out hhi)
  have HS' := hide (h'.later HB1.out hhi')
  obtain ⟨a0, a1, a2⟩ := mk_cells HA1.out
  obtain ⟨b0, b1, b2⟩ := mk_cells HR1.out
  obtain ⟨xe, xh, xs⟩ := x
  obtain ⟨ye, yh, ys⟩ := y
  dsimp only at *
  clear h h'
  go_enter Try.func36, Try.ntmps36
  go_upto_region 1 with fail
  rw [← hw1]
  clear hw1
  by_cases he : xe = ye
  · subst he
    by_cases hh : xh = yh
    · subst hh
      have e1 : (xe != xe) = false := by simp
      have e2 : (xh != xh) = false := by simp
      go_wp2_with fail
      refine (eqB_any _ _ _ _ _ _ _ _ _ HS.out HS'.out hn hn').mono ?_
      rintro e w2 ⟨rfl, hb⟩
      have HB2 := hide (below_here HB1.out hb)
      clear hb HB1
      obtain ⟨d, hd⟩ : ∃ d, decide (xs = ys) = d := ⟨_, rfl⟩
      have HDD := hide hd
      rw [hd]
      clear hd
      cases d
      · go_wp2_with fail
        go_ret
        exact ⟨ret_bool (by rw [HDD.out]), HB2.out⟩
      · go_wp2_with fail
        go_ret
        exact ⟨ret_bool (by rw [HDD.out]), HB2.out⟩
    · have e1 : (xe != xe) = false := by simp
      have e2 : (xh != yh) = true := by simpa using hh
      go_wp2_with fail
      go_ret
      exact ⟨ret_bool (by simp [hh]), HB1.out⟩
  · have e1 : (xe != ye) = true := by simpa using he
    go_wp2_with fail
    go_ret
    exact ⟨ret_bool (by simp [he]), HB1.out⟩

set_option maxHeartbeats 400000 in
theorem markWitness_any (x : Wn) (a : Option Addr) (n c : Nat) (f : Nat → Value) (m : Int) (w : World) {lo hi : Nat} (h : Owned lo hi w a n f) (hhi : hi ≤ w.heap.size) (hn : n ≤ 1048576) (m0 : 0 ≤ m) (m1 : m ≤ 2097152) :
    Calls Try.prog 42 #[wnV x a n c, .int .i64 m] w fun e w' => e = .returned (.int .i64 (m + n)) ∧ Owned lo hi w' a n (flagM m) ∧ Aside lo hi w w' := by
  obtain ⟨w1, hw1⟩ : ∃ w1, w1 = w.alloc (.cells #[.int .i64 x.e, .int .i64 x.h, .slice a n c] 33) := ⟨_, rfl⟩
  have hb : Below w.heap.size w w1 := by rw [hw1]; exact (Below.refl _ _).alloc (Nat.le_refl _) _
  have HA : Hid (Aside lo hi w w1) := below_asideW hb hhi
  have HS := hide (h.later hb hhi)
  have HA1 : Hid (w1.heap[w.heap.size]? = some (.cells #[.int .i64 x.e, .int .i64 x.h, .slice a n c] 33)) := by rw [hw1]; exact heap_new _ _
  obtain ⟨a0, a1, a2⟩ := mk_cells HA1.out
  clear h hb
  go_enter Try.func42, Try.ntmps42
  go_upto_region 1 with fail
  rw [← hw1]
  clear hw1
  go_wp2_with fail
  refine (markBS_any a n c f m w1 HS.out hn m0 m1).mono ?_
  rintro e w2 ⟨rfl, ho, ha⟩
  have HO := hide ho
  have HA2 := hide (HA.out.trans ha)
  clear ho ha HA
  go_wp2_with fail
  go_ret
  exact ⟨rfl, HO.out, HA2.out⟩

set_option maxHeartbeats 400000 in
theorem heldWitness_any (x : Wn) (a : Option Addr) (n c : Nat) (m : Int) (w : World) {lo hi : Nat} (h : Reads lo hi w a n (flagM m)) (hhi : hi ≤ w.heap.size) (hn : n ≤ 1048576) (m0 : 0 ≤ m) (m1 : m ≤ 2097152) :
    Calls Try.prog 46 #[wnV x a n c, .int .i64 m] w fun e w' => e = .returned (.int .i64 (m + n)) ∧ Below w.heap.size w w' := by
  obtain ⟨w1, hw1⟩ : ∃ w1, w1 = w.alloc (.cells #[.int .i64 x.e, .int .i64 x.h, .slice a n c] 33) := ⟨_, rfl⟩
  have hb : Below w.heap.size w w1 := by rw [hw1]; exact (Below.refl _ _).alloc (Nat.le_refl _) _
  have HB := hide hb
  have HS := hide (h.later hb hhi)
  have HA1 : Hid (w1.heap[w.heap.size]? = some (.cells #[.int .i64 x.e, .int .i64 x.h, .slice a n c] 33)) := by rw [hw1]; exact heap_new _ _
  obtain ⟨a0, a1, a2⟩ := mk_cells HA1.out
  clear h hb
  go_enter Try.func46, Try.ntmps46
  go_upto_region 1 with fail
  rw [← hw1]
  clear hw1
  go_wp2_with fail
  refine (heldBS_any a n c m w1 HS.out hn m0 m1).mono ?_
  rintro e w2 ⟨rfl, rfl⟩
  have hneg : decide (m + (n : Int) < 0) = false := by simp; omega
  go_wp2_with fail
  go_ret
  exact ⟨rfl, HB.out⟩

theorem flags_two {w : World} {g : Nat} {t : TypeId} {b0 b1 : Bool} {lo hi : Nat} (h : w.heap[g]? = some (.cells #[.bool b0, .bool b1] t)) (hlo : lo ≤ g) (hhi : g < hi) (hs : hi ≤ w.heap.size) : OwnBools lo hi w (some ⟨g, 0, none⟩) 2 [b0, b1] := by
  refine ⟨rfl, hs, fun _ => ⟨g, 0, rfl, hlo, hhi, fun i hi => ?_⟩⟩
  have hi2 : i = 0 ∨ i = 1 := by omega
  rcases hi2 with rfl | rfl
  · exact ⟨by simp [World.cell?, h, cellO], four_frozen h _⟩
  · exact ⟨by simp [World.cell?, h, cellO], four_frozen h _⟩

/-- A Witness that is answered: flags of its own. -/
def WitAns (lo : Nat) (w : World) (x : Wn) (v : Value) : Prop := ∃ g c, v = wnV x (some ⟨g, 0, none⟩) 2 c ∧ OwnBools lo w.heap.size w (some ⟨g, 0, none⟩) 2 x.s

set_option maxHeartbeats 400000 in
theorem specNewWitness_any (w : World) : Calls Try.prog 39 #[] w fun e w' => ∃ v, e = .returned v ∧ WitAns w.heap.size w' newW v ∧ Below w.heap.size w w' := by
  obtain ⟨w1, hw1⟩ : ∃ w1, w1 = (w.alloc (.cells #[.int .i64 0, .int .i64 (-1), .slice (some ⟨w.heap.size + 1, 0, none⟩) 2 2] 33)).alloc (.cells #[.bool true, .bool true] 4) := ⟨_, rfl⟩
  have HB1 : Hid (Below w.heap.size w w1) := by rw [hw1]; exact ((Below.refl _ _).alloc (Nat.le_refl _) _).alloc (by simp) _
  have HR1 : Hid (w1.heap[w.heap.size]? = some (.cells #[.int .i64 0, .int .i64 (-1), .slice (some ⟨w.heap.size + 1, 0, none⟩) 2 2] 33)) := by rw [hw1]; exact heap_old (heap_new _ _)
  have HF1 : Hid (w1.heap[w.heap.size + 1]? = some (.cells #[.bool true, .bool true] 4)) := by rw [hw1]; exact heap_at (by simp)
  have HZ1 : Hid (w1.heap.size = w.heap.size + 1 + 1) := by show _ = _; rw [hw1]; simp
  go_enter Try.func39, Try.ntmps39
  go_wp2_with fail
  rw [← hw1]
  have hz := HZ1.out
  exact bodyPost_ret (results_cell rfl rfl (run_loadVar_row _ _ _ _ _ _ _ HR1.out Try.underlying33 rfl (by kernel_rfl))) rfl ⟨_, rfl, ⟨_, _, rfl, flags_two HF1.out (by omega) (by omega) (Nat.le_refl _)⟩, HB1.out⟩

set_option maxHeartbeats 400000 in
theorem witnessOf_any (e h : Int) (b0 b1 : Bool) (w : World) : Calls Try.prog 75 #[.int .i64 e, .int .i64 h, .agg #[.bool b0, .bool b1]] w fun r w' => ∃ v, r = .returned v ∧ WitAns w.heap.size w' ⟨e, h, [b0, b1]⟩ v ∧ Below w.heap.size w w' := by
  obtain ⟨w1, hw1⟩ : ∃ w1, w1 = (w.alloc (.cells #[.bool b0, .bool b1] 95)).alloc (.cells #[.int .i64 e, .int .i64 h, .slice (some ⟨w.heap.size, 0, none⟩) 2 2] 33) := ⟨_, rfl⟩
  have HB1 : Hid (Below w.heap.size w w1) := by rw [hw1]; exact ((Below.refl _ _).alloc (Nat.le_refl _) _).alloc (by simp) _
  have HF1 : Hid (w1.heap[w.heap.size]? = some (.cells #[.bool b0, .bool b1] 95)) := by rw [hw1]; exact heap_old (heap_new _ _)
  have HR1 : Hid (w1.heap[w.heap.size + 1]? = some (.cells #[.int .i64 e, .int .i64 h, .slice (some ⟨w.heap.size, 0, none⟩) 2 2] 33)) := by rw [hw1]; exact heap_at (by simp)
  have HZ1 : Hid (w1.heap.size = w.heap.size + 1 + 1) := by show _ = _; rw [hw1]; simp
  go_enter Try.func75, Try.ntmps75
  go_wp2_with fail
  rw [← hw1]
  have hz := HZ1.out
  exact bodyPost_ret (results_cell rfl rfl (run_loadVar_row _ _ _ _ _ _ _ HR1.out Try.underlying33 rfl (by kernel_rfl))) rfl ⟨_, rfl, ⟨_, _, rfl, flags_two HF1.out (by omega) (by omega) (Nat.le_refl _)⟩, HB1.out⟩

set_option maxHeartbeats 400000 in
theorem implNewWitness_any (w : World) : Calls Try.prog 40 #[] w fun e w' => ∃ v, e = .returned v ∧ WitAns w.heap.size w' newW v ∧ Below w.heap.size w w' := by
  obtain ⟨w1, hw1⟩ : ∃ w1, w1 = w.alloc (.cells #[.int .i64 0, .int .i64 0, .slice none 0 0] 33) := ⟨_, rfl⟩
  have HB1 : Hid (Below w.heap.size w w1) := by rw [hw1]; exact (Below.refl _ _).alloc (Nat.le_refl _) _
  have HR1 : Hid (w1.heap[w.heap.size]? = some (.cells #[.int .i64 0, .int .i64 0, .slice none 0 0] 33)) := by rw [hw1]; exact heap_new _ _
  go_enter Try.func40, Try.ntmps40
  go_wp2_with fail
  rw [← hw1]
  have hz1 : w1.heap.size = w.heap.size + 1 := by rw [hw1]; simp
  have HZ := hide hz1
  clear hw1 hz1
  refine (witnessOf_any 0 (-1) true true w1).mono ?_
  rintro r w2 ⟨v, rfl, ⟨g, c, rfl, ho⟩, hb⟩
  have HR2 := hide (block_on HR1.out hb)
  have HO := hide ho
  have HB2 := hide (below_here HB1.out hb)
  clear ho hb
  obtain ⟨r0, r1, r2⟩ := mk_cells HR2.out
  have f0 := mk_frozen HR2.out 0
  have f1 := mk_frozen HR2.out 1
  have f2 := mk_frozen HR2.out 2
  have HF := hide (mk_set HR2.out (.int .i64 0) (.int .i64 (-1)) (.slice (some ⟨g, 0, none⟩) 2 c))
  have HG := hide (mk_below HB2.out (b := w.heap.size) (Nat.le_refl _) (.int .i64 0) (.int .i64 (-1)) (.slice (some ⟨g, 0, none⟩) 2 c))
  have hz := HZ.out
  have HA : Hid (Aside w.heap.size (w.heap.size + 1) w2 (((w2.setCell ⟨w.heap.size, 0, none⟩ (.int .i64 0)).setCell ⟨w.heap.size, 1, none⟩ (.int .i64 (-1))).setCell ⟨w.heap.size, 2, none⟩ (.slice (some ⟨g, 0, none⟩) 2 c))) := (((Aside.refl _ _ _).setCell (p := ⟨w.heap.size, 0, none⟩) (Nat.le_refl _) (Nat.lt_succ_self _) _).setCell (p := ⟨w.heap.size, 1, none⟩) (Nat.le_refl _) (Nat.lt_succ_self _) _).setCell (p := ⟨w.heap.size, 2, none⟩) (Nat.le_refl _) (Nat.lt_succ_self _) _
  have HS : Hid ((((w2.setCell ⟨w.heap.size, 0, none⟩ (.int .i64 0)).setCell ⟨w.heap.size, 1, none⟩ (.int .i64 (-1))).setCell ⟨w.heap.size, 2, none⟩ (.slice (some ⟨g, 0, none⟩) 2 c)).heap.size = w2.heap.size) := by show _ = _; simp
  clear hz
  go_wp2_with fail
  have hz := HZ.out
  have hO := HO.out.aside HA.out (.inr (by omega))
  exact bodyPost_ret (results_cell rfl rfl (run_loadVar_row _ _ _ _ _ _ _ HF.out Try.underlying33 rfl (by kernel_rfl))) rfl ⟨_, rfl, ⟨_, _, rfl, by rw [HS.out]; exact ⟨rfl, own_lowW hO.2 (by omega)⟩⟩, HG.out⟩
end Go.Proofs.Ytdaemaefkikheaa
