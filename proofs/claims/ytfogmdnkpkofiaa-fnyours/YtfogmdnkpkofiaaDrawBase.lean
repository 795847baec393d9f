/- The walks of the cursor that draws: whatever it draws, it stays a cursor, and what is drawn lies within its bounds. -/
import Derived.Test.YtfogmdnkpkofiaaRows
import Derived.Test.YtfogmdnkpkofiaaBytesBase
import Derived.Test.YtfogmdnkpkofiaaCopyBase
import Derived.Deep.QuietTactic
import Derived.BigQuiet
namespace Go.Proofs.Ytfogmdnkpkofiaa
open Go.RowKit
set_option linter.unusedVariables false
set_option maxRecDepth 20000

theorem i64_and255 (n : Int) : bits .and .i64 n 255 = n % 256 := by
  have h255 : (BitVec.ofInt 64 255).toNat = 2 ^ 8 - 1 := by decide
  have key : (BitVec.ofInt 64 n &&& BitVec.ofInt 64 255).toNat = (n % ((2 ^ 64 : Nat) : Int)).toNat % 2 ^ 8 := by
    rw [BitVec.toNat_and, BitVec.toNat_ofInt, h255, Nat.and_two_pow_sub_one_eq_mod]
  show IntKind.i64.wrap ((BitVec.ofInt 64 n &&& BitVec.ofInt 64 255).toNat : Nat) = n % 256
  rw [key, IntKind.wrap_i64]
  omega

theorem Bytes.later {lo hi : Nat} {w w' : World} {a : Option Addr} {n : Nat} {l : List UInt8} (h : Bytes lo hi w a n l) {B : Nat} (hb : Below B w w') (hB : hi ≤ B) : Bytes lo hi w' a n l := ⟨h.1, h.2.later hb hB⟩
theorem Bytes.aside {lo hi : Nat} {w w' : World} {a : Option Addr} {n : Nat} {l : List UInt8} (h : Bytes lo hi w a n l) {x r : Nat} (hb : Aside x r w w') (hB : hi ≤ x ∨ r ≤ lo) : Bytes lo hi w' a n l := ⟨h.1, h.2.aside hb hB⟩

def cur3 (a : Option Addr) (n cap i : Nat) (h : Int) (j : Nat) : Value := if j = 0 then .slice a n cap else if j = 1 then .int .i64 (i : Nat) else .int .i64 h
/-- A cursor over some bytes in block p. -/
def Cur (w : World) (p : Nat) : Prop := ∃ lo hi a n cap l i h, Bytes lo hi w a n l ∧ hi ≤ p ∧ n ≤ 4096 ∧ i ≤ n ∧ w.rowIs p 75 3 (cur3 a n cap i h)
theorem Cur.lt {w : World} {p : Nat} (h : Cur w p) : p < w.heap.size := by obtain ⟨_, _, _, _, _, _, _, _, _, _, _, _, h⟩ := h; exact h.lt
theorem Cur.below {w w' : World} {p : Nat} (h : Cur w p) {B : Nat} (hb : Below B w w') (hB : p < B) : Cur w' p := by
  obtain ⟨lo, hi, a, n, cap, l, i, hh, h1, h2, h3, h4, h5⟩ := h
  exact ⟨lo, hi, a, n, cap, l, i, hh, h1.later hb (by omega), h2, h3, h4, h5.of_block (hb.block p hB)⟩
theorem Cur.aside {w w' : World} {p : Nat} (h : Cur w p) {x r : Nat} (hb : Aside x r w w') (hB : p < x) : Cur w' p := by
  obtain ⟨lo, hi, a, n, cap, l, i, hh, h1, h2, h3, h4, h5⟩ := h
  exact ⟨lo, hi, a, n, cap, l, i, hh, h1.aside hb (.inl (by omega)), h2, h3, h4, h5.of_block (hb.block p h5.lt (.inl hB))⟩
theorem Cur.drewN {w : World} {p : Nat} (h : Cur w p) (k : Nat) : Cur (w.drewN k) p := h
theorem Aside.drewN {lo hi : Nat} {a w : World} (h : Aside lo hi a w) (k : Nat) : Aside lo hi a (w.drewN k) := h.trans ⟨rfl, rfl, rfl, Nat.le_refl _, fun _ _ _ => rfl⟩

theorem and255_lo (n : Int) : 0 ≤ bits .and .i64 n 255 := by rw [i64_and255]; omega
theorem and255_hi (n : Int) : bits .and .i64 n 255 ≤ 255 := by rw [i64_and255]; omega
theorem cur_step0 {w : World} {p lo hi n cap i : Nat} {a : Option Addr} {l : List UInt8} {h : Int} (hB : Bytes lo hi w a n l) (hp : hi ≤ p) (hn : n ≤ 4096) (hi' : i ≤ n) (hrow : w.rowIs p 75 3 (cur3 a n cap i h)) (H : Int) (k k' : Nat) :
    Cur (((w.setCell ⟨p, 2, none⟩ (.int .i64 H)).drewN k).drewN k') p ∧ Aside p (p + 1) w (((w.setCell ⟨p, 2, none⟩ (.int .i64 H)).drewN k).drewN k') := by
  have hA : Aside p (p + 1) w (w.setCell ⟨p, 2, none⟩ (.int .i64 H)) := (Aside.refl p (p + 1) w).setCell (p := ⟨p, 2, none⟩) (Nat.le_refl _) (Nat.lt_succ_self _) _
  have hR := (hrow.set 2 (.int .i64 H)).congr (g := cur3 a n cap i H) (fun j hj => by
    match j, hj with
    | 0, _ | 1, _ | 2, _ => rfl)
  have hC : Cur (w.setCell ⟨p, 2, none⟩ (.int .i64 H)) p := ⟨lo, hi, a, n, cap, l, i, H, hB.aside hA (.inl hp), hp, hn, hi', hR⟩
  exact ⟨hC, (hA.drewN k).drewN k'⟩
theorem cur_step1 {w : World} {p lo hi n cap i : Nat} {a : Option Addr} {l : List UInt8} {h : Int} (hB : Bytes lo hi w a n l) (hp : hi ≤ p) (hn : n ≤ 4096) (hi' : i < n) (hrow : w.rowIs p 75 3 (cur3 a n cap i h)) (H : Int) (k : Nat) :
    Cur (((w.setCell ⟨p, 2, none⟩ (.int .i64 H)).drewN k).setCell ⟨p, 1, none⟩ (.int .i64 ((i : Int) + 1))) p ∧ Aside p (p + 1) w (((w.setCell ⟨p, 2, none⟩ (.int .i64 H)).drewN k).setCell ⟨p, 1, none⟩ (.int .i64 ((i : Int) + 1))) := by
  have hA0 : Aside p (p + 1) w ((w.setCell ⟨p, 2, none⟩ (.int .i64 H)).drewN k) := ((Aside.refl p (p + 1) w).setCell (p := ⟨p, 2, none⟩) (Nat.le_refl _) (Nat.lt_succ_self _) _).drewN k
  have hA := hA0.setCell (p := ⟨p, 1, none⟩) (Nat.le_refl _) (Nat.lt_succ_self _) (.int .i64 ((i : Int) + 1))
  have hR0 : ((w.setCell ⟨p, 2, none⟩ (.int .i64 H)).drewN k).rowIs p 75 3 _ := hrow.set 2 (.int .i64 H)
  have hR := (hR0.set 1 (.int .i64 ((i : Int) + 1))).congr (g := cur3 a n cap (i + 1) H) (fun j hj => by
    match j, hj with
    | 0, _ | 1, _ | 2, _ => rfl)
  exact ⟨⟨lo, hi, a, n, cap, l, i + 1, H, hB.aside hA (.inl hp), hp, hn, by omega, hR⟩, hA⟩

set_option maxHeartbeats 1600000 in
theorem l1Byte_any (p : Nat) (w : World) (hc : Cur w p) :
    Calls Try.prog 67 #[.pointer (some ⟨p, 0, none⟩)] w fun e w' => ∃ x : Int, e = .returned (.int .i64 x) ∧ 0 ≤ x ∧ x ≤ 255 ∧ Cur w' p ∧ Aside p (p + 1) w w' := by
  obtain ⟨lo, hi, a, n, cap, l, i, h, hB, hp, hn, hi', hrow⟩ := hc
  have c0 : w.cell? ⟨p, 0, none⟩ = some (.slice a n cap) := hrow.cell (i := 0) (by omega)
  have c1 : w.cell? ⟨p, 1, none⟩ = some (.int .i64 (i : Nat)) := hrow.cell (i := 1) (by omega)
  have c2 : w.cell? ⟨p, 2, none⟩ = some (.int .i64 h) := hrow.cell (i := 2) (by omega)
  have f0 := hrow.frozen
  by_cases hlt : i < n
  · obtain ⟨b, off, rfl, _, hb, hcell⟩ := hB.2.2 (by omega)
    have hcb : w.cell? ⟨b, off + i, none⟩ = some (.int .u8 ((l.getD i 0).toNat : Int)) := hcell i hlt
    have hne : b ≠ p := by omega
    have hcb' : (w.setCell ⟨p, 2, none⟩ (.int .i64 (wrap64 (wrap64 (h * 6364136223846793005) + 1442695040888963407)))).cell? ⟨b, off + i, none⟩ = some (.int .u8 ((l.getD i 0).toNat : Int)) := by
      rw [World.cell?_setCell_other _ _ _ _ (by intro e; simp only [Addr.mk.injEq] at e; omega)]; exact hcb
    have HB := hide hB
    have HR := hide hrow
    clear hB hrow hcell
    go_enter Try.func67, Try.ntmps67
    go_wp2
    go_quiet (fail)
    go_wp2
    go_quiet (fail)
    go_wp2
    go_quiet (fail)
    go_wp2
    go_ret
    have hst := cur_step1 HB.out hp hn hlt HR.out (wrap64 (wrap64 (h * 6364136223846793005) + 1442695040888963407))
    exact ⟨_, rfl, and255_lo _, and255_hi _, (hst _).1, (hst _).2⟩
  · have HB := hide hB
    have HR := hide hrow
    clear hB hrow
    go_enter Try.func67, Try.ntmps67
    go_wp2
    go_quiet (fail)
    go_wp2
    go_quiet (fail)
    go_wp2
    go_ret
    have hst := cur_step0 HB.out hp hn hi' HR.out (wrap64 (wrap64 (h * 6364136223846793005) + 1442695040888963407))
    exact ⟨_, rfl, and255_lo _, and255_hi _, (hst _ _).1, (hst _ _).2⟩

set_option maxHeartbeats 800000 in
theorem l1Below_any (p : Nat) (n : Int) (w : World) (hc : Cur w p) (hn : n ≤ 4294967296) :
    Calls Try.prog 51 #[.pointer (some ⟨p, 0, none⟩), .int .i64 n] w fun e w' => ∃ x : Int, e = .returned (.int .i64 x) ∧ 0 ≤ x ∧ (x < n ∨ x = 0) ∧ Cur w' p ∧ Aside p (p + 1) w w' := by
  by_cases h0 : n ≤ 0
  · go_enter Try.func51, Try.ntmps51
    go_wp2
    go_ret
    exact ⟨_, rfl, Int.le_refl _, .inr rfl, hc, Aside.refl _ _ _⟩
  · have hne : (n == 0) = false := by simp; omega
    have hnp : 0 < n := by omega
    by_cases h1 : n ≤ 256
    · go_enter Try.func51, Try.ntmps51
      go_wp2_with fail
      refine (l1Byte_any p w hc).mono ?_
      rintro e w1 ⟨x, rfl, x0, x1, c1, s1⟩
      go_wp2_with fail
      go_ret
      exact ⟨_, rfl, Int.emod_nonneg _ (by omega), .inl (Int.emod_lt_of_pos _ hnp), c1, s1⟩
    · go_enter Try.func51, Try.ntmps51
      go_wp2_with fail
      refine (l1Byte_any p w hc).mono ?_
      rintro e w1 ⟨x, rfl, x0, x1, c1, s1⟩
      go_wp2_with fail
      refine (l1Byte_any p w1 c1).mono ?_
      rintro e w2 ⟨y, rfl, y0, y1, c2, s2⟩
      go_wp2_with fail
      refine (l1Byte_any p w2 c2).mono ?_
      rintro e w3 ⟨z, rfl, z0, z1, c3, s3⟩
      go_wp2_with fail
      refine (l1Byte_any p w3 c3).mono ?_
      rintro e w4 ⟨u, rfl, u0, u1, c4, s4⟩
      go_wp2_with fail
      go_ret
      exact ⟨_, rfl, Int.emod_nonneg _ (by omega), .inl (Int.emod_lt_of_pos _ hnp), c4, ((s1.trans s2).trans s3).trans s4⟩

set_option maxHeartbeats 400000 in
theorem l1Once_any (p : Nat) (n : Int) (w : World) (hc : Cur w p) (hn : n ≤ 4294967296) :
    Calls Try.prog 50 #[.pointer (some ⟨p, 0, none⟩), .int .i64 n] w fun e w' => ∃ b : Bool, e = .returned (.bool b) ∧ Cur w' p ∧ Aside p (p + 1) w w' := by
  go_enter Try.func50, Try.ntmps50
  go_wp2_with fail
  refine (l1Below_any p n w hc hn).mono ?_
  rintro e w1 ⟨x, rfl, _, _, c1, s1⟩
  go_wp2_with fail
  go_ret
  exact ⟨_, rfl, c1, s1⟩

set_option maxHeartbeats 400000 in
theorem l1From_any (p : Nat) (lo hi : Int) (w : World) (hc : Cur w p) (h1 : -4294967296 ≤ lo) (h2 : lo ≤ hi) (h3 : hi - lo < 4294967296) (h4 : hi ≤ 4294967296) :
    Calls Try.prog 56 #[.pointer (some ⟨p, 0, none⟩), .int .i64 lo, .int .i64 hi] w fun e w' => ∃ x : Int, e = .returned (.int .i64 x) ∧ lo ≤ x ∧ x ≤ hi ∧ Cur w' p ∧ Aside p (p + 1) w w' := by
  go_enter Try.func56, Try.ntmps56
  go_wp2_with fail
  refine (l1Below_any p _ w hc (by omega)).mono ?_
  rintro e w1 ⟨x, rfl, x0, x1, c1, s1⟩
  go_wp2_with fail
  go_ret
  exact ⟨_, rfl, by omega, by omega, c1, s1⟩

theorem Aside.grown {lo hi : Nat} {a w w' : World} {row : Option Nat} (h : Aside lo hi a w) (hg : w.grownBy w' row) (hr : ∀ k, row = some k → a.heap.size ≤ k) : Aside lo hi a w' :=
  ⟨hg.os.trans h.os, hg.tape.trans h.tape, hg.output.trans h.output, Nat.le_trans h.size hg.size, fun k hk hk' => by
    refine (hg.block k (Nat.lt_of_lt_of_le hk h.size) (fun e => ?_)).trans (h.block k hk hk')
    have := hr k e.symm
    omega⟩
theorem Aside.alloc {lo hi : Nat} {a w : World} (h : Aside lo hi a w) (o : Obj) : Aside lo hi a (w.alloc o) :=
  h.trans ⟨rfl, rfl, rfl, by show _ ≤ (w.heap.push o).size; simp, fun k hk _ => Go.Deep.blk_alloc_lt _ _ _ hk⟩
theorem Cur.alloc {w : World} {p : Nat} (h : Cur w p) (o : Obj) : Cur (w.alloc o) p := h.below ((Below.refl w.heap.size w).alloc (Nat.le_refl _) o) h.lt
theorem Cur.grown {w w' : World} {p : Nat} (h : Cur w p) {row : Option Nat} (hg : w.grownBy w' row) (hr : ∀ k, row = some k → p < k) : Cur w' p := by
  obtain ⟨lo, hi, a, n, cap, l, i, hh, h1, h2, h3, h4, h5⟩ := h
  have hlt := h5.lt
  refine ⟨lo, hi, a, n, cap, l, i, hh, ⟨h1.1, h1.2.of hg.size (fun k _ hk => hg.block k (by omega) (fun e => ?_))⟩, h2, h3, h4, h5.of_block (hg.block p hlt (fun e => ?_))⟩
  · have := hr k e.symm; omega
  · have := hr p e.symm; omega

set_option maxHeartbeats 800000 in
theorem l1New_any (a : Option Addr) (n cap : Nat) (l : List UInt8) (w : World) {lo hi : Nat} (hB : Bytes lo hi w a n l) (hn : n ≤ 4096) :
    Calls Try.prog 25 #[.slice a n cap] w fun e w' => ∃ p, e = .returned (.pointer (some ⟨p, 0, none⟩)) ∧ w.heap.size ≤ p ∧ Cur w' p ∧ Below w.heap.size w w' := by
  have hI := hide hB
  obtain ⟨hl, hsz, hx⟩ := hB
  clear hl
  go_enter Try.func25, Try.ntmps25
  go_wp2
  go_loop [3, 4] (fun t i => ∃ (k : Nat) (h : Int), k ≤ n ∧ i = .int .i64 k ∧ t = .int .i64 h) (fun _ i => n - (intOf i).toNat)
  case atStart => exact ⟨0, _, Nat.zero_le _, rfl, rfl⟩
  case round =>
    obtain ⟨k, h, hk, rfl, rfl⟩ := hrel
    by_cases hlt : k < n
    · obtain ⟨b, off, rfl, _, hb, hc⟩ := hx (by omega)
      have hck : w.cell? ⟨b, off + k, none⟩ = some (.int .u8 ((l.getD k 0).toNat : Int)) := hc k hlt
      clear hc hx
      go_wp2
      go_round
      case rel => exact ⟨k + 1, _, by omega, by go_num, rfl⟩
      case measure => simp [intOf]; omega
    · go_wp2
      go_ret
      have bel := (Below.refl w.heap.size w).alloc (Nat.le_refl _) (.cells #[.slice a n cap, .int .i64 0, .int .i64 h] 75)
      exact ⟨_, rfl, Nat.le_refl _, ⟨lo, hi, a, n, cap, l, 0, h, hI.out.later bel hsz, hsz, hn, Nat.zero_le _, World.rowIs_alloc w _ 75 _ (fun i hi => by
        match i, hi with
        | 0, _ | 1, _ | 2, _ => rfl)⟩, bel⟩

theorem own_aside {w w' : World} {base e n : Nat} {v : Value} {xs : List Value} (h : w.ownsRow base e 1 v n xs) {l r : Nat} (hb : Aside l r w w') (hr : r ≤ base) : w'.ownsRow base e 1 v n xs := by
  obtain ⟨h1, h2⟩ := h
  refine ⟨h1, ?_⟩
  rcases h2 with hn | ⟨g, cap, cur, rfl, hbg, hgg, rest⟩
  · exact .inl hn
  · exact .inr ⟨g, cap, cur, rfl, hbg, (hb.block g (Array.getElem?_eq_some_iff.1 hgg).1 (.inr (by omega))).trans hgg, rest⟩
theorem Cur.set_new {w : World} {p : Nat} (h : Cur w p) {g q : Nat} (hg : p < g) (v : Value) : Cur (w.setCell ⟨g, q, none⟩ v) p :=
  h.aside ((Aside.refl g (g + 1) w).setCell (p := ⟨g, q, none⟩) (Nat.le_refl _) (Nat.lt_succ_self _) v) hg
theorem Aside.set_new {lo hi : Nat} {a w : World} (h : Aside lo hi a w) {g q : Nat} (hg : a.heap.size ≤ g) (v : Value) : Aside lo hi a (w.setCell ⟨g, q, none⟩ v) :=
  ⟨h.os, h.tape, h.output, by rw [Go.Deep.nblk_setCell]; exact h.size, fun k hk hk' => (Go.Deep.blk_setCell_other _ _ _ _ (by show k ≠ g; omega)).trans (h.block k hk hk')⟩
theorem Owned.wide {lo hi : Nat} {w : World} {a : Option Addr} {n : Nat} {f : Nat → Value} (h : Owned lo hi w a n f) {hi' : Nat} (h1 : hi ≤ hi') (h2 : hi' ≤ w.heap.size) : Owned lo hi' w a n f :=
  ⟨h2, fun hn => by
    obtain ⟨b, off, e, q1, q2, q3⟩ := h.2 hn
    exact ⟨b, off, e, q1, Nat.lt_of_lt_of_le q2 h1, q3⟩⟩
theorem Owned.first {lo hi : Nat} {w : World} {a : Option Addr} {n : Nat} {f : Nat → Value} (h : Owned lo hi w a n f) {m : Nat} (hm : m ≤ n) : Owned lo hi w a m f :=
  ⟨h.1, fun hn => by
    obtain ⟨b, off, e, q1, q2, q3⟩ := h.2 (by omega)
    exact ⟨b, off, e, q1, q2, fun i hi => q3 i (by omega)⟩⟩
theorem cellB_take (l : List UInt8) (q i : Nat) (h : i < q) : cellB l i = cellB (l.take q) i := by
  unfold cellB
  rw [List.getD_eq_getElem?_getD, List.getD_eq_getElem?_getD, List.getElem?_take, if_pos h]
theorem cellB_set (l : List UInt8) (q i : Nat) (u : UInt8) (h : q < l.length) : (if i = q then Value.int .u8 (u.toNat : Int) else cellB l i) = cellB (l.set q u) i := by
  unfold cellB
  by_cases e : i = q
  · subst e; rw [if_pos rfl]; simp [List.getD_eq_getElem?_getD, h]
  · rw [if_neg e, List.getD_eq_getElem?_getD, List.getD_eq_getElem?_getD, List.getElem?_set_ne (fun h => e h.symm)]
theorem aside_of_below {w w' : World} {lo hi : Nat} (h : Below w.heap.size w w') : Aside lo hi w w' := ⟨h.os, h.tape, h.output, h.size, fun k hk _ => h.block k hk⟩
end Go.Proofs.Ytfogmdnkpkofiaa
