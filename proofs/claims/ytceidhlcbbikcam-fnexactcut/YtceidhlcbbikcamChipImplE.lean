/- The program's takenShape, cutShort. -/
import Derived.Test.YtceidhlcbbikcamChipImplD
import Derived.Lib.QuietBelow
import Derived.BigQuiet
namespace Go.Proofs.Ytceidhlcbbikcam
open Go.RowKit
set_option linter.unusedVariables false
set_option maxRecDepth 20000

def shT (qs : List Sq) (j : Jb) : Sh := if inB j.2.1 0 ((qs.length : Int) - 1) then shOf j.1 j.2.2 else .none
theorem canJ_no {z : Int} {qs : List Sq} {j : Jb} (h : inB j.2.1 0 ((qs.length : Int) - 1) = false) : canJ z qs j = false := by unfold canJ; rw [h]; rfl
theorem canJ_yes {z : Int} {qs : List Sq} {j : Jb} (h : inB j.2.1 0 ((qs.length : Int) - 1) = true) : canJ z qs j = (!(sqAt qs j.2.1.toNat).2.2 && canK z (sqAt qs j.2.1.toNat) j.1 j.2.2) := by unfold canJ; rw [h]; rfl

set_option maxHeartbeats 1600000 in
theorem takenShape_any (z : Int) (a : Option Addr) (n cap : Nat) (qs : List Sq) (kd sq : Int) (tx : ByteArray) (w : World) {lo hi : Nat} (h : Squares lo hi w a n qs) (hhi : hi ≤ w.heap.size) (hn : n ≤ 12) (hl : ∀ q ∈ qs, q.1.length ≤ 8) (htx : tx.size ≤ maxLen) :
    Calls Try.prog 41 #[.agg #[.int .i64 z, .slice a n cap], .agg #[.int .i64 kd, .int .i64 sq, .string tx]] w fun e w' => e = .returned (.tuple #[shV (shT qs (kd, sq, tx)), .bool (canJ z qs (kd, sq, tx))]) ∧ Below w.heap.size w w' := by
  obtain ⟨wA, hwA⟩ : ∃ wA, wA = (w.alloc (.cells #[.int .i64 z, .slice a n cap] 31)).alloc (.cells #[.int .i64 kd, .int .i64 sq, .string tx] 34) := ⟨_, rfl⟩
  have hzA : wA.heap.size = w.heap.size + 1 + 1 := by rw [hwA]; simp
  have HBA : Hid (Below w.heap.size w wA) := by rw [hwA]; exact ((Below.refl _ _).alloc (Nat.le_refl _) _).alloc (by simp) _
  have H1 : Hid (wA.heap[w.heap.size]? = some (.cells #[.int .i64 z, .slice a n cap] 31)) := by rw [hwA]; exact heap_old (heap_new _ _)
  have H2 : Hid (wA.heap[w.heap.size + 1]? = some (.cells #[.int .i64 kd, .int .i64 sq, .string tx] 34)) := by rw [hwA]; exact heap_at (by simp)
  have HSQ := hide (h.later HBA.out hhi)
  have HL := hide h.1
  have HL8 := hide hl
  clear h hl
  obtain ⟨a0, a1⟩ := two_cells H1.out
  obtain ⟨b0, b1, b2⟩ := three_cells H2.out
  go_enter Try.func41, Try.ntmps41
  go_upto_region 1 with fail
  rw [← hwA]
  clear hwA
  go_wp2_with fail
  refine (hasSquare_any z a n cap sq wA).mono ?_
  rintro e w1 ⟨rfl, hb1⟩
  have hs1 := hb1.size
  have K1 := hide (block_on H1.out hb1)
  have K2 := hide (block_on H2.out hb1)
  have HS1 := hide (HSQ.out.later hb1 (by omega))
  have HB1 := hide (below_here HBA.out hb1)
  clear hb1 H1 H2 HSQ HBA a0 a1 b0 b1 b2
  cases hin : inB sq 0 ((n : Int) - 1) with
  | false =>
    have hin' : inB sq 0 ((qs.length : Int) - 1) = false := by rw [HL.out]; exact hin
    have HE : Hid (shV (shT qs (kd, sq, tx)) = .nilIface) := by show _ = _; unfold shT; dsimp only; rw [hin']; rfl
    have HC := hide (canJ_no (z := z) (qs := qs) (j := (kd, sq, tx)) hin')
    go_wp2_with fail
    go_ret2
    exact ⟨by rw [HE.out, HC.out]; rfl, HB1.out⟩
  | true =>
    have hin' : inB sq 0 ((qs.length : Int) - 1) = true := by rw [HL.out]; exact hin
    have HE : Hid (shT qs (kd, sq, tx) = shOf kd tx) := by show _ = _; unfold shT; dsimp only; rw [hin']; rfl
    have HC := hide (canJ_yes (z := z) (qs := qs) (j := (kd, sq, tx)) hin')
    unfold inB at hin
    simp only [Bool.and_eq_true, decide_eq_true_eq] at hin
    obtain ⟨i, rfl⟩ : ∃ i : Nat, sq = (i : Int) := ⟨sq.toNat, by omega⟩
    have hlt : i < n := by omega
    have hql : i < qs.length := by rw [HL.out]; exact hlt
    obtain ⟨b0, b1, b2⟩ := three_cells K2.out
    go_upto_region 3 with fail
    go_wp2_with fail
    refine (shapeOf_any kd (i : Int) tx w1).mono ?_
    rintro e w2 ⟨rfl, hb2⟩
    have hs2 := hb2.size
    have K12 := hide (block_on K1.out hb2)
    have K22 := hide (block_on K2.out hb2)
    have HS2 := hide (HS1.out.later hb2 (by omega))
    have HB2 := hide (below_here HB1.out hb2)
    clear hb2 K1 K2 HS1 HB1 b0 b1 b2
    obtain ⟨_, A, C, hx, ht⟩ := HS2.out
    obtain ⟨b, off, rfl, _, hb, hc⟩ := hx.2 (by omega)
    obtain ⟨c0, c1, c2⟩ := sq_cells hc (Below.refl w2.heap.size w2) (show b < w2.heap.size by have := hx.1; omega) hlt
    have hl8 := HL8.out _ (sqAt_mem hql)
    obtain ⟨a0, a1⟩ := two_cells K12.out
    obtain ⟨b0, b1, b2⟩ := three_cells K22.out
    have HTK : Hid (takesS z (sqAt qs i) (shOf kd tx) = canK z (sqAt qs i) kd tx) := takesS_of _ _ _ _
    have hsw : ∀ s, shOf kd tx = .write s → s.size ≤ maxLen := fun s e => by
      unfold shOf at e
      split at e
      · cases e; exact htx
      · split at e
        · cases e
        · split at e <;> cases e
    have cT : ∀ d os, Calls Try.prog 72 #[.agg #[.slice (A i) (sqAt qs i).1.length (C i), .int .i64 (sqAt qs i).2.1, .bool (sqAt qs i).2.2], .int .i64 z, shV (shOf kd tx)] (Go.Sort.grow (redrawn w2 d) os) fun e w'' => e = .returned (.bool (canJ z qs (kd, (i : Int), tx))) ∧ ∃ p : Regrown, w'' = Go.Sort.grow (redrawn w2 p.d) p.os := fun d os => Calls.regrown_of ((takes_any (A i) (C i) (sqAt qs i) z (shOf kd tx) _ hl8 hsw).mono (fun e w' h => ⟨by rw [h.1, HC.out, HTK.out]; rfl, h.2⟩))
    have k0 := fun d os => cell_regrown a0 d os
    have k1 := fun d os => cell_regrown a1 d os
    have k2 := fun d os => cell_regrown b1 d os
    have k3 := fun d os => cell_regrown c0 d os
    have k4 := fun d os => cell_regrown c1 d os
    have k5 := fun d os => cell_regrown c2 d os
    clear hc hx ht
    obtain ⟨sv, hsv⟩ : ∃ sv, sv = shV (shOf kd tx) := ⟨_, rfl⟩
    have HSV : Hid (sv = shV (shT qs (kd, (i : Int), tx))) := by show _ = _; rw [HE.out]; exact hsv
    rw [← hsv] at cT ⊢
    clear hsv HE HC HTK hsw
    generalize sqAt qs i = y at *
    obtain ⟨ts, zw, bd⟩ := y
    obtain ⟨cj, hcj⟩ : ∃ cj, cj = canJ z qs (kd, (i : Int), tx) := ⟨_, rfl⟩
    rw [← hcj] at cT
    have HCJ := hide hcj
    clear hcj
    go_wp2_with fail
    refine wp_region_quiet_below (by kernel_rfl) (by kernel_rfl) ?_
    repeat (go_big_quiet_step ((go_at_call 72; exact cT _ _)))
    refine wpQuiet_nil ?_
    intro _ hw'
    obtain ⟨⟨dq, osq⟩, hw''⟩ := hw'
    subst hw''
    have HB3 := hide (below_here HB2.out (below_regrown w2 dq osq))
    go_wp2_with fail
    go_ret2
    exact ⟨by rw [← HSV.out, ← HCJ.out]; rfl, HB3.out⟩

/-- What is left of a shape where power fails. -/
def shCut (b : Int) : Sh → Sh
  | .write s => .write (part s b)
  | .wipe => .half b
  | _ => .none
set_option maxHeartbeats 800000 in
theorem cutShort_any (sh : Sh) (b : Int) (w : World) (hs : ∀ s, sh = .write s → 1 ≤ s.size ∧ s.size ≤ 200) :
    Calls Try.prog 43 #[shV sh, .int .i64 b] w fun e w' => e = .returned (shV (shCut b sh)) ∧ Below w.heap.size w w' := by
  cases sh with
  | none =>
    have q0 := Try.asNoWr
    have q1 := Try.asNoWi
    go_enter Try.func43, Try.ntmps43
    unfold shV
    go_wp2_with fail
    go_ret
    exact ⟨rfl, Below.refl _ _⟩
  | write s =>
    have q0 := Try.asWrWr (.agg #[.string s])
    have hs' := hs s rfl
    have HB := hide ((Below.refl w.heap.size w).alloc (Nat.le_refl _) (.cells #[.string s] 104))
    rw [show shV (.write s) = .iface 104 (.agg #[.string s]) from rfl]
    go_enter Try.func43, Try.ntmps43
    go_wp2_with fail
    refine (firstBytes_any s b _ hs'.1 hs'.2).mono ?_
    rintro e w1 ⟨rfl, rfl⟩
    go_wp2_with fail
    go_ret
    exact ⟨rfl, HB.out⟩
  | wipe =>
    have q0 := Try.asWiWr (.agg #[])
    have q1 := Try.asWiWi (.agg #[])
    have HB := hide ((Below.refl w.heap.size w).alloc (Nat.le_refl _) (.cells #[] 106))
    rw [show shV .wipe = .iface 106 (.agg #[]) from rfl]
    go_enter Try.func43, Try.ntmps43
    go_wp2_with fail
    go_ret
    exact ⟨rfl, HB.out⟩
  | half c =>
    have q0 := Try.asHaWr (.agg #[.int .i64 c])
    have q1 := Try.asHaWi (.agg #[.int .i64 c])
    go_enter Try.func43, Try.ntmps43
    unfold shV
    go_wp2_with fail
    go_ret
    exact ⟨rfl, Below.refl _ _⟩
  | spoil =>
    have q0 := Try.asSpWr (.agg #[])
    have q1 := Try.asSpWi (.agg #[])
    go_enter Try.func43, Try.ntmps43
    unfold shV
    go_wp2_with fail
    go_ret
    exact ⟨rfl, Below.refl _ _⟩
end Go.Proofs.Ytceidhlcbbikcam
