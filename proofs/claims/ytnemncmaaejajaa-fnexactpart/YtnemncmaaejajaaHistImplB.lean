/- Chapter 19, the program: a trial: the texts as numbers. -/
import Derived.Test.YtnemncmaaejajaaHistImplA
import Derived.Test.YtnemncmaaejajaaHistOwn
namespace Go.Proofs.Ytnemncmaaejajaa
open Go.RowKit
set_option linter.unusedVariables false
set_option linter.unusedSimpArgs false
set_option maxRecDepth 20000

theorem h9_two {W : World} {b : Nat} {c0 c1 : Value} {t : TypeId} {fr : Nat × Nat} (h : W.heap[b]? = some (.cells #[c0, c1] t fr)) : W.cell? ⟨b, 0, none⟩ = some c0 ∧ W.cell? ⟨b, 1, none⟩ = some c1 := by
  simp [World.cell?, h]
theorem h9_set2 {W : World} {b : Nat} {c0 c1 : Value} {t : TypeId} {fr : Nat × Nat} (h : W.heap[b]? = some (.cells #[c0, c1] t fr)) (v0 v1 : Value) :
    ((W.setCell ⟨b, 0, none⟩ v0).setCell ⟨b, 1, none⟩ v1).heap[b]? = some (.cells #[v0, v1] t fr) :=
  set_block (set_block h 0 v0 (by simp)) 1 v1 (by simp)
theorem ret_i64' {x y : Int} (h : x = y) : (Ending.returned (.int .i64 x)) = .returned (.int .i64 y) := by rw [h]
def sameT (t : ByteArray) (o : O9) : Bool := decide (o.t = t)
/-- The number of a text: of the first operation that has it. -/
def idxT (L : List O9) (t : ByteArray) : Int := if L.any (sameT t) then (L.findIdx (sameT t) : Int) else -1
def txtNo (L : List O9) (t : ByteArray) : Int := if t = ByteArray.empty then -1 else idxT L t
def txNos (L : List O9) : List Int := L.map fun o => txtNo L o.t
theorem o9At_get {L : List O9} {k : Nat} (h : k < L.length) : o9At L k = L[k] := by unfold o9At; rw [List.getD_eq_getElem?_getD, List.getElem?_eq_getElem h]; rfl
theorem idxT_hit {L : List O9} {t : ByteArray} {k : Nat} (h : k < L.length) (hk : sameT t (o9At L k) = true) (hall : ∀ j, j < k → sameT t (o9At L j) = false) : idxT L t = (k : Int) := by
  have h1 : L.findIdx (sameT t) = k := (List.findIdx_eq h).2 ⟨by rw [← o9At_get h]; exact hk, fun j hj => by rw [← o9At_get (by omega)]; exact hall j hj⟩
  have h2 : L.any (sameT t) = true := List.any_eq_true.2 ⟨L[k], List.getElem_mem h, by rw [← o9At_get h]; exact hk⟩
  unfold idxT
  rw [h2, h1]; rfl
theorem idxT_none {L : List O9} {t : ByteArray} (hall : ∀ j, j < L.length → sameT t (o9At L j) = false) : idxT L t = -1 := by
  have h2 : L.any (sameT t) = false := by
    rw [List.any_eq_false]
    intro x hx
    obtain ⟨k, hk, rfl⟩ := List.mem_iff_getElem.1 hx
    rw [← o9At_get hk, hall k hk]; simp
  unfold idxT
  rw [h2]; rfl
theorem idxT_of {L : List O9} {t : ByteArray} (h : ∃ k, k < L.length ∧ (o9At L k).t = t) : ∃ k, k < L.length ∧ (o9At L k).t = t ∧ idxT L t = (k : Int) := by
  obtain ⟨k, hk, ht⟩ := h
  have h2 : L.any (sameT t) = true := List.any_eq_true.2 ⟨L[k], List.getElem_mem hk, by rw [← o9At_get hk]; exact decide_eq_true ht⟩
  have h3 : ∃ x ∈ L, sameT t x = true := ⟨L[k], List.getElem_mem hk, by rw [← o9At_get hk]; exact decide_eq_true ht⟩
  have hl : L.findIdx (sameT t) < L.length := List.findIdx_lt_length.2 h3
  have h4 := List.findIdx_getElem (xs := L) (p := sameT t) (w := hl)
  refine ⟨_, hl, ?_, by unfold idxT; rw [h2]; rfl⟩
  rw [o9At_get hl]
  exact of_decide_eq_true h4
/-- Numbers are alike just where the texts are. -/
theorem txtNo_inj {L : List O9} {t t' : ByteArray} (h : t = ByteArray.empty ∨ ∃ k, k < L.length ∧ (o9At L k).t = t) (h' : t' = ByteArray.empty ∨ ∃ k, k < L.length ∧ (o9At L k).t = t') (e : txtNo L t = txtNo L t') : t = t' := by
  unfold txtNo at e
  by_cases c : t = ByteArray.empty
  · rw [if_pos c] at e
    by_cases c' : t' = ByteArray.empty
    · rw [c, c']
    · rw [if_neg c'] at e
      obtain ⟨k, _, _, hk⟩ := idxT_of (h'.resolve_left c')
      omega
  · rw [if_neg c] at e
    obtain ⟨k, _, hkt, hk⟩ := idxT_of (h.resolve_left c)
    by_cases c' : t' = ByteArray.empty
    · rw [if_pos c'] at e; omega
    · rw [if_neg c'] at e
      obtain ⟨k', _, hkt', hk'⟩ := idxT_of (h'.resolve_left c')
      rw [← hkt, ← hkt', show k = k' by omega]
set_option maxHeartbeats 400000 in
theorem textFn_any (x o : O9) (p : Nat) (T : TypeId) (w : World) (h : w.heap[p]? = some (o9O o T)) :
    Calls Try.prog 49 #[o9G x, .pointer (some ⟨p, 0, none⟩)] w fun e w' => e = .returned (.bool (sameT o.t x)) ∧ Below w.heap.size w w' := by
  obtain ⟨wA, hwA⟩ : ∃ wA, wA = w.alloc (o9O x 45) := ⟨_, rfl⟩
  have HBA : Hid (Below w.heap.size w wA) := by rw [hwA]; exact (Below.refl _ _).alloc (Nat.le_refl _) _
  have H1 : Hid (wA.heap[w.heap.size]? = some (o9O x 45)) := by rw [hwA]; exact heap_new _ _
  obtain ⟨d0, d1, d2, d3, d4⟩ := op9_cells (block_on h HBA.out)
  have hp : p < w.heap.size := (Array.getElem?_eq_some_iff.1 h).1
  obtain ⟨xa, xw, xt, xb, xe⟩ := x
  obtain ⟨ya, yw, yt, yb, ye⟩ := o
  obtain ⟨c0, c1, c2, c3, c4⟩ := op9_cells H1.out
  dsimp only at c2 d2
  have HQ : Hid ((xt.toList == yt.toList) = sameT yt ⟨xa, xw, xt, xb, xe⟩) := text_eq xt yt
  clear h c0 c1 c3 c4 d0 d1 d3 d4 hp
  go_enter Try.func49, Try.ntmps49
  go_upto_region 1 with fail
  rw [← hwA]
  clear hwA
  go_wp2_with fail
  go_ret
  exact ⟨ret_of HQ.out, HBA.out⟩
set_option maxHeartbeats 1600000 in
theorem indexText_any (a : Option Addr) (n cap : Nat) (L : List O9) (o : O9) (p : Nat) (T : TypeId) (w : World) {lo hi : Nat} (h : Ops9 lo hi w a n L) (hn : n ≤ 1000) (hp : w.heap[p]? = some (o9O o T)) :
    Calls Try.prog 47 #[.slice a n cap, .func (.func 49) #[] #[.pointer (some ⟨p, 0, none⟩)]] w fun e w' => e = .returned (.int .i64 (idxT L o.t)) ∧ Below w.heap.size w w' := by
  have HY := hide h
  have HP := hide hp
  have HTF : ∀ (x : O9) (W : World), Hid (Below w.heap.size w W → Calls Try.prog 49 #[o9G x, .pointer (some ⟨p, 0, none⟩)] W fun e w' => e = .returned (.bool (sameT o.t x)) ∧ Below W.heap.size W w') := fun x W hb => textFn_any x o p T W (block_on HP.out hb)
  clear h hp
  go_enter Try.func47, Try.ntmps47
  go_wp2_with fail
  go_loopw [8] (fun i wr => ∃ k : Nat, k ≤ n ∧ i = .int .i64 (k : Int) ∧ (∀ j, j < k → sameT o.t (o9At L j) = false) ∧ Below w.heap.size w wr) (fun i _ => n - (intOf i).toNat)
  case atStart => exact ⟨0, Nat.zero_le _, rfl, fun j hj => absurd hj (by omega), Below.refl _ _⟩
  case round =>
    obtain ⟨k, hk, rfl, hall, hbel⟩ := hrel
    obtain ⟨w1, hw1⟩ : ∃ w1, w1 = wr := ⟨_, rfl⟩
    subst hw1
    have HAL := hide hall
    have HBL := hide hbel
    clear hall hbel
    by_cases hlt : k < n
    · obtain ⟨b, off, rfl, _, hb, hc⟩ := HY.out.2.2 (by omega)
      obtain ⟨x0, x1, x2, x3, x4⟩ := op9_row hc HBL.out (show b < w.heap.size by have := HY.out.2.1; omega) hlt
      have hkn : (k : Int) < (n : Int) := by omega
      have HKL : Hid (k < L.length) := by show k < _; rw [HY.out.1]; exact hlt
      obtain ⟨x, hx⟩ : ∃ x, x = o9At L k := ⟨_, rfl⟩
      have HX := hide hx
      rw [← hx] at x0 x1 x2 x3 x4
      have HC := hide ((HTF x w1).out HBL.out)
      obtain ⟨xa, xw, xt, xb, xe⟩ := x
      dsimp only at x0 x1 x2 x3 x4
      clear hc hx
      go_wp2_with fail
      refine HC.out.mono ?_
      rintro e w2 ⟨rfl, b2⟩
      have HB2 := hide (below_here HBL.out b2)
      clear b2 x0 x1 x2 x3 x4
      obtain ⟨q, hq⟩ : ∃ q, sameT o.t ⟨xa, xw, xt, xb, xe⟩ = q := ⟨_, rfl⟩
      have HQ := hide hq
      rw [hq]
      clear hq
      cases q with
      | true =>
        have HI : Hid (idxT L o.t = (k : Int)) := idxT_hit HKL.out (by rw [← HX.out]; exact HQ.out) HAL.out
        go_wp2_with fail
        go_ret
        exact ⟨ret_i64' HI.out.symm, HB2.out⟩
      | false =>
        go_wp2_with fail
        go_roundw
        case rel => exact ⟨k + 1, by omega, by go_num, fun j hj => by
          by_cases e : j = k
          · subst e; rw [← HX.out]; exact HQ.out
          · exact HAL.out j (by omega), HB2.out⟩
        case measure => simp [intOf]; omega
    · obtain rfl : k = n := by omega
      have HI : Hid (idxT L o.t = -1) := idxT_none (fun j hj => HAL.out j (by have := HY.out.1; omega))
      go_wp2_with fail
      go_ret
      exact ⟨ret_i64' HI.out.symm, HBL.out⟩
end Go.Proofs.Ytnemncmaaejajaa
