/- Chapter 5's program: what it goes through (an iterator of two loop variables): its contract, at a loop body that leaves the iterator's own two variables. -/
import Derived.Test.YtbgjagmnpfcfaalDoorWeaveSpec2
import Derived.RangeFuncNested
import Derived.RangeFuncBound
import Derived.RangeFuncCalls
import Derived.RangeFuncLeaves
import Derived.RangeFuncBox
import Derived.Shelf.Abstract
import Derived.Shelf.RegionOpen
import Derived.WalkKit
import Derived.OwnWalkIn
import Derived.TacticsInMore
import Derived.LoopNIn
import Derived.LoopIn
namespace Go.Proofs.YtbgjagmnpfcfaalDoor
open Go.RowKit Go.Shelf
set_option linter.unusedVariables false
set_option linter.unusedSimpArgs false
set_option maxRecDepth 100000
attribute [local go_sem] Oper.semAt_some

/-- What a round must keep: the blocks from B on, below B + 2. -/
def Kept (B : Nat) (W W' : World) : Prop := ∀ k, B ≤ k → k < B + 2 → W'.heap[k]? = W.heap[k]?
theorem Kept.refl (B : Nat) (W : World) : Kept B W W := fun _ _ _ => rfl
theorem Kept.trans {B : Nat} {X Y Z : World} (h : Kept B X Y) (k : Kept B Y Z) : Kept B X Z := fun i h1 h2 => (k i h1 h2).trans (h i h1 h2)
theorem Kept.putObj {B : Nat} (W : World) (l : Nat) (o : Obj) (h : B + 2 ≤ l) : Kept B W (W.putObj l o) := fun k _ h2 => World.putObj_heap_other (by omega)
theorem Kept.below {B : Nat} {W W' : World} (h : Below (B + 2) W W') : Kept B W W' := fun k _ h2 => h.block k h2
theorem Kept.boxed {B : Nat} {W W' : World} (h : Kept B W W') {k : Nat} (h1 : B ≤ k) (h2 : k < B + 2) {t : TypeId} {v : Value} (hb : Boxed W k t v) : Boxed W' k t v := (h k h1 h2).trans hb

/-- A number below n. -/
abbrev Num (n : Nat) : Type := { k : Nat // k < n }
/-- The first k of the numbers below n. -/
def ups (n : Nat) : Nat → List (Num n)
  | 0 => []
  | k + 1 => if h : k < n then ups n k ++ [⟨k, h⟩] else ups n k
theorem ups_succ {n k : Nat} (h : k < n) : ups n (k + 1) = ups n k ++ [⟨k, h⟩] := by simp [ups, h]
theorem ups_val {n : Nat} : ∀ {k : Nat}, k ≤ n → (ups n k).map (·.val) = List.range k
  | 0, _ => rfl
  | k + 1, h => by rw [ups_succ (by omega), List.map_append, ups_val (by omega), List.range_succ]; rfl
theorem ups_length {n k : Nat} (h : k ≤ n) : (ups n k).length = k := by
  have := congrArg List.length (ups_val h)
  simpa using this
/-- What a round is handed: the number to which a byte is brought, the number from which it comes. -/
abbrev handed (n d : Nat) (k : Num n) : Array Value := #[.int .i64 (k.val : Int), .int .i64 (Wv.num n d k.val : Int)]

theorem num_at {n d r t : Nat} (hr : r < d) (ht : t < Wv.cnt n d r) : Wv.num n d (Wv.st n d r + t) = r + d * t := by
  unfold Wv.num Wv.order
  rw [List.getD_eq_getElem?_getD, Wv.orderTo_at ht d hr]
  rfl
theorem st_all {n d : Nat} (hd : 0 < d) : Wv.st n d d = n := Wv.order_length hd
theorem st_le {n d r : Nat} (hd : 0 < d) (hr : r ≤ d) : Wv.st n d r ≤ n := by
  have := Wv.st_mono n d hr
  rwa [st_all hd] at this

set_option maxHeartbeats 2000000 in
theorem weaveIter_in (F : Fence) (m : Nat) (hf : F.fn 49) (hro : F.round = none) (hm : 1 ≤ m) (l B n d : Nat) (hn : n ≤ 600) (hd : 1 ≤ d) (hd16 : d ≤ 16) (J Jx : List (Num n) → World → Prop)
    (hY : ∀ pre x W, J pre W → pre.length < n → YieldAt F (m - 1) Tryd.prog l (handed n d x) W fun e W' =>
      (e = .returned (.bool true) ∧ J (pre ++ [x]) W' ∧ Kept B W W') ∨ (e = .returned (.bool false) ∧ Jx (pre ++ [x]) W'))
    (W : World) (hN : Boxed W B 3 (.int .i64 (n : Int))) (hD : Boxed W (B + 1) 3 (.int .i64 (d : Int))) (h0 : J [] W) :
    CallsIn F m Tryd.prog 49 #[.func (.yield l) #[] #[], .pointer (some ⟨B + 1, 0, none⟩), .pointer (some ⟨B, 0, none⟩)] W fun e W' => (∃ v, e = .returned v) ∧
      ((∃ ys, ys = ups n n ∧ J ys W') ∨ (∃ pre, (∃ k, k ≤ n ∧ pre = ups n k) ∧ Jx pre W')) := by
  refine callsIn_of_wp Tryd.func49 rfl hf ?_ hro
  simp only [Tryd.ntmps49, List.size_toArray, List.length_cons, List.length_nil, Nat.reduceAdd, Nat.reduceSub, Array.replicate_succ, Array.replicate_zero, List.push_toArray, List.append_toArray, List.nil_append, List.cons_append]
  have hDc := hD.cell
  gi_wp2
  gi_loopw [4, 8] (fun q i wr => ∃ r : Nat, r ≤ d ∧ i = .int .i64 (r : Int) ∧ q = .int .i64 (Wv.st n d r : Int) ∧ J (ups n (Wv.st n d r)) wr ∧ Kept B W wr)
    (fun _ i _ => d - (intOf i).toNat)
  case atStart => exact ⟨0, Nat.zero_le _, rfl, rfl, h0, Kept.refl _ _⟩
  case round =>
    obtain ⟨r, hr, rfl, rfl, hJs, hK⟩ := hrel
    by_cases hlt : r < d
    · gi_wp2
      gi_loopw [4, 6] (fun q i wr => ∃ t : Nat, t ≤ Wv.cnt n d r ∧ i = .int .i64 ((r + d * t : Nat) : Int) ∧ q = .int .i64 ((Wv.st n d r + t : Nat) : Int) ∧ J (ups n (Wv.st n d r + t)) wr ∧ Kept B W wr)
        (fun q _ _ => Wv.st n d r + Wv.cnt n d r - (intOf q).toNat)
      case atStart => exact ⟨0, Nat.zero_le _, by simp, by simp, hJs, hK⟩
      case round =>
        obtain ⟨t, ht, rfl, rfl, hJt, hKt⟩ := hrel
        have hNc := (hKt.boxed (Nat.le_refl _) (by omega) hN).cell
        have hDr := (hKt.boxed (by omega) (by omega) hD).cell
        have hst := st_le (n := n) (r := r + 1) (show 0 < d by omega) (by omega)
        rw [Wv.st_succ] at hst
        by_cases hl2 : t < Wv.cnt n d r
        · have hlow := (Wv.cnt_lt (n := n) (r := r) (t := t) (show 0 < d by omega)).1 hl2
          have hnum := num_at (n := n) hlt hl2
          generalize hqe : r + d * t = q at *
          generalize hpe : Wv.st n d r + t = p at *
          have hp : p < n := by omega
          obtain ⟨fn, tmps, assign, body, hy, hR⟩ := hY _ ⟨p, hp⟩ wr hJt (by rw [ups_length (by omega)]; omega)
          dsimp only [handed] at hy
          rw [hnum] at hy
          gi_wp2
          refine hR.mono ?_
          rintro e W3 (⟨rfl, hJ3, hk3⟩ | ⟨rfl, hJx3⟩)
          · have hD3 := ((hKt.trans hk3).boxed (by omega) (by omega) hD).cell
            gi_wp2
            go_roundw
            case rel => exact ⟨t + 1, by omega, by rw [Nat.mul_add, Nat.mul_one, ← Nat.add_assoc, hqe]; go_num, by rw [← Nat.add_assoc, hpe]; go_num, by rw [← Nat.add_assoc, hpe, ups_succ hp]; exact hJ3, hKt.trans hk3⟩
            case measure => simp [intOf]; omega
          · gi_wp2
            refine bodyPost_ret (results_none rfl _ _ _) rfl ?_
            exact ⟨⟨_, rfl⟩, .inr ⟨_, ⟨p + 1, by omega, (ups_succ hp).symm⟩, hJx3⟩⟩
        · obtain rfl : t = Wv.cnt n d r := by omega
          have hup : n ≤ r + d * Wv.cnt n d r := by
            have := (Wv.cnt_lt (n := n) (r := r) (t := Wv.cnt n d r) (show 0 < d by omega))
            omega
          have hle : d * Wv.cnt n d r ≤ d * n := Nat.mul_le_mul_left d (by omega)
          have hle2 : d * n ≤ 16 * 600 := Nat.mul_le_mul hd16 hn
          generalize d * Wv.cnt n d r = q at *
          gi_wp2
          exact ⟨⟨r + 1, by omega, by go_num, by rw [Wv.st_succ], by rw [Wv.st_succ]; exact hJt, hKt⟩, by simp [intOf]; omega⟩
    · obtain rfl : r = d := by omega
      gi_wp2
      go_end0
      exact ⟨⟨_, rfl⟩, .inl ⟨_, by rw [st_all (by omega)], hJs⟩⟩

/-- The iterator stops: all of the numbers, or the first of them where a round has said 'no more'. -/
theorem weave_stops (F : Fence) (m : Nat) (hf : F.fn 49) (hro : F.round = none) (hm : 1 ≤ m) (B n d : Nat) (hn : n ≤ 600) (hd : 1 ≤ d) (hd16 : d ≤ 16) (w : World) (hN : Boxed w B 3 (.int .i64 (n : Int))) (hD : Boxed w (B + 1) 3 (.int .i64 (d : Int))) :
    SeqStopsK F m Tryd.prog 49 #[.pointer (some ⟨B + 1, 0, none⟩), .pointer (some ⟨B, 0, none⟩)] (handed n d) (Kept B) (fun ys => ys = ups n n) (fun pre => ∃ k, k ≤ n ∧ pre = ups n k) n w := fun l J Jx W hW _ _ hY h0 =>
  weaveIter_in F m hf hro hm l B n d hn hd hd16 J Jx hY W ((hW.block B hN.lt).trans hN) ((hW.block (B + 1) hD.lt).trans hD) h0

set_option maxHeartbeats 1000000 in
theorem weave_in (F : Fence) (m : Nat) (hf : F.fn 43) (hro : F.round = none) (n d : Nat) (w : World) :
    CallsIn F m Tryd.prog 43 #[.int .i64 (n : Int), .int .i64 (d : Int)] w fun e w' => e = .returned (.func (.func 49) #[] #[.pointer (some ⟨w.heap.size + 1, 0, none⟩), .pointer (some ⟨w.heap.size, 0, none⟩)]) ∧
      w' = (w.alloc (.cells #[.int .i64 (n : Int)] 3)).alloc (.cells #[.int .i64 (d : Int)] 3) := by
  refine callsIn_of_wp Tryd.func43 rfl hf ?_ hro
  simp only [Tryd.ntmps43, List.size_toArray, List.length_cons, List.length_nil, Nat.reduceAdd, Nat.reduceSub, Array.replicate_succ, Array.replicate_zero, List.push_toArray, List.append_toArray, List.nil_append, List.cons_append]
  gi_wp2
  go_ret
  exact ⟨rfl, rfl⟩

set_option maxHeartbeats 400000 in
theorem weaves_any (s : ByteArray) (d : Int) (w : World) (hs : s.size ≤ 1048576) :
    Calls Tryd.prog 42 #[.string s, .int .i64 d] w fun e w' => e = .returned (.bool (woveOk s d)) ∧ w = w' := by
  by_cases h1 : 1 ≤ d
  · by_cases h2 : d ≤ 16
    · have HE : Hid (woveOk s d = decide ((s.size : Int) ≤ 600)) := by show _ = _; simp [woveOk, inB, h1, h2]; omega
      go_enter Tryd.func42, Tryd.ntmps42
      go_wp2_with fail
      go_ret
      exact ⟨ret_bool HE.out.symm, rfl⟩
    · have HE : Hid (woveOk s d = false) := by show _ = _; simp [woveOk, inB]; omega
      go_enter Tryd.func42, Tryd.ntmps42
      go_wp2_with fail
      go_ret
      exact ⟨ret_bool HE.out.symm, rfl⟩
  · have HE : Hid (woveOk s d = false) := by show _ = _; simp [woveOk, inB]; omega
    go_enter Tryd.func42, Tryd.ntmps42
    go_wp2_with fail
    go_ret
    exact ⟨ret_bool HE.out.symm, rfl⟩
end Go.Proofs.YtbgjagmnpfcfaalDoor
