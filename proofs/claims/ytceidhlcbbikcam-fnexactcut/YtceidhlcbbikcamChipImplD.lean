/- The program's shapes of Jobs: what one is, whether it is taken, what is left of it where power fails. -/
import Derived.Test.YtceidhlcbbikcamChipImplA
import Derived.Test.YtceidhlcbbikcamChipCutS
namespace Go.Proofs.Ytceidhlcbbikcam
open Go.RowKit
set_option linter.unusedVariables false
set_option maxRecDepth 20000

theorem part_low {s : ByteArray} {b : Int} (h : b < 1) : part s b = s.extract 0 1 := by unfold part partN; rw [if_pos h]
theorem part_mid {s : ByteArray} {b : Nat} (h : 1 ≤ b) (h2 : b ≤ s.size) : part s (b : Int) = s.extract 0 b := by
  unfold part partN; rw [if_neg (by omega), if_pos (by omega)]; simp
theorem part_high {s : ByteArray} {b : Int} (h : (s.size : Int) < b) (h1 : 1 ≤ s.size) : part s b = s.extract 0 s.size := by
  unfold part partN; rw [if_neg (by omega), if_neg (by omega)]

set_option maxHeartbeats 800000 in
theorem firstBytes_any (s : ByteArray) (b : Int) (w : World) (h1 : 1 ≤ s.size) (h2 : s.size ≤ 200) : Calls Try.prog 73 #[.string s, .int .i64 b] w fun e w' => e = .returned (.string (part s b)) ∧ w = w' := by
  by_cases c1 : b < 1
  · have HE := hide (part_low (s := s) c1)
    go_enter Try.func73, Try.ntmps73
    go_wp2_with fail
    go_ret
    exact ⟨by rw [HE.out]; rfl, rfl⟩
  · obtain ⟨B, rfl⟩ : ∃ B : Nat, b = (B : Int) := ⟨b.toNat, by omega⟩
    have hB1 : 1 ≤ B := by omega
    by_cases c2 : B ≤ s.size
    · have HE := hide (part_mid hB1 c2)
      go_enter Try.func73, Try.ntmps73
      go_wp2_with fail
      go_ret
      exact ⟨by rw [HE.out]; rfl, rfl⟩
    · have HE := hide (part_high (s := s) (b := (B : Int)) (by omega) h1)
      go_enter Try.func73, Try.ntmps73
      go_wp2_with fail
      go_ret
      exact ⟨by rw [HE.out, ByteArray.extract_zero_size]; rfl, rfl⟩

/-- The shapes. -/
inductive Sh where
  | none | write (s : ByteArray) | wipe | half (b : Int) | spoil
def shV : Sh → Value
  | .none => .nilIface
  | .write s => .iface 104 (.agg #[.string s])
  | .wipe => .iface 106 (.agg #[])
  | .half b => .iface 108 (.agg #[.int .i64 b])
  | .spoil => .iface 109 (.agg #[])
def shOf (kd : Int) (tx : ByteArray) : Sh := if kd = 1 then .write tx else if kd = 2 then .wipe else if kd = 3 then .spoil else .none

/-! ### The type switches -/
theorem Try.asWrWr (v : Value) (w : World) : (Instr.typeAssert (.iface 104 v) 61 104 true).run Try.prog w = .ok (.tuple #[v, .bool true]) w := by kernel_rfl
theorem Try.asWrWi (v : Value) (w : World) : (Instr.typeAssert (.iface 104 v) 61 106 true).run Try.prog w = .ok (.tuple #[.agg #[], .bool false]) w := by kernel_rfl
theorem Try.asWrHa (v : Value) (w : World) : (Instr.typeAssert (.iface 104 v) 61 108 true).run Try.prog w = .ok (.tuple #[.agg #[.int .i64 0], .bool false]) w := by kernel_rfl
theorem Try.asWrSp (v : Value) (w : World) : (Instr.typeAssert (.iface 104 v) 61 109 true).run Try.prog w = .ok (.tuple #[.agg #[], .bool false]) w := by kernel_rfl
theorem Try.asWiWr (v : Value) (w : World) : (Instr.typeAssert (.iface 106 v) 61 104 true).run Try.prog w = .ok (.tuple #[.agg #[.string ByteArray.empty], .bool false]) w := by kernel_rfl
theorem Try.asWiWi (v : Value) (w : World) : (Instr.typeAssert (.iface 106 v) 61 106 true).run Try.prog w = .ok (.tuple #[v, .bool true]) w := by kernel_rfl
theorem Try.asWiHa (v : Value) (w : World) : (Instr.typeAssert (.iface 106 v) 61 108 true).run Try.prog w = .ok (.tuple #[.agg #[.int .i64 0], .bool false]) w := by kernel_rfl
theorem Try.asWiSp (v : Value) (w : World) : (Instr.typeAssert (.iface 106 v) 61 109 true).run Try.prog w = .ok (.tuple #[.agg #[], .bool false]) w := by kernel_rfl
theorem Try.asHaWr (v : Value) (w : World) : (Instr.typeAssert (.iface 108 v) 61 104 true).run Try.prog w = .ok (.tuple #[.agg #[.string ByteArray.empty], .bool false]) w := by kernel_rfl
theorem Try.asHaWi (v : Value) (w : World) : (Instr.typeAssert (.iface 108 v) 61 106 true).run Try.prog w = .ok (.tuple #[.agg #[], .bool false]) w := by kernel_rfl
theorem Try.asHaHa (v : Value) (w : World) : (Instr.typeAssert (.iface 108 v) 61 108 true).run Try.prog w = .ok (.tuple #[v, .bool true]) w := by kernel_rfl
theorem Try.asHaSp (v : Value) (w : World) : (Instr.typeAssert (.iface 108 v) 61 109 true).run Try.prog w = .ok (.tuple #[.agg #[], .bool false]) w := by kernel_rfl
theorem Try.asSpWr (v : Value) (w : World) : (Instr.typeAssert (.iface 109 v) 61 104 true).run Try.prog w = .ok (.tuple #[.agg #[.string ByteArray.empty], .bool false]) w := by kernel_rfl
theorem Try.asSpWi (v : Value) (w : World) : (Instr.typeAssert (.iface 109 v) 61 106 true).run Try.prog w = .ok (.tuple #[.agg #[], .bool false]) w := by kernel_rfl
theorem Try.asSpHa (v : Value) (w : World) : (Instr.typeAssert (.iface 109 v) 61 108 true).run Try.prog w = .ok (.tuple #[.agg #[.int .i64 0], .bool false]) w := by kernel_rfl
theorem Try.asSpSp (v : Value) (w : World) : (Instr.typeAssert (.iface 109 v) 61 109 true).run Try.prog w = .ok (.tuple #[v, .bool true]) w := by kernel_rfl
theorem Try.asNoWr (w : World) : (Instr.typeAssert .nilIface 61 104 true).run Try.prog w = .ok (.tuple #[.agg #[.string ByteArray.empty], .bool false]) w := by kernel_rfl
theorem Try.asNoWi (w : World) : (Instr.typeAssert .nilIface 61 106 true).run Try.prog w = .ok (.tuple #[.agg #[], .bool false]) w := by kernel_rfl
theorem Try.asNoHa (w : World) : (Instr.typeAssert .nilIface 61 108 true).run Try.prog w = .ok (.tuple #[.agg #[.int .i64 0], .bool false]) w := by kernel_rfl
theorem Try.asNoSp (w : World) : (Instr.typeAssert .nilIface 61 109 true).run Try.prog w = .ok (.tuple #[.agg #[], .bool false]) w := by kernel_rfl

set_option maxHeartbeats 800000 in
theorem shapeOf_any (kd sq : Int) (tx : ByteArray) (w : World) : Calls Try.prog 71 #[.agg #[.int .i64 kd, .int .i64 sq, .string tx]] w fun e w' => e = .returned (shV (shOf kd tx)) ∧ Below w.heap.size w w' := by
  have HB := hide ((Below.refl w.heap.size w).alloc (Nat.le_refl _) (.cells #[.int .i64 kd, .int .i64 sq, .string tx] 34))
  by_cases h1 : kd = 1
  · subst h1
    go_enter Try.func71, Try.ntmps71
    go_wp2_with fail
    go_ret
    exact ⟨rfl, HB.out⟩
  · by_cases h2 : kd = 2
    · subst h2
      go_enter Try.func71, Try.ntmps71
      go_wp2_with fail
      go_ret
      exact ⟨rfl, HB.out⟩
    · by_cases h3 : kd = 3
      · subst h3
        go_enter Try.func71, Try.ntmps71
        go_wp2_with fail
        go_ret
        exact ⟨rfl, HB.out⟩
      · have g1 : (kd == 1) = false := by simpa using h1
        have g2 : (kd == 2) = false := by simpa using h2
        have g3 : (kd == 3) = false := by simpa using h3
        have HE : Hid (shV (shOf kd tx) = .nilIface) := by show _ = _; unfold shOf; rw [if_neg h1, if_neg h2, if_neg h3]; rfl
        go_enter Try.func71, Try.ntmps71
        go_wp2_with fail
        go_ret
        exact ⟨by rw [HE.out]; rfl, HB.out⟩

/-- Is a shape taken? -/
def takesS (z : Int) (q : Sq) : Sh → Bool
  | .write s => decide ((q.1.length : Int) < z) && txOk s
  | .wipe => decide (q.2.1 < 1000000)
  | .spoil => true
  | _ => false
theorem takesS_of (z : Int) (q : Sq) (kd : Int) (tx : ByteArray) : takesS z q (shOf kd tx) = canK z q kd tx := by
  unfold shOf canK
  by_cases h1 : kd = 1
  · rw [if_pos h1, if_pos h1]; rfl
  · rw [if_neg h1, if_neg h1]
    by_cases h2 : kd = 2
    · rw [if_pos h2, if_pos h2]; rfl
    · rw [if_neg h2, if_neg h2]
      by_cases h3 : kd = 3
      · rw [if_pos h3, decide_eq_true h3]; rfl
      · rw [if_neg h3, decide_eq_false h3]; rfl

set_option maxHeartbeats 1600000 in
theorem takes_any (a : Option Addr) (cap : Nat) (q : Sq) (z : Int) (sh : Sh) (w : World) (hl : q.1.length ≤ 8) (hs : ∀ s, sh = .write s → s.size ≤ maxLen) :
    Calls Try.prog 72 #[.agg #[.slice a q.1.length cap, .int .i64 q.2.1, .bool q.2.2], .int .i64 z, shV sh] w fun e w' => e = .returned (.bool (!q.2.2 && takesS z q sh)) ∧ Below w.heap.size w w' := by
  obtain ⟨ts, zw, bd⟩ := q
  dsimp only at hl ⊢
  obtain ⟨wA, hwA⟩ : ∃ wA, wA = w.alloc (.cells #[.slice a ts.length cap, .int .i64 zw, .bool bd] 68) := ⟨_, rfl⟩
  have hzA : wA.heap.size = w.heap.size + 1 := by rw [hwA]; simp
  have HBA : Hid (Below w.heap.size w wA) := by rw [hwA]; exact (Below.refl _ _).alloc (Nat.le_refl _) _
  have H1 : Hid (wA.heap[w.heap.size]? = some (.cells #[.slice a ts.length cap, .int .i64 zw, .bool bd] 68)) := by rw [hwA]; exact heap_new _ _
  obtain ⟨c0, c1, c2⟩ := three_cells H1.out
  cases bd with
  | true =>
    go_enter Try.func72, Try.ntmps72
    go_wp2_with fail
    rw [← hwA]
    go_ret
    exact ⟨rfl, HBA.out⟩
  | false =>
    cases sh with
    | none =>
      have q0 := Try.asNoWr
      have q1 := Try.asNoWi
      have q2 := Try.asNoSp
      go_enter Try.func72, Try.ntmps72
      unfold shV
      go_wp2_with fail
      rw [← hwA]
      go_ret
      exact ⟨rfl, HBA.out⟩
    | write s =>
      have q0 := Try.asWrWr (.agg #[.string s])
      have hs' := hs s rfl
      have HB2 := hide ((Below.refl wA.heap.size wA).alloc (Nat.le_refl _) (.cells #[.string s] 104))
      have c0' := (HB2.out.cell (p := ⟨w.heap.size, 0, none⟩) (by show w.heap.size < _; omega)).trans c0
      by_cases hlt : (ts.length : Int) < z
      · have g1 : decide ((ts.length : Int) < z) = true := by simpa using hlt
        have HE : Hid ((!false && takesS z (ts, zw, false) (.write s)) = txOk s) := by show _ = _; unfold takesS; rw [g1]; rfl
        go_enter Try.func72, Try.ntmps72
        unfold shV
        go_upto_region 1 with fail
        rw [← hwA]
        clear hwA
        go_wp2_with fail
        refine (canBeWritten_any s _ hs').mono ?_
        rintro e w1 ⟨rfl, rfl⟩
        go_wp2_with fail
        go_ret
        exact ⟨ret_bool HE.out.symm, below_here HBA.out HB2.out⟩
      · have g1 : decide ((ts.length : Int) < z) = false := by simpa using hlt
        have HE : Hid ((!false && takesS z (ts, zw, false) (.write s)) = false) := by show _ = _; unfold takesS; rw [g1]; rfl
        go_enter Try.func72, Try.ntmps72
        unfold shV
        go_upto_region 1 with fail
        rw [← hwA]
        clear hwA
        go_wp2_with fail
        go_ret
        exact ⟨ret_bool HE.out.symm, below_here HBA.out HB2.out⟩
    | wipe =>
      have q0 := Try.asWiWr (.agg #[])
      have q1 := Try.asWiWi (.agg #[])
      have HB2 := hide ((Below.refl wA.heap.size wA).alloc (Nat.le_refl _) (.cells #[] 106))
      have c1' := (HB2.out.cell (p := ⟨w.heap.size, 1, none⟩) (by show w.heap.size < _; omega)).trans c1
      go_enter Try.func72, Try.ntmps72
      unfold shV
      go_upto_region 1 with fail
      rw [← hwA]
      clear hwA
      go_wp2_with fail
      go_ret
      exact ⟨rfl, below_here HBA.out HB2.out⟩
    | half b =>
      have q0 := Try.asHaWr (.agg #[.int .i64 b])
      have q1 := Try.asHaWi (.agg #[.int .i64 b])
      have q2 := Try.asHaSp (.agg #[.int .i64 b])
      go_enter Try.func72, Try.ntmps72
      unfold shV
      go_wp2_with fail
      rw [← hwA]
      go_ret
      exact ⟨rfl, HBA.out⟩
    | spoil =>
      have q0 := Try.asSpWr (.agg #[])
      have q1 := Try.asSpWi (.agg #[])
      have q2 := Try.asSpSp (.agg #[])
      have HB2 := hide ((Below.refl wA.heap.size wA).alloc (Nat.le_refl _) (.cells #[] 109))
      go_enter Try.func72, Try.ntmps72
      unfold shV
      go_upto_region 1 with fail
      rw [← hwA]
      clear hwA
      go_wp2_with fail
      go_ret
      exact ⟨rfl, below_here HBA.out HB2.out⟩
end Go.Proofs.Ytceidhlcbbikcam
