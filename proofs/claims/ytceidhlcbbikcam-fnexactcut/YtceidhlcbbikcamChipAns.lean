/- Chips that are answered: Squares of one's own, or none at all. -/
import Derived.Test.YtceidhlcbbikcamChipEq
import Derived.Test.YtceidhlcbbikcamChipImplB
import Derived.Test.YtceidhlcbbikcamChipGrow
namespace Go.Proofs.Ytceidhlcbbikcam
open Go.RowKit
set_option linter.unusedVariables false
set_option maxRecDepth 20000

theorem text_weight {qs : List Sq} {x : Sq} (hx : x ∈ qs) {s : ByteArray} (hs : s ∈ x.1) : s.size ≤ weight qs := by
  obtain ⟨k, hk, rfl⟩ := List.getElem_of_mem hx
  have h1 := weight_take qs k hk
  have h2 : weight (qs.take (k + 1)) ≤ weight qs := by
    unfold weight
    conv => rhs; rw [← List.take_append_drop (k + 1) qs, List.map_append, List.sum_append]
    omega
  have e : sqAt qs k = qs[k] := by unfold sqAt; rw [List.getD_eq_getElem?_getD, List.getElem?_eq_getElem hk]; rfl
  rw [e] at h1
  have h3 := total_le hs
  omega

def AnsQ (lo hi : Nat) (w : World) (a : Option Addr) (n : Nat) (qs : List Sq) : Prop := hi ≤ w.heap.size ∧ ((n = 0 ∧ qs = []) ∨ OwnSquares lo hi w a n qs)
section
variable {lo hi n : Nat} {w w' : World} {a : Option Addr} {qs : List Sq}
theorem AnsQ.squares (h : AnsQ lo hi w a n qs) : Squares lo hi w a n qs := by
  obtain ⟨h1, ⟨rfl, rfl⟩ | h2⟩ := h
  · exact ⟨rfl, fun _ => none, fun _ => 0, ⟨h1, fun h => absurd h (by omega)⟩, fun i hi => absurd hi (by omega)⟩
  · exact h2.squares
theorem AnsQ.later (h : AnsQ lo hi w a n qs) {B : Nat} (hb : Below B w w') (hB : hi ≤ B) : AnsQ lo hi w' a n qs :=
  ⟨Nat.le_trans h.1 hb.size, h.2.elim .inl (fun h => .inr (h.later hb hB))⟩
theorem AnsQ.aside (h : AnsQ lo hi w a n qs) {l r : Nat} (hb : Aside l r w w') (hB : r ≤ lo ∨ hi ≤ l) : AnsQ lo hi w' a n qs :=
  ⟨Nat.le_trans h.1 hb.size, h.2.elim .inl (fun h => .inr (h.aside hb hB))⟩
theorem AnsQ.wide (h : AnsQ lo hi w a n qs) {lo' hi' : Nat} (h1 : lo' ≤ lo) (h2 : hi ≤ hi') (h3 : hi' ≤ w.heap.size) : AnsQ lo' hi' w a n qs :=
  ⟨h3, h.2.elim .inl (fun h => .inr (h.wide h1 h2 h3))⟩
theorem AnsQ.none_ (w : World) (lo : Nat) (a : Option Addr) : AnsQ lo w.heap.size w a 0 [] := ⟨Nat.le_refl _, .inl ⟨rfl, rfl⟩⟩
end
/-- A Chip answered: its value, where it lies, and that nothing else was written. -/
def ChipAns (w : World) (z : Int) (qs : List Sq) (v : Value) (w' : World) : Prop := ∃ a c, v = .agg #[.int .i64 z, .slice a qs.length c] ∧ AnsQ w.heap.size w'.heap.size w' a qs.length qs ∧ Below w.heap.size w w'

set_option maxHeartbeats 400000 in
theorem markSquareS_nil (a : Option Addr) (cap : Nat) (w : World) : Calls Try.prog 45 #[.slice a 0 cap, .int .i64 1] w fun e w' => e = .returned (.int .i64 1) ∧ w = w' := by
  go_enter Try.func45, Try.ntmps45
  go_wp2_with fail
  go_loopw [1, 5] (fun q i wr => q = .int .i64 1 ∧ i = .int .i64 0 ∧ w = wr) (fun _ _ _ => 0)
  case atStart => exact ⟨rfl, rfl, rfl⟩
  case round =>
    obtain ⟨rfl, rfl, rfl⟩ := hrel
    go_wp2_with fail
    go_ret
    exact ⟨rfl, rfl⟩
theorem markChip_nil (z : Int) (a : Option Addr) (cap : Nat) (w : World) : Calls Try.prog 16 #[.agg #[.int .i64 z, .slice a 0 cap], .int .i64 1] w fun e w' => e = .returned (.int .i64 1) ∧ Below w.heap.size w w' := by
  obtain ⟨wA, hwA⟩ : ∃ wA, wA = w.alloc (.cells #[.int .i64 z, .slice a 0 cap] 31) := ⟨_, rfl⟩
  have HBA : Hid (Below w.heap.size w wA) := by rw [hwA]; exact (Below.refl _ _).alloc (Nat.le_refl _) _
  go_enter Try.func16, Try.ntmps16
  go_wp2_with fail
  rw [← hwA]
  clear hwA
  refine (markSquareS_nil a cap wA).mono ?_
  rintro e w1 ⟨rfl, rfl⟩
  go_wp2_with fail
  go_ret
  exact ⟨rfl, HBA.out⟩
theorem markChip_ans (z : Int) (a : Option Addr) (n cap : Nat) (qs : List Sq) (w : World) {lo hi : Nat} (h : AnsQ lo hi w a n qs) (hfit : n + weight qs ≤ 1048576) :
    Calls Try.prog 16 #[.agg #[.int .i64 z, .slice a n cap], .int .i64 1] w fun e w' => e = .returned (.int .i64 ((1 + lens qs + 2 * n : Nat) : Int)) ∧ AnsQ lo hi w' a n (sqMark qs 1) ∧ Aside lo hi w w' := by
  obtain ⟨h1, ⟨rfl, rfl⟩ | ⟨g, off, A, C, P, h2⟩⟩ := h
  · refine (markChip_nil z a cap w).mono ?_
    rintro e w1 ⟨rfl, b1⟩
    exact ⟨rfl, ⟨Nat.le_trans h1 b1.size, .inl ⟨rfl, rfl⟩⟩, aside_new b1⟩
  · refine (markChip_any z a n cap qs w h2 hfit).mono ?_
    rintro e w1 ⟨rfl, h3, h4⟩
    exact ⟨rfl, ⟨Nat.le_trans h1 h4.size, .inr ⟨g, off, A, C, P, h3⟩⟩, h4⟩

/-- What NewChip tells. -/
def newOk (q z : Int) : Bool := inB q 1 12 && inB z 1 8
def newZ (q z : Int) : Int := if newOk q z then z else 0
def newQ (q z : Int) : List Sq := if newOk q z then List.replicate q.toNat ([], 0, false) else []
theorem newOk_nat {q z : Int} (h : newOk q z = true) : ∃ n : Nat, q = (n : Int) ∧ 1 ≤ n ∧ n ≤ 12 ∧ inB z 1 8 = true := by
  unfold newOk at h
  simp only [Bool.and_eq_true] at h
  obtain ⟨h1, h2⟩ := h
  have h3 := h1
  unfold inB at h3
  simp only [Bool.and_eq_true, decide_eq_true_eq] at h3
  exact ⟨q.toNat, by omega, by omega, by omega, h2⟩
theorem newQ_fit (q z : Int) : (newQ q z).length + weight (newQ q z) ≤ 1048576 := by
  unfold newQ
  cases h : newOk q z with
  | true =>
    obtain ⟨n, rfl, h1, h2, h3⟩ := newOk_nat h
    simp only [if_true]
    have : weight (List.replicate n (([], 0, false) : Sq)) = 0 := by
      unfold weight
      rw [List.map_replicate]
      simp [total]
    simp [this]
    omega
  | false => simp [weight]
end Go.Proofs.Ytceidhlcbbikcam
