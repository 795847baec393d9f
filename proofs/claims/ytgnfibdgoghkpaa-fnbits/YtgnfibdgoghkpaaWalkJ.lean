/- The walk of joined. -/
import Derived.Test.YtgnfibdgoghkpaaOctet
import Derived.Test.YtgnfibdgoghkpaaBytesBase
namespace Go.Proofs.Ytgnfibdgoghkpaa
open Go.RowKit
set_option linter.unusedVariables false

/-- Bits as a number, the highest first. -/
def jn (l : List Int) : Int := l.foldl (fun b x => 2 * b + x) 0
theorem jn_snoc (l : List Int) (x : Int) : jn (l ++ [x]) = 2 * jn l + x := by simp [jn]
theorem jn_bd {l : List Int} (h : l.all bit = true) : ∀ k, k ≤ l.length → 0 ≤ jn (l.take k) ∧ jn (l.take k) < 2 ^ k
  | 0, _ => by simp [jn]
  | k + 1, hk => by
    have ih := jn_bd h k (by omega)
    have hb := bit_bd (bit_at h k)
    rw [take_snoc l k (by omega), jn_snoc, Int.pow_succ]
    omega
theorem or_bit_all : ∀ s : Fin 128, ((s.val * 2) ||| 1) = 2 * s.val + 1 := by decide +kernel
theorem or_bit (s x : Int) (h0 : 0 ≤ s) (h1 : s < 128) (x0 : 0 ≤ x) (x1 : x ≤ 1) : bits .or .u8 (s * 2) x = 2 * s + x := by
  rw [u8_or _ _ (by omega) (by omega) (by omega) (by omega)]
  obtain ⟨n, rfl⟩ := Int.eq_ofNat_of_zero_le h0
  have hn : n < 128 := by omega
  have e : ((n : Int) * 2).toNat = n * 2 := by omega
  rw [e]
  rcases (show x = 0 ∨ x = 1 by omega) with rfl | rfl
  · simp; omega
  · have := or_bit_all ⟨n, hn⟩
    simp only at this
    rw [show (1 : Int).toNat = 1 from rfl, this]; omega

set_option maxHeartbeats 800000 in
theorem joined_any (x0 x1 x2 x3 x4 x5 x6 x7 : Int) (w : World) (hall : [x0, x1, x2, x3, x4, x5, x6, x7].all bit = true) :
    Calls Try.prog 37 #[oct x0 x1 x2 x3 x4 x5 x6 x7] w fun e w' => e = .returned (.int .u8 (jn [x0, x1, x2, x3, x4, x5, x6, x7])) ∧ Below w.heap.size w w' := by
  have e0 : ∀ w, (Instr.index 52 (.agg #[.int .i64 x0, .int .i64 x1, .int .i64 x2, .int .i64 x3, .int .i64 x4, .int .i64 x5, .int .i64 x6, .int .i64 x7]) (.int .i64 0)).run Try.prog w = .ok (.int .i64 x0) w := fun _ => by kernel_rfl
  have e1 : ∀ w, (Instr.index 52 (.agg #[.int .i64 x0, .int .i64 x1, .int .i64 x2, .int .i64 x3, .int .i64 x4, .int .i64 x5, .int .i64 x6, .int .i64 x7]) (.int .i64 1)).run Try.prog w = .ok (.int .i64 x1) w := fun _ => by kernel_rfl
  have e2 : ∀ w, (Instr.index 52 (.agg #[.int .i64 x0, .int .i64 x1, .int .i64 x2, .int .i64 x3, .int .i64 x4, .int .i64 x5, .int .i64 x6, .int .i64 x7]) (.int .i64 2)).run Try.prog w = .ok (.int .i64 x2) w := fun _ => by kernel_rfl
  have e3 : ∀ w, (Instr.index 52 (.agg #[.int .i64 x0, .int .i64 x1, .int .i64 x2, .int .i64 x3, .int .i64 x4, .int .i64 x5, .int .i64 x6, .int .i64 x7]) (.int .i64 3)).run Try.prog w = .ok (.int .i64 x3) w := fun _ => by kernel_rfl
  have e4 : ∀ w, (Instr.index 52 (.agg #[.int .i64 x0, .int .i64 x1, .int .i64 x2, .int .i64 x3, .int .i64 x4, .int .i64 x5, .int .i64 x6, .int .i64 x7]) (.int .i64 4)).run Try.prog w = .ok (.int .i64 x4) w := fun _ => by kernel_rfl
  have e5 : ∀ w, (Instr.index 52 (.agg #[.int .i64 x0, .int .i64 x1, .int .i64 x2, .int .i64 x3, .int .i64 x4, .int .i64 x5, .int .i64 x6, .int .i64 x7]) (.int .i64 5)).run Try.prog w = .ok (.int .i64 x5) w := fun _ => by kernel_rfl
  have e6 : ∀ w, (Instr.index 52 (.agg #[.int .i64 x0, .int .i64 x1, .int .i64 x2, .int .i64 x3, .int .i64 x4, .int .i64 x5, .int .i64 x6, .int .i64 x7]) (.int .i64 6)).run Try.prog w = .ok (.int .i64 x6) w := fun _ => by kernel_rfl
  have e7 : ∀ w, (Instr.index 52 (.agg #[.int .i64 x0, .int .i64 x1, .int .i64 x2, .int .i64 x3, .int .i64 x4, .int .i64 x5, .int .i64 x6, .int .i64 x7]) (.int .i64 7)).run Try.prog w = .ok (.int .i64 x7) w := fun _ => by kernel_rfl
  have hidx : ∀ k, k < 8 → ∀ w, (Instr.index 52 (.agg #[.int .i64 x0, .int .i64 x1, .int .i64 x2, .int .i64 x3, .int .i64 x4, .int .i64 x5, .int .i64 x6, .int .i64 x7]) (.int .i64 (k : Nat))).run Try.prog w = .ok (.int .i64 ([x0, x1, x2, x3, x4, x5, x6, x7].getD k 0)) w := by
    intro k hk w
    match k, hk with
    | 0, _ => exact e0 w
    | 1, _ => exact e1 w
    | 2, _ => exact e2 w
    | 3, _ => exact e3 w
    | 4, _ => exact e4 w
    | 5, _ => exact e5 w
    | 6, _ => exact e6 w
    | 7, _ => exact e7 w
  clear e0 e1 e2 e3 e4 e5 e6 e7
  obtain ⟨X, hX⟩ : ∃ X, X = [x0, x1, x2, x3, x4, x5, x6, x7] := ⟨_, rfl⟩
  have hXl : X.length = 8 := by rw [hX]; rfl
  have HXL := hide hXl
  rw [← hX] at hidx hall
  have HID := hide hidx
  have HALL := hide hall
  have HX := hide hX
  rw [← hX]
  unfold oct
  clear hX hidx hall hXl
  go_enter Try.func37, Try.ntmps37
  go_wp2
  go_loop [3, 7] (fun t i => ∃ k : Nat, k ≤ 8 ∧ i = .int .i64 k ∧ t = .int .u8 (jn (X.take k))) (fun _ i => 8 - (intOf i).toNat)
  case atStart => exact ⟨0, Nat.zero_le _, rfl, rfl⟩
  case round =>
    obtain ⟨k, hk, rfl, rfl⟩ := hrel
    obtain ⟨s, hs⟩ : ∃ s, s = jn (X.take k) := ⟨_, rfl⟩
    have hb := jn_bd HALL.out k (by rw [HXL.out]; exact hk)
    rw [← hs] at hb ⊢
    have HS := hide hs
    clear hs
    by_cases hlt : k < 8
    · have hix := HID.out k hlt
      have hbit := bit_bd (bit_at HALL.out k)
      obtain ⟨z, hz⟩ : ∃ z, z = X.getD k 0 := ⟨_, rfl⟩
      rw [← hz] at hix hbit
      have HZ := hide hz
      obtain ⟨z0, z1⟩ := hbit
      have s0 := hb.1
      have s1 : s < 128 := by
        have h2 := hb.2
        have : (2 : Int) ^ k ≤ 2 ^ 7 := by exact_mod_cast Nat.pow_le_pow_right (by omega) (show k ≤ 7 by omega)
        omega
      clear hb hz
      go_wp2
      go_round
      case rel => exact ⟨k + 1, by omega, by go_num, by rw [or_bit s z s0 s1 z0 z1, take_snoc X k (by rw [HXL.out]; exact hlt), jn_snoc, ← HS.out, ← HZ.out]⟩
      case measure => simp [intOf]; omega
    · clear hb
      go_wp2
      go_ret
      exact ⟨ret_u8 (by rw [HS.out, List.take_of_length_le (by rw [HXL.out]; omega)]), (Below.refl _ _).alloc (Nat.le_refl _) _⟩
end Go.Proofs.Ytgnfibdgoghkpaa
