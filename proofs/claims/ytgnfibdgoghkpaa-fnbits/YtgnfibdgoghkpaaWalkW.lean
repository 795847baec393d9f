/- The walk of withBytes. -/
import Derived.Test.YtgnfibdgoghkpaaWalkO
namespace Go.Proofs.Ytgnfibdgoghkpaa
open Go.RowKit
set_option linter.unusedVariables false

/-- The bits of bytes. -/
def bitsL (l : List UInt8) : List Int := l.flatMap fun b => bits8 b.toNat
theorem bitsL_length (l : List UInt8) : (bitsL l).length = 8 * l.length := by
  induction l with
  | nil => rfl
  | cons b l ih => simp only [bitsL, List.flatMap_cons, List.length_append] at ih ⊢; rw [ih]; simp [bits8]; omega
theorem bitsL_snoc (l : List UInt8) (b : UInt8) : bitsL (l ++ [b]) = bitsL l ++ bits8 b.toNat := by simp [bitsL, List.flatMap_append]
theorem take_snocB (s : ByteArray) (k : Nat) (h : k < s.size) : s.data.toList.take (k + 1) = s.data.toList.take k ++ [s[k]] := by
  rw [List.take_succ_eq_append_getElem (by simpa using h)]; rfl

/-- A row of int64 that begins with a list. -/
def Head (w : World) (g N : Nat) (L : List Int) : Prop := ∃ f, w.rowIs g 2 N f ∧ ∀ i, i < L.length → f i = cellI L i
theorem Head.aside {w w' : World} {g N : Nat} {L : List Int} (h : Head w g N L) {l r : Nat} (hb : Aside l r w w') (hB : g < l ∨ r ≤ g) : Head w' g N L := by
  obtain ⟨f, h1, h2⟩ := h; exact ⟨f, row_aside h1 hb hB, h2⟩
theorem Head.below {w w' : World} {g N : Nat} {L : List Int} (h : Head w g N L) {B : Nat} (hb : Below B w w') (hB : g < B) : Head w' g N L := by
  obtain ⟨f, h1, h2⟩ := h; exact ⟨f, row_of_block h1 hb hB, h2⟩
theorem Head.lt {w : World} {g N : Nat} {L : List Int} (h : Head w g N L) : g < w.heap.size := by obtain ⟨f, h1, _⟩ := h; exact h1.lt
theorem Head.alloc {w : World} {g N : Nat} {L : List Int} (h : Head w g N L) (o : Obj) : Head (w.alloc o) g N L := by obtain ⟨f, h1, h2⟩ := h; exact ⟨f, h1.alloc o, h2⟩
theorem Aside.of_below {w w' : World} (h : Below w.heap.size w w') (lo hi : Nat) : Aside lo hi w w' := ⟨h.os, h.tape, h.output, h.size, fun k hk _ => h.block k hk⟩

theorem oct_reads (w : World) (t : Nat) (x0 x1 x2 x3 x4 x5 x6 x7 : Int) : Reads w.heap.size (w.heap.size + 1) (w.alloc (.cells #[.int .i64 x0, .int .i64 x1, .int .i64 x2, .int .i64 x3, .int .i64 x4, .int .i64 x5, .int .i64 x6, .int .i64 x7] t)) (some ⟨w.heap.size, 0, none⟩) 8 (cellI [x0, x1, x2, x3, x4, x5, x6, x7]) :=
  (owned_of_row (row_of_oct w t x0 x1 x2 x3 x4 x5 x6 x7) (Nat.le_refl _) (Nat.lt_succ_self _) (by simp)).reads

/-- Eight more at the end of a list that a row begins with. -/
theorem head_eight {P : Program} (w : World) (t : TypeId) (hu : P.underlying t = some (.slice 2)) (hs : (P.info? 2).map (·.size) = some 1) (g N m : Nat) (L : List Int) (h : Head w g N L) (hm : L.length = m) (hroom : m + 8 ≤ N) (x0 x1 x2 x3 x4 x5 x6 x7 : Int) (T : Nat) :
    ∃ w1, (Builtin.append_ #[t, t] t #[.slice (some ⟨g, 0, none⟩) m N, .slice (some ⟨w.heap.size, 0, none⟩) 8 8]).run P (w.alloc (.cells #[.int .i64 x0, .int .i64 x1, .int .i64 x2, .int .i64 x3, .int .i64 x4, .int .i64 x5, .int .i64 x6, .int .i64 x7] T)) = .ok (.slice (some ⟨g, 0, none⟩) (m + 8) N) w1 ∧
      Head w1 g N (L ++ [x0, x1, x2, x3, x4, x5, x6, x7]) ∧ Aside g (g + 1) w w1 := by
  obtain ⟨f, h1, h2⟩ := h
  obtain ⟨w1, e1, r1, s1⟩ := append_row (P := P) _ t t 2 hu hs g m N f _ (h1.alloc (.cells #[.int .i64 x0, .int .i64 x1, .int .i64 x2, .int .i64 x3, .int .i64 x4, .int .i64 x5, .int .i64 x6, .int .i64 x7] T)) _ 8 8 _ _ (oct_reads w T x0 x1 x2 x3 x4 x5 x6 x7) (by omega) hroom (fun _ _ => rfl)
  refine ⟨w1, e1, ⟨_, r1, fun i hi => ?_⟩, (Aside.of_below ((Below.refl _ _).alloc (Nat.le_refl _) _) _ _).trans s1⟩
  rw [List.length_append] at hi
  by_cases e : i < m
  · rw [if_neg (by omega), h2 i (by omega)]
    simp only [cellI, List.getD_eq_getElem?_getD]
    rw [List.getElem?_append_left (by omega)]
  · rw [if_pos (by simp at hi; omega)]
    simp only [cellI, List.getD_eq_getElem?_getD]
    rw [List.getElem?_append_right (by omega), hm]

set_option maxHeartbeats 800000 in
theorem withBytes_any (g m N : Nat) (L : List Int) (s : ByteArray) (w : World) (h : Head w g N L) (hm : L.length = m) (hroom : m + 8 * s.size ≤ N) (hN : N ≤ 1048576) :
    Calls Try.prog 30 #[.slice (some ⟨g, 0, none⟩) m N, .string s] w fun e w' => e = .returned (.slice (some ⟨g, 0, none⟩) (m + 8 * s.size) N) ∧ Head w' g N (L ++ bitsL s.data.toList) ∧ Aside g (g + 1) w w' := by
  have HM := hide hm
  clear hm
  go_enter Try.func30, Try.ntmps30
  go_wp2
  go_loopw [0, 9] (fun v i wr => ∃ k M : Nat, k ≤ s.size ∧ i = .int .i64 k ∧ Hid (M = m + 8 * k) ∧ v = .slice (some ⟨g, 0, none⟩) M N ∧ Head wr g N (L ++ bitsL (s.data.toList.take k)) ∧ Aside g (g + 1) w wr) (fun _ i _ => s.size - (intOf i).toNat)
  case atStart => exact ⟨0, m, Nat.zero_le _, rfl, rfl, rfl, by simpa [bitsL] using h, Aside.refl _ _ _⟩
  case round =>
    obtain ⟨k, M, hk, rfl, HK, rfl, hh, ha⟩ := hrel
    by_cases hlt : k < s.size
    · have H := hide hh
      have HA := hide ha
      have hroom' : M + 8 ≤ N := by have := HK.out; omega
      clear hh ha h
      go_wp2_with fail
      refine (octetOf_any s[k] wr).mono ?_
      rintro e w1 ⟨rfl, b1⟩
      unfold oct
      obtain ⟨w2, hap, hh2, ha2⟩ := head_eight (P := Try.prog) w1 25 Try.underlying25 Try.sizeI64 g N M _ (H.out.below b1 H.out.lt) (by rw [List.length_append, bitsL_length, HM.out, List.length_take, HK.out]; simp; omega) hroom' (bitOf s[k].toNat 0) (bitOf s[k].toNat 1) (bitOf s[k].toNat 2) (bitOf s[k].toNat 3) (bitOf s[k].toNat 4) (bitOf s[k].toNat 5) (bitOf s[k].toNat 6) (bitOf s[k].toNat 7) 52
      have HAP := hide hap
      have H2 := hide hh2
      have HA2 := hide ((HA.out.trans (Aside.of_below b1 _ _)).trans ha2)
      clear hap hh2 ha2 b1 H HA
      go_wp2_with (at_builtin; refine wpList_append_eq rfl (.tmp 16) (.tmp 17) 25 rfl _ _ _ w2 rfl rfl HAP.out ?_)
      go_roundw
      case rel => exact ⟨k + 1, M + 8, by omega, by go_num, (by have := HK.out; show M + 8 = m + 8 * (k + 1); omega), rfl, by rw [take_snocB s k hlt, bitsL_snoc, ← List.append_assoc]; exact H2.out, HA2.out⟩
      case measure => simp [intOf]; omega
    · have hks : k = s.size := by omega
      have hM : M = m + 8 * s.size := by rw [HK.out, hks]
      have HH := hide hh
      have HMM := hide hM
      clear hM h hh
      go_wp2
      go_ret
      exact ⟨ret_slice HMM.out, by have := HH.out; rw [List.take_of_length_le (by simp; omega)] at this; exact this, ha⟩
end Go.Proofs.Ytgnfibdgoghkpaa
