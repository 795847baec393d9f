/- The walks of chapter 6's program: a text as elements and back, a column's share, a multiple that is added. -/
import Derived.Test.YtacjaoeghjkhoabSpareImplA
import Derived.Test.YtacjaoeghjkhoabSpareSpec2
import Derived.Test.YtacjaoeghjkhoabFieldImpl
import Derived.Test.YtacjaoeghjkhoabRowBase
namespace Go.Proofs.Ytacjaoeghjkhoab
open Go.RowKit
set_option linter.unusedVariables false
set_option linter.unusedSimpArgs false
set_option maxRecDepth 20000

set_option maxHeartbeats 800000 in
theorem elementsOf_any (s : ByteArray) (hs : s.size ≤ 1048576) (w : World) :
    Calls Try.prog 50 #[.string s] w fun e w' => e = .returned (.slice (some ⟨w.heap.size, 0, none⟩) s.size s.size) ∧ w'.rowIs w.heap.size 2 s.size (fun k => .int .i64 (byteN s k : Int)) ∧ Below w.heap.size w w' := by
  obtain ⟨L, hL⟩ : ∃ L, L = s.size := ⟨_, rfl⟩
  have hmk := run_make_row' (P := Try.prog) 44 2 (.int .i64 0) 8 Try.underlying44 Try.infoI64 rfl .i64 .i64 L (by omega) (by omega)
  have hlen : s.size = L := hL.symm
  rw [← hL]
  clear hL
  go_enter Try.func50, Try.ntmps50
  go_wp2_with fail
  go_loopw [10, 4] (fun i _ wr => ∃ k : Nat, k ≤ L ∧ i = .int .i64 (k : Int) ∧ wr.rowIs w.heap.size 2 L (fun q => .int .i64 ((if q < k then byteN s q else 0 : Nat) : Int)) ∧ Below w.heap.size w wr) (fun i _ _ => L - (intOf i).toNat)
  case atStart => exact ⟨0, Nat.zero_le _, rfl, (World.rowIs_made w (.int .i64 0) L 2).congr (fun _ _ => by simp), (Below.refl _ _).alloc (Nat.le_refl _) _⟩
  case round =>
    obtain ⟨k, hk, rfl, hrow, hbel⟩ := hrel
    by_cases hlt : k < L
    · obtain ⟨y, hy⟩ : ∃ y, y = byteN s k := ⟨_, rfl⟩
      have hy8 : y < 256 := by rw [hy]; exact byteN_lt s k
      have hxi := index_atT (P := Try.prog) 9 Try.underlying9 s k (by omega) y hy
      have hco := hrow.cell hlt
      have hfo := hrow.frozen k
      have HR : Hid ((wr.setCell ⟨w.heap.size, k, none⟩ (.int .i64 (y : Int))).rowIs w.heap.size 2 L (fun q => .int .i64 ((if q < k + 1 then byteN s q else 0 : Nat) : Int))) := by
        refine (hrow.set k _).congr fun q _ => ?_
        by_cases e1 : q = k
        · subst e1; simp [hy]
        · by_cases e2 : q < k
          · simp [e1, e2, show q < k + 1 by omega]
          · simp [e1, e2, show ¬ q < k + 1 by omega]
      have HB := hide (hbel.setCell (p := ⟨w.heap.size, k, none⟩) (Nat.le_refl _) (.int .i64 (y : Int)))
      have j1 : IntKind.i64.wrap (y : Int) = (y : Int) := by rw [IntKind.wrap_i64]; omega
      clear hrow hbel hy
      go_wp2_with fail
      exact ⟨⟨k + 1, by omega, by go_num, HR.out, HB.out⟩, by simp [intOf]; omega⟩
    · obtain rfl : k = L := by omega
      have HR := hide (hrow.congr (g := fun q => .int .i64 (byteN s q : Int)) (fun q hq => by simp [hq]))
      have HB := hide hbel
      clear hrow hbel
      go_wp2_with fail
      go_ret
      exact ⟨rfl, HR.out, HB.out⟩

theorem text_bytes {lo hi n : Nat} {w : World} {a : Option Addr} {x : Nat → Nat} (hx : ∀ k, k < n → x k < 256) (h : Reads lo hi w a n (fun k => .int .u8 (x k : Int))) : Bytes lo hi w a n ((List.range n).map fun k => UInt8.ofNat (x k)) :=
  ⟨by simp, h.congr (fun q hq => by
    unfold cellB
    rw [List.getD_eq_getElem?_getD, List.getElem?_map, List.getElem?_range hq]
    simp only [Option.map_some, Option.getD_some]
    rw [UInt8.toNat_ofNat', Nat.mod_eq_of_lt (hx q hq)])⟩
def textN (n : Nat) (x : Nat → Nat) : ByteArray := str ((List.range n).map fun k => UInt8.ofNat (x k))
set_option maxHeartbeats 800000 in
theorem textOf_any (a : Option Addr) (n cap : Nat) (x : Nat → Nat) (hn : n ≤ 1048576) (hx : ∀ k, k < n → x k < 256) (w : World) {lo hi : Nat} (h : Reads lo hi w a n (fun k => .int .i64 (x k : Int))) :
    Calls Try.prog 51 #[.slice a n cap] w fun e w' => e = .returned (.string (textN n x)) ∧ Below w.heap.size w w' := by
  have hmk := run_make_row' (P := Try.prog) 22 5 (.int .u8 0) 1 Try.underlying22 Try.infoU8s rfl .i64 .i64 n (by omega) (by omega)
  have HH := hide h
  have HX := hide hx
  have hhi := h.1
  clear h hx
  go_enter Try.func51, Try.ntmps51
  go_wp2_with fail
  go_loopw [11, 4, 5] (fun i _ _ wr => ∃ k : Nat, k ≤ n ∧ i = .int .i64 (k : Int) ∧ wr.rowIs w.heap.size 5 n (fun q => .int .u8 ((if q < k then x q else 0 : Nat) : Int)) ∧ Below w.heap.size w wr) (fun i _ _ _ => n - (intOf i).toNat)
  case atStart => exact ⟨0, Nat.zero_le _, rfl, (World.rowIs_made w (.int .u8 0) n 5).congr (fun _ _ => by simp), (Below.refl _ _).alloc (Nat.le_refl _) _⟩
  case round =>
    obtain ⟨k, hk, rfl, hrow, hbel⟩ := hrel
    by_cases hlt : k < n
    · obtain ⟨b, off, rfl, _, hb, hc⟩ := (HH.out.later hbel hhi).2 (by omega)
      have hck : wr.cell? ⟨b, off + k, none⟩ = some (.int .i64 (x k : Int)) := hc k hlt
      have hx8 := HX.out k hlt
      have hco := hrow.cell hlt
      have hfo := hrow.frozen k
      have HR : Hid ((wr.setCell ⟨w.heap.size, k, none⟩ (.int .u8 (x k : Int))).rowIs w.heap.size 5 n (fun q => .int .u8 ((if q < k + 1 then x q else 0 : Nat) : Int))) := by
        refine (hrow.set k _).congr fun q _ => ?_
        by_cases e1 : q = k
        · subst e1; simp
        · by_cases e2 : q < k
          · simp [e1, e2, show q < k + 1 by omega]
          · simp [e1, e2, show ¬ q < k + 1 by omega]
      have HB := hide (hbel.setCell (p := ⟨w.heap.size, k, none⟩) (Nat.le_refl _) (.int .u8 (x k : Int)))
      clear hrow hbel hc
      generalize x k = y at *
      have j2 : IntKind.u8.wrap (y : Int) = (y : Int) := by rw [IntKind.wrap_u8]; omega
      go_wp2_with fail
      exact ⟨⟨k + 1, by omega, by go_num, HR.out, HB.out⟩, by simp [intOf]; omega⟩
    · obtain rfl : k = n := by omega
      have hB2 := text_bytes HX.out (owned_of_row (lo := w.heap.size) (hi := w.heap.size + 1) (hrow.congr (g := fun q => .int .u8 (x q : Int)) (fun q hq => by simp [hq])) (Nat.le_refl _) (Nat.lt_succ_self _) hrow.lt).reads
      have hst := string_of (P := Try.prog) hB2 22 9 5 k Try.underlying22 Try.underlying5 Try.underlying9
      have HB := hide hbel
      clear hB2 hrow hbel
      go_wp2_with fail
      go_ret
      exact ⟨ret_str rfl, HB.out⟩

set_option maxHeartbeats 400000 in
theorem share_any (i j : Nat) (w : World) (hi : i < 16) (hj : j < 16) :
    Calls Try.prog 49 #[.int .i64 (i : Int), .int .i64 (j : Int)] w fun e w' => e = .returned (.int .i64 (factor i j : Int)) ∧ Below w.heap.size w w' := by
  have hx : sumI (i : Int) (16 + (j : Int)) = ((i ^^^ (16 + j) : Nat) : Int) := by
    have := sumI_nat (a := i) (b := 16 + j) (by omega) (by omega)
    rw [← this]; congr 1
  have hs := xor_small hi hj
  have HI : Hid (invI ((i ^^^ (16 + j) : Nat) : Int) = (factor i j : Int)) := invI_nat hs.1 hs.2
  have HX := hide hx
  clear hx
  generalize i ^^^ (16 + j) = q at *
  clear hs
  go_enter Try.func49, Try.ntmps49
  go_wp2_with fail
  refine (implSum_any _ _ _).mono ?_
  rintro e w1 ⟨rfl, rfl⟩
  rw [HX.out]
  go_wp2_with fail
  refine (implInverse_any _ _).mono ?_
  rintro e w1 ⟨rfl, h1⟩
  rw [HI.out]
  have H1 := hide h1
  clear h1
  go_wp2_with fail
  go_ret
  exact ⟨rfl, H1.out⟩
end Go.Proofs.Ytacjaoeghjkhoab
