/- The walks of Bytes, on both sides. -/
import Derived.Test.YtgnfibdgoghkpaaWalkP
import Derived.Test.YtgnfibdgoghkpaaBytesMath
namespace Go.Proofs.Ytgnfibdgoghkpaa
open Go.RowKit
set_option linter.unusedVariables false

theorem Try.infoU8y : (Try.prog.info? 5).map (fun i => (i.zero, i.size, i.bytes)) = some (some (.int .u8 0), 1, 1) := by kernel_rfl
theorem Try.sizeU8y : (Try.prog.info? 5).map (·.size) = some 1 := by kernel_rfl
theorem one_new (w : World) (v : Value) (t : Nat) : Reads w.heap.size (w.heap.size + 1) (w.alloc (.cells #[v] t)) (some ⟨w.heap.size, 0, none⟩) 1 (fun _ => v) := by
  have hb : (w.alloc (.cells #[v] t)).heap[w.heap.size]? = some (.cells #[v] t (0, 0)) := by
    show (w.heap.push _)[w.heap.size]? = _
    simp
  refine ⟨by simp, fun _ => ⟨w.heap.size, 0, rfl, Nat.le_refl _, Nat.lt_succ_self _, fun i hi => ?_⟩⟩
  obtain rfl : i = 0 := by omega
  simp only [World.cell?, Nat.zero_add, hb]
  rfl

set_option maxHeartbeats 800000 in
theorem implBytes_any (a : Option Addr) (n cap : Nat) (xs : List Int) (w : World) {lo hi : Nat} (h : Ints lo hi w a n xs) (hn : n ≤ 1048576) (hcap : n ≤ cap) :
    Calls Try.prog 14 #[.slice a n cap] w fun e w' => e = .returned (.string (bytesOf xs)) ∧ Below w.heap.size w w' := by
  have hI := h
  obtain ⟨hl, hsz, hx⟩ := h
  have HL : Hid (xs.length = n) := hl
  clear hl
  cases hok : bitsOk xs
  · go_enter Try.func14, Try.ntmps14
    go_wp2_with (go_at_call 23; refine (implBitsOk_any _ _ _ xs _ hI hn).mono ?_; rintro e w' ⟨rfl, rfl⟩)
    go_ret
    exact ⟨ret_str (bytesOf_no hok).symm, Below.refl _ _⟩
  · obtain ⟨N, hN⟩ : ∃ N, N = (n + 7) / 8 := ⟨_, rfl⟩
    have n1 : 8 * N ≤ n + 7 := by omega
    have n2 : n ≤ 8 * N := by omega
    have hmk := make_row (P := Try.prog) 22 5 (.int .u8 0) 1 Try.underlying22 Try.infoU8y rfl 0 (((n : Int) + 8 - 1) / 8) 0 N rfl (by omega) (by omega) (by omega) (by omega)
    have HN := hide hN
    have r1 := World.rowIs_made w (.int .u8 0) N 5
    have r2 := row_zero8 (w.alloc (.cells (madeCells #[.int .u8 0] N) 5)) 52
    have R1 := hide (r1.alloc (.cells #[.int .i64 0, .int .i64 0, .int .i64 0, .int .i64 0, .int .i64 0, .int .i64 0, .int .i64 0, .int .i64 0] 52))
    have hsz0 : (w.alloc (.cells (madeCells #[.int .u8 0] N) 5)).heap.size = w.heap.size + 1 := by simp
    rw [hsz0] at r2
    have R2 := hide r2
    have HALL := hide (bits_all hok)
    clear r1 r2 hsz0 hN
    go_enter Try.func14, Try.ntmps14
    go_wp2_with fail
    refine (implBitsOk_any _ _ _ xs _ hI hn).mono ?_
    rintro e w' ⟨rfl, rfl⟩
    go_wp2_with fail
    go_loopw [3, 5] (fun v i wr => ∃ j : Nat, j ≤ N ∧ i = .int .i64 ((8 * j : Nat) : Int) ∧ v = .slice (some ⟨w.heap.size, 0, none⟩) j N ∧ wr.rowIs w.heap.size 5 N (fun i => if i < j then cellB (byteL xs) i else .int .u8 0) ∧ (∃ f, wr.rowIs (w.heap.size + 1) 52 8 f) ∧ Below w.heap.size w wr) (fun _ i _ => n + 8 - (intOf i).toNat)
    case atStart => exact ⟨0, Nat.zero_le _, rfl, rfl, R1.out.congr (fun _ _ => by simp), ⟨_, R2.out⟩, ((Below.refl _ _).alloc (Nat.le_refl _) _).alloc (by simp) _⟩
    case round =>
      obtain ⟨j, hj, rfl, rfl, h1, ⟨f2, h2⟩, hbel⟩ := hrel
      clear R1 R2
      by_cases hlt : 8 * j < n
      · obtain ⟨k, hk⟩ : ∃ k, k = 8 * j := ⟨_, rfl⟩
        rw [← hk] at hlt ⊢
        have hR := (hI.later hbel hsz).2
        obtain ⟨b, off, rfl, _, hb, hc⟩ := hx (by omega)
        have HR := hide (hR.drop k)
        have hwsz := h2.lt
        have H1 := hide h1
        have H2 := hide h2
        have HB := hide hbel
        have HK := hide hk
        have hjN : j < N := by omega
        clear hR hc hx h1 h2 hbel hk
        go_wp2_with fail
        refine (fill_any (w.heap.size + 1) f2 (fun i => cellI xs (k + i)) (some ⟨b, off + k, none⟩) (n - k) (cap - k) lo hi wr H2.out HR.out (.inl (by omega)) (fun _ _ => rfl)).mono ?_
        rintro e w1 ⟨rfl, g1, s1⟩
        have K1 := hide (row_aside H1.out s1 (.inl (Nat.lt_succ_self _)))
        have g1' := g1.congr (fun i _ => filled_eight xs n k HL.out (by omega) i)
        have hB1 : Below w.heap.size w w1 := HB.out.trans (s1.below (by omega) HB.out.size)
        have x0 := g1'.cell (i := 0) (by omega)
        have x1 := g1'.cell (i := 1) (by omega)
        have x2 := g1'.cell (i := 2) (by omega)
        have x3 := g1'.cell (i := 3) (by omega)
        have x4 := g1'.cell (i := 4) (by omega)
        have x5 := g1'.cell (i := 5) (by omega)
        have x6 := g1'.cell (i := 6) (by omega)
        have x7 := g1'.cell (i := 7) (by omega)
        have hE : eight xs k = [xs.getD (k + 0) 0, xs.getD (k + 1) 0, xs.getD (k + 2) 0, xs.getD (k + 3) 0, xs.getD (k + 4) 0, xs.getD (k + 5) 0, xs.getD (k + 6) 0, xs.getD (k + 7) 0] := rfl
        have ha8 := eight_all HALL.out k
        have hcb := byte_cell HALL.out j (by rw [HL.out, ← HN.out]; exact hjN)
        have hbd := jn8_bd HALL.out k
        rw [← HK.out] at hcb
        rw [hE] at ha8 hcb hbd
        clear hE
        generalize xs.getD (k + 0) 0 = p0 at *
        generalize xs.getD (k + 1) 0 = p1 at *
        generalize xs.getD (k + 2) 0 = p2 at *
        generalize xs.getD (k + 3) 0 = p3 at *
        generalize xs.getD (k + 4) 0 = p4 at *
        generalize xs.getD (k + 5) 0 = p5 at *
        generalize xs.getD (k + 6) 0 = p6 at *
        generalize xs.getD (k + 7) 0 = p7 at *
        have HA8 := hide ha8
        have G1 := hide g1'
        have HB1 := hide hB1
        have HCB := hide hcb
        clear ha8 g1' g1 s1 hB1 hcb HB H1 H2 HR
        go_wp2_with fail
        have hoct := joined_any p0 p1 p2 p3 p4 p5 p6 p7 w1 HA8.out
        unfold oct at hoct
        generalize jn [p0, p1, p2, p3, p4, p5, p6, p7] = d at *
        refine hoct.mono ?_
        rintro e w2 ⟨rfl, b2⟩
        have hlt1 := K1.out.lt
        have hlt2 := G1.out.lt
        have hB2 := below_here HB1.out b2
        have k1 := (row_of_block K1.out b2 hlt1).alloc (.cells #[.int .u8 d] 5)
        have k2 := (row_of_block G1.out b2 hlt2).alloc (.cells #[.int .u8 d] 5)
        obtain ⟨w3, hap, r3, s3⟩ := append_row (P := Try.prog) (w2.alloc (.cells #[.int .u8 d] 5)) 22 22 5 Try.underlying22 Try.sizeU8y w.heap.size j N _ (fun _ => .int .u8 d) k1 (some ⟨w2.heap.size, 0, none⟩) 1 1 w2.heap.size (w2.heap.size + 1) (one_new w2 (.int .u8 d) 5) (by omega) (by omega) (fun _ _ => rfl)
        have HAP := hide hap
        have R3 := hide (r3.congr (g := fun i => if i < j + 1 then cellB (byteL xs) i else .int .u8 0) (fun i hi => by
          by_cases e1 : i = j
          · subst e1; rw [if_pos ⟨Nat.le_refl _, by omega⟩, if_pos (by omega)]; exact HCB.out
          · rw [if_neg (by omega)]
            by_cases e2 : i < j
            · rw [if_pos e2, if_pos (by omega)]
            · rw [if_neg e2, if_neg (by omega)]))
        have K3 := hide (row_aside k2 s3 (.inr (Nat.le_refl _)))
        have B3 : Below w.heap.size w w3 := (hB2.alloc (by have := b2.size; omega) _).trans (s3.below (Nat.le_refl _) (by simp; have := b2.size; omega))
        have HB3 := hide B3
        clear x0 x1 x2 x3 x4 x5 x6 x7 hoct b2 hB2 k1 k2 hap r3 s3 B3 HB1 G1 K1
        go_wp2_with (at_builtin; refine wpList_append_eq rfl (.tmp 25) (.tmp 28) 22 rfl _ _ _ w3 rfl rfl HAP.out ?_)
        go_roundw
        case rel => exact ⟨j + 1, by omega, by rw [HK.out]; go_num, rfl, R3.out, ⟨_, K3.out⟩, HB3.out⟩
        case measure => simp [intOf]; omega
      · have hjN : j = N := by omega
        subst hjN
        have hB : Bytes w.heap.size wr.heap.size wr (some ⟨w.heap.size, 0, none⟩) j (byteL xs) :=
          ⟨by rw [byteL_length, HL.out, ← HN.out], ((owned_of_row h1 (Nat.le_refl _) h1.lt (Nat.le_refl _)).congr (fun i hi => if_pos hi)).reads⟩
        have hst := string_of (P := Try.prog) hB 22 9 5 j Try.underlying22 Try.underlying5 Try.underlying9
        clear hB h1 h2
        go_wp2
        go_ret
        exact ⟨ret_str (bytesOf_yes hok).symm, hbel⟩

set_option maxHeartbeats 800000 in
theorem specl1Bytes_any (a : Option Addr) (n cap : Nat) (xs : List Int) (w : World) {lo hi : Nat} (h : Ints lo hi w a n xs) (hn : n ≤ 1048576) (hok : bitsOk xs = true) :
    Calls Try.prog 38 #[.slice a n cap] w fun e w' => e = .returned (.string (bytesOf xs)) ∧ Below w.heap.size w w' := by
  have hI := h
  obtain ⟨hl, hsz, hx⟩ := h
  have HL : Hid (xs.length = n) := hl
  clear hl
  obtain ⟨N, hN⟩ : ∃ N, N = (n + 7) / 8 := ⟨_, rfl⟩
  have n1 : 8 * N ≤ n + 7 := by omega
  have n2 : n ≤ 8 * N := by omega
  have hmk := make_row (P := Try.prog) 22 5 (.int .u8 0) 1 Try.underlying22 Try.infoU8y rfl (((n : Int) + 7) / 8) (((n : Int) + 7) / 8) N N (by omega) (by omega) (by omega) (by omega) (by omega)
  have HN := hide hN
  have HALL := hide (bits_all hok)
  clear hN
  go_enter Try.func38, Try.ntmps38
  go_wp2
  go_loopw [4] (fun i wr => ∃ k : Nat, k ≤ n ∧ i = .int .i64 k ∧ wr.rowIs w.heap.size 5 N (fun i => .int .u8 (jn (eight (xs.take k) (8 * i)))) ∧ Below w.heap.size w wr) (fun i _ => n - (intOf i).toNat)
  case atStart => exact ⟨0, Nat.zero_le _, rfl, (World.rowIs_made w (.int .u8 0) N 5).congr (fun _ _ => by simp [eight, jn]), (Below.refl _ _).alloc (Nat.le_refl _) _⟩
  case round =>
    obtain ⟨k, hk, rfl, hrow, hbel⟩ := hrel
    by_cases hlt : k < n
    · obtain ⟨b, off, rfl, _, hb, hc⟩ := hx (by omega)
      have hck : wr.cell? ⟨b, off + k, none⟩ = some (.int .i64 (xs.getD k 0)) := (hbel.cell (p := ⟨b, off + k, none⟩) (by show b < _; omega)).trans (hc k hlt)
      have hbit := bit_at HALL.out k
      clear hc hx
      obtain ⟨z, hz⟩ : ∃ z, z = xs.getD k 0 := ⟨_, rfl⟩
      rw [← hz] at hck hbit
      have HZ := hide hz
      have HROW := hide hrow
      have HB := hide hbel
      have hco := hrow.cell (i := k / 8) (by omega)
      have hfo := hrow.frozen (k / 8)
      have hd : (0 : Int) ≤ (k : Int) / 8 := by omega
      have hd2 : (k : Int) / 8 < N := by omega
      have hone := byte_one HALL.out k
      rw [← hz] at hone
      have hbd := jn8_bd (take_all HALL.out k) (8 * (k / 8))
      obtain ⟨c, hc0⟩ : ∃ c, c = jn (eight (xs.take k) (8 * (k / 8))) := ⟨_, rfl⟩
      rw [← hc0] at hco hone hbd
      obtain ⟨c0, c1⟩ := hbd
      have HONE := hide hone
      clear hz hrow hbel hone hc0
      rcases (show z = 0 ∨ z = 1 by simp [bit] at hbit; omega) with rfl | rfl
      · go_wp2
        go_roundw
        case rel => exact ⟨k + 1, by omega, by go_num, HROW.out.congr (fun i _ => by rw [byte_zero xs k i HZ.out.symm]), HB.out⟩
        case measure => simp [intOf]; omega
      · go_wp2
        go_roundw
        case rel => exact ⟨k + 1, by omega, by go_num, (HROW.out.set (k / 8) _).congr (fun i _ => by
            by_cases e : i = k / 8
            · subst e; simp only [if_true]; rw [HONE.out rfl]
            · simp only [if_neg e]; rw [byte_other xs k i e]), HB.out.setCell (p := ⟨w.heap.size, k / 8, none⟩) (Nat.le_refl _) _⟩
        case measure => simp [intOf]; omega
    · have hkn : k = n := by omega
      subst hkn
      have hB : Bytes w.heap.size wr.heap.size wr (some ⟨w.heap.size, 0, none⟩) N (byteL xs) :=
        ⟨by rw [byteL_length, HL.out, ← HN.out], ((owned_of_row hrow (Nat.le_refl _) hrow.lt (Nat.le_refl _)).congr (fun i hi => by
          rw [List.take_of_length_le (by rw [HL.out]; omega)]
          exact byte_cell HALL.out i (by rw [HL.out, ← HN.out]; exact hi))).reads⟩
      have hst := string_of (P := Try.prog) hB 22 9 5 N Try.underlying22 Try.underlying5 Try.underlying9
      clear hB hrow
      go_wp2
      go_ret
      exact ⟨ret_str (bytesOf_yes hok).symm, hbel⟩

set_option maxHeartbeats 400000 in
theorem specBytes_any (a : Option Addr) (n cap : Nat) (xs : List Int) (w : World) {lo hi : Nat} (h : Ints lo hi w a n xs) (hn : n ≤ 1048576) :
    Calls Try.prog 15 #[.slice a n cap] w fun e w' => e = .returned (.string (bytesOf xs)) ∧ Below w.heap.size w w' := by
  cases hok : bitsOk xs
  · go_enter Try.func15, Try.ntmps15
    go_wp2_with (go_at_call 24; refine (specBitsOk_any _ _ _ xs _ h hn).mono ?_; rintro e w' ⟨rfl, rfl⟩)
    go_ret
    exact ⟨ret_str (bytesOf_no hok).symm, Below.refl _ _⟩
  · go_enter Try.func15, Try.ntmps15
    go_wp2_with fail
    refine (specBitsOk_any _ _ _ xs _ h hn).mono ?_
    rintro e w' ⟨rfl, rfl⟩
    go_wp2_with fail
    refine (specl1Bytes_any _ _ _ xs _ h hn hok).mono ?_
    rintro e w2 ⟨rfl, b2⟩
    go_wp2_with fail
    go_ret
    exact ⟨rfl, b2⟩
end Go.Proofs.Ytgnfibdgoghkpaa
