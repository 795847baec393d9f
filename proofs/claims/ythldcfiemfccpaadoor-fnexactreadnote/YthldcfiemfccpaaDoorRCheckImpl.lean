/- The walks of chapter 3's program: the divisor's step, the remainder, Check, Checked, Whole. -/
import Derived.Test.YthldcfiemfccpaaDoorRCheckSpec
import Derived.Test.YthldcfiemfccpaaDoorRPageBase
namespace Go.Proofs.YthldcfiemfccpaaDoor
open Go.RowKit
set_option linter.unusedVariables false
set_option maxRecDepth 20000

set_option maxHeartbeats 800000 in
theorem next_any (R q : Nat) (w : World) (hR : R < 65536) (hq : q < 2) :
    Calls Tryd.prog 54 #[.int .i64 116839, .int .i64 (R : Nat), .int .i64 (q : Nat)] w fun e w' => e = .returned (.int .i64 (Crc.stp R q : Nat)) ∧ w = w' := by
  have HX : Hid (bits .xor .i64 (2 * (R : Int) + (q : Int)) 116839 = (((2 * R + q) ^^^ 116839 : Nat) : Int)) := by
    have := i64_xor_nat (2 * R + q) 116839 (by omega) (by omega)
    show _ = _
    rw [← this]; rfl
  by_cases hbig : 65536 ≤ 2 * R + q
  · have hd : decide (65536 ≤ 2 * (R : Int) + (q : Int)) = true := by simp; omega
    have HBIG := hide hbig
    clear hbig
    go_enter Tryd.func54, Tryd.ntmps54
    go_wp2_with fail
    go_ret
    exact ⟨ret_i64 (by rw [HX.out]; unfold Crc.stp; rw [if_pos HBIG.out]), rfl⟩
  · have hd : decide (65536 ≤ 2 * (R : Int) + (q : Int)) = false := by simp; omega
    have HBIG := hide hbig
    clear hbig
    go_enter Tryd.func54, Tryd.ntmps54
    go_wp2_with fail
    go_ret
    exact ⟨ret_i64 (by unfold Crc.stp; rw [if_neg HBIG.out]; go_num), rfl⟩

theorem take_bits8 (n j : Nat) (h : j < 8) : ∃ q : Nat, (bits8 n).getD j 0 = (q : Int) ∧ q < 2 ∧ (natL (bits8 n)).take (j + 1) = (natL (bits8 n)).take j ++ [q] := by
  have hb := bitOf_bd n j
  refine ⟨(bitOf n j).toNat, by rw [bits8_at n j h]; omega, by omega, ?_⟩
  have := take_snoc (bits8 n) j (by simp [bits8]; omega)
  rw [bits8_at n j h] at this
  unfold natL
  rw [← List.map_take, ← List.map_take, this]
  simp

set_option maxRecDepth 100000 in
set_option maxHeartbeats 1600000 in
theorem remainder_any (R0 : Nat) (s : ByteArray) (w : World) (hs : s.size ≤ 1048580) (hR0 : R0 < 65536) :
    Calls Tryd.prog 55 #[.int .i64 (R0 : Nat), .string s, .func (.func 54) #[.int .i64 116839] #[]] w fun e w' => e = .returned (.int .i64 (Crc.run R0 (natL (bitsL s.data.toList)) : Nat)) ∧ Below w.heap.size w w' := by
  have HR0 := hide hR0
  clear hR0
  go_enter Tryd.func55, Tryd.ntmps55
  go_wp2_with fail
  go_loopw [0, 12] (fun r i wr => ∃ k : Nat, k ≤ s.size ∧ i = .int .i64 k ∧ r = .int .i64 (Crc.run R0 (natL (bitsL (s.data.toList.take k))) : Nat) ∧ Below w.heap.size w wr) (fun _ i _ => s.size - (intOf i).toNat)
  case atStart => exact ⟨0, Nat.zero_le _, rfl, rfl, Below.refl _ _⟩
  case round =>
    obtain ⟨k, hk, rfl, rfl, hbel⟩ := hrel
    obtain ⟨R, hR⟩ : ∃ R, R = Crc.run R0 (natL (bitsL (s.data.toList.take k))) := ⟨_, rfl⟩
    have HRlt : Hid (R < 65536) := by rw [hR]; exact Crc.run_lt _ R0 HR0.out (natL_bit (bitsL_01 _))
    rw [← hR]
    have HR := hide hR
    have HB := hide hbel
    clear hR hbel
    by_cases hlt : k < s.size
    · go_wp2_with fail
      refine (octetOf_any s[k] _).mono ?_
      rintro e w1 ⟨rfl, b1⟩
      have HB1 := hide (HB.out.trans (b1.mono HB.out.size))
      have HID := hide (oct_index (bitOf s[k].toNat 0) (bitOf s[k].toNat 1) (bitOf s[k].toNat 2) (bitOf s[k].toNat 3) (bitOf s[k].toNat 4) (bitOf s[k].toNat 5) (bitOf s[k].toNat 6) (bitOf s[k].toNat 7))
      unfold oct
      clear b1 HB
      go_wp2_with fail
      go_loopw [0, 19] (fun r i wr => ∃ j : Nat, j ≤ 8 ∧ i = .int .i64 j ∧ r = .int .i64 (Crc.run R ((natL (bits8 s[k].toNat)).take j) : Nat) ∧ Below w.heap.size w wr) (fun _ i _ => 8 - (intOf i).toNat)
      case atStart => exact ⟨0, Nat.zero_le _, rfl, rfl, HB1.out⟩
      case round =>
        obtain ⟨j, hj, rfl, rfl, hbel⟩ := hrel
        have HB := hide hbel
        clear hbel HB1
        by_cases hj8 : j < 8
        · have hix := HID.out j hj8
          obtain ⟨q, hq, hq2, hstep⟩ := take_bits8 s[k].toNat j hj8
          unfold bits8 at hq
          rw [hq] at hix
          obtain ⟨T, hT⟩ : ∃ T, T = Crc.run R ((natL (bits8 s[k].toNat)).take j) := ⟨_, rfl⟩
          have HTlt : Hid (T < 65536) := by
            rw [hT]
            exact Crc.run_lt _ R HRlt.out (fun b hb => natL_bit (bits8_01 _) b (List.mem_of_mem_take hb))
          have HS : Hid (Crc.run R ((natL (bits8 s[k].toNat)).take (j + 1)) = Crc.stp T q) := by
            show _ = _
            rw [hstep, run_snoc, hT]
          have HQ2 := hide hq2
          rw [← hT]
          clear hT hstep hq HID hq2
          go_wp2_with fail
          refine (next_any T q _ HTlt.out HQ2.out).mono ?_
          rintro e w2 ⟨rfl, rfl⟩
          go_wp2_with fail
          go_roundw
          case rel => exact ⟨j + 1, by omega, by go_num, by rw [HS.out], HB.out⟩
          case measure => simp [intOf]; omega
        · clear HID
          go_wp2_with fail
          go_roundw
          case rel => exact ⟨k + 1, by omega, by go_num, by
            rw [take_snocB s k hlt, bitsL_snoc]
            unfold natL
            rw [List.map_append, Crc.run_append]
            have := HR.out
            unfold natL at this
            rw [← this, List.take_of_length_le (by simp [bits8]; omega)], HB.out⟩
          case measure => simp [intOf]; omega
    · go_wp2_with fail
      go_ret
      exact ⟨ret_i64 (by rw [HR.out, List.take_of_length_le (by simp; omega)]), HB.out⟩

theorem noughts_bits : natL (bitsL ([0, 0] : List UInt8)) = List.replicate 16 0 := by decide
theorem check_run (s : ByteArray) : Crc.run (Crc.run 0 (natL (bitsL s.data.toList))) (natL (bitsL (⟨#[0, 0]⟩ : ByteArray).data.toList)) = checkN s := by
  have h : (⟨#[0, 0]⟩ : ByteArray).data.toList = [0, 0] := rfl
  rw [h, noughts_bits, ← Crc.run_append]
  unfold checkN Crc.crc
  rfl
theorem remainder_first (s : ByteArray) (w : World) (hs : s.size ≤ 1048580) :
    Calls Tryd.prog 55 #[.int .i64 0, .string s, .func (.func 54) #[.int .i64 116839] #[]] w fun e w' => e = .returned (.int .i64 (Crc.run 0 (natL (bitsL s.data.toList)) : Nat)) ∧ Below w.heap.size w w' :=
  remainder_any 0 s w hs (by omega)
theorem remainder_last (R : Nat) (w : World) (hR : R < 65536) :
    Calls Tryd.prog 55 #[.int .i64 R, .string ⟨#[0, 0]⟩, .func (.func 54) #[.int .i64 116839] #[]] w fun e w' => e = .returned (.int .i64 (Crc.run R (natL (bitsL (⟨#[0, 0]⟩ : ByteArray).data.toList)) : Nat)) ∧ Below w.heap.size w w' :=
  remainder_any R ⟨#[0, 0]⟩ w (by simp [ByteArray.size]) hR

set_option maxHeartbeats 800000 in
theorem implCheck_any (s : ByteArray) (w : World) (hs : s.size ≤ 1048580) :
    Calls Tryd.prog 38 #[.string s] w fun e w' => e = .returned (.int .i64 (checkN s : Nat)) ∧ Below w.heap.size w w' := by
  have HF := hide (remainder_first s w hs)
  have hc := check_run s
  obtain ⟨R, hR⟩ : ∃ R, R = Crc.run 0 (natL (bitsL s.data.toList)) := ⟨_, rfl⟩
  have HRlt : Hid (R < 65536) := by rw [hR]; exact Crc.run_lt _ 0 (by omega) (natL_bit (bitsL_01 _))
  rw [← hR] at hc HF
  obtain ⟨C, hC⟩ : ∃ C, C = checkN s := ⟨_, rfl⟩
  rw [← hC] at hc ⊢
  have HL : ∀ w, Hid (Calls Tryd.prog 55 #[.int .i64 R, .string ⟨#[0, 0]⟩, .func (.func 54) #[.int .i64 116839] #[]] w fun e w' => e = .returned (.int .i64 (C : Nat)) ∧ Below w.heap.size w w') := by
    intro w
    have := remainder_last R w HRlt.out
    rw [hc] at this
    exact this
  clear hC hR hc hs
  go_enter Tryd.func38, Tryd.ntmps38
  go_wp2_with fail
  refine HF.out.mono ?_
  rintro e w1 ⟨rfl, b1⟩
  have HB := hide b1
  clear b1
  go_wp2_with fail
  refine (HL w1).out.mono ?_
  rintro e w2 ⟨rfl, b2⟩
  have HB2 := hide (HB.out.trans (b2.mono HB.out.size))
  clear b2 HB HL HF
  go_wp2_with fail
  go_ret
  exact ⟨rfl, HB2.out⟩

set_option maxHeartbeats 800000 in
theorem implChecked_any (s : ByteArray) (w : World) (hs : s.size ≤ 1048580) :
    Calls Tryd.prog 23 #[.string s] w fun e w' => e = .returned (.string (checked s)) ∧ Below w.heap.size w w' := by
  obtain ⟨c, hc⟩ : ∃ c, c = checkN s := ⟨_, rfl⟩
  have hlt : c < 65536 := by rw [hc]; exact checkN_lt s
  have HC := hide hc
  go_enter Tryd.func23, Tryd.ntmps23
  go_wp2_with fail
  refine (implCheck_any s w hs).mono ?_
  rw [← hc]
  clear hc
  rintro e w1 ⟨rfl, b1⟩
  have hst := string_of (P := Tryd.prog) (two_reads w1 c hlt) 52 9 5 2 Tryd.underlying52 Tryd.underlying5 Tryd.underlying9
  have h2 : (ByteArray.mk (tail2 c).toArray).size = 2 := rfl
  have HB := hide (b1.alloc b1.size (.cells #[.int .u8 ((c : Int) / 256), .int .u8 ((c : Int) % 256)] 5))
  clear b1
  go_wp2_with fail
  go_ret
  exact ⟨by unfold checked; rw [← HC.out]; rfl, HB.out⟩
end Go.Proofs.YthldcfiemfccpaaDoor
