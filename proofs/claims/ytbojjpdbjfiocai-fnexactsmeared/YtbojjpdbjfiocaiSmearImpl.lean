/- The walk of the program's Smeared. -/
import Derived.Test.YtbojjpdbjfiocaiRows
import Derived.Test.YtbojjpdbjfiocaiSmearMath
import Derived.Test.YtbojjpdbjfiocaiCopyBase
import Derived.Deep.DeepCutAuto
namespace Go.Proofs.Ytbojjpdbjfiocai
open Go.RowKit
set_option linter.unusedVariables false
set_option maxRecDepth 20000

theorem byteL_at {xs : List Int} (h : xs.all bit = true) (j : Nat) (hj : j < (xs.length + 7) / 8) : cellB (byteL xs) j = Value.int .u8 (jn (eight xs (8 * j))) := (byte_cell h j hj).symm

theorem shl_small (b m : Nat) (hb : b < 2) : wrap64 ((b : Int) * 2 ^ (7 - m)) % 256 = (b : Int) * 2 ^ (7 - m) := by
  have hp : (2 : Int) ^ (7 - m) = ((2 ^ (7 - m) : Nat) : Int) := by simp
  have hlt : 2 ^ (7 - m) ≤ 128 := Nat.pow_le_pow_right (by omega) (show 7 - m ≤ 7 by omega)
  have hpos : 0 < 2 ^ (7 - m) := Nat.pow_pos (by omega)
  rw [hp]
  generalize 2 ^ (7 - m) = q at *
  rcases (show b = 0 ∨ b = 1 by omega) with rfl | rfl
  · rw [show ((0 : Nat) : Int) * (q : Int) = 0 by simp]; unfold wrap64; omega
  · unfold wrap64; omega

set_option maxHeartbeats 1600000 in
theorem implSmeared_any (s : ByteArray) (at' mask : Int) (w : World) (hs : s.size ≤ 1048580) :
    Calls Try.prog 11 #[.string s, .int .i64 at', .int .i64 mask] w fun e w' => e = .returned (.string (smeared s at' mask)) ∧ Below w.heap.size w w' := by
  have hcv := run_bytes_of_string (P := Try.prog) w 9 27 5 s Try.underlying9 Try.underlying27 Try.underlying5
  obtain ⟨cap, hcap⟩ : ∃ c, c = grownCap w s.size 0 5 := ⟨_, rfl⟩
  rw [← hcap] at hcv
  have HM := hide (bytes_made w s 5 cap ((bytesRow s cap).size + 1))
  obtain ⟨C, hC⟩ : ∃ C, C = Obj.cells (bytesRow s cap) 5 ((bytesRow s cap).size, (bytesRow s cap).size + 1) := ⟨_, rfl⟩
  unfold Hid at HM
  rw [← hC] at hcv HM
  have HM' := hide HM
  have hB0 : Bytes w.heap.size (w.heap.size + 1) (w.alloc C).drew (some ⟨w.heap.size, 0, none⟩) s.size s.data.toList := ⟨by simp, HM.reads⟩
  have hst := fun cap => string_of (P := Try.prog) hB0 27 9 5 cap Try.underlying27 Try.underlying5 Try.underlying9
  have hss : (⟨s.data.toList.toArray⟩ : ByteArray) = s := by simp
  rw [hss] at hst
  have HBel := hide (((Below.refl w.heap.size w).alloc (Nat.le_refl _) C).drew)
  clear HM hC hcap hB0 hss
  by_cases h1 : at' < 0
  · go_enter Try.func11, Try.ntmps11
    go_wp2_with fail
    go_ret
    exact ⟨ret_str (smeared_no (by omega)).symm, HBel.out⟩
  · by_cases h2 : 8 * (s.size : Int) ≤ at'
    · go_enter Try.func11, Try.ntmps11
      go_wp2_with fail
      go_ret
      exact ⟨ret_str (smeared_no (by omega)).symm, HBel.out⟩
    · by_cases h3 : mask < 0
      · go_enter Try.func11, Try.ntmps11
        go_wp2_with fail
        go_ret
        exact ⟨ret_str (smeared_no (by omega)).symm, HBel.out⟩
      · by_cases h4 : 65536 ≤ mask
        · have h4' : decide (65536 ≤ mask) = true := by simpa using h4
          have H4 := hide h4
          clear h4
          go_enter Try.func11, Try.ntmps11
          go_wp2_with fail
          go_ret
          exact ⟨ret_str (smeared_no (by have := H4.out; omega)).symm, HBel.out⟩
        · obtain ⟨p, rfl⟩ : ∃ p : Nat, at' = (p : Int) := ⟨at'.toNat, by omega⟩
          obtain ⟨M, rfl⟩ : ∃ M : Nat, mask = (M : Int) := ⟨mask.toNat, by omega⟩
          have h1' : decide ((p : Int) < 0) = false := by simp
          have h2' : decide (8 * (s.size : Int) ≤ (p : Int)) = false := by simp; omega
          have h3' : decide ((M : Int) < 0) = false := by simp
          have h4' : decide (65536 ≤ (M : Int)) = false := by simp; omega
          have HP : Hid (p < 8 * s.size) := by show p < 8 * s.size; omega
          have HMM : Hid (M < 65536) := by show M < 65536; omega
          have hp8 : p < 8 * s.size := by omega
          clear h1 h2 h3 h4 hst
          go_enter Try.func11, Try.ntmps11
          go_upto_region 5 with fail
          go_cut [37, 38] (fun c d wx => (∃ L : Nat, c = .int .i64 (L : Int) ∧ L ≤ 16 ∧ p + L ≤ 8 * s.size ∧ (L < 16 → p + L = 8 * s.size)) ∧ d = .int .i64 0 ∧ wx = (w.alloc C).drew)
          case first =>
            by_cases h16 : 16 ≤ 8 * s.size - p
            · go_wp2_with fail
              go_meet
              exact ⟨⟨16, rfl, by omega, by omega, by omega⟩, rfl, rfl⟩
            · go_wp2_with fail
              go_meet
              exact ⟨⟨8 * s.size - p, by congr 1; omega, by omega, by omega, by omega⟩, rfl, rfl⟩
          case rest =>
            obtain ⟨⟨L, rfl, hL16, hLs, hLend⟩, rfl, rfl⟩ := hcut
            obtain ⟨xs, hxs⟩ : ∃ xs, xs = bitsL s.data.toList := ⟨_, rfl⟩
            have HALL : Hid (xs.all bit = true) := by rw [hxs]; exact bitsL_all _
            have HL : Hid (xs.length = 8 * s.size) := by show _ = _; rw [hxs, bitsL_length]; simp
            have HXS := hide hxs
            clear hxs hcv h1' h2' h3' h4'
            have HEND := hide hLend
            clear hLend
            go_wp2_with fail
            go_loopw [38] (fun i wr => ∃ k : Nat, k ≤ L ∧ i = .int .i64 k ∧ Owned w.heap.size (w.heap.size + 1) wr (some ⟨w.heap.size, 0, none⟩) s.size (fun j => .int .u8 (jn (eight (smI xs p M k) (8 * j)))) ∧ Below w.heap.size w wr) (fun i _ => L - (intOf i).toNat)
            case atStart =>
              refine ⟨0, Nat.zero_le _, rfl, (Owned.congr HM'.out (fun i hi => ?_)).drew, HBel.out⟩
              rw [smI_zero, ← byteL_at HALL.out i (by rw [HL.out]; omega), HXS.out, byteL_bitsL]
            case round =>
              obtain ⟨k, hk, rfl, how, hbel⟩ := hrel
              clear HM' HBel
              by_cases hlt : k < L
              · have hq8 : (p + k) / 8 < s.size := by omega
                obtain ⟨hco, hfo, _, _⟩ := how.at0 hq8
                have hbd := jn8_bd (smI_all HALL.out p M k) (8 * ((p + k) / 8))
                have hxr := smI_byte HALL.out (p := p) (mask := M) (k := k) (by rw [HL.out]; omega)
                have hand := and_mbit M k HMM.out
                have hb2 := mbit_lt M k
                obtain ⟨b, hb⟩ : ∃ b, b = mbit M k := ⟨_, rfl⟩
                obtain ⟨c, hc⟩ : ∃ c, c = jn (eight (smI xs p M k) (8 * ((p + k) / 8))) := ⟨_, rfl⟩
                rw [← hc] at hco hbd
                rw [← hc, ← hb] at hxr
                rw [← hb] at hand hb2
                have HXR := hide hxr
                have HOW := hide how
                have HB := hide hbel
                obtain ⟨P, hP⟩ : ∃ P, P = p + k := ⟨_, rfl⟩
                rw [← hP] at hco hfo hq8
                have hPk : (p : Int) + (k : Int) = (P : Int) := by omega
                have HPE := hide hP
                clear hb hc hxr how hbel hP
                go_wp2_with fail
                go_region
                go_wp2_with fail
                go_roundw
                case rel =>
                  refine ⟨k + 1, by omega, by go_num, ((HOW.out.set0 hq8 _).congr (fun j _ => ?_)).drew, (HB.out.setCell (p := ⟨w.heap.size, P / 8, none⟩) (Nat.le_refl _) _).drew⟩
                  have hPE := HPE.out
                  subst hPE
                  by_cases e : j = (p + k) / 8
                  · subst e
                    simp only [if_true]
                    rw [shl_small _ _ hb2, HXR.out]
                  · simp only [if_neg e]
                    rw [smI_other (by rw [HL.out]; omega) e]
                case measure => simp [intOf]; omega
              · have hkL : k = L := by omega
                subst hkL
                have hB : Bytes w.heap.size (w.heap.size + 1) wr (some ⟨w.heap.size, 0, none⟩) s.size (byteL (smI xs p M k)) :=
                  ⟨by rw [byteL_length, smI_length, HL.out]; omega, (how.congr (fun i hi => (byteL_at (smI_all HALL.out p M k) i (by rw [smI_length, HL.out]; omega)).symm)).reads⟩
                have hst := fun cap => string_of (P := Try.prog) hB 27 9 5 cap Try.underlying27 Try.underlying5 Try.underlying9
                have HB := hide hbel
                clear hB how hbel
                go_wp2_with fail
                go_ret
                refine ⟨ret_str ?_, HB.out⟩
                rw [smeared_yes HP.out HMM.out, ← HXS.out]
                by_cases h16 : k = 16
                · rw [h16]; rfl
                · rw [← smI_far (k := k) (by have h1 := HEND.out (by omega); have h2 := HL.out; omega) (by omega)]; rfl
end Go.Proofs.Ytbojjpdbjfiocai
