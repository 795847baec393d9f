/- The walks of chapter 4's program: SpreadAll. -/
import Derived.Test.YtbgjagmnpfcfaakDoorHamImpl2
import Derived.Test.YtbgjagmnpfcfaakDoorHamSpec3
import Derived.Test.YtbgjagmnpfcfaakDoorCopyBase
namespace Go.Proofs.YtbgjagmnpfcfaakDoor
open Go.RowKit
set_option linter.unusedVariables false
set_option maxRecDepth 20000

theorem make_bytes (l c : Int) (L C : Nat) (hl : l = L) (hc : c = C) (hLC : L ≤ C) (hC : C ≤ 16777216) (w : World) :
    (Instr.makeSlice 30 (.int .i64 l) (.int .i64 c)).run Tryd.prog w = .ok (.slice (some ⟨w.heap.size, 0, none⟩) L C) (w.alloc (.cells (madeCells #[.int .u8 0] C) 5)) := by
  obtain ⟨i0, hi0, hz0, hz1, hz2⟩ := info_parts Tryd.infoU8d
  exact make_row (P := Tryd.prog) 30 5 (.int .u8 0) 1 Tryd.underlying30 (by rw [hi0]; simp [hz0, hz1, hz2]) rfl l c L C hl hc hLC (by omega) (by omega) w

set_option maxHeartbeats 1600000 in
theorem implSpreadAll_small (s : ByteArray) (w : World) (h : s.size ≤ 300) (hT : Tab w) :
    Calls Tryd.prog 12 #[.string s] w fun e w' => e = .returned (.string (str (spreadL s.data.toList))) ∧ Below w.heap.size w w' := by
  obtain ⟨i0, hi0, hz0, hz1, hz2⟩ := info_parts Tryd.infoU8d
  have HO := hide (World.ownsRow_made (base := w.heap.size) (size := 1) (e := 5) w (madeCells #[.int .u8 0] (2 * s.size)) (2 * s.size) (Nat.le_refl _) (by unfold maxLen; omega) (by simp [size_madeCells]))
  have hd : decide ((300 : Int) < (s.size : Int)) = false := by simp; omega
  have hmk := make_bytes 0 (2 * (s.size : Int)) 0 (2 * s.size) rfl (by omega) (by omega) (by omega) w
  have HT := hide hT
  clear hT
  go_enter Tryd.func12, Tryd.ntmps12
  go_wp2_with fail
  go_loopw [3, 15] (fun v i wr => ∃ k : Nat, k ≤ s.size ∧ i = .int .i64 (k : Int) ∧ wr.ownsRow w.heap.size 5 1 v (2 * k) ((spreadL (s.data.toList.take k)).map byteV) ∧ Below w.heap.size w wr) (fun _ i _ => s.size - (intOf i).toNat)
  case atStart => exact ⟨0, Nat.zero_le _, rfl, HO.out, (Below.refl _ _).alloc (Nat.le_refl _) _⟩
  case round =>
    obtain ⟨k, hk, rfl, hown, hbel⟩ := hrel
    have HOWN := hide hown
    have HB := hide hbel
    clear hown hbel HO hmk
    by_cases hlt : k < s.size
    · have hbl := UInt8.toNat_lt s[k]
      have HS : Hid (spreadL (s.data.toList.take (k + 1)) = spreadL (s.data.toList.take k) ++ wordB (Ham.spread s[k].toNat)) := by
        show _ = _
        rw [take_snocB s k hlt, spreadL_snoc]
      obtain ⟨x, hx⟩ : ∃ x, x = Ham.spread s[k].toNat := ⟨_, rfl⟩
      have hx13 : x < 8192 := by rw [hx]; exact Ham.spread_lt hbl
      have HC : Hid (Calls Tryd.prog 19 #[.int .i64 (s[k].toNat : Int)] wr fun e w' => e = .returned (.int .i64 (x : Int)) ∧ Below wr.heap.size wr w') := by
        rw [hx]; exact implSpread_nat s[k].toNat wr hbl (HT.out.here HB.out)
      rw [← hx] at HS
      clear hx
      go_wp2_with fail
      refine HC.out.mono ?_
      rintro e w1 ⟨rfl, b1⟩
      have hB1 := HB.out.trans (b1.mono HB.out.size)
      have HO1 := hide ((own_aside HOWN.out (aside_of_below (lo := 0) (hi := 0) b1) (by omega)).alloc (.cells #[.int .u8 ((x : Int) / 256), .int .u8 ((x : Int) % 256)] 5))
      have HB1 := hide (hB1.alloc hB1.size (.cells #[.int .u8 ((x : Int) / 256), .int .u8 ((x : Int) % 256)] 5))
      clear hB1 b1 HOWN HB HC
      go_wp2_with (at_builtin; (refine wpList_append_own _ rfl (.tmp 23) (.tmp 30) 30 rfl w.heap.size 5 i0 (.int .u8 0) 1 1 Tryd.underlying30 hi0 hz0 hz1 hz2 rfl (by decide) _ _ _ rfl HO1.out ⟨w1.heap.size, 0, none⟩ 2 2 [.int .u8 ((x : Int) / 256), .int .u8 ((x : Int) % 256)] rfl rfl (cells_two_new _ _ _ _) (two_one _ _) (by unfold maxLen; omega) (by omega) HB1.out.size ?_); intro v' w2 hown2 hgrow2 _; have HO2 := hide hown2; have HB2 := hide (HB1.out.grown hgrow2 HB1.out.size (fun k hk => (HO1.out.lt k hk).1)); clear hown2 hgrow2)
      go_roundw
      case rel =>
        refine ⟨k + 1, by omega, by go_num, ?_, HB2.out⟩
        rw [HS.out, List.map_append, wordB_vals x hx13, show 2 * (k + 1) = 2 * k + 2 by omega]
        exact HO2.out
      case measure => simp [intOf]; omega
    · obtain ⟨a, cp, rfl, hcp, hown⟩ := ownBytes_of HOWN.out (Nat.le_refl _)
      have hst := string_of (P := Tryd.prog) ⟨hown.1, hown.2.reads⟩ 30 9 5 cp Tryd.underlying30 Tryd.underlying5 Tryd.underlying9
      clear hown HOWN
      go_wp2_with fail
      go_ret
      exact ⟨ret_str (by rw [List.take_of_length_le (by simp; omega)]; rfl), HB.out⟩

set_option maxHeartbeats 400000 in
theorem implSpreadAll_any (s : ByteArray) (w : World) (hT : Tab w) (hs : s.size ≤ 1048576) :
    Calls Tryd.prog 12 #[.string s] w fun e w' => e = .returned (.string (spreadAll s)) ∧ Below w.heap.size w w' := by
  by_cases h : s.size ≤ 300
  · rw [show spreadAll s = str (spreadL s.data.toList) from if_pos h]
    exact implSpreadAll_small s w h hT
  · have hd : decide ((300 : Int) < (s.size : Int)) = true := by simp; omega
    have HE : Hid (spreadAll s = ⟨#[]⟩) := if_neg h
    clear h hT
    go_enter Tryd.func12, Tryd.ntmps12
    go_wp2_with fail
    go_ret
    exact ⟨ret_str HE.out.symm, Below.refl _ _⟩
end Go.Proofs.YtbgjagmnpfcfaakDoor
