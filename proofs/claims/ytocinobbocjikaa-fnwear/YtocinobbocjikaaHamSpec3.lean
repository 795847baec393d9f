/- The walks of chapter 4's model: SpreadAll, HealedAll. -/
import Derived.Test.YtocinobbocjikaaHamAll
import Derived.Test.YtocinobbocjikaaJDrawText
import Derived.Test.YtocinobbocjikaaJBase
import Derived.Deep.RegionHeld3
namespace Go.Proofs.Ytocinobbocjikaa
open Go.RowKit
set_option linter.unusedVariables false
set_option maxRecDepth 20000

theorem wordB_vals (x : Nat) (h : x < 8192) : (wordB x).map byteV = [.int .u8 ((x : Int) / 256), .int .u8 ((x : Int) % 256)] := by
  unfold wordB byteV
  simp only [List.map_cons, List.map_nil, UInt8.toNat_ofNat']
  rw [Nat.mod_eq_of_lt (show x / 256 < 2 ^ 8 by omega), Nat.mod_eq_of_lt (show x % 256 < 2 ^ 8 by omega)]
  simp
theorem cells_two_new (w : World) (a b : Value) (t : Nat) : ∀ j u, ([a, b] : List Value)[j]? = some u → (w.alloc (.cells #[a, b] t)).cell? ((⟨w.heap.size, 0, none⟩ : Addr).add j) = some u := by
  intro j u hu
  have hadd : (⟨w.heap.size, 0, none⟩ : Addr).add j = ⟨w.heap.size, j, none⟩ := by unfold Addr.add; split <;> simp_all
  rw [hadd, World.cell?_alloc_new]
  simpa using hu
theorem two_one (x y : Int) : ∀ u ∈ ([.int .u8 x, .int .u8 y] : List Value), u.oneCell' = true := by
  intro u hu
  simp at hu
  rcases hu with rfl | rfl <;> rfl

set_option maxHeartbeats 1600000 in
theorem l4SpreadAll_any (s : ByteArray) (w : World) (hs : s.size ≤ 65536) :
    Calls Try.prog 89 #[.string s] w fun e w' => e = .returned (.string (str (spreadL s.data.toList))) ∧ Below w.heap.size w w' := by
  obtain ⟨i0, hi0, hz0, hz1, hz2⟩ := info_parts Try.infoU8d
  have HO := hide (own_made0 w 5)
  go_enter Try.func89, Try.ntmps89
  go_wp2_with fail
  go_loopw [3, 4] (fun v i wr => ∃ k : Nat, k ≤ s.size ∧ i = .int .i64 (k : Int) ∧ wr.ownsRow w.heap.size 5 1 v (2 * k) ((spreadL (s.data.toList.take k)).map byteV) ∧ Below w.heap.size w wr) (fun _ i _ => s.size - (intOf i).toNat)
  case atStart => exact ⟨0, Nat.zero_le _, rfl, HO.out, (Below.refl _ _).alloc (Nat.le_refl _) _⟩
  case round =>
    obtain ⟨k, hk, rfl, hown, hbel⟩ := hrel
    have HOWN := hide hown
    have HB := hide hbel
    clear hown hbel HO
    by_cases hlt : k < s.size
    · have hbl := UInt8.toNat_lt s[k]
      have HS : Hid (spreadL (s.data.toList.take (k + 1)) = spreadL (s.data.toList.take k) ++ wordB (Ham.spread s[k].toNat)) := by
        show _ = _
        rw [take_snocB s k hlt, spreadL_snoc]
      obtain ⟨x, hx⟩ : ∃ x, x = Ham.spread s[k].toNat := ⟨_, rfl⟩
      have hx13 : x < 8192 := by rw [hx]; exact Ham.spread_lt hbl
      have HC : ∀ w, Hid (Calls Try.prog 92 #[.int .i64 (s[k].toNat : Int)] w fun e w' => e = .returned (.int .i64 (x : Int)) ∧ Below w.heap.size w w') := fun w => by
        rw [hx]; exact l4Spread_any s[k].toNat w hbl
      rw [← hx] at HS
      clear hx
      go_wp2_with fail
      refine (HC _).out.mono ?_
      rintro e w1 ⟨rfl, b1⟩
      have hB1 := HB.out.trans (b1.mono HB.out.size)
      have HO1 := hide ((own_aside HOWN.out (aside_of_below (lo := 0) (hi := 0) b1) (by omega)).alloc (.cells #[.int .u8 ((x : Int) / 256), .int .u8 ((x : Int) % 256)] 5))
      have HB1 := hide (hB1.alloc hB1.size (.cells #[.int .u8 ((x : Int) / 256), .int .u8 ((x : Int) % 256)] 5))
      clear hB1 b1 HOWN HB HC
      go_wp2_with (at_builtin; (refine wpList_append_own _ rfl (.tmp 18) (.tmp 25) 22 rfl w.heap.size 5 i0 (.int .u8 0) 1 1 Try.underlying22 hi0 hz0 hz1 hz2 rfl (by decide) _ _ _ rfl HO1.out ⟨w1.heap.size, 0, none⟩ 2 2 [.int .u8 ((x : Int) / 256), .int .u8 ((x : Int) % 256)] rfl rfl (cells_two_new _ _ _ _) (two_one _ _) (by unfold maxLen; omega) (by omega) HB1.out.size ?_); intro v' w2 hown2 hgrow2 _; have HO2 := hide hown2; have HB2 := hide (HB1.out.grown hgrow2 HB1.out.size (fun k hk => (HO1.out.lt k hk).1)); clear hown2 hgrow2)
      go_roundw
      case rel =>
        refine ⟨k + 1, by omega, by go_num, ?_, HB2.out⟩
        rw [HS.out, List.map_append, wordB_vals x hx13, show 2 * (k + 1) = 2 * k + 2 by omega]
        exact HO2.out
      case measure => simp [intOf]; omega
    · obtain ⟨a, cp, rfl, hcp, hown⟩ := ownBytes_of HOWN.out (Nat.le_refl _)
      have hst := string_of (P := Try.prog) ⟨hown.1, hown.2.reads⟩ 22 9 5 cp Try.underlying22 Try.underlying5 Try.underlying9
      clear hown HOWN
      go_wp2_with fail
      go_ret
      exact ⟨ret_str (by rw [List.take_of_length_le (by simp; omega)]; rfl), HB.out⟩


end Go.Proofs.Ytocinobbocjikaa
