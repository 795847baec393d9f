/- The walk of chapter 6's model: Spares. -/
import Derived.Test.YtbgjagmnpfcfaakSpareSpec2
import Derived.Test.YtbgjagmnpfcfaakDrawBase
namespace Go.Proofs.Ytbgjagmnpfcfaak
open Go.RowKit
set_option linter.unusedVariables false
set_option linter.unusedSimpArgs false
set_option maxRecDepth 20000

/-- What Spares tells. -/
def sparesT (ts : List ByteArray) (d : Int) : List ByteArray := if columnsOk ts = true ∧ inB d 1 4 = true then (List.range d.toNat).map (spareT ts) else []
theorem sparesT_no {ts : List ByteArray} {d : Int} (h : columnsOk ts = false ∨ inB d 1 4 = false) : sparesT ts d = [] := by
  unfold sparesT
  rw [if_neg]
  rintro ⟨h1, h2⟩
  rcases h with h | h
  · rw [h] at h1; cases h1
  · rw [h] at h2; cases h2
theorem sparesT_yes {ts : List ByteArray} {D : Nat} (h : columnsOk ts = true) (h1 : 1 ≤ D) (h4 : D ≤ 4) : sparesT ts (D : Int) = (List.range D).map (spareT ts) := by
  unfold sparesT
  rw [if_pos ⟨h, by simp [inB]; omega⟩]; simp
theorem strV_one (s : ByteArray) : ∀ u ∈ [Value.string s], u.oneCell' = true := by
  intro u hu; simp only [List.mem_singleton] at hu; subst hu; rfl
/-- What an appended slice of texts owns, told by its cells. -/
theorem ownTexts_of {w : World} {base B n : Nat} {v : Value} {ts : List ByteArray} (h : w.ownsRow base 9 1 v n (ts.map Value.string)) (hB : B ≤ base) : ∃ a cap, v = .slice a n cap ∧ n ≤ cap ∧ OwnTexts B w.heap.size w a n ts := by
  obtain ⟨a, cap, rfl, hcap, hlen, _, how⟩ := owned_of_own h
  have hl : ts.length = n := by simpa using hlen
  refine ⟨a, cap, rfl, hcap, hl, how.1, fun hn => ?_⟩
  obtain ⟨b, off, rfl, h1, h2, h3⟩ := how.2 hn
  refine ⟨b, off, rfl, by omega, h2, fun i hi => ?_⟩
  obtain ⟨h4, h5⟩ := h3 i hi
  refine ⟨?_, h5⟩
  rw [h4]
  unfold cellT
  dsimp only
  rw [List.getD_eq_getElem?_getD, List.getD_eq_getElem?_getD, List.getElem?_map, List.getElem?_eq_getElem (by omega)]
  rfl

set_option maxHeartbeats 1600000 in
theorem specSpares_any (a : Option Addr) (n cap : Nat) (ts : List ByteArray) (d : Int) (w : World) {lo hi : Nat} (h : Texts lo hi w a n ts) (hn : n ≤ 1048576) (hts : ∀ s ∈ ts, s.size ≤ 1048576) :
    Calls Try.prog 9 #[.slice a n cap, .int .i64 d] w fun e w' => ∃ a' m c, e = .returned (.slice a' m c) ∧ m ≤ 4 ∧ OwnTexts w.heap.size w'.heap.size w' a' m (sparesT ts d) ∧ Below w.heap.size w w' := by
  have HH := hide h
  have HTS := hide hts
  have hhi := h.2.1
  clear h hts
  obtain ⟨i0, hi0, hz0, hz1, hz2⟩ := info_parts Try.infoStr
  have HO := hide (own_made0 w 9)
  have HB0 : Hid (Below w.heap.size w (w.alloc (.cells #[] 9))) := (Below.refl _ _).alloc (Nat.le_refl _) _
  cases hok : columnsOk ts
  · have HE := hide (sparesT_no (d := d) (.inl hok))
    go_enter Try.func9, Try.ntmps9
    go_wp2_with fail
    refine (specColumnsOk_any a n cap ts _ (HH.out.later HB0.out hhi) hn HTS.out).mono ?_
    rw [hok]
    rintro e w1 ⟨rfl, b1⟩
    have HB1 := hide (HB0.out.trans (b1.mono (by simp)))
    have HO1 := hide (own_aside HO.out (aside_new (lo := 0) (hi := 0) b1) (by omega))
    clear b1 HO HB0
    go_wp2_with fail
    go_ret
    obtain ⟨a', c, e', _, hown⟩ := ownTexts_of (ts := []) HO1.out (Nat.le_refl _)
    cases e'
    exact ⟨_, _, _, rfl, by omega, by rw [HE.out]; exact hown, HB1.out⟩
  · cases hd : inB d 1 4
    · have HE := hide (sparesT_no (ts := ts) (.inr hd))
      go_enter Try.func9, Try.ntmps9
      go_wp2_with fail
      refine (specColumnsOk_any a n cap ts _ (HH.out.later HB0.out hhi) hn HTS.out).mono ?_
      rw [hok]
      rintro e w1 ⟨rfl, b1⟩
      have HB1 := hide (HB0.out.trans (b1.mono (by simp)))
      have HO1 := hide (own_aside HO.out (aside_new (lo := 0) (hi := 0) b1) (by omega))
      clear b1 HO HB0
      go_wp2_with fail
      refine (l1In_any _ _ _ _).mono ?_
      rw [hd]
      rintro e w2 ⟨rfl, rfl⟩
      go_wp2_with fail
      go_ret
      obtain ⟨a', c, e', _, hown⟩ := ownTexts_of (ts := []) HO1.out (Nat.le_refl _)
      cases e'
      exact ⟨_, _, _, rfl, by omega, by rw [HE.out]; exact hown, HB1.out⟩
    · obtain ⟨D, rfl, hD1, hD4⟩ : ∃ D : Nat, d = (D : Int) ∧ 1 ≤ D ∧ D ≤ 4 := by
        simp [inB] at hd
        exact ⟨d.toNat, by omega, by omega, by omega⟩
      have HE := hide (sparesT_yes hok hD1 hD4)
      have HOK := hide hok
      have HD := hide hd
      clear hok hd
      go_enter Try.func9, Try.ntmps9
      go_wp2_with fail
      refine (specColumnsOk_any a n cap ts _ (HH.out.later HB0.out hhi) hn HTS.out).mono ?_
      rw [HOK.out]
      rintro e w1 ⟨rfl, b1⟩
      have HB1 := hide (HB0.out.trans (b1.mono (by simp)))
      have HO1 := hide (own_aside HO.out (aside_new (lo := 0) (hi := 0) b1) (by omega))
      clear b1 HO HB0
      go_wp2_with fail
      refine (l1In_any _ _ _ _).mono ?_
      rw [HD.out]
      rintro e w2 ⟨rfl, rfl⟩
      go_wp2_with fail
      go_loopw [5, 6] (fun v i wr => ∃ k : Nat, k ≤ D ∧ i = .int .i64 (k : Int) ∧ wr.ownsRow w.heap.size 9 1 v k (((List.range k).map (spareT ts)).map Value.string) ∧ Below w.heap.size w wr) (fun _ i _ => D - (intOf i).toNat)
      case atStart => exact ⟨0, Nat.zero_le _, rfl, HO1.out, HB1.out⟩
      case round =>
        obtain ⟨k, hk, rfl, hown, hbel⟩ := hrel
        clear HO1 HB1
        have HOW := hide hown
        have HBW := hide hbel
        by_cases hlt : k < D
        · have HU : Hid ((List.range (k + 1)).map (spareT ts) = (List.range k).map (spareT ts) ++ [spareT ts k]) := by show _ = _; simp [List.range_succ]
          clear hown hbel
          go_wp2_with fail
          refine (l6Spare_any a n cap ts k wr (HH.out.later HBW.out hhi) HOK.out (by omega)).mono ?_
          rintro e w3 ⟨rfl, b3⟩
          obtain ⟨z, hz⟩ : ∃ z, z = spareT ts k := ⟨_, rfl⟩
          rw [← hz] at HU ⊢
          have HO3 := hide ((own_aside HOW.out (aside_new (lo := 0) (hi := 0) b3) (by omega)).alloc (.cells #[.string z] 9))
          have HB3 := hide ((below_here HBW.out b3).alloc (below_here HBW.out b3).size (.cells #[.string z] 9))
          clear b3 HOW HBW hz
          go_wp2_with (at_builtin; (refine wpList_append_own _ rfl (.tmp 22) (.tmp 26) 22 rfl w.heap.size 9 i0 (.string ByteArray.empty) 1 16 Try.underlying22 hi0 hz0 hz1 hz2 rfl (by decide) _ _ _ rfl HO3.out ⟨w3.heap.size, 0, none⟩ 1 1 [.string z] rfl rfl (cell_one_new _ _ _) (strV_one z) (by unfold maxLen; omega) (by omega) HB3.out.size ?_); intro v' w4 hown2 hgrow2 _; have HO4 := hide hown2; have HB4 := hide (HB3.out.grown hgrow2 HB3.out.size (fun k hk => (HO3.out.lt k hk).1)); clear hown2 hgrow2)
          go_roundw
          case rel => exact ⟨k + 1, by omega, by go_num, by rw [HU.out, List.map_append]; exact HO4.out, HB4.out⟩
          case measure => simp [intOf]; omega
        · obtain rfl : k = D := by omega
          obtain ⟨a', c, rfl, _, hot⟩ := ownTexts_of hown (Nat.le_refl _)
          have HOT := hide hot
          clear hot hown hbel
          go_wp2_with fail
          go_ret
          exact ⟨_, _, _, rfl, by omega, by rw [HE.out]; exact HOT.out, HBW.out⟩
end Go.Proofs.Ytbgjagmnpfcfaak
