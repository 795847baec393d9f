/- The walk of chapter 6's model: Rebuilt. -/
import Derived.Test.YtbgjagmnpfcfaakMendSpec2
namespace Go.Proofs.Ytbgjagmnpfcfaak
open Go.RowKit
set_option linter.unusedVariables false
set_option linter.unusedSimpArgs false
set_option maxRecDepth 100000

set_option maxHeartbeats 6400000 in
theorem specRebuilt_any (a : Option Addr) (n cap : Nat) (ts : List ByteArray) (a' : Option Addr) (n' cap' : Nat) (bs : List Bool) (c : Int) (w : World) {lo hi lo' hi' : Nat} (h : Texts lo hi w a n ts) (h' : Bools lo' hi' w a' n' bs) (hn : n ≤ 1048576) (hn' : n' ≤ 1048576) (hts : ∀ s ∈ ts, s.size ≤ 1048576) (hc9 : (Lit.int .i64 c).wf = true) :
    Calls Try.prog 25 #[.slice a n cap, .slice a' n' cap', .int .i64 c] w (MendedTo ts bs c w) := by
  have hc8 : -9223372036854775808 ≤ c ∧ c ≤ 9223372036854775807 := by
    simp [Lit.wf] at hc9
    exact hc9
  have HH := hide h
  have HH' := hide h'
  have HL := hide h.1
  have HL' := hide h'.1
  have hhi := h.2.1
  have hhi' := h'.2.1
  have HTS := hide hts
  clear h h' hts hc9
  have HEM : ∀ w1, Hid (Below w.heap.size w w1 → OwnTexts w.heap.size (w1.alloc (.cells #[] 9)).heap.size (w1.alloc (.cells #[] 9)) (some ⟨w1.heap.size, 0, none⟩) 0 [] ∧ Below w.heap.size w (w1.alloc (.cells #[] 9))) := fun w1 hb => ⟨⟨rfl, Nat.le_refl _, fun h => absurd h (Nat.lt_irrefl _)⟩, hb.alloc hb.size _⟩
  cases h1 : inB c 1 8
  · have HA : Hid (MendAnswer ts bs c [] false) := .inl ⟨mendOk_no (.inl (by simp [spareB, h1])), rfl, rfl⟩
    have HE := hide ((HEM w).out (Below.refl _ _))
    go_enter Try.func25, Try.ntmps25
    go_wp2_with fail
    refine (l1In_any _ _ _ _).mono ?_
    rw [h1]
    rintro e w1 ⟨rfl, rfl⟩
    go_wp2_with fail
    go_ret2
    exact ⟨_, _, _, _, _, rfl, by omega, HE.out.1, HA.out, HE.out.2⟩
  · obtain ⟨C, rfl, hC1, hC8⟩ : ∃ C : Nat, c = (C : Int) ∧ 1 ≤ C ∧ C ≤ 8 := by
      have h1' := h1
      simp [inB] at h1'
      exact ⟨c.toNat, by omega, by omega, by omega⟩
    cases h2 : inB (n : Int) ((C : Int) + 1) ((C : Int) + 4)
    · have HA : Hid (MendAnswer ts bs (C : Int) [] false) := .inl ⟨mendOk_no (.inl (by rw [HL.out]; simp [spareB, h2])), rfl, rfl⟩
      have HE := hide ((HEM w).out (Below.refl _ _))
      go_enter Try.func25, Try.ntmps25
      go_wp2_with fail
      refine (l1In_any _ _ _ _).mono ?_
      rw [h1]
      rintro e w1 ⟨rfl, rfl⟩
      go_wp2_with fail
      refine (l1In_any _ _ _ _).mono ?_
      rw [h2]
      rintro e w1 ⟨rfl, rfl⟩
      go_wp2_with fail
      go_ret2
      exact ⟨_, _, _, _, _, rfl, by omega, HE.out.1, HA.out, HE.out.2⟩
    · by_cases hnn : n' = n
      · subst hnn
        obtain ⟨hCn, hn4⟩ : C + 1 ≤ n' ∧ n' ≤ C + 4 := by
          have h2' := h2
          simp [inB] at h2'
          omega
        obtain ⟨b, off, rfl, _, hb, hc⟩ := HH.out.2.2 (by omega)
        obtain ⟨b', off', rfl, _, hb', hc'⟩ := HH'.out.2.2 (by omega)
        have HC := hide hc
        have HC' : Hid (∀ i, i < n' → w.cell? ⟨b', off' + i, none⟩ = some (.bool (isThere bs i))) := hc'
        have H1 := hide h1
        have H2 := hide h2
        have hn12 : n' ≤ 12 := by omega
        clear h1 h2 hc hc'
        obtain ⟨s0, hs0, hz0, hz1, hz2⟩ := info_parts Try.infoStr
        obtain ⟨i0, hi0, hy0, hy1, hy2⟩ := info_parts Try.infoI64
        have HG0 := hide (Gath.start w ts bs C)
        have HB0 : Hid (Below w.heap.size w (((w.alloc (.cells #[] 9)).alloc (.cells #[] 2)).alloc (.cells #[] 2))) := (((Below.refl _ _).alloc (Nat.le_refl _) _).alloc (by simp) _).alloc (by simp; omega) _
        go_enter Try.func25, Try.ntmps25
        go_wp2_with fail
        refine (l1In_any _ _ _ _).mono ?_
        rw [H1.out]
        rintro e w1 ⟨rfl, rfl⟩
        go_wp2_with fail
        refine (l1In_any _ _ _ _).mono ?_
        rw [H2.out]
        rintro e w1 ⟨rfl, rfl⟩
        go_wp2_with fail
        go_loopw [9, 10, 11, 12, 60, 75] (fun vh vl vs i _ _ wr => ∃ k : Nat, k ≤ n' ∧ i = .int .i64 (k : Int) ∧ Gath w.heap.size ts bs C k vh vl vs wr ∧ Below w.heap.size w wr) (fun _ _ _ i _ _ _ => n' - (intOf i).toNat)
        case atStart => exact ⟨0, Nat.zero_le _, rfl, HG0.out, HB0.out⟩
        case round =>
          obtain ⟨k, hk, rfl, hG, hbel⟩ := hrel
          clear HG0 HB0
          have HG := hide hG
          have HB := hide hbel
          have hbs := hbel.size
          by_cases hlt : k < n'
          · have hck' : wr.cell? ⟨b', off' + k, none⟩ = some (.bool (isThere bs k)) := (hbel.cell (p := ⟨b', off' + k, none⟩) (by show b' < _; omega)).trans (HC'.out k hlt)
            have hck : wr.cell? ⟨b, off + k, none⟩ = some (.string (ts.getD k ByteArray.empty)) := (hbel.cell (p := ⟨b, off + k, none⟩) (by show b < _; omega)).trans (HC.out k hlt)
            have hlh : (haveK ts bs k).length ≤ 12 := Nat.le_trans (haveK_le ts bs k) (by omega)
            have hll : (lostL bs (Nat.min k C)).length ≤ 12 := (lost_min bs C k).elim id (fun h => by omega)
            have hls : (sparesL bs C k).length ≤ 12 := Nat.le_trans (spare_len bs C k) (by omega)
            clear hG hbel
            cases ht : isThere bs k
            · rw [ht] at hck'
              by_cases hkC : k < C
              · have HGL : ∀ vl' w4, Hid (w4.ownsRow w.heap.size 2 1 vl' ((lostL bs (Nat.min k C)).length + 1) (nums (lostL bs (Nat.min k C)) ++ [.int .i64 (k : Int)]) → (wr.alloc (.cells #[.int .i64 (k : Int)] 2)).grownBy w4 u10.ownBlock → (vl'.ownBlock = u10.ownBlock ∨ vl'.ownBlock = some (wr.alloc (.cells #[.int .i64 (k : Int)] 2)).heap.size) → Gath w.heap.size ts bs C (k + 1) u9 vl' u11 w4 ∧ Below w.heap.size w w4) := fun vl' w4 ho hg hb2 => ⟨HG.out.lost hkC ht ho hg hb2, (HB.out.alloc hbs _).grown hg (by simp; omega) (fun k hk => (HG.out.los.lt k hk).1)⟩
                have HO := hide (HG.out.los.alloc (.cells #[.int .i64 (k : Int)] 2))
                clear ht
                go_wp2_with (at_builtin; (refine wpList_append_own_at _ rfl (.tmp 71) (.tmp 73) 29 rfl w.heap.size 2 i0 (.int .i64 0) 1 8 Try.underlying29 hi0 hy0 hy1 hy2 rfl (by decide) _ _ _ rfl HO.out ⟨wr.heap.size, 0, none⟩ 1 1 [.int .i64 (k : Int)] rfl rfl (cell_one_new _ _ _) (by simp [Value.oneCell']) (by unfold maxLen; omega) (by omega) (by simp; omega) ?_); intro v' w4 hown2 hgrow2 _ hblk2; have HN := hide ((HGL v' w4).out hown2 hgrow2 hblk2); clear hown2 hgrow2 hblk2)
                exact ⟨⟨k + 1, by omega, by go_num, HN.out⟩, by simp [intOf]; omega⟩
              · have HN := hide (HG.out.none (by omega) ht)
                clear ht
                go_wp2_with fail
                exact ⟨⟨k + 1, by omega, by go_num, HN.out, HB.out⟩, by simp [intOf]; omega⟩
            · rw [ht] at hck'
              obtain ⟨z, hz⟩ : ∃ z, z = ts.getD k ByteArray.empty := ⟨_, rfl⟩
              rw [← hz] at hck
              have HZ := hide hz
              have HT := hide ht
              clear hz ht
              have HO := hide (HG.out.hav.alloc (.cells #[.string z] 9))
              by_cases hkC : k < C
              · have HGL : ∀ vh' w4, Hid (w4.ownsRow w.heap.size 9 1 vh' ((haveK ts bs k).length + 1) ((haveK ts bs k).map Value.string ++ [.string z]) → (wr.alloc (.cells #[.string z] 9)).grownBy w4 u9.ownBlock → Gath w.heap.size ts bs C (k + 1) vh' u10 u11 w4 ∧ Below w.heap.size w w4) := fun vh' w4 ho hg => ⟨HG.out.have1 hkC HT.out (by rw [← HZ.out]; exact ho) hg, (HB.out.alloc hbs _).grown hg (by simp; omega) (fun k hk => (HG.out.hav.lt k hk).1)⟩
                go_wp2_with (at_builtin; (refine wpList_append_own_at _ rfl (.tmp 80) (.tmp 85) 22 rfl w.heap.size 9 s0 (.string ByteArray.empty) 1 16 Try.underlying22 hs0 hz0 hz1 hz2 rfl (by decide) _ _ _ rfl HO.out ⟨wr.heap.size, 0, none⟩ 1 1 [.string z] rfl rfl (cell_one_new _ _ _) (strV_one z) (by unfold maxLen; omega) (by omega) (by simp; omega) ?_); intro v' w4 hown2 hgrow2 _ _; have HN := hide ((HGL v' w4).out hown2 hgrow2); clear hown2 hgrow2)
                exact ⟨⟨k + 1, by omega, by go_num, HN.out⟩, by simp [intOf]; omega⟩
              · have hd : (k : Int) - (C : Int) = ((k - C : Nat) : Int) := by omega
                have HGL : ∀ vh' w4, Hid (w4.ownsRow w.heap.size 9 1 vh' ((haveK ts bs k).length + 1) ((haveK ts bs k).map Value.string ++ [.string z]) → (wr.alloc (.cells #[.string z] 9)).grownBy w4 u9.ownBlock → ((w4.alloc (.cells #[.int .i64 ((k - C : Nat) : Int)] 2)).ownsRow w.heap.size 2 1 u11 (sparesL bs C k).length (nums (sparesL bs C k)) ∧ w.heap.size ≤ w4.heap.size) ∧ ∀ vs' w5, w5.ownsRow w.heap.size 2 1 vs' ((sparesL bs C k).length + 1) (nums (sparesL bs C k) ++ [.int .i64 ((k - C : Nat) : Int)]) → (w4.alloc (.cells #[.int .i64 ((k - C : Nat) : Int)] 2)).grownBy w5 u11.ownBlock → (vs'.ownBlock = u11.ownBlock ∨ vs'.ownBlock = some (w4.alloc (.cells #[.int .i64 ((k - C : Nat) : Int)] 2)).heap.size) → Gath w.heap.size ts bs C (k + 1) vh' u10 vs' w5 ∧ Below w.heap.size w w5) := by
                  intro vh' w4 ho hg
                  have hb4 : Below w.heap.size w w4 := (HB.out.alloc hbs _).grown hg (by simp; omega) (fun k hk => (HG.out.hav.lt k hk).1)
                  have hs4 := HG.out.spare (vh' := vh') (tmp2 := .cells #[.int .i64 ((k - C : Nat) : Int)] 2) hg
                  refine ⟨⟨hs4, hb4.size⟩, fun vs' w5 ho2 hg2 hb2 => ⟨HG.out.have2 (by omega) HT.out (by rw [← HZ.out]; exact ho) hg ho2 hg2 hb2, (hb4.alloc hb4.size _).grown hg2 (by simp; have := hb4.size; omega) (fun k hk => (hs4.lt k hk).1)⟩⟩
                generalize k - C = d at *
                go_wp2_with (first | (at_builtin; (refine wpList_append_own_at _ rfl (.tmp 80) (.tmp 85) 22 rfl w.heap.size 9 s0 (.string ByteArray.empty) 1 16 Try.underlying22 hs0 hz0 hz1 hz2 rfl (by decide) _ _ _ rfl HO.out ⟨wr.heap.size, 0, none⟩ 1 1 [.string z] rfl rfl (cell_one_new _ _ _) (strV_one z) (by unfold maxLen; omega) (by omega) (by simp; omega) ?_); intro v' w4 hown2 hgrow2 _ _; have HN := hide ((HGL v' w4).out hown2 hgrow2); have hs4 := HN.out.1.2; clear hown2 hgrow2) | (at_builtin; (refine wpList_append_own_at _ rfl (.tmp 90) (.tmp 94) 29 rfl w.heap.size 2 i0 (.int .i64 0) 1 8 Try.underlying29 hi0 hy0 hy1 hy2 rfl (by decide) _ _ _ rfl HN.out.1.1 ⟨w4.heap.size, 0, none⟩ 1 1 [.int .i64 (d : Int)] rfl rfl (cell_one_new _ _ _) (by simp [Value.oneCell']) (by unfold maxLen; omega) (by omega) (by simp; omega) ?_); intro v5 w5 hown3 hgrow3 _ hblk3; have HN5 := hide (HN.out.2 v5 w5 hown3 hgrow3 hblk3); clear hown3 hgrow3 hblk3))
                exact ⟨⟨k + 1, by omega, by go_num, HN5.out⟩, by simp [intOf]; omega⟩
          · obtain rfl : k = n' := by omega
            have hmin : Nat.min k C = C := Nat.min_eq_right (by omega)
            obtain ⟨ah, ch, hvh, _, hth⟩ := ownTexts_of (B := w.heap.size) hG.hav (Nat.le_refl _)
            have hlo0 := hG.los
            rw [hmin] at hlo0
            obtain ⟨al, cl, hvl, _, hrl⟩ := nums_of hlo0
            obtain ⟨asp, csp, hvs, _, hrs⟩ := nums_of hG.spa
            rw [haveK_all HL.out] at hvh hth
            rw [hvh, hvl, hvs]
            obtain ⟨nh, hnh⟩ : ∃ nh, nh = (haveL ts bs).length := ⟨_, rfl⟩
            obtain ⟨cnt, hcnt⟩ : ∃ cnt, cnt = (lostL bs C).length := ⟨_, rfl⟩
            obtain ⟨ucnt, hucn⟩ : ∃ ucnt, ucnt = (sparesL bs C k).length := ⟨_, rfl⟩
            rw [← hnh] at hth ⊢
            rw [← hcnt] at hrl ⊢
            rw [← hucn] at hrs ⊢
            have hnh12 : nh ≤ 12 := by rw [hnh, ← haveK_all HL.out]; exact Nat.le_trans (haveK_le ts bs k) hn12
            have hcnt8 : cnt ≤ 8 := by rw [hcnt, ← places_lost]; exact Nat.le_trans (placesL_le _ _ _) hC8
            have hucn4 : ucnt ≤ 4 := by rw [hucn]; have := spare_len bs C k; omega
            have HTH := hide hth.texts
            have HRL := hide hrl
            have HRS := hide hrs
            have HNH := hide hnh
            have HCN := hide hcnt
            have HUC := hide hucn
            clear hG HG hvh hvl hvs hth hlo0 hrl hrs hnh hcnt hucn hmin hbel
            obtain ⟨wa, hwa⟩ : ∃ wa, wa = wr := ⟨_, rfl⟩
            subst hwa
            by_cases hless : ucnt < cnt
            · have HA : Hid (MendAnswer ts bs (C : Int) [] false) := .inl ⟨mendOk_no (.inr (.inr (.inr (by rw [HL.out, Int.toNat_natCast, ← HCN.out, ← HUC.out]; exact hless)))), rfl, rfl⟩
              have HE := hide ((HEM wa).out HB.out)
              go_wp2_with fail
              go_ret2
              exact ⟨_, _, _, _, _, rfl, by omega, HE.out.1, HA.out, HE.out.2⟩
            · have hnh0 : 0 < nh := by rw [HNH.out]; exact have_some hC1 (by rw [HL.out]; omega) (by rw [HL.out, ← HCN.out, ← HUC.out]; omega)
              have HHT : Hid (∀ s ∈ haveL ts bs, s.size ≤ 1048576) := by
                intro s hs
                unfold haveL at hs
                rw [List.mem_map] at hs
                obtain ⟨i, hi, rfl⟩ := hs
                rw [List.mem_filter, List.mem_range] at hi
                exact HTS.out _ (getD_mem hi.1)
              have HAK := hide (l6Alike_any ah nh ch (haveL ts bs) wa HTH.out (by omega) HHT.out)
              have e9 : ((nh : Int) == 0) = false := by simp; omega
              cases hal : alikeB (haveL ts bs)
              · have HA : Hid (MendAnswer ts bs (C : Int) [] false) := .inl ⟨mendOk_no (.inr (.inr (.inl hal))), rfl, rfl⟩
                rw [hal] at HAK
                go_wp2_with fail
                refine HAK.out.mono ?_
                rintro e w2 ⟨rfl, b2⟩
                have HE := hide ((HEM w2).out (below_here HB.out b2))
                clear b2
                go_wp2_with fail
                go_ret2
                exact ⟨_, _, _, _, _, rfl, by omega, HE.out.1, HA.out, HE.out.2⟩
              · rw [hal] at HAK
                have HOK : Hid (mendOk ts bs (C : Int) = true) := mendOk_of hC1 (by rw [HL.out]; simp [spareB, H1.out, H2.out]) (HL'.out.trans HL.out.symm) hal (by rw [HL.out, ← HCN.out, ← HUC.out]; omega)
                obtain ⟨L, hLe⟩ : ∃ L, L = ((haveL ts bs).getD 0 ByteArray.empty).size := ⟨_, rfl⟩
                have hL3 : L ≤ 300 := by rw [hLe]; exact have_first hal (by rw [← HNH.out]; exact hnh0)
                have HSZ : Hid (∀ i, i < k → isThere bs i = true → (ts.getD i ByteArray.empty).size = L) := fun i hi ht => by rw [hLe]; exact (have_size hal (by rw [HL.out]; exact hi) ht).1
                have HLE := hide hLe
                clear hal hLe
                go_wp2_with fail
                refine HAK.out.mono ?_
                rintro e wb ⟨rfl, b2⟩
                have HBB := hide (below_here HB.out b2)
                have hsb := b2.size
                have HTB := hide (HTH.out.later b2 (Nat.le_refl _))
                have HLB := hide (HRL.out.later b2 (Nat.le_refl _))
                have HSB := hide (HRS.out.later b2 (Nat.le_refl _))
                clear b2 HAK HTH HRL HRS HEM HHT HB
                obtain ⟨bh, oh, rfl, _, hbh, hch⟩ := HTB.out.2.2 hnh0
                have HCH : Hid (wb.cell? ⟨bh, oh, none⟩ = some (.string ((haveL ts bs).getD 0 ByteArray.empty))) := hch 0 hnh0
                obtain ⟨zh, hzh⟩ : ∃ zh, zh = (haveL ts bs).getD 0 ByteArray.empty := ⟨_, rfl⟩
                rw [← hzh] at HCH
                have hzL : zh.size = L := by rw [HLE.out, hzh]
                have hbb := HBB.out.size
                clear hch hzh
                obtain ⟨j0, hj0, hx0, hx1, hx2⟩ := info_parts Try.infoB8
                have hmk := run_make_row' (P := Try.prog) 67 5 (.int .u8 0) 1 Try.underlying67 Try.infoU8s rfl .i64 .i64 L (by omega) (by omega)
                have HM0 := hide (ByM.start wb L)
                have HMB0 : Hid (Below wb.heap.size wb (wb.alloc (.cells #[] 67))) := (Below.refl _ _).alloc (Nat.le_refl _) _
                go_wp2_with fail
                go_loopw [13, 14, 15] (fun v i _ wr => ∃ (q : Nat) (P : Nat → Nat), q ≤ C ∧ i = .int .i64 (q : Int) ∧ ByM wb.heap.size q L wr v P (fun i j => if isThere bs i then byteN (ts.getD i ByteArray.empty) j else 0) ∧ Below wb.heap.size wb wr) (fun _ i _ _ => C - (intOf i).toNat)
                case atStart => exact ⟨0, _, Nat.zero_le _, rfl, HM0.out.congr (fun i hi => absurd hi (by omega)), HMB0.out⟩
                case round =>
                  obtain ⟨q, P, hq, rfl, hM, hbel⟩ := hrel
                  clear HM0 HMB0
                  have hbs2 := hbel.size
                  by_cases hlt2 : q < C
                  · have hbw : Below w.heap.size w wr := below_here HBB.out hbel
                    have hc0 : wr.cell? ⟨bh, oh, none⟩ = some (.string zh) := (hbel.cell (p := ⟨bh, oh, none⟩) (by show bh < _; omega)).trans HCH.out
                    have hck' : wr.cell? ⟨b', off' + q, none⟩ = some (.bool (isThere bs q)) := (hbw.cell (p := ⟨b', off' + q, none⟩) (by show b' < _; omega)).trans (HC'.out q (by omega))
                    have hck : wr.cell? ⟨b, off + q, none⟩ = some (.string (ts.getD q ByteArray.empty)) := (hbw.cell (p := ⟨b, off + q, none⟩) (by show b < _; omega)).trans (HC.out q (by omega))
                    have HM := hide hM
                    have HBL := hide hbel
                    have HST : ∀ (x : Nat → Nat) (w5 w6 : World) (v' : Value), Hid (Below wr.heap.size wr w5 → w5.rowIs wr.heap.size 5 L (fun j => .int .u8 (x j : Int)) → (∀ j, j < L → x j = if isThere bs q then byteN (ts.getD q ByteArray.empty) j else 0) → w6.ownsRow wb.heap.size 67 1 v' (q + 1) (((List.range q).map fun i => Value.slice (some ⟨P i, 0, none⟩) L L) ++ [.slice (some ⟨wr.heap.size, 0, none⟩) L L]) → (w5.alloc (.cells #[.slice (some ⟨wr.heap.size, 0, none⟩) L L] 67)).grownBy w6 u13.ownBlock → (∃ P', ByM wb.heap.size (q + 1) L w6 v' P' (fun i j => if isThere bs i then byteN (ts.getD i ByteArray.empty) j else 0)) ∧ Below wb.heap.size wb w6) := by
                      intro x w5 w6 v' hb5 hr5 hx ho hg
                      refine ⟨⟨_, (HM.out.step hb5 (Nat.le_refl _) hbs2 hr5 ho hg).congr fun i hi j hj => ?_⟩, ((HBL.out.trans (hb5.mono hbs2)).alloc (by have := hb5.size; omega) _).grown hg (by simp; have := hb5.size; omega) (fun k hk => (HM.out.top.lt k hk).1)⟩
                      by_cases e : i = q
                      · subst e; simp only [if_true]; exact hx j hj
                      · simp only [if_neg e]
                    have HTP : ∀ w5, Hid (Below wr.heap.size wr w5 → (w5.alloc (.cells #[.slice (some ⟨wr.heap.size, 0, none⟩) L L] 67)).ownsRow wb.heap.size 67 1 u13 q ((List.range q).map fun i => Value.slice (some ⟨P i, 0, none⟩) L L)) := fun w5 hb5 => (own_below HM.out.top hb5).alloc _
                    have hckA' : (wr.alloc (.cells (madeCells #[.int .u8 0] L) 5)).cell? ⟨b', off' + q, none⟩ = some (.bool (isThere bs q)) := (((Below.refl wr.heap.size wr).alloc (Nat.le_refl _) (.cells (madeCells #[.int .u8 0] L) 5)).cell (p := ⟨b', off' + q, none⟩) (by show b' < _; omega)).trans hck'
                    have hckA : (wr.alloc (.cells (madeCells #[.int .u8 0] L) 5)).cell? ⟨b, off + q, none⟩ = some (.string (ts.getD q ByteArray.empty)) := (((Below.refl wr.heap.size wr).alloc (Nat.le_refl _) (.cells (madeCells #[.int .u8 0] L) 5)).cell (p := ⟨b, off + q, none⟩) (by show b < _; omega)).trans hck
                    clear hM hbel hbw hck hck'
                    cases ht : isThere bs q
                    · rw [ht] at hckA'
                      have HB5 : Hid (Below wr.heap.size wr (wr.alloc (.cells (madeCells #[.int .u8 0] L) 5))) := (Below.refl _ _).alloc (Nat.le_refl _) _
                      have HT5 := hide ((HTP _).out HB5.out)
                      have HN : ∀ (w6 : World) (v' : Value), Hid (w6.ownsRow wb.heap.size 67 1 v' (q + 1) (((List.range q).map fun i => Value.slice (some ⟨P i, 0, none⟩) L L) ++ [.slice (some ⟨wr.heap.size, 0, none⟩) L L]) → ((wr.alloc (.cells (madeCells #[.int .u8 0] L) 5)).alloc (.cells #[.slice (some ⟨wr.heap.size, 0, none⟩) L L] 67)).grownBy w6 u13.ownBlock → (∃ P', ByM wb.heap.size (q + 1) L w6 v' P' (fun i j => if isThere bs i then byteN (ts.getD i ByteArray.empty) j else 0)) ∧ Below wb.heap.size wb w6) := fun w6 v' ho hg => (HST (fun _ => 0) _ w6 v').out HB5.out (World.rowIs_made wr (.int .u8 0) L 5) (fun j _ => by rw [ht]; rfl) ho hg
                      clear ht HST HTP HM HBL
                      go_wp2_with (at_builtin; (refine wpList_append_own_at _ rfl (.tmp 133) (.tmp 135) 66 rfl wb.heap.size 67 j0 (.slice none 0 0) 1 24 Try.underlying66 hj0 hx0 hx1 hx2 rfl (by decide) _ _ _ rfl HT5.out ⟨wr.heap.size + 1, 0, none⟩ 1 1 [.slice (some ⟨wr.heap.size, 0, none⟩) L L] rfl rfl (one_news (by simp)) (by simp [Value.oneCell']) (by unfold maxLen; omega) (by omega) (by simp; omega) ?_); intro v' w6 hown2 hgrow2 _ _; obtain ⟨⟨P', hM'⟩, hB'⟩ := (HN w6 v').out hown2 hgrow2; have HM' := hide hM'; have HB' := hide hB'; clear hown2 hgrow2 hM' hB')
                      exact ⟨⟨q + 1, P', by omega, by go_num, HM'.out, HB'.out⟩, by simp [intOf]; omega⟩
                    · rw [ht] at hckA'
                      obtain ⟨z, hz⟩ : ∃ z, z = ts.getD q ByteArray.empty := ⟨_, rfl⟩
                      have hzs : z.size = L := by rw [hz]; exact HSZ.out q (by omega) ht
                      rw [← hz] at hckA
                      obtain ⟨w5, hcp, hr5, hb5⟩ := copy_text wr z L hzs hL3
                      have hs5 := hb5.size
                      have HT5 := hide ((HTP _).out hb5)
                      have HN : ∀ (w6 : World) (v' : Value), Hid (w6.ownsRow wb.heap.size 67 1 v' (q + 1) (((List.range q).map fun i => Value.slice (some ⟨P i, 0, none⟩) L L) ++ [.slice (some ⟨wr.heap.size, 0, none⟩) L L]) → (w5.alloc (.cells #[.slice (some ⟨wr.heap.size, 0, none⟩) L L] 67)).grownBy w6 u13.ownBlock → (∃ P', ByM wb.heap.size (q + 1) L w6 v' P' (fun i j => if isThere bs i then byteN (ts.getD i ByteArray.empty) j else 0)) ∧ Below wb.heap.size wb w6) := fun w6 v' ho hg => (HST (byteN z) w5 w6 v').out hb5 hr5 (fun j _ => by rw [ht, hz]; rfl) ho hg
                      clear ht HST HTP HM HBL hr5 hb5 hz
                      go_wp2_with (at_builtin; (refine wpList_append_own_at _ rfl (.tmp 133) (.tmp 135) 66 rfl wb.heap.size 67 j0 (.slice none 0 0) 1 24 Try.underlying66 hj0 hx0 hx1 hx2 rfl (by decide) _ _ _ rfl HT5.out ⟨w5.heap.size, 0, none⟩ 1 1 [.slice (some ⟨wr.heap.size, 0, none⟩) L L] rfl rfl (cell_one_new _ _ _) (by simp [Value.oneCell']) (by unfold maxLen; omega) (by omega) (by simp; omega) ?_); intro v' w6 hown2 hgrow2 _ _; obtain ⟨⟨P', hM'⟩, hB'⟩ := (HN w6 v').out hown2 hgrow2; have HM' := hide hM'; have HB' := hide hB'; clear hown2 hgrow2 hM' hB')
                      exact ⟨⟨q + 1, P', by omega, by go_num, HM'.out, HB'.out⟩, by simp [intOf]; omega⟩
                  · obtain rfl : q = C := by omega
                    obtain ⟨go, co, hvo, hco⟩ := hM.at (by omega)
                    rw [hvo]
                    have HM := hide hM
                    rw [hvo] at HM
                    have HBC := hide hbel
                    have HBW := hide (below_here HBB.out hbel)
                    have HTC := hide (HTB.out.later hbel hsb)
                    have HLC := hide (HLB.out.later hbel hsb)
                    have HSC := hide (HSB.out.later hbel hsb)
                    have HCC := hide ((hbel.cell (p := ⟨bh, oh, none⟩) (by show bh < _; omega)).trans HCH.out)
                    have hsw := HBW.out.size
                    have hsca : wa.heap.size ≤ wr.heap.size := by omega
                    clear hM hbel hvo hco HBB HTB HLB HSB HCH hmk
                    obtain ⟨wc, hwc⟩ : ∃ wc, wc = wr := ⟨_, rfl⟩
                    subst hwc
                    obtain ⟨k0, hk0, hw0, hw1, hw2⟩ := info_parts Try.infoSI
                    have HF0 := hide (FacM.start wc cnt (facX bs q k cnt))
                    have HFB0 : Hid (Below wc.heap.size wc (wc.alloc (.cells #[] 29))) := (Below.refl _ _).alloc (Nat.le_refl _) _
                    go_wp2_with fail
                    go_loopw [16, 17, 18, 19] (fun v i _ _ wr => ∃ (r : Nat) (P2 C2 : Nat → Nat), r ≤ cnt ∧ i = .int .i64 (r : Int) ∧ FacM wc.heap.size cnt r wr v P2 C2 (facX bs q k cnt) ∧ Below wc.heap.size wc wr) (fun _ i _ _ _ => cnt - (intOf i).toNat)
                    case atStart => exact ⟨0, _, _, Nat.zero_le _, rfl, HF0.out, HFB0.out⟩
                    case round =>
                      obtain ⟨r, P2, C2, hr, rfl, hF, hbel⟩ := hrel
                      clear HF0 HFB0
                      have hbs3 := hbel.size
                      by_cases hlt3 : r < cnt
                      · obtain ⟨wo, hwo⟩ : ∃ wo, wo = wr := ⟨_, rfl⟩
                        subst hwo
                        have HF := hide hF
                        have HBO := hide hbel
                        obtain ⟨bl, ol, rfl, _, hbl, hcl⟩ := (HLC.out.later hbel hsca).2 (by omega)
                        obtain ⟨bp, op, rfl, _, hbp, hcp⟩ := (HSC.out.later hbel hsca).2 (by omega)
                        have HCL := hide hcl
                        have hu0 : wo.cell? ⟨bp, op + r, none⟩ = some (.int .i64 ((sparesL bs q k).getD r 0 : Int)) := hcp r (by omega)
                        have hspr := spare_at (bs := bs) (C := q) (n := k) (r := r) (by rw [← HUC.out]; omega)
                        obtain ⟨u, hue⟩ : ∃ u, u = (sparesL bs q k).getD r 0 := ⟨_, rfl⟩
                        rw [← hue] at hu0 hspr
                        have hu4 : u < 4 := by omega
                        have hru : r < ucnt := by omega
                        have HUE := hide hue
                        have HU0 := hide hu0
                        clear hF hbel hcl hcp hu0 hspr hue
                        have HE := hide (own_made0 wo 2)
                        have HBE : Hid (Below wo.heap.size wo (wo.alloc (.cells #[] 2))) := (Below.refl _ _).alloc (Nat.le_refl _) _
                        go_wp2_with fail
                        go_loopw [18, 19] (fun v i wr => ∃ m : Nat, m ≤ cnt ∧ i = .int .i64 (m : Int) ∧ wr.ownsRow wo.heap.size 2 1 v m (((List.range m).map fun x => (factor ((lostL bs q).getD x 0) u : Int)).map (Value.int .i64)) ∧ Below wo.heap.size wo wr) (fun _ i _ => cnt - (intOf i).toNat)
                        case atStart => exact ⟨0, Nat.zero_le _, rfl, HE.out, HBE.out⟩
                        case round =>
                          obtain ⟨m, hm, rfl, hown, hbel⟩ := hrel
                          clear HE HBE
                          have hbs4 := hbel.size
                          by_cases hlt4 : m < cnt
                          · have hl : wr.cell? ⟨bl, ol + m, none⟩ = some (.int .i64 ((lostL bs q).getD m 0 : Int)) := (hbel.cell (p := ⟨bl, ol + m, none⟩) (by show bl < _; omega)).trans (HCL.out m hlt4)
                            have hu : wr.cell? ⟨bp, op + r, none⟩ = some (.int .i64 (u : Int)) := (hbel.cell (p := ⟨bp, op + r, none⟩) (by show bp < _; omega)).trans HU0.out
                            have hlo := lost_at (bs := bs) (C := q) (k := m) (by rw [← HCN.out]; exact hlt4)
                            have HU : Hid ((List.range (m + 1)).map (fun x => (factor ((lostL bs q).getD x 0) u : Int)) = (List.range m).map (fun x => (factor ((lostL bs q).getD x 0) u : Int)) ++ [(factor ((lostL bs q).getD m 0) u : Int)]) := by show _ = _; simp [List.range_succ]
                            obtain ⟨l, hle⟩ : ∃ l, l = (lostL bs q).getD m 0 := ⟨_, rfl⟩
                            rw [← hle] at hl hlo HU
                            have hl8 : l < 8 := by omega
                            have HOW := hide hown
                            have HBW4 := hide hbel
                            have HFA : ∀ w9, Hid (Calls Try.prog 53 #[.int .i64 (l : Int), .int .i64 (u : Int)] w9 fun e w' => e = .returned (.int .i64 (factor l u : Int)) ∧ w9 = w') := fun w9 => l6Factor_any l u w9 (by omega) (by omega)
                            clear hown hbel hle hlo
                            generalize factor l u = f at *
                            have HO1 := hide (HOW.out.alloc (.cells #[.int .i64 (f : Int)] 2))
                            have HB1 : Hid (Below wo.heap.size wr (wr.alloc (.cells #[.int .i64 (f : Int)] 2)).drew) := ((Below.refl wo.heap.size wr).alloc hbs4 _).drew
                            have HK : ∀ w9, Hid (Below wo.heap.size wr w9 → w9.cell? ⟨bl, ol + m, none⟩ = some (.int .i64 (l : Int)) ∧ w9.cell? ⟨bp, op + r, none⟩ = some (.int .i64 (u : Int))) := fun w9 hb9 => ⟨(hb9.cell (p := ⟨bl, ol + m, none⟩) (by show bl < _; omega)).trans hl, (hb9.cell (p := ⟨bp, op + r, none⟩) (by show bp < _; omega)).trans hu⟩
                            go_wp2_with fail
                            go_region_held3 (fun w9 => w9.cell? ⟨bl, ol + m, none⟩ = some (.int .i64 (l : Int)) ∧ w9.cell? ⟨bp, op + r, none⟩ = some (.int .i64 (u : Int))) (first | exact ⟨hl, hu⟩ | exact (HK _).out HB1.out | exact (HK _).out HB4.out | fail)
                              (first
                                | (go_at_call 53; refine (HFA _).out.mono ?_; rintro e w9 ⟨rfl, rfl⟩)
                                | (refine step_append_own _ (by rfl) _ _ _ (by rfl) wo.heap.size 2 i0 (.int .i64 0) 1 8 Try.underlying29 hi0 hy0 hy1 hy2 rfl (by decide) _ _ _ (by rfl) HO1.out ⟨wr.heap.size, 0, none⟩ 1 1 [.int .i64 (f : Int)] (by rfl) rfl (cell_one_new _ _ _) (by simp [Value.oneCell']) (by unfold maxLen; omega) (by omega) (by simp; omega) ?_; intro v' w4 hown2 hgrow2; have HB4 := hide (HB1.out.grown hgrow2 (by simp; omega) (fun k hk => (HO1.out.lt k hk).1)); have HO4 := hide hown2; clear hown2 hgrow2))
                            all_goals
                              go_wp2_with fail
                              exact ⟨⟨m + 1, by omega, by go_num, by rw [HU.out, List.map_append]; exact HO4.out, HBW4.out.trans HB4.out⟩, by simp [intOf]; omega⟩
                          · obtain rfl : m = cnt := by omega
                            obtain ⟨ag, cg, hu18, _, _, hsome, _⟩ := owned_of_own hown
                            obtain ⟨gr, rfl⟩ := hsome (by omega)
                            rw [hu18] at hown ⊢
                            have HXk : Hid ((List.range m).map (fun x => (factor ((lostL bs q).getD x 0) u : Int)) = facX bs q k m r) := by show _ = _; unfold facX; rw [HUE.out]
                            rw [HXk.out] at hown
                            have HTP := hide ((own_below HF.out.top hbel).alloc (.cells #[.slice (some ⟨gr, 0, none⟩) m cg] 29))
                            have HST : ∀ (w6 : World) (v' : Value), Hid (w6.ownsRow wc.heap.size 29 1 v' (r + 1) (((List.range r).map fun i => Value.slice (some ⟨P2 i, 0, none⟩) m (C2 i)) ++ [.slice (some ⟨gr, 0, none⟩) m cg]) → (wr.alloc (.cells #[.slice (some ⟨gr, 0, none⟩) m cg] 29)).grownBy w6 u16.ownBlock → (∃ P' C', FacM wc.heap.size m (r + 1) w6 v' P' C' (facX bs q k m)) ∧ Below wc.heap.size wc w6) := fun w6 v' ho hg => ⟨⟨_, _, HF.out.step hbel hbs3 hown ho hg⟩, ((HBO.out.trans (hbel.mono hbs3)).alloc (by omega) _).grown hg (by simp; omega) (fun k hk => (HF.out.top.lt k hk).1)⟩
                            clear hown hbel hu18 HXk HF
                            go_wp2_with (at_builtin; (refine wpList_append_own_at _ rfl (.tmp 163) (.tmp 165) 28 rfl wc.heap.size 29 k0 (.slice none 0 0) 1 24 Try.underlying28 hk0 hw0 hw1 hw2 rfl (by decide) _ _ _ rfl HTP.out ⟨wr.heap.size, 0, none⟩ 1 1 [.slice (some ⟨gr, 0, none⟩) m cg] rfl rfl (cell_one_new _ _ _) (by simp [Value.oneCell']) (by unfold maxLen; omega) (by omega) (by simp; omega) ?_); intro v' w6 hown2 hgrow2 _ _; obtain ⟨⟨P', C', hM'⟩, hB'⟩ := (HST w6 v').out hown2 hgrow2; have HM' := hide hM'; have HB' := hide hB'; clear hown2 hgrow2 hM' hB')
                            exact ⟨⟨r + 1, P', C', by omega, by go_num, HM'.out, HB'.out⟩, by simp [intOf]; omega⟩
                      · obtain rfl : r = cnt := by omega
                        obtain ⟨ar, cr, hv16, hrows⟩ := hF.rowsB (fun i _ => facX_len _ _ _ _ _)
                        rw [hv16]
                        have HRX := hide hrows
                        have HMD := hide (HM.out.below hbel)
                        have HPL : Hid (∀ i, i < q → wb.heap.size ≤ P i ∧ P i < wc.heap.size) := fun i hi => ⟨HM.out.low i hi, (HM.out.row i hi).lt⟩
                        have HBD := hide (below_here HBW.out hbel)
                        have HTD := hide (HTC.out.later hbel hsca)
                        have HLD := hide (HLC.out.later hbel hsca)
                        have HSD := hide (HSC.out.later hbel hsca)
                        have HCD := hide ((hbel.cell (p := ⟨bh, oh, none⟩) (by show bh < _; omega)).trans HCC.out)
                        have hsd := hbel.size
                        clear hF hbel hv16 hrows HM HBC HBW HTC HLC HSC HCC
                        obtain ⟨wd, hwd⟩ : ∃ wd, wd = wr := ⟨_, rfl⟩
                        subst hwd
                        have HM0 : Hid (ByM wb.heap.size q L wd (.slice (some ⟨go, 0, none⟩) q co) P (BX ts bs q 0 (fun _ _ => 0))) := HMD.out.congr (fun i _ j _ => by unfold BX; simp)
                        have HS0 : Hid (Sol ts bs q r 0 (fun _ _ => 0)) := fun j hj => absurd hj (by omega)
                        clear HMD
                        go_wp2_with fail
                        go_loopw [20, 21, 22, 23, 24, 25, 26, 27] (fun i _ _ _ _ _ _ _ wr => ∃ (p : Nat) (X : Nat → Nat → Nat), p ≤ L ∧ i = .int .i64 (p : Int) ∧ ByM wb.heap.size q L wr (.slice (some ⟨go, 0, none⟩) q co) P (BX ts bs q p X) ∧ Sol ts bs q r p X ∧ (∀ i, i < q → ∀ j, BX ts bs q p X i j < 256) ∧ Aside wb.heap.size wc.heap.size wd wr) (fun i _ _ _ _ _ _ _ _ => L - (intOf i).toNat)
                        case atStart => exact ⟨0, _, Nat.zero_le _, rfl, HM0.out, HS0.out, (fun i _ j => BX_zero_lt _ _ _ _ _ _), Aside.refl _ _ _⟩
                        case round =>
                          obtain ⟨p, X, hp, rfl, hM, hS, hlt256, hA⟩ := hrel
                          clear HM0 HS0
                          have HMX := hide hM
                          have HS := hide hS
                          have HLT := hide hlt256
                          have HA := hide hA
                          have hsA := hA.size
                          have hc0 : wr.cell? ⟨bh, oh, none⟩ = some (.string zh) := (World.cell?_of_block (w := wd) (a := ⟨bh, oh, none⟩) (hA.block bh (by omega) (.inl (by omega)))).trans HCD.out
                          clear hM hS hlt256 hA
                          by_cases hat : p < L
                          · by_cases hr0 : 0 < r
                            · have hrl : r ≤ ucnt := by omega
                              obtain ⟨wo, hwo⟩ : ∃ wo, wo = wr := ⟨_, rfl⟩
                              subst hwo
                              have hbw : Below w.heap.size w wo := HBD.out.trans (HA.out.below hbb (by omega))
                              have HBWO := hide hbw
                              obtain ⟨bl, ol, rfl, _, hbl, hcl⟩ := (HLD.out.aside HA.out (.inl hsb)).2 hr0
                              obtain ⟨bp, op, rfl, _, hbp, hcp⟩ := (HSD.out.aside HA.out (.inl hsb)).2 (by omega)
                              have HCL := hide hcl
                              have HCP := hide hcp
                              obtain ⟨g9, c9, e9', hcell⟩ := HMX.out.at (by omega)
                              cases e9'
                              have HCE := hide hcell
                              have hgo : go < wo.heap.size := World.block_lt_of_cell? _ _ (hcell 0 (by omega))
                              have HRO := hide (HRX.out.aside HA.out (.inr (Nat.le_refl _)))
                              clear hcl hcp hcell hbw
                              have HE := hide (own_made0 wo 2)
                              have HBE : Hid (Below wo.heap.size wo (wo.alloc (.cells #[] 2))) := (Below.refl _ _).alloc (Nat.le_refl _) _
                              go_wp2_with fail
                              go_loopw [21, 22, 23, 24] (fun v i _ _ wr => ∃ rr : Nat, rr ≤ r ∧ i = .int .i64 (rr : Int) ∧ wr.ownsRow wo.heap.size 2 1 v rr ((rightX ts bs q rr p).map (Value.int .i64)) ∧ Below wo.heap.size wo wr) (fun _ i _ _ _ => r - (intOf i).toNat)
                              case atStart => exact ⟨0, Nat.zero_le _, rfl, HE.out, HBE.out⟩
                              case round =>
                                obtain ⟨rr, hrr, rfl, hown, hbel⟩ := hrel
                                clear HE HBE
                                have hbs5 := hbel.size
                                by_cases hlt5 : rr < r
                                · have hru : rr < ucnt := by omega
                                  have hspr := spare_at (bs := bs) (C := q) (n := k) (r := rr) (by rw [← HUC.out]; exact hru)
                                  have hu : wr.cell? ⟨bp, op + rr, none⟩ = some (.int .i64 ((sparesL bs q k).getD rr 0 : Int)) := (hbel.cell (p := ⟨bp, op + rr, none⟩) (by show bp < _; omega)).trans (HCP.out rr hru)
                                  obtain ⟨u, hue⟩ : ∃ u, u = (sparesL bs q k).getD rr 0 := ⟨_, rfl⟩
                                  rw [← hue] at hu hspr
                                  have hu4 : u < 4 := by omega
                                  have hqu : q + u < k := by omega
                                  obtain ⟨z, hze⟩ : ∃ z, z = ts.getD (q + u) ByteArray.empty := ⟨_, rfl⟩
                                  have hzc : wr.cell? ⟨b, off + (q + u), none⟩ = some (.string z) := by
                                    rw [hze]
                                    exact (hbel.cell (p := ⟨b, off + (q + u), none⟩) (by show b < _; omega)).trans ((HBWO.out.cell (p := ⟨b, off + (q + u), none⟩) (by show b < _; omega)).trans (HC.out (q + u) hqu))
                                  have hzs : z.size = L := by rw [hze]; exact HSZ.out (q + u) hqu hspr.2
                                  obtain ⟨y, hy⟩ : ∃ y, y = byteN z p := ⟨_, rfl⟩
                                  have hy8 : y < 256 := by rw [hy]; exact byteN_lt z p
                                  have hxi := index_atT (P := Try.prog) 9 Try.underlying9 z p (by omega) y hy
                                  have j1 : IntKind.i64.wrap (y : Int) = (y : Int) := by rw [IntKind.wrap_i64]; omega
                                  have HY0 : Hid ((y : Int) = (takeR z ts (isThere bs) u 0 p : Int)) := by show _ = _; rw [takeR_zero, hy]
                                  have HU : Hid (rightX ts bs q (rr + 1) p = rightX ts bs q rr p ++ [(takeR z ts (isThere bs) u q p : Int)]) := by
                                    show _ = _
                                    unfold rightX
                                    rw [List.range_succ, List.map_append, HL.out, hze, hue]; rfl
                                  have HOW := hide hown
                                  have HB5 := hide hbel
                                  have HU1 := hide hu
                                  clear hown hbel hspr hze hy hue
                                  obtain ⟨wp, hwp⟩ : ∃ wp, wp = wr := ⟨_, rfl⟩
                                  subst hwp
                                  go_wp2_with fail
                                  go_loopw [23, 24] (fun x i wr => ∃ m : Nat, m ≤ q ∧ i = .int .i64 (m : Int) ∧ x = .int .i64 (takeR z ts (isThere bs) u m p : Int) ∧ ∃ nq, wr = wp.drewN nq) (fun _ i _ => q - (intOf i).toNat)
                                  case atStart => exact ⟨0, Nat.zero_le _, rfl, by rw [HY0.out], 0, rfl⟩
                                  case round =>
                                    obtain ⟨m, hm, rfl, rfl, nq, rfl⟩ := hrel
                                    clear hzc hxi hu
                                    by_cases hlt6 : m < q
                                    · have hck' : wp.cell? ⟨b', off' + m, none⟩ = some (.bool (isThere bs m)) := (HB5.out.cell (p := ⟨b', off' + m, none⟩) (by show b' < _; omega)).trans ((HBWO.out.cell (p := ⟨b', off' + m, none⟩) (by show b' < _; omega)).trans (HC'.out m (by omega)))
                                      cases ht : isThere bs m
                                      · rw [ht] at hck'
                                        have HN := hide (takeR_no (s := z) (ts := ts) (p := isThere bs) (j := u) (i := m) (k := p) ht)
                                        clear ht
                                        go_wp2_with fail
                                        exact ⟨⟨m + 1, by omega, by go_num, by rw [HN.out], nq, rfl⟩, by simp [intOf]; omega⟩
                                      · rw [ht] at hck'
                                        have hu : wp.cell? ⟨bp, op + rr, none⟩ = some (.int .i64 (u : Int)) := HU1.out
                                        have hco : wp.cell? ⟨go, m, none⟩ = some (.slice (some ⟨P m, 0, none⟩) L L) := (HB5.out.cell (p := ⟨go, m, none⟩) hgo).trans (HCE.out m hlt6)
                                        have hpm := (HMX.out.row m hlt6)
                                        have hcb : wp.cell? ⟨P m, p, none⟩ = some (.int .u8 (byteN (ts.getD m ByteArray.empty) p : Int)) := by
                                          refine ((HB5.out.cell (p := ⟨P m, p, none⟩) hpm.lt)).trans ((hpm.cell hat).trans ?_)
                                          unfold BX
                                          rw [ht, if_pos rfl]
                                        have HN := hide (takeR_yes (s := z) (ts := ts) (p := isThere bs) (j := u) (i := m) (k := p) ht)
                                        obtain ⟨yb, hyb⟩ : ∃ yb, yb = byteN (ts.getD m ByteArray.empty) p := ⟨_, rfl⟩
                                        rw [← hyb] at hcb HN
                                        have hyb8 : yb < 256 := by rw [hyb]; exact byteN_lt _ _
                                        obtain ⟨f, hf⟩ : ∃ f, f = factor m u := ⟨_, rfl⟩
                                        have hf8 : f < 256 := by rw [hf]; exact factor_lt (by omega) (by omega)
                                        have HFA : ∀ w9, Hid (Calls Try.prog 53 #[.int .i64 (m : Int), .int .i64 (u : Int)] w9 fun e w' => e = .returned (.int .i64 (f : Int)) ∧ w9 = w') := fun w9 => by rw [hf]; exact l6Factor_any m u w9 (by omega) (by omega)
                                        rw [← hf] at HN
                                        have HPR : ∀ w9, Hid (Calls Try.prog 48 #[.int .i64 (f : Int), .int .i64 (yb : Int)] w9 fun e w' => e = .returned (.int .i64 (Field.mul f yb : Nat)) ∧ w9 = w') := fun w9 => l2Product_any f yb hf8 hyb8 w9
                                        have hv8 : takeR z ts (isThere bs) u m p < 256 := takeR_lt (by omega) (by omega)
                                        have hp8 : Field.mul f yb < 256 := Field.mul_lt hf8
                                        have hxr := i64_xor_nat (takeR z ts (isThere bs) u m p) (Field.mul f yb) (by omega) (by omega)
                                        have j3 : IntKind.i64.wrap (yb : Int) = (yb : Int) := by rw [IntKind.wrap_i64]; omega
                                        clear ht hf hyb hpm
                                        generalize takeR z ts (isThere bs) u m p = v0 at *
                                        generalize Field.mul f yb = pr at *
                                        go_wp2_with fail
                                        go_quiet (first | (go_at_call 53; exact (HFA _).out.mono fun e w' hh => ⟨hh.1, _, hh.2.symm⟩) | (go_at_call 48; exact (HPR _).out.mono fun e w' hh => ⟨hh.1, _, hh.2.symm⟩))
                                        go_wp2_with fail
                                        first | exact ⟨⟨m + 1, by omega, by go_num, by rw [HN.out], _, rfl⟩, by simp [intOf]; omega⟩ | exact ⟨⟨m + 1, by omega, by go_num, by rw [HN.out], _, World.drewN_drewN⟩, by simp [intOf]; omega⟩
                                    · obtain rfl : m = q := by omega
                                      obtain ⟨x, hxe⟩ : ∃ x : Int, x = (takeR z ts (isThere bs) u m p : Int) := ⟨_, rfl⟩
                                      rw [← hxe] at HU ⊢
                                      have HO1 : Hid (((wp.drewN nq).alloc (.cells #[.int .i64 x] 2)).ownsRow wo.heap.size 2 1 u21 rr ((rightX ts bs m rr p).map (Value.int .i64))) := World.ownsRow.alloc (w := wp.drewN nq) HOW.out _
                                      have HB1 : Hid (Below wo.heap.size wo ((wp.drewN nq).alloc (.cells #[.int .i64 x] 2))) := (below_drewN HB5.out nq).alloc hbs5 _
                                      clear hxe HOW
                                      go_wp2_with (at_builtin; (refine wpList_append_own_at _ rfl (.tmp 225) (.tmp 227) 29 rfl wo.heap.size 2 i0 (.int .i64 0) 1 8 Try.underlying29 hi0 hy0 hy1 hy2 rfl (by decide) _ _ _ rfl HO1.out ⟨wp.heap.size, 0, none⟩ 1 1 [.int .i64 x] rfl rfl (cell_one_new _ _ _) (by simp [Value.oneCell']) (by unfold maxLen; omega) (by omega) (by simp; omega) ?_); intro v' w4 hown2 hgrow2 _ _; have HO4 := hide hown2; have HB4 := hide (HB1.out.grown hgrow2 (by simp; omega) (fun k hk => (HO1.out.lt k hk).1)); clear hown2 hgrow2)
                                      exact ⟨⟨rr + 1, by omega, by go_num, by rw [HU.out, List.map_append]; exact HO4.out, HB4.out⟩, by simp [intOf]; omega⟩
                                · obtain rfl : rr = r := by omega
                                  obtain ⟨a21, c21, hv21, _, hl21, _, ho21⟩ := owned_of_own hown
                                  rw [hv21]
                                  rw [List.length_map] at hl21
                                  have HIY : Hid (Ints wo.heap.size wr.heap.size wr a21 rr (rightX ts bs q rr p)) := ⟨hl21, (ho21.congr (fun i hi => map_cell _ i (by omega))).reads⟩
                                  have HRY := hide (HRO.out.later hbel hsA)
                                  have HFX : Hid (∀ s ∈ (List.range rr).map (facX bs q k rr), s.length ≤ 1048576) := by
                                    intro s hs
                                    obtain ⟨i, _, rfl⟩ := List.mem_map.1 hs
                                    rw [facX_len]; omega
                                  have HB6 := hide hbel
                                  have HM6 := hide (HMX.out.below hbel)
                                  clear hown hv21 hl21 ho21 hbel
                                  go_wp2_with fail
                                  refine (specSolved_any ar rr cr _ a21 rr c21 _ wr HRY.out HIY.out (by omega) (by omega) HFX.out).mono ?_
                                  rintro e ws ⟨ps, ms, cs, outs, bb, rfl, hms, hos, hans, hbS⟩
                                  obtain ⟨x, hx, hxe, hd⟩ := solved_told (ts := ts) (bs := bs) (C := q) (cnt := rr) (j := p) hC8 (by rw [HL.out]; omega) hr0 (by omega) HCN.out.symm (by rw [HL.out, ← HUC.out]; omega) (by rw [HL.out]; exact hans)
                                  subst hxe
                                  obtain rfl : ms = rr := by have := hos.1; simp at this; omega
                                  obtain ⟨bs9, os9, hps, hlos, hbs9, hcs⟩ := hos.2.2 hr0
                                  subst hps
                                  have HCS : Hid (∀ i, i < ms → ws.cell? ⟨bs9, os9 + i, none⟩ = some (.int .i64 (x i : Int))) := fun i hi => by
                                    rw [(hcs i hi).1]
                                    unfold cellI
                                    rw [List.getD_eq_getElem?_getD, List.getElem?_map, List.getElem?_range hi]; rfl
                                  have HX := hide hx
                                  have HSN : Hid (Sol ts bs q ms (p + 1) (fun y j => if j = p then x y else X y j)) := HS.out.step hx hd
                                  have HLN : Hid (∀ i, i < q → ∀ j, BX ts bs q (p + 1) (fun y j => if j = p then x y else X y j) i j < 256) := BX_step_lt HCN.out.symm (fun i hi ht => lostAt_lt hi ht) HLT.out hx
                                  have HM7 : Hid (ByM wb.heap.size q L ws (.slice (some ⟨go, 0, none⟩) q co) P (BY ts bs q p X x 0)) := (HM6.out.below hbS).congr (fun i _ j _ => BY_zero _ _ _ _ _ _ _ _)
                                  have HA7 : Hid (Aside wb.heap.size wc.heap.size wd ws) := (HA.out.thenBelow HB6.out hsA).thenBelow hbS (by have := HB6.out.size; omega)
                                  have hsws : wr.heap.size ≤ ws.heap.size := hbS.size
                                  have hs6 := HB6.out.size
                                  clear hans hos hcs hd hx hbS HM6 HRY HIY HFX HS HA HMX HLT HRO HB6
                                  go_wp2_with fail
                                  go_loopw [27] (fun i wr => ∃ kk : Nat, kk ≤ ms ∧ i = .int .i64 (kk : Int) ∧ ByM wb.heap.size q L wr (.slice (some ⟨go, 0, none⟩) q co) P (BY ts bs q p X x kk) ∧ Aside wb.heap.size wc.heap.size ws wr) (fun i _ => ms - (intOf i).toNat)
                                  case atStart => exact ⟨0, Nat.zero_le _, rfl, HM7.out, Aside.refl _ _ _⟩
                                  case round =>
                                    obtain ⟨kk, hkk, rfl, hM8, hA8⟩ := hrel
                                    clear HM7
                                    by_cases hlt8 : kk < ms
                                    · have hlo := lost_at (bs := bs) (C := q) (k := kk) (by rw [← HCN.out]; exact hlt8)
                                      have hA9 : Aside wb.heap.size wc.heap.size wd wr := HA7.out.trans hA8
                                      obtain ⟨bl2, ol2, e2, _, _, hcl2⟩ := (HLD.out.aside hA9 (.inl hsb)).2 (by omega)
                                      cases e2
                                      have hl : wr.cell? ⟨bl, ol + kk, none⟩ = some (.int .i64 ((lostL bs q).getD kk 0 : Int)) := hcl2 kk hlt8
                                      obtain ⟨g8, c8, e8, hcell8⟩ := hM8.at (by omega)
                                      cases e8
                                      have hco := hcell8 _ hlo.1
                                      have hcs : wr.cell? ⟨bs9, os9 + kk, none⟩ = some (.int .i64 (x kk : Int)) := (World.cell?_of_block (w := ws) (a := ⟨bs9, os9 + kk, none⟩) (hA8.block bs9 hbs9 (.inr (by omega)))).trans (HCS.out kk hlt8)
                                      have hrow8 := hM8.row _ hlo.1
                                      have hcd := hrow8.cell hat
                                      have hfd := hrow8.frozen p
                                      have hx8 : x kk < 256 := HX.out kk hlt8
                                      have j2 : IntKind.u8.wrap (x kk : Int) = (x kk : Int) := by rw [IntKind.wrap_u8]; omega
                                      have HN8 : Hid (ByM wb.heap.size q L (wr.setCell ⟨P ((lostL bs q).getD kk 0), p, none⟩ (.int .u8 (x kk : Int))) (.slice (some ⟨go, 0, none⟩) q co) P (BY ts bs q p X x (kk + 1))) := (hM8.set (j := p) (x := x kk) hlo.1).congr (fun i hi j _ => BY_step (by rw [← HCN.out]; exact hlt8) hi)
                                      have hpl := HPL.out _ hlo.1
                                      have HA10 := hide (hA8.setCell (p := ⟨P ((lostL bs q).getD kk 0), p, none⟩) hpl.1 hpl.2 (.int .u8 (x kk : Int)))
                                      have hlq := hlo.1
                                      clear hM8 hA8 hA9 hcl2 hcell8 hrow8 hlo hpl
                                      generalize (lostL bs q).getD kk 0 = l at *
                                      generalize x kk = y at *
                                      obtain ⟨Pl, hPl⟩ : ∃ Pl, Pl = P l := ⟨_, rfl⟩
                                      rw [← hPl] at hco hcd hfd HN8 HA10
                                      clear hPl
                                      go_wp2_with fail
                                      refine wp_region_quiet_tail 14 (by kernel_rfl) (by kernel_rfl) ?_
                                      simp only [List.take_succ_cons, List.take_zero, List.drop_succ_cons, List.drop_zero]
                                      repeat (go_big_quiet_step (fail))
                                      refine wpQuiet_nil ?_
                                      rintro _ ⟨nq, rfl⟩
                                      go_wp2_with fail
                                      exact ⟨⟨kk + 1, by omega, by go_num, HN8.out.below (below_drewN (Below.refl _ _) nq), HA10.out.thenBelow (below_drewN (Below.refl _ _) nq) HA10.out.size⟩, by simp [intOf]; omega⟩
                                    · obtain rfl : kk = ms := by omega
                                      have HN8 : Hid (ByM wb.heap.size q L wr (.slice (some ⟨go, 0, none⟩) q co) P (BX ts bs q (p + 1) (fun y j => if j = p then x y else X y j))) := hM8.congr (fun i hi j _ => BY_all HCN.out.symm hi)
                                      have HA10 : Hid (Aside wb.heap.size wc.heap.size wd wr) := HA7.out.trans hA8
                                      clear hM8 hA8
                                      go_wp2_with fail
                                      exact ⟨⟨p + 1, _, by omega, by go_num, HN8.out, HSN.out, HLN.out, HA10.out⟩, by simp [intOf]; omega⟩
                            · obtain rfl : r = 0 := by omega
                              simp only [show ((0 : Nat) : Int) = 0 from rfl]
                              have hend : p = L ∨ 0 = 0 := .inr rfl
                              obtain ⟨wo, hwo⟩ : ∃ wo, wo = wr := ⟨_, rfl⟩
                              subst hwo
                              have HE9 := hide (own_made0 wo 9)
                              have HBE9 : Hid (Below wo.heap.size wo (wo.alloc (.cells #[] 9))) := (Below.refl _ _).alloc (Nat.le_refl _) _
                              have HMend : Hid (Mended ts bs q L ((List.range q).map fun a => textN L (BX ts bs q p X a))) := mend_end hC8 (by rw [HL.out]; omega) (by rw [HL.out]; omega) HCN.out.symm (by rw [HL.out, ← HUC.out]; omega) (by rw [HL.out]; exact HSZ.out) hend HS.out
                              have hswo : wd.heap.size ≤ wo.heap.size := HA.out.size
                              have HBO9 : Hid (Below w.heap.size w wo) := HBD.out.trans (HA.out.below hbb (by omega))
                              clear HS HA hend
                              go_wp2_with fail
                              go_loopw [28, 29] (fun v i wr => ∃ m : Nat, m ≤ q ∧ i = .int .i64 (m : Int) ∧ wr.ownsRow wo.heap.size 9 1 v m (((List.range m).map fun a => textN L (BX ts bs q p X a)).map Value.string) ∧ Below wo.heap.size wo wr) (fun _ i _ => q - (intOf i).toNat)
                              case atStart => exact ⟨0, Nat.zero_le _, rfl, HE9.out, HBE9.out⟩
                              case round =>
                                obtain ⟨m, hm, rfl, hown, hbel⟩ := hrel
                                clear HE9 HBE9
                                have hbs9 := hbel.size
                                by_cases hlt9 : m < q
                                · have hM9 := HMX.out.below hbel
                                  obtain ⟨g9, c9, e9', hcell⟩ := hM9.at (by omega)
                                  cases e9'
                                  have hco := hcell m hlt9
                                  have hB9 := text_bytes (x := BX ts bs q p X m) (n := L) (lo := P m) (hi := P m + 1) (a := some ⟨P m, 0, none⟩) (w := wr) (fun j hj => HLT.out m hlt9 j) (owned_of_row (hM9.row m hlt9) (Nat.le_refl _) (Nat.lt_succ_self _) (hM9.row m hlt9).lt).reads
                                  have hst := string_of (P := Try.prog) hB9 67 9 5 L Try.underlying67 Try.underlying5 Try.underlying9
                                  have HU : Hid ((List.range (m + 1)).map (fun a => textN L (BX ts bs q p X a)) = (List.range m).map (fun a => textN L (BX ts bs q p X a)) ++ [textN L (BX ts bs q p X m)]) := by show _ = _; simp [List.range_succ]
                                  have hstr : (⟨((List.range L).map fun k => UInt8.ofNat (BX ts bs q p X m k)).toArray⟩ : ByteArray) = textN L (BX ts bs q p X m) := rfl
                                  rw [hstr] at hst
                                  generalize textN L (BX ts bs q p X m) = tx at *
                                  have HO1 := hide (hown.alloc (.cells #[.string tx] 9))
                                  have HB1 := hide (hbel.alloc hbs9 (.cells #[.string tx] 9))
                                  clear hown hbel hM9 hcell hB9 hstr
                                  go_wp2_with (at_builtin; (refine wpList_append_own_at _ rfl (.tmp 262) (.tmp 268) 22 rfl wo.heap.size 9 s0 (.string ByteArray.empty) 1 16 Try.underlying22 hs0 hz0 hz1 hz2 rfl (by decide) _ _ _ rfl HO1.out ⟨wr.heap.size, 0, none⟩ 1 1 [.string tx] rfl rfl (cell_one_new _ _ _) (strV_one tx) (by unfold maxLen; omega) (by omega) (by simp; omega) ?_); intro v' w4 hown2 hgrow2 _ _; have HO4 := hide hown2; have HB4 := hide (HB1.out.grown hgrow2 (by simp; omega) (fun k hk => (HO1.out.lt k hk).1)); clear hown2 hgrow2)
                                  exact ⟨⟨m + 1, by omega, by go_num, by rw [HU.out, List.map_append]; exact HO4.out, HB4.out⟩, by simp [intOf]; omega⟩
                                · obtain rfl : m = q := by omega
                                  obtain ⟨a9, c9, hv9, _, hot⟩ := ownTexts_of (B := w.heap.size) hown (by omega)
                                  rw [hv9]
                                  have HOT := hide hot
                                  have HAN : Hid (MendAnswer ts bs (m : Int) ((List.range m).map fun a => textN L (BX ts bs m p X a)) true) := .inr ⟨HOK.out, rfl, by rw [Int.toNat_natCast, ← HLE.out]; exact HMend.out⟩
                                  have HBZ : Hid (Below w.heap.size w wr) := below_here HBO9.out hbel
                                  clear hown hbel hv9 hot HMend
                                  go_wp2_with fail
                                  go_ret2
                                  exact ⟨_, _, _, _, _, rfl, hC8, HOT.out, HAN.out, HBZ.out⟩
                          · have hend : p = L ∨ r = 0 := .inl (by omega)
                            obtain ⟨wo, hwo⟩ : ∃ wo, wo = wr := ⟨_, rfl⟩
                            subst hwo
                            have HE9 := hide (own_made0 wo 9)
                            have HBE9 : Hid (Below wo.heap.size wo (wo.alloc (.cells #[] 9))) := (Below.refl _ _).alloc (Nat.le_refl _) _
                            have HMend : Hid (Mended ts bs q L ((List.range q).map fun a => textN L (BX ts bs q p X a))) := mend_end hC8 (by rw [HL.out]; omega) (by rw [HL.out]; omega) HCN.out.symm (by rw [HL.out, ← HUC.out]; omega) (by rw [HL.out]; exact HSZ.out) hend HS.out
                            have hswo : wd.heap.size ≤ wo.heap.size := HA.out.size
                            have HBO9 : Hid (Below w.heap.size w wo) := HBD.out.trans (HA.out.below hbb (by omega))
                            clear HS HA hend
                            go_wp2_with fail
                            go_loopw [28, 29] (fun v i wr => ∃ m : Nat, m ≤ q ∧ i = .int .i64 (m : Int) ∧ wr.ownsRow wo.heap.size 9 1 v m (((List.range m).map fun a => textN L (BX ts bs q p X a)).map Value.string) ∧ Below wo.heap.size wo wr) (fun _ i _ => q - (intOf i).toNat)
                            case atStart => exact ⟨0, Nat.zero_le _, rfl, HE9.out, HBE9.out⟩
                            case round =>
                              obtain ⟨m, hm, rfl, hown, hbel⟩ := hrel
                              clear HE9 HBE9
                              have hbs9 := hbel.size
                              by_cases hlt9 : m < q
                              · have hM9 := HMX.out.below hbel
                                obtain ⟨g9, c9, e9', hcell⟩ := hM9.at (by omega)
                                cases e9'
                                have hco := hcell m hlt9
                                have hB9 := text_bytes (x := BX ts bs q p X m) (n := L) (lo := P m) (hi := P m + 1) (a := some ⟨P m, 0, none⟩) (w := wr) (fun j hj => HLT.out m hlt9 j) (owned_of_row (hM9.row m hlt9) (Nat.le_refl _) (Nat.lt_succ_self _) (hM9.row m hlt9).lt).reads
                                have hst := string_of (P := Try.prog) hB9 67 9 5 L Try.underlying67 Try.underlying5 Try.underlying9
                                have HU : Hid ((List.range (m + 1)).map (fun a => textN L (BX ts bs q p X a)) = (List.range m).map (fun a => textN L (BX ts bs q p X a)) ++ [textN L (BX ts bs q p X m)]) := by show _ = _; simp [List.range_succ]
                                have hstr : (⟨((List.range L).map fun k => UInt8.ofNat (BX ts bs q p X m k)).toArray⟩ : ByteArray) = textN L (BX ts bs q p X m) := rfl
                                rw [hstr] at hst
                                generalize textN L (BX ts bs q p X m) = tx at *
                                have HO1 := hide (hown.alloc (.cells #[.string tx] 9))
                                have HB1 := hide (hbel.alloc hbs9 (.cells #[.string tx] 9))
                                clear hown hbel hM9 hcell hB9 hstr
                                go_wp2_with (at_builtin; (refine wpList_append_own_at _ rfl (.tmp 262) (.tmp 268) 22 rfl wo.heap.size 9 s0 (.string ByteArray.empty) 1 16 Try.underlying22 hs0 hz0 hz1 hz2 rfl (by decide) _ _ _ rfl HO1.out ⟨wr.heap.size, 0, none⟩ 1 1 [.string tx] rfl rfl (cell_one_new _ _ _) (strV_one tx) (by unfold maxLen; omega) (by omega) (by simp; omega) ?_); intro v' w4 hown2 hgrow2 _ _; have HO4 := hide hown2; have HB4 := hide (HB1.out.grown hgrow2 (by simp; omega) (fun k hk => (HO1.out.lt k hk).1)); clear hown2 hgrow2)
                                exact ⟨⟨m + 1, by omega, by go_num, by rw [HU.out, List.map_append]; exact HO4.out, HB4.out⟩, by simp [intOf]; omega⟩
                              · obtain rfl : m = q := by omega
                                obtain ⟨a9, c9, hv9, _, hot⟩ := ownTexts_of (B := w.heap.size) hown (by omega)
                                rw [hv9]
                                have HOT := hide hot
                                have HAN : Hid (MendAnswer ts bs (m : Int) ((List.range m).map fun a => textN L (BX ts bs m p X a)) true) := .inr ⟨HOK.out, rfl, by rw [Int.toNat_natCast, ← HLE.out]; exact HMend.out⟩
                                have HBZ : Hid (Below w.heap.size w wr) := below_here HBO9.out hbel
                                clear hown hbel hv9 hot HMend
                                go_wp2_with fail
                                go_ret2
                                exact ⟨_, _, _, _, _, rfl, hC8, HOT.out, HAN.out, HBZ.out⟩
      · have e1 : ((n' : Int) != (n : Int)) = true := by simp; omega
        have HA : Hid (MendAnswer ts bs (C : Int) [] false) := .inl ⟨mendOk_no (.inr (.inl (by rw [HL.out, HL'.out]; exact hnn))), rfl, rfl⟩
        have HE := hide ((HEM w).out (Below.refl _ _))
        go_enter Try.func25, Try.ntmps25
        go_wp2_with fail
        refine (l1In_any _ _ _ _).mono ?_
        rw [h1]
        rintro e w1 ⟨rfl, rfl⟩
        go_wp2_with fail
        refine (l1In_any _ _ _ _).mono ?_
        rw [h2]
        rintro e w1 ⟨rfl, rfl⟩
        go_wp2_with fail
        go_ret2
        exact ⟨_, _, _, _, _, rfl, by omega, HE.out.1, HA.out, HE.out.2⟩
end Go.Proofs.Ytbgjagmnpfcfaak
