/- The walk of chapter 6's model: Solved, where all is as it is told. -/
import Derived.Test.YtbgjagmnpfcfaakSolveMat2
import Derived.Test.YtbgjagmnpfcfaakQuietTail
namespace Go.Proofs.Ytbgjagmnpfcfaak
open Go.RowKit
set_option linter.unusedVariables false
set_option linter.unusedSimpArgs false
set_option maxRecDepth 100000

set_option maxHeartbeats 3200000 in
theorem specSolved_main (a : Option Addr) (n cap : Nat) (xss : List (List Int)) (a' : Option Addr) (cap' : Nat) (ys : List Int) (w : World) {lo hi lo' hi' : Nat} (h : Rows2 lo hi w a n xss) (h' : Ints lo' hi' w a' n ys) (h1 : 1 ≤ n) (h8 : n ≤ 8) (hxs : ∀ s ∈ xss, s.length ≤ 1048576) (hey : elems ys = true) :
    Calls Try.prog 16 #[.slice a n cap, .slice a' n cap'] w (SolvedTo xss ys w) := by
  obtain ⟨hl, A, C, ⟨hsz, hx⟩, hr⟩ := h
  obtain ⟨b, off, rfl, hb0, hb, hc⟩ := hx (by omega)
  obtain ⟨hly, hsz', hx'⟩ := h'
  obtain ⟨b', off', rfl, hb0', hb', hc'⟩ := hx' (by omega)
  have HL := hide hl
  have HR := hide hr
  have HX := hide hxs
  have HLY := hide hly
  have HC := hide hc
  have HC' := hide hc'
  have HIY : Hid (Ints lo' hi' w (some ⟨b', off', none⟩) n ys) := ⟨hly, hsz', fun _ => ⟨b', off', rfl, hb0', hb', hc'⟩⟩
  have HEY := hide hey
  clear hx hr hxs hly hx' hc hc' hl
  obtain ⟨i0, hi0, hz0, hz1, hz2⟩ := info_parts Try.infoI64
  obtain ⟨j0, hj0, hy0, hy1, hy2⟩ := info_parts Try.infoSI
  go_enter Try.func16, Try.ntmps16
  go_wp2_with fail
  refine (l6Elements_any _ _ _ _ _ HIY.out (by omega)).mono ?_
  rw [HEY.out]
  rintro e w1 ⟨rfl, rfl⟩
  go_wp2_with fail
  go_loopw [7, 8] (fun v i wr => ∃ k : Nat, k ≤ n ∧ i = .int .i64 (k : Int) ∧ Built xss ys n w k v wr) (fun _ i _ => n - (intOf i).toNat)
  case atStart => exact ⟨0, Nat.zero_le _, rfl, fun _ => 0, fun _ => 0, own_made0 w _, fun i hi => absurd hi (by omega), fun i j hi => absurd hi (by omega), fun i hi => absurd hi (by omega), (Below.refl _ _).alloc (Nat.le_refl _) _⟩
  case round =>
    obtain ⟨k, hk, rfl, P, C2, hown, hrows, hinj, hgood, hbel⟩ := hrel
    have HO := hide hown
    have HRW := hide hrows
    have HIN := hide hinj
    have HGD := hide hgood
    have HBB := hide hbel
    have hbs := hbel.size
    clear hown hrows hinj hgood hbel
    by_cases hlt : k < n
    · have hck : wr.cell? ⟨b, off + k, none⟩ = some (.slice (A k) (xss.getD k []).length (C k)) := (HBB.out.cell (p := ⟨b, off + k, none⟩) (by show b < _; omega)).trans (HC.out k hlt)
      have hik := (HR.out k hlt).later HBB.out (by omega)
      have hzk := HX.out _ (getR_mem (show k < xss.length by rw [HL.out]; exact hlt))
      have HIK := hide hik
      obtain ⟨z, hz⟩ : ∃ z, z = (xss.getD k []).length := ⟨_, rfl⟩
      rw [← hz] at hck hzk
      have HIZ : Hid (Ints lo hi wr (A k) z (xss.getD k [])) := by have := HIK.out; rw [← hz] at this; exact this
      have HZ := hide hz
      clear hik HIK hz
      generalize A k = p at hck HIZ
      generalize C k = cp at hck
      have HEM : Hid (OwnInts w.heap.size (wr.alloc (.cells #[] 2)).heap.size (wr.alloc (.cells #[] 2)) (some ⟨wr.heap.size, 0, none⟩) 0 []) := ⟨rfl, Nat.le_refl _, fun h => absurd h (Nat.lt_irrefl _)⟩
      have HEB : Hid (Below w.heap.size w (wr.alloc (.cells #[] 2))) := HBB.out.alloc hbs _
      have HNA : Hid (rowOk n (xss.getD k []) = false → Answer xss ys [] false) := answer_row HL.out hlt
      by_cases hzn : z = n
      · have e0 : ((z : Int) != (n : Int)) = false := by simp; omega
        have HZN := hide hzn
        clear hzn
        cases hel : elems (xss.getD k [])
        · have HA := hide (HNA.out (rowOk_e hel))
          go_wp2_with fail
          refine (l6Elements_any _ _ _ _ _ HIZ.out (by omega)).mono ?_
          rw [hel]
          rintro e w1 ⟨rfl, rfl⟩
          go_wp2_with fail
          go_ret2
          exact ⟨_, _, _, _, _, rfl, by omega, HEM.out, HA.out, HEB.out⟩
        · have HGK : Hid (rowOk n (xss.getD k []) = true) := rowOk_y (HZ.out.symm.trans HZN.out) hel
          go_wp2_with fail
          refine (l6Elements_any _ _ _ _ _ HIZ.out (by omega)).mono ?_
          rw [hel]
          rintro e w1 ⟨rfl, rfl⟩
          have hzn' : z ≤ 8 := by have := HZN.out; omega
          obtain ⟨y, hy⟩ : ∃ y, y = ys.getD k 0 := ⟨_, rfl⟩
          have hcy : wr.cell? ⟨b', off' + k, none⟩ = some (.int .i64 y) := by rw [hy]; exact (HBB.out.cell (p := ⟨b', off' + k, none⟩) (by show b' < _; omega)).trans (HC'.out k hlt)
          have HYK := hide hy
          clear hy
          obtain ⟨xs, hxs⟩ : ∃ xs, xs = xss.getD k [] := ⟨_, rfl⟩
          have HXK := hide hxs
          rw [← hxs] at HIZ HZ
          clear hxs hel HNA HEM HEB
          have hpz := HIZ.out.2.2
          have H0 := hide (own_made0 wr 2)
          have HB1 : Hid (Below wr.heap.size wr (wr.alloc (.cells #[] 2)).drew) := ((Below.refl wr.heap.size wr).alloc (Nat.le_refl _) (.cells #[] 2)).drew
          go_wp2_with fail
          have HB2 : Hid (Below wr.heap.size wr ((wr.alloc (.cells #[] 2)).alloc (.cells #[.int .i64 y] 2)).drew) := (((Below.refl wr.heap.size wr).alloc (Nat.le_refl _) (.cells #[] 2)).alloc (by simp) (.cells #[.int .i64 y] 2)).drew
          have H02 : Hid (((wr.alloc (.cells #[] 2)).alloc (.cells #[.int .i64 y] 2)).ownsRow wr.heap.size 2 1 (.slice (some ⟨wr.heap.size, 0, none⟩) 0 0) 0 []) := H0.out.alloc _
          have HY2 : Hid (((wr.alloc (.cells #[] 2)).alloc (.cells #[.int .i64 y] 2)).cell? ⟨wr.heap.size + 1, 0, none⟩ = some (.int .i64 y)) := by show _ = _; simp
          have HB3 : Hid (Below wr.heap.size wr (wr.alloc (.cells #[.int .i64 y] 2)).drew) := ((Below.refl wr.heap.size wr).alloc (Nat.le_refl _) (.cells #[.int .i64 y] 2)).drew
          have HB4 : Hid (Below wr.heap.size wr ((wr.alloc (.cells #[.int .i64 y] 2)).alloc (.cells #[] 2)).drew) := (((Below.refl wr.heap.size wr).alloc (Nat.le_refl _) (.cells #[.int .i64 y] 2)).alloc (by simp) (.cells #[] 2)).drew
          have H04 : Hid (((wr.alloc (.cells #[.int .i64 y] 2)).alloc (.cells #[] 2)).ownsRow wr.heap.size 2 1 (.slice (some ⟨wr.heap.size + 1, 0, none⟩) 0 0) 0 []) := by
            have h := own_made0 (wr.alloc (.cells #[.int .i64 y] 2)) 2
            simp only [World.size_alloc] at h
            exact own_base h (by omega)
          have HY4 : Hid (((wr.alloc (.cells #[.int .i64 y] 2)).alloc (.cells #[] 2)).cell? ⟨wr.heap.size, 0, none⟩ = some (.int .i64 y)) := by show _ = _; simp
          have HSB : ∀ w', Hid (Below wr.heap.size wr w' → w'.cell? ⟨b, off + k, none⟩ = some (.slice p z cp) ∧ w'.cell? ⟨b', off' + k, none⟩ = some (.int .i64 y)) := fun w' hb => ⟨(hb.cell (p := ⟨b, off + k, none⟩) (by show b < _; omega)).trans hck, (hb.cell (p := ⟨b', off' + k, none⟩) (by show b' < _; omega)).trans hcy⟩
          have HSW : ∀ w', Hid (Below w.heap.size wr w' → w'.cell? ⟨b, off + k, none⟩ = some (.slice p z cp) ∧ w'.cell? ⟨b', off' + k, none⟩ = some (.int .i64 y)) := fun w' hb => ⟨(hb.cell (p := ⟨b, off + k, none⟩) (by show b < _; omega)).trans hck, (hb.cell (p := ⟨b', off' + k, none⟩) (by show b' < _; omega)).trans hcy⟩
          obtain ⟨bp, op, rfl, _, hbp, hcp⟩ := hpz (by have := HZN.out; omega)
          have HN1 : ∀ w', Hid (Below wr.heap.size wr w' → ∀ j u, (xs.map (Value.int .i64))[j]? = some u → w'.cell? ((⟨bp, op, none⟩ : Addr).add j) = some u) := fun w' hb => news_of (HIZ.out.later hb (by have := HIZ.out.2.1; omega)) rfl
          have HXL : Hid (xs.length = z) := HZ.out.symm
          clear hcp hpz
          go_region_held3 (fun w' => w'.cell? ⟨b, off + k, none⟩ = some (.slice (some ⟨bp, op, none⟩) z cp) ∧ w'.cell? ⟨b', off' + k, none⟩ = some (.int .i64 y)) (first | exact ⟨hck, hcy⟩ | exact (HSB _).out HB1.out | exact (HSB _).out HB2.out | exact (HSB _).out HB3.out | exact (HSB _).out HB4.out | exact (HSB _).out (by assumption) | exact (HSB _).out (Below.alloc (by assumption) (by omega) _) | (refine (HSW _).out ?_; exact hB6) | fail)
            (first
              | ((refine step_append_own _ (by rfl) _ _ _ (by rfl) wr.heap.size 2 i0 (.int .i64 0) 1 8 Try.underlying29 hi0 hz0 hz1 hz2 rfl (by decide) _ 0 [] (by rfl) H0.out ⟨bp, op, none⟩ z cp (xs.map (Value.int .i64)) (by rfl) (by rw [List.length_map, HXL.out]; omega) ((HN1 _).out HB1.out) (ints_one xs) (by unfold maxLen; omega) (by omega) HB1.out.size ?_; intro v1 w4 hown1 hgrow1; have hB4 : Below wr.heap.size wr w4 := HB1.out.grown hgrow1 HB1.out.size (fun k hk => (H0.out.lt k hk).1); have hs4 := hB4.size; have ho4 := hide <| own_other' (w := (wr.alloc (.cells #[] 2)).drew) (HO.out.alloc (.cells #[] 2)) H0.out hgrow1 (by decide)))
              | ((refine step_append_own _ (by rfl) _ _ _ (by rfl) wr.heap.size 2 i0 (.int .i64 0) 1 8 Try.underlying29 hi0 hz0 hz1 hz2 rfl (by decide) _ 0 [] (by rfl) H02.out ⟨bp, op, none⟩ z cp (xs.map (Value.int .i64)) (by rfl) (by rw [List.length_map, HXL.out]; omega) ((HN1 _).out HB2.out) (ints_one xs) (by unfold maxLen; omega) (by omega) HB2.out.size ?_; intro v1 w4 hown1 hgrow1; have hB4 : Below wr.heap.size wr w4 := HB2.out.grown hgrow1 HB2.out.size (fun k hk => (H02.out.lt k hk).1); have hs4 := hB4.size; have ho4 := hide <| own_other' (w := ((wr.alloc (.cells #[] 2)).alloc (.cells #[.int .i64 y] 2)).drew) ((HO.out.alloc (.cells #[] 2)).alloc (.cells #[.int .i64 y] 2)) H02.out hgrow1 (by decide); have hyc : w4.cell? ⟨wr.heap.size + 1, 0, none⟩ = some (.int .i64 y) := (World.cell?_of_block (hgrow1.block (wr.heap.size + 1) (by simp) (by simp [Value.ownBlock]))).trans HY2.out))
              | ((refine step_append_own _ (by rfl) _ _ _ (by rfl) wr.heap.size 2 i0 (.int .i64 0) 1 8 Try.underlying29 hi0 hz0 hz1 hz2 rfl (by decide) _ 0 [] (by rfl) H04.out ⟨bp, op, none⟩ z cp (xs.map (Value.int .i64)) (by rfl) (by rw [List.length_map, HXL.out]; omega) ((HN1 _).out HB4.out) (ints_one xs) (by unfold maxLen; omega) (by omega) HB4.out.size ?_; intro v1 w4 hown1 hgrow1; have hB4 : Below wr.heap.size wr w4 := HB4.out.grown hgrow1 HB4.out.size (fun k hk => (H04.out.lt k hk).1); have hs4 := hB4.size; have ho4 := hide <| own_other' (w := ((wr.alloc (.cells #[.int .i64 y] 2)).alloc (.cells #[] 2)).drew) ((HO.out.alloc (.cells #[.int .i64 y] 2)).alloc (.cells #[] 2)) H04.out hgrow1 (by decide); have hyc : w4.cell? ⟨wr.heap.size, 0, none⟩ = some (.int .i64 y) := (World.cell?_of_block (hgrow1.block wr.heap.size (by simp; omega) (by simp [Value.ownBlock]))).trans HY4.out))
              | ((refine step_append_own _ (by rfl) _ _ _ (by rfl) wr.heap.size 2 i0 (.int .i64 0) 1 8 Try.underlying29 hi0 hz0 hz1 hz2 rfl (by decide) v1 _ _ (by rfl) (hown1.alloc _) ⟨w4.heap.size, 0, none⟩ 1 1 [.int .i64 y] (by rfl) rfl (cell_one_new _ _ _) (by simp [Value.oneCell']) (by unfold maxLen; omega) (by omega) (by simp; omega) ?_; intro v2 w5 hown2 hgrow2; obtain ⟨g2, c2, rfl⟩ := ownsRow_succ hown2; have hB5 : Below wr.heap.size wr w5 := (hB4.alloc hs4 (.cells #[.int .i64 y] 2)).grown hgrow2 (by simp; omega) (fun k hk => (hown1.lt k hk).1); have hs5 := hB5.size; have ho5 := hide <| own_other' (w := w4.alloc (.cells #[.int .i64 y] 2)) (ho4.out.alloc (.cells #[.int .i64 y] 2)) (hown1.alloc (.cells #[.int .i64 y] 2)) hgrow2 (by decide)))
              | ((refine step_append_own _ (by rfl) _ _ _ (by rfl) wr.heap.size 2 i0 (.int .i64 0) 1 8 Try.underlying29 hi0 hz0 hz1 hz2 rfl (by decide) v1 _ _ (by rfl) hown1 _ 1 1 [.int .i64 y] (by rfl) rfl (one_news hyc) (by simp [Value.oneCell']) (by unfold maxLen; omega) (by omega) hs4 ?_; intro v2 w5 hown2 hgrow2; obtain ⟨g2, c2, rfl⟩ := ownsRow_succ hown2; have hB5 : Below wr.heap.size wr w5 := hB4.grown hgrow2 hs4 (fun k hk => (hown1.lt k hk).1); have hs5 := hB5.size; have ho5 := hide <| own_other' ho4.out hown1 hgrow2 (by decide)))
              | ((refine step_append_own _ (by rfl) _ _ _ (by rfl) w.heap.size 29 j0 (.slice none 0 0) 1 24 Try.underlying28 hj0 hy0 hy1 hy2 rfl (by decide) _ _ _ (by rfl) (ho5.out.alloc _) ⟨w5.heap.size, 0, none⟩ 1 1 [.slice (some ⟨g2, 0, none⟩) (z + 1) c2] (by rfl) rfl (cell_one_new _ _ _) (by simp [Value.oneCell']) (by unfold maxLen; omega) (by omega) (by simp; omega) ?_; intro v3 w6 hown3 hgrow3; have hB6 : Below w.heap.size wr w6 := ((hB5.mono hbs).alloc (by omega) (.cells #[.slice (some ⟨g2, 0, none⟩) (z + 1) c2] 29)).grown hgrow3 (by simp; omega) (fun k hk => (ho5.out.lt k hk).1))))
          all_goals
            have HNEW := hide (built_step HRW.out HIN.out HGD.out HGK.out HBB.out HZN.out HXK.out HYK.out hB5 hown2 ho5.out hown3 hgrow3 hB6)
            clear hown1 hgrow1 hB4 hs4 ho4 hown2 hgrow2 hB5 hs5 ho5 hown3 hgrow3 hB6 H0 HB1 HB2 H02 HY2 HB3 HB4 H04 HY4 HSB HSW HN1 hck hcy
            go_wp2_with fail
            exact ⟨⟨k + 1, by omega, by go_num, HNEW.out⟩, by simp [intOf]; omega⟩
      · have e0 : ((z : Int) != (n : Int)) = true := by simp; omega
        have HA := hide (HNA.out (rowOk_l (fun h => hzn (HZ.out.trans h))))
        go_wp2_with fail
        go_ret2
        exact ⟨_, _, _, _, _, rfl, by omega, HEM.out, HA.out, HEB.out⟩
    · obtain rfl : k = n := by omega
      obtain ⟨g, cap2, P1, C1, hv, hM, hG, hOK, hbel1⟩ := mat_of_built (⟨P, C2, HO.out, HRW.out, HIN.out, HGD.out, HBB.out⟩) HL.out HLY.out h1 h8 HEY.out
      rw [hv]
      have HM := hide hM
      have HB := hide hbel1
      have HOK := hide hOK
      have HW := hide (Sv.Way.start hG)
      clear hM hG hOK hbel1 HO HRW HIN HGD HBB hbs hv
      go_wp2_with fail
      go_loopw [9] (fun i wr => ∃ (c : Nat) (P C : Nat → Nat) (m : Nat → Nat → Nat), c ≤ k ∧ i = .int .i64 (c : Int) ∧ MatIs w.heap.size k wr g P C m ∧ Sv.Way k c (matOf xss ys) m ∧ Below w.heap.size w wr) (fun i _ => k - (intOf i).toNat)
      case atStart => exact ⟨0, P1, C1, _, Nat.zero_le _, rfl, HM.out, HW.out, HB.out⟩
      case round =>
        obtain ⟨c, P2, C2, m, hck, rfl, hM, hW, hB⟩ := hrel
        clear HM HW HB
        have HM := hide hM
        have HW := hide hW
        have HB := hide hB
        clear hM hW hB
        by_cases hcn : c < k
        · go_wp2_with fail
          go_loop [10] (fun i => ∃ t : Nat, c ≤ t ∧ t ≤ k ∧ i = .int .i64 (t : Int) ∧ ∀ j, c ≤ j → j < t → m j c = 0) (fun i => k - (intOf i).toNat)
          case atStart => exact ⟨c, Nat.le_refl _, by omega, rfl, fun j h1 h2 => absurd h2 (by omega)⟩
          case round =>
            obtain ⟨t, hct, htk, rfl, hz⟩ := hrel
            have HZ := hide hz
            clear hz
            by_cases htn : t < k
            · have co := HM.out.outer t htn
              have cc := HM.out.cell t htn c (by omega)
              by_cases hm0 : m t c = 0
              · have HZ2 : Hid (∀ j, c ≤ j → j < t + 1 → m j c = 0) := fun j h1 h2 => by
                  rcases Nat.lt_or_ge j t with h | h
                  · exact HZ.out j h1 h
                  · rw [show j = t by omega]; exact hm0
                rw [hm0] at cc
                clear hm0
                go_wp2_with fail
                go_round
                case rel => exact ⟨t + 1, by omega, by omega, by go_num, HZ2.out⟩
                case measure => simp [intOf]; omega
              · have hx8 := HW.out.good t htn c (by omega)
                have coc := HM.out.outer c hcn
                have cof := HM.out.outerF t htn
                have cocf := HM.out.outerF c hcn
                have hmid := HM.out.mid htn hcn
                obtain ⟨P3, C3, hM3, hP3⟩ := HM.out.swapped htn hcn
                have hXg := HM.out.apart t htn
                have HST := hide (HW.out.step hcn htn hct hm0)
                have HGS := hide (HW.out.good.swap htn hcn)
                have HGC := hide ((HW.out.good.swap htn hcn).scale hcn (Field.inv_lt hx8))
                obtain ⟨X, hX⟩ : ∃ X, X = P2 t := ⟨_, rfl⟩
                rw [← hX] at co cc hXg hP3 hM3
                obtain ⟨Y, hY⟩ : ∃ Y, Y = P2 c := ⟨_, rfl⟩
                rw [← hY] at coc hmid hM3
                obtain ⟨CX, hCX⟩ : ∃ X, X = C2 t := ⟨_, rfl⟩
                rw [← hCX] at co hM3
                obtain ⟨CY, hCY⟩ : ∃ X, X = C2 c := ⟨_, rfl⟩
                rw [← hCY] at coc hmid hM3
                have hgX : ¬ g = X := fun e => hXg e.symm
                have HI : Hid (invI (m t c : Int) = (Field.inv (m t c) : Int)) := invI_nat hx8 hm0
                have HF8 : Hid (Field.inv (m t c) < 256) := Field.inv_lt hx8
                have HTU : Hid (Sv.turn m c t = Sv.elim (Sv.scale (Sv.swap m t c) c (Field.inv (m t c))) c) := rfl
                have e0 : ((m t c : Int) == 0) = false := by simpa using hm0
                have HM3 := hide hM3
                have HP3 := hide hP3
                have HB3 : Hid (Below w.heap.size w ((wr.setCell ⟨g, t, none⟩ (.slice (some ⟨Y, 0, none⟩) (k + 1) CY)).setCell ⟨g, c, none⟩ (.slice (some ⟨X, 0, none⟩) (k + 1) CX))) := (HB.out.setCell (p := ⟨g, t, none⟩) HM.out.low.1 _).setCell (p := ⟨g, c, none⟩) HM.out.low.1 _
                clear hm0 hX hY hCX hCY hM3 hP3 HM HB HW HZ
                generalize m t c = x at *
                go_wp2_with fail
                refine (specInverse_any _ _).mono ?_
                rintro e w2 ⟨rfl, rfl⟩
                rw [HI.out]
                clear hXg hgX hmid co cc coc cof cocf e0
                generalize ((wr.setCell ⟨g, t, none⟩ (.slice (some ⟨Y, 0, none⟩) (k + 1) CY)).setCell ⟨g, c, none⟩ (.slice (some ⟨X, 0, none⟩) (k + 1) CX)) = w2 at *
                generalize Field.inv x = f at *
                generalize Sv.swap m t c = m1 at *
                have hf8 := HF8.out
                go_wp2_with fail
                go_loopw [13] (fun i wr => ∃ q : Nat, q ≤ k + 1 ∧ i = .int .i64 (q : Int) ∧ MatIs w.heap.size k wr g P3 C3 (scl m1 c f q) ∧ Below w.heap.size w wr) (fun i _ => k + 1 - (intOf i).toNat)
                case atStart => exact ⟨0, Nat.zero_le _, rfl, HM3.out.congr (fun i _ b _ => scl_zero m1 c f i b), HB3.out⟩
                case round =>
                  obtain ⟨q, hq, rfl, hM, hB⟩ := hrel
                  clear HM3 HB3
                  have HM := hide hM
                  have HB := hide hB
                  clear hM hB
                  by_cases hqn : q < k + 1
                  · have cx := HM.out.cell c hcn q hqn
                    have cf := HM.out.cellF c hcn q hqn
                    rw [HP3.out, scl_at] at cx
                    rw [HP3.out] at cf
                    have hy8 := HGS.out c hcn q hqn
                    have HN : Hid (MatIs w.heap.size k (wr.setCell ⟨X, q, none⟩ (.int .i64 (Field.mul (m1 c q) f : Int))) g P3 C3 (scl m1 c f (q + 1))) := by
                      have h := HM.out.set hcn hqn (Field.mul (m1 c q) f)
                      rw [HP3.out] at h
                      refine h.congr fun a _ b _ => ?_
                      rw [Field.mul_comm hy8 hf8]; exact scl_step m1 c f q a b
                    have HBN := hide (HB.out.setCell (p := ⟨X, q, none⟩) (by have := HM.out.low.2 c hcn; rw [HP3.out] at this; exact this) (.int .i64 (Field.mul (m1 c q) f : Int)))
                    have HC2 : ∀ w, Hid (Calls Try.prog 48 #[.int .i64 (m1 c q : Int), .int .i64 (f : Int)] w fun e w' => e = .returned (.int .i64 (Field.mul (m1 c q) f : Nat)) ∧ w = w') := fun w => l2Product_any _ _ hy8 hf8 w
                    clear HM HB
                    generalize Field.mul (m1 c q) f = z at *
                    generalize m1 c q = y at *
                    go_wp2_with fail
                    refine (HC2 _).out.mono ?_
                    rintro e w3 ⟨rfl, rfl⟩
                    go_wp2_with fail
                    exact ⟨⟨q + 1, by omega, by go_num, HN.out, HBN.out⟩, by simp [intOf]; omega⟩
                  · have HM2 : Hid (MatIs w.heap.size k wr g P3 C3 (Sv.scale m1 c f)) := HM.out.congr (fun a _ b hb => by rw [show q = k + 1 by omega]; exact scl_all m1 c f k a b hb)
                    have hle : decide ((q : Int) ≤ (k : Int)) = false := by simp; omega
                    have hle2 : decide (q ≤ k) = false := by simp; omega
                    clear HM
                    generalize Sv.scale m1 c f = m2 at *
                    go_wp2_with fail
                    go_loopw [14] (fun i wr => ∃ r : Nat, r ≤ k ∧ i = .int .i64 (r : Int) ∧ MatIs w.heap.size k wr g P3 C3 (elm m2 c r) ∧ Below w.heap.size w wr) (fun i _ => k - (intOf i).toNat)
                    case atStart => exact ⟨0, Nat.zero_le _, rfl, HM2.out.congr (fun a _ b _ => elm_zero m2 c a b), HB.out⟩
                    case round =>
                      obtain ⟨r, hr, rfl, hM, hB⟩ := hrel
                      clear HM2 HB
                      have HM := hide hM
                      have HB := hide hB
                      clear hM hB
                      by_cases hrk : r < k
                      · have co := HM.out.outer r hrk
                        have cg := HM.out.cell r hrk c (by omega)
                        rw [elm_row] at cg
                        obtain ⟨gg, hgg⟩ : ∃ gg, gg = m2 r c := ⟨_, rfl⟩
                        have hg8 : gg < 256 := by rw [hgg]; exact HGC.out r hrk c (by omega)
                        rw [← hgg] at cg
                        have HGG := hide hgg
                        clear hgg
                        go_wp2_with fail
                        go_loopw [16] (fun i wr => ∃ q : Nat, q ≤ k + 1 ∧ (r = c → q = 0) ∧ i = .int .i64 (q : Int) ∧ MatIs w.heap.size k wr g P3 C3 (eli m2 c r q) ∧ Below w.heap.size w wr) (fun i _ => k + 1 - (intOf i).toNat)
                        case atStart => exact ⟨0, Nat.zero_le _, fun _ => rfl, rfl, HM.out.congr (fun a _ b _ => eli_zero m2 c r a b), HB.out⟩
                        case round =>
                          obtain ⟨q, hq, hq0, rfl, hM, hB⟩ := hrel
                          clear HM HB co cg
                          have HM := hide hM
                          have HB := hide hB
                          have HQ0 := hide hq0
                          clear hM hB hq0
                          by_cases hrc : r = c
                          · have e1 : ((r : Int) != (c : Int)) = false := by simp; omega
                            obtain rfl : q = 0 := HQ0.out hrc
                            have HN : Hid (MatIs w.heap.size k wr g P3 C3 (elm m2 c (r + 1))) := by
                              refine HM.out.congr fun a _ b _ => ?_
                              rw [← eli_zero, hrc]; exact elm_self m2 c a b
                            clear HM hrc
                            go_wp2_with fail
                            exact ⟨⟨r + 1, by omega, by go_num, HN.out, HB.out⟩, by simp [intOf]; omega⟩
                          · have e1 : ((r : Int) != (c : Int)) = true := by simp; omega
                            by_cases hqn : q < k + 1
                            · have co := HM.out.outer r hrk
                              have cv := HM.out.cell r hrk q hqn
                              have cvf := HM.out.cellF r hrk q hqn
                              have cx := HM.out.cell c hcn q hqn
                              rw [eli_at] at cv
                              rw [HP3.out, eli_col _ _ _ _ _ hrc] at cx
                              have hv8 := HGC.out r hrk q hqn
                              have hy8 := HGC.out c hcn q hqn
                              have hp8 : Field.mul gg (m2 c q) < 256 := Field.mul_lt hg8
                              have hxr := i64_xor_nat (m2 r q) (Field.mul gg (m2 c q)) (by omega) (by omega)
                              have HN : Hid (MatIs w.heap.size k (wr.setCell ⟨P3 r, q, none⟩ (.int .i64 ((m2 r q ^^^ Field.mul gg (m2 c q) : Nat) : Int))) g P3 C3 (eli m2 c r (q + 1))) := by
                                refine (HM.out.set hrk hqn (m2 r q ^^^ Field.mul gg (m2 c q))).congr fun a _ b _ => ?_
                                rw [HGG.out]; exact eli_step m2 c r q a b
                              have HBN := hide (HB.out.setCell (p := ⟨P3 r, q, none⟩) (HM.out.low.2 r hrk) (.int .i64 ((m2 r q ^^^ Field.mul gg (m2 c q) : Nat) : Int)))
                              have HC2 : ∀ w, Hid (Calls Try.prog 48 #[.int .i64 (gg : Int), .int .i64 (m2 c q : Int)] w fun e w' => e = .returned (.int .i64 (Field.mul gg (m2 c q) : Nat)) ∧ w = w') := fun w => l2Product_any _ _ hg8 hy8 w
                              have HRC := hide hrc
                              clear HM HB hrc
                              generalize (m2 r q ^^^ Field.mul gg (m2 c q)) = z at *
                              generalize Field.mul gg (m2 c q) = p at *
                              generalize m2 c q = y at *
                              generalize m2 r q = v at *
                              obtain ⟨R, hR⟩ : ∃ R, R = P3 r := ⟨_, rfl⟩
                              rw [← hR] at co cv cvf HN HBN
                              clear hR
                              go_wp2_with fail
                              refine wp_region_quiet_tail 19 (by kernel_rfl) (by kernel_rfl) ?_
                              simp only [List.take_succ_cons, List.take_zero, List.drop_succ_cons, List.drop_zero]
                              repeat (go_big_quiet_step ((go_at_call 48; exact Calls.quiet_of_same ((HC2 _).out.mono fun e w' hh => ⟨hh.1, hh.2.symm⟩))))
                              refine wpQuiet_nil ?_
                              rintro _ ⟨nq, rfl⟩
                              go_wp2_with fail
                              exact ⟨⟨q + 1, by omega, fun e => absurd e HRC.out, by go_num, HN.out.drewN _, below_drewN HBN.out _⟩, by simp [intOf]; omega⟩
                            · obtain rfl : q = k + 1 := by omega
                              have HN := hide (HM.out.congr (m' := elm m2 c (r + 1)) (fun a _ b hb => eli_all m2 c r k a b hrc hb))
                              clear HM hrc
                              go_wp2_with fail
                              exact ⟨⟨r + 1, by omega, by go_num, HN.out, HB.out⟩, by simp [intOf]; omega⟩
                      · obtain rfl : r = k := by omega
                        have HN : Hid (MatIs w.heap.size r wr g P3 C3 (Sv.turn m c t)) := by
                          rw [HTU.out]
                          exact HM.out.congr (fun a ha b _ => elm_all m2 c r a b ha)
                        clear HM
                        go_wp2_with fail
                        exact ⟨⟨c + 1, P3, C3, _, by omega, by go_num, HN.out, HST.out, HB.out⟩, by simp [intOf]; omega⟩
            · obtain rfl : t = k := by omega
              have HT : Hid (Answer xss ys [] false) := .inr ⟨HOK.out, by rw [HL.out]; exact HW.out.stuck hcn (fun i h1 h2 => HZ.out i h1 h2)⟩
              have HEM : Hid (OwnInts w.heap.size (wr.alloc (.cells #[] 2)).heap.size (wr.alloc (.cells #[] 2)) (some ⟨wr.heap.size, 0, none⟩) 0 []) := ⟨rfl, Nat.le_refl _, fun h => absurd h (Nat.lt_irrefl _)⟩
              have HEB : Hid (Below w.heap.size w (wr.alloc (.cells #[] 2))) := HB.out.alloc HB.out.size _
              clear HM HW HB HZ
              go_wp2_with fail
              go_ret2
              exact ⟨_, _, _, _, _, rfl, by omega, HEM.out, HT.out, HEB.out⟩
        · obtain rfl : c = k := by omega
          have HT : Hid (Answer xss ys ((List.range c).map fun i => (m i c : Int)) true) := .inr ⟨HOK.out, by rw [HL.out]; exact HW.out.done⟩
          have H0 := hide (own_made0 wr 2)
          have HB0 : Hid (Below w.heap.size w (wr.alloc (.cells #[] 2))) := HB.out.alloc HB.out.size _
          have HM0 : Hid (∀ wr', Below wr.heap.size wr wr' → ∀ i, i < c → wr'.cell? ⟨g, i, none⟩ = some (.slice (some ⟨P2 i, 0, none⟩) (c + 1) (C2 i)) ∧ wr'.cell? ⟨P2 i, c, none⟩ = some (.int .i64 (m i c : Int))) := fun wr' hb i hi => by
            have h1 := HM.out.outer i hi
            have h2 := HM.out.cell i hi c (by omega)
            exact ⟨(hb.cell (p := ⟨g, i, none⟩) (World.block_lt_of_cell? _ _ h1)).trans h1, (hb.cell (p := ⟨P2 i, c, none⟩) (World.block_lt_of_cell? _ _ h2)).trans h2⟩
          have hbs := HB.out.size
          clear HM HW
          go_wp2_with fail
          go_loopw [17, 18] (fun v i wr' => ∃ r : Nat, r ≤ c ∧ i = .int .i64 (r : Int) ∧ wr'.ownsRow wr.heap.size 2 1 v r (((List.range r).map fun i => (m i c : Int)).map (Value.int .i64)) ∧ Below wr.heap.size wr wr') (fun _ i _ => c - (intOf i).toNat)
          case atStart => exact ⟨0, Nat.zero_le _, rfl, H0.out, (Below.refl _ _).alloc (Nat.le_refl _) _⟩
          case round =>
            obtain ⟨r, hr, rfl, hown, hbel⟩ := hrel
            have HOW := hide hown
            have HBW := hide hbel
            clear H0
            by_cases hlt : r < c
            · obtain ⟨co, cv⟩ := HM0.out wr HBW.out r hlt
              have HU : Hid ((List.range (r + 1)).map (fun i => (m i c : Int)) = (List.range r).map (fun i => (m i c : Int)) ++ [(m r c : Int)]) := by show _ = _; simp [List.range_succ]
              obtain ⟨y, hy⟩ : ∃ y : Int, y = (m r c : Int) := ⟨_, rfl⟩
              rw [← hy] at cv HU
              clear hy hown hbel
              have HO1 := hide (HOW.out.alloc (.cells #[.int .i64 y] 2))
              have HB1 := hide (HBW.out.alloc HBW.out.size (.cells #[.int .i64 y] 2))
              clear HOW HBW
              go_wp2_with (at_builtin; (refine wpList_append_own _ rfl _ _ 29 rfl _ 2 i0 (.int .i64 0) 1 8 Try.underlying29 hi0 hz0 hz1 hz2 rfl (by decide) _ _ _ rfl HO1.out ⟨wr.heap.size, 0, none⟩ 1 1 [.int .i64 y] rfl rfl (cell_one_new _ _ _) (by simp [Value.oneCell']) (by unfold maxLen; omega) (by omega) HB1.out.size ?_); intro v' w4 hown2 hgrow2 _; have HO4 := hide hown2; have HB4 := hide (HB1.out.grown hgrow2 HB1.out.size (fun k hk => (HO1.out.lt k hk).1)); clear hown2 hgrow2)
              exact ⟨⟨r + 1, by omega, by go_num, by rw [HU.out, List.map_append]; exact HO4.out, HB4.out⟩, by simp [intOf]; omega⟩
            · obtain rfl : r = c := by omega
              have hex : ∃ a' c', u17 = .slice a' r c' ∧ OwnInts w.heap.size wr.heap.size wr a' r ((List.range r).map fun i => (m i r : Int)) := by
                obtain ⟨a', c', e1, _, _, _, how⟩ := owned_of_own HOW.out
                refine ⟨a', c', e1, by simp, ?_⟩
                refine ⟨how.1, fun h0 => ?_⟩
                obtain ⟨b2, o2, e2, h2, h3, h4⟩ := how.2 h0
                refine ⟨b2, o2, e2, by omega, h3, fun i hi => ?_⟩
                obtain ⟨h5, h6⟩ := h4 i hi
                refine ⟨?_, h6⟩
                rw [h5]
                dsimp only
                rw [map_cell _ i (by simpa using hi)]
              obtain ⟨a2, c2, hv17, hoi⟩ := hex
              rw [hv17]
              have HOI := hide hoi
              have HBE : Hid (Below w.heap.size w wr) := HB.out.trans (HBW.out.mono hbs)
              clear hoi hv17 HOW HBW hown hbel HM0
              go_wp2_with fail
              go_ret2
              exact ⟨_, _, _, _, _, rfl, by omega, HOI.out, HT.out, HBE.out⟩
end Go.Proofs.Ytbgjagmnpfcfaak
