/- The walk that draws rows and what is right, all of it. -/
import Derived.Test.YtacjaoeghjkhoabDrawSolve
import Derived.Test.YtacjaoeghjkhoabDraw2
namespace Go.Proofs.Ytacjaoeghjkhoab
open Go.RowKit
set_option linter.unusedVariables false
set_option linter.unusedSimpArgs false
set_option maxRecDepth 100000

set_option maxHeartbeats 400000 in
theorem l2Draw_aside (p : Nat) (w : World) (hc : Cur w p) :
    Calls Try.prog 64 #[.pointer (some ⟨p, 0, none⟩)] w fun e w' => ∃ x : Int, e = .returned (.int .i64 x) ∧ Aside p (p + 1) w w' := by
  go_enter Try.func64, Try.ntmps64
  go_wp2_with fail
  refine (l1Once_any p 8 w hc (by omega)).mono ?_
  rintro e w1 ⟨c, rfl, c1, s1⟩
  have hp1 := c1.lt
  have hp := hc.lt
  have HB1 := hide s1
  cases c
  · go_wp2_with fail
    refine (l1Byte_any p w1 c1).mono ?_
    rintro e w2 ⟨x, rfl, x0, x1, c2, s2⟩
    have HB2 := hide (HB1.out.trans s2)
    go_wp2_with fail
    go_ret
    exact ⟨_, rfl, HB2.out⟩
  · have HC := hide c1
    clear c1 s1 hc
    go_wp2_with fail
    refine (l1Below_any p 7 _ (HC.out.alloc _) (by omega)).mono ?_
    rintro e w2 ⟨x, rfl, x0, x1, c2, s2⟩
    obtain ⟨k, rfl⟩ : ∃ k : Nat, x = (k : Int) := ⟨x.toNat, by omega⟩
    have hk : k < 7 := by omega
    obtain ⟨v, hv, hv1⟩ := seven_at k hk
    have hcell : w2.cell? ⟨w1.heap.size, k, none⟩ = some (.int .i64 v) := by
      rw [World.cell?_of_block (a := ⟨w1.heap.size, k, none⟩) (s2.block w1.heap.size (by simp) (.inr hp1)), World.cell?_alloc_new]; exact hv
    have HB2 := hide ((HB1.out.alloc _).trans s2)
    clear c2 s2 x0 x1 hv
    go_wp2_with fail
    go_ret
    exact ⟨v, rfl, HB2.out⟩

set_option maxHeartbeats 3200000 in
theorem drawSolved_any (a : Option Addr) (n cap : Nat) (l : List UInt8) (w : World) {lo hi : Nat} (hB : Bytes lo hi w a n l) (hn : n ≤ 4096) :
    Calls Try.prog 29 #[.slice a n cap] w (DrawnTo w) := by
  obtain ⟨i0, hi0, hz0, hz1, hz2⟩ := info_parts Try.infoI64
  obtain ⟨j0, hj0, hy0, hy1, hy2⟩ := info_parts Try.infoSI
  go_enter Try.func29, Try.ntmps29
  go_wp2_with fail
  refine (l1New_any a n cap l w hB hn).mono ?_
  rintro e w0 ⟨p, rfl, hp, c0, b0⟩
  go_wp2_with fail
  refine (l1Below_any p 4 w0 c0 (by omega)).mono ?_
  rintro e w1 ⟨x, rfl, x0, x1, c1, s1⟩
  have hpl := c1.lt
  obtain ⟨N, hN⟩ : ∃ N : Nat, 1 + x = (N : Int) := ⟨(1 + x).toNat, by omega⟩
  have hN1 : 1 ≤ N := by omega
  have hN4 : N ≤ 4 := by omega
  have HB := hide b0
  have HS1 := hide s1
  have HR0 := hide (Rws.start w1 N)
  have HA0 := hide ((Aside.refl p (p + 1) w1).alloc (.cells #[] 44))
  have HC0 := hide (c1.alloc (.cells #[] 44))
  clear b0 s1 c0 c1
  go_wp2_with fail
  clear hN x0 x1
  go_loopw [6, 7] (fun v i wr => ∃ k : Nat, k ≤ N ∧ i = .int .i64 (k : Int) ∧ Rws w1.heap.size N k v wr ∧ Cur wr p ∧ Aside p (p + 1) w1 wr) (fun _ i _ => N - (intOf i).toNat)
  case atStart => exact ⟨0, Nat.zero_le _, rfl, HR0.out, HC0.out, HA0.out⟩
  case round =>
    obtain ⟨k, hk, rfl, hrws, hcr, hA⟩ := hrel
    obtain ⟨wo, hwo⟩ : ∃ wo, wo = wr := ⟨_, rfl⟩
    subst hwo
    clear HR0 HA0 HC0
    have HRW := hide hrws
    have HA := hide hA
    have hs1 := hA.size
    clear hrws hA
    by_cases hlt : k < N
    · have HE := hide (own_made0 wo 2)
      have HAE := hide ((Aside.refl p (p + 1) wo).alloc (.cells #[] 2))
      have HCE := hide (hcr.alloc (.cells #[] 2))
      clear hcr
      go_wp2_with fail
      go_loopw [8, 9] (fun u i wq => ∃ (q : Nat) (L : List Int), q ≤ N ∧ L.length = q ∧ i = .int .i64 (q : Int) ∧ wq.ownsRow wo.heap.size 2 1 u q (L.map (Value.int .i64)) ∧ Cur wq p ∧ Aside p (p + 1) wo wq) (fun _ i _ => N - (intOf i).toNat)
      case atStart => exact ⟨0, [], Nat.zero_le _, rfl, rfl, HE.out, HCE.out, HAE.out⟩
      case round =>
        obtain ⟨q, L, hq, hL, rfl, hown, hcq, hAq⟩ := hrel
        have HOWN := hide hown
        have HAQ := hide hAq
        have HLQ := hide hL
        have hsq := hAq.size
        clear hown hAq hL HE HAE HCE
        by_cases hqt : q < N
        · go_wp2_with fail
          refine (l1Byte_any p _ hcq).mono ?_
          rintro e w2 ⟨y, rfl, y0, y1, c2, s2⟩
          have A2 := HAQ.out.trans s2
          have O2 := own_aside HOWN.out s2 (by omega)
          have HA2 := hide A2
          have HO2 := hide O2
          clear A2 O2 s2 HAQ HOWN hcq
          go_wp2_with fail
          refine (l1Below_any p 2 _ c2 (by omega)).mono ?_
          rintro e w3 ⟨z, rfl, z0, z1, c3, s3⟩
          obtain ⟨m, hm⟩ : ∃ m : Int, y * z = m := ⟨_, rfl⟩
          have hm2 : IntKind.i64.wrap (y * z) = m := by
            rcases (show z = 0 ∨ z = 1 by omega) with rfl | rfl
            · rw [← hm, Int.mul_zero]; rfl
            · rw [← hm, Int.mul_one, IntKind.wrap_i64]; omega
          clear hm
          have A3 := HA2.out.trans s3
          have s3' := A3.size
          have HO3 := hide ((own_aside HO2.out s3 (by omega)).alloc (.cells #[.int .i64 m] 2))
          have HA3 := hide (A3.alloc (.cells #[.int .i64 m] 2))
          have HC3 := hide (c3.alloc (.cells #[.int .i64 m] 2))
          clear A3 s3 c3 c2 HA2 HO2 y0 y1 z0 z1
          go_wp2_with (at_builtin; (refine wpList_append_own _ rfl (.tmp 29) (.tmp 35) 44 rfl wo.heap.size 2 i0 (.int .i64 0) 1 8 Try.underlying44 hi0 hz0 hz1 hz2 rfl (by decide) _ _ _ rfl HO3.out ⟨w3.heap.size, 0, none⟩ 1 1 [.int .i64 m] rfl rfl (cell_one_new _ _ _) (ints_one [m]) (by unfold maxLen; omega) (by omega) (by simp; omega) ?_); intro v' w4 hown hgrow _; have HO4 := hide hown; have HA4 := hide (HA3.out.grown hgrow (fun k hk => (HO3.out.lt k hk).1)); have HC4 := hide (HC3.out.grown hgrow (fun k hk => Nat.lt_of_lt_of_le (by omega) (HO3.out.lt k hk).1)); clear hown hgrow)
          go_roundw
          case rel => exact ⟨q + 1, L ++ [m], by omega, by rw [List.length_append, HLQ.out]; rfl, by go_num, by rw [List.map_append]; exact HO4.out, HC4.out, HA4.out⟩
          case measure => simp [intOf]; omega
        · obtain rfl : q = N := by omega
          obtain ⟨a2, cap2, hu, hcap2, hlen2, hsome2, _⟩ := owned_of_own HOWN.out
          obtain ⟨g, rfl⟩ := hsome2 (by omega)
          subst hu
          obtain ⟨P, C, X, r1, r2, r3, r4⟩ := HRW.out
          have HR1 := hide r1
          have HR2 := hide r2
          have HR3 := hide r3
          have HR4 := hide r4
          have HV := hide ((own_aside r2 HAQ.out (by omega)).alloc (.cells #[.slice (some ⟨g, 0, none⟩) q cap2] 44))
          have HA5 := hide ((HA.out.trans HAQ.out).alloc (.cells #[.slice (some ⟨g, 0, none⟩) q cap2] 44))
          have HC5 := hide (hcq.alloc (.cells #[.slice (some ⟨g, 0, none⟩) q cap2] 44))
          clear r1 r2 r3 r4 hcq hlen2
          go_wp2_with (at_builtin; (refine wpList_append_own _ rfl (.tmp 37) (.tmp 39) 43 rfl w1.heap.size 44 j0 (.slice none 0 0) 1 24 Try.underlying43 hj0 hy0 hy1 hy2 rfl (by decide) _ _ _ rfl HV.out ⟨wr.heap.size, 0, none⟩ 1 1 [.slice (some ⟨g, 0, none⟩) q cap2] rfl rfl (cell_one_new _ _ _) (by simp [Value.oneCell']) (by unfold maxLen; omega) (by omega) (by simp; omega) ?_); intro v3 w6 hown3 hgrow3 _; have HRW6 := hide (Rws.step HR1.out HR2.out HR3.out HR4.out HAQ.out (by omega) hs1 HLQ.out HOWN.out hown3 hgrow3); have HA6 := hide (HA5.out.grown hgrow3 (fun k hk => (HV.out.lt k hk).1)); have HC6 := hide (HC5.out.grown hgrow3 (fun k hk => Nat.lt_of_lt_of_le (by omega) (HV.out.lt k hk).1)); clear hown3 hgrow3)
          go_roundw
          case rel => exact ⟨k + 1, by omega, by go_num, HRW6.out, HC6.out, HA6.out⟩
          case measure => simp [intOf]; omega
    · obtain rfl : k = N := by omega
      obtain ⟨bt, capt, hu⟩ : ∃ bt capt, u6 = .slice (some ⟨bt, 0, none⟩) k capt := by
        obtain ⟨P, C, X, r1, r2, r3, r4⟩ := HRW.out
        obtain ⟨a2, cap2, hu, hcap2, hlen2, hsome2, _⟩ := owned_of_own r2
        obtain ⟨g, rfl⟩ := hsome2 (by omega)
        exact ⟨g, cap2, hu⟩
      subst hu
      have HE := hide (own_made0 wo 2)
      have HAE := hide ((Aside.refl p (p + 1) wo).alloc (.cells #[] 2))
      have HCE := hide (hcr.alloc (.cells #[] 2))
      clear hcr
      go_wp2_with fail
      go_loopw [10, 11] (fun u i wq => ∃ (q : Nat) (L : List Int), q ≤ k ∧ L.length = q ∧ i = .int .i64 (q : Int) ∧ wq.ownsRow wo.heap.size 2 1 u q (L.map (Value.int .i64)) ∧ Cur wq p ∧ Aside p (p + 1) wo wq) (fun _ i _ => k - (intOf i).toNat)
      case atStart => exact ⟨0, [], Nat.zero_le _, rfl, rfl, HE.out, HCE.out, HAE.out⟩
      case round =>
        obtain ⟨q, L, hq, hL, rfl, hown, hcq, hAq⟩ := hrel
        have HOWN := hide hown
        have HAQ := hide hAq
        have HLQ := hide hL
        have hsq := hAq.size
        clear hown hAq hL HE HAE HCE
        by_cases hqt : q < k
        · go_wp2_with fail
          refine (l1Byte_any p _ hcq).mono ?_
          rintro e w3 ⟨m, rfl, y0, y1, c3, s3⟩
          have A3 := HAQ.out.trans s3
          have s3' := A3.size
          have HO3 := hide ((own_aside HOWN.out s3 (by omega)).alloc (.cells #[.int .i64 m] 2))
          have HA3 := hide (A3.alloc (.cells #[.int .i64 m] 2))
          have HC3 := hide (c3.alloc (.cells #[.int .i64 m] 2))
          clear A3 s3 c3 y0 y1 HOWN HAQ hcq
          go_wp2_with (at_builtin; (refine wpList_append_own _ rfl (.tmp 47) (.tmp 50) 44 rfl wo.heap.size 2 i0 (.int .i64 0) 1 8 Try.underlying44 hi0 hz0 hz1 hz2 rfl (by decide) _ _ _ rfl HO3.out ⟨w3.heap.size, 0, none⟩ 1 1 [.int .i64 m] rfl rfl (cell_one_new _ _ _) (ints_one [m]) (by unfold maxLen; omega) (by omega) (by simp; omega) ?_); intro v' w4 hown hgrow _; have HO4 := hide hown; have HA4 := hide (HA3.out.grown hgrow (fun k hk => (HO3.out.lt k hk).1)); have HC4 := hide (HC3.out.grown hgrow (fun k hk => Nat.lt_of_lt_of_le (by omega) (HO3.out.lt k hk).1)); clear hown hgrow)
          go_roundw
          case rel => exact ⟨q + 1, L ++ [m], by omega, by rw [List.length_append, HLQ.out]; rfl, by go_num, by rw [List.map_append]; exact HO4.out, HC4.out, HA4.out⟩
          case measure => simp [intOf]; omega
        · obtain rfl : q = k := by omega
          go_wp2_with fail
          refine (l1Once_any p 12 _ hcq (by omega)).mono ?_
          rintro e w2 ⟨bb, rfl, c2, s2⟩
          have A2 := HAQ.out.trans s2
          have HO2 := hide (own_aside HOWN.out s2 (by omega))
          have HA2 := hide A2
          have HRW2 := hide (HRW.out.aside A2 (by omega))
          have HAA2 := hide (HA.out.trans A2)
          have s2' := A2.size
          have hpw := hp
          clear A2 s2 HOWN HAQ hcq
          cases bb
          · obtain ⟨a3, cap3, hu3, hcap3, hlen3, hsome3, _⟩ := owned_of_own HO2.out
            subst hu3
            go_wp2_with fail
            go_ret2
            obtain ⟨a4, cap4, xss, e4, hR4, hlen4⟩ := HRW2.out.rows
            cases e4
            exact ⟨_, _, _, _, _, _, xss, L, rfl, hN1, hN4, by omega, hR4, own_ints HO2.out, fun s hs => by rw [hlen4 s hs]; omega, HB.out.trans ((HS1.out.trans HAA2.out).below hp (HB.out.size))⟩
          · go_wp2_with fail
            refine (l1Below_any p 3 w2 c2 (by omega)).mono ?_
            rintro e w3 ⟨y, rfl, y0, y1, c3, s3⟩
            have A3 := HA2.out.trans s3
            have HO3 := hide (own_aside HO2.out s3 (by omega))
            have HRW3 := hide (HRW2.out.aside s3 (by omega))
            have HAA3 := hide (HAA2.out.trans s3)
            have s3' := A3.size
            have HA3 := hide A3
            clear A3 s3 HA2 HO2 HRW2 HAA2 c2
            rcases (show y = 0 ∨ y = 1 ∨ y = 2 by omega) with rfl | rfl | rfl
            · have HO4 := hide (HO3.out.alloc (.cells #[.int .i64 1] 2))
              have HA4 := hide (HA3.out.alloc (.cells #[.int .i64 1] 2))
              go_wp2_with (at_builtin; (refine wpList_append_own _ rfl (.tmp 58) (.tmp 59) 44 rfl wo.heap.size 2 i0 (.int .i64 0) 1 8 Try.underlying44 hi0 hz0 hz1 hz2 rfl (by decide) _ _ _ rfl HO4.out ⟨w3.heap.size, 0, none⟩ 1 1 [.int .i64 1] rfl rfl (cell_one_new _ _ _) (ints_one [1]) (by unfold maxLen; omega) (by omega) (by simp; omega) ?_); intro v' w4 hown hgrow _; obtain ⟨g', c', rfl⟩ := ownsRow_succ hown; have HO5 := hide hown; have HA5 := hide (HA4.out.grown hgrow (fun k hk => (HO4.out.lt k hk).1)); clear hown hgrow)
              go_ret2
              obtain ⟨a4, cap4, xss, e4, hR4, hlen4⟩ := (HRW.out.aside HA5.out (by omega)).rows
              cases e4
              exact ⟨_, _, _, _, _, _, xss, L ++ [1], rfl, hN1, hN4, by omega, hR4, own_ints (by rw [List.map_append]; exact HO5.out), fun s hs => by rw [hlen4 s hs]; omega, HB.out.trans ((HS1.out.trans (HA.out.trans HA5.out)).below hp HB.out.size)⟩
            · obtain ⟨P, C, X, hLo, hro⟩ := HRW.out.lie
              have hL := hLo.aside HA3.out (by omega)
              have hr0 := own_aside (hro 0 (by omega)) HA3.out (by omega)
              obtain ⟨hco, hfo, _, _⟩ := hL.top.at0 (i := 0) (by omega)
              have HLIE := hide hL
              have HR0 := hide (hr0.alloc (.cells #[.int .i64 1] 2))
              have HX0 := hide (hL.len 0 (by omega))
              have hof := hL.off 0 (by omega)
              obtain ⟨hlo0, hhi0⟩ := hLo.low 0 (by omega)
              obtain ⟨hlob, hhib⟩ := hLo.lowb
              obtain ⟨a3, cap3, hu3, hcap3, hlen3, hsome3, _⟩ := owned_of_own HO3.out
              subst hu3
              obtain ⟨P0, hP0⟩ : ∃ P0, P0 = P 0 := ⟨_, rfl⟩
              obtain ⟨C0, hC0⟩ : ∃ C0, C0 = C 0 := ⟨_, rfl⟩
              rw [← hP0, ← hC0] at hco
              rw [← hP0] at hof hlo0 hhi0
              have HP0 := hide hP0
              have HC0 := hide hC0
              have HR1 : Hid ((w3.alloc (.cells #[.int .i64 1] 2)).ownsRow w1.heap.size 2 1 (.slice (some ⟨P0, 0, none⟩) q C0) q ((X 0).map (Value.int .i64))) := by
                have := HR0.out; rw [← hP0, ← hC0] at this; exact this
              clear hL hro hr0 hLo hP0 hC0 HR0
              go_wp2_with (at_builtin; (refine wpList_append_own _ rfl (.tmp 66) (.tmp 67) 44 rfl w1.heap.size 2 i0 (.int .i64 0) 1 8 Try.underlying44 hi0 hz0 hz1 hz2 rfl (by decide) _ _ _ rfl HR1.out ⟨w3.heap.size, 0, none⟩ 1 1 [.int .i64 1] rfl rfl (cell_one_new _ _ _) (ints_one [1]) (by unfold maxLen; omega) (by omega) (by simp; omega) ?_); intro v' w4 hown hgrow0 _; obtain ⟨g', c', rfl⟩ := ownsRow_succ hown; have hgrow : (w3.alloc (.cells #[.int .i64 1] 2)).grownBy w4 (some P0) := hgrow0; clear hgrow0; have hT4 := (HLIE.out.top.later ((Below.refl w3.heap.size w3).alloc (Nat.le_refl _) (.cells #[.int .i64 1] 2)) (by omega)).aside (aside_of_grown hgrow) (by omega); obtain ⟨hco4, hfo4, _, _⟩ := hT4.at0 (i := 0) (by omega); have HO5 := hide hown; have HG := hide hgrow; clear hown hgrow hT4)
              go_ret2
              have hAl : Below w3.heap.size w3 (w3.alloc (.cells #[.int .i64 1] 2)) := (Below.refl w3.heap.size w3).alloc (Nat.le_refl _) _
              have hgb : g' ≠ bt := by
                obtain ⟨P', C', X', _, r2, _, _⟩ := HRW.out
                exact own_ne HO5.out (own_other' ((own_aside r2 HA3.out (by omega)).alloc _) HR1.out HG.out (by decide)) (by decide)
              obtain ⟨xss, hR4, hlen4⟩ := HLIE.out.longer (xs := X 0 ++ [1]) (by omega) hN4 (by rw [List.length_append, HX0.out]; rfl) (HP0.out ▸ HG.out) (by rw [List.map_append]; exact HO5.out) hgb
              have hset : Aside bt (bt + 1) w4 (w4.setCell ⟨bt, 0, none⟩ (.slice (some ⟨g', 0, none⟩) (q + 1) c')) := (Aside.refl _ _ _).setCell (p := ⟨bt, 0, none⟩) (Nat.le_refl _) (Nat.lt_succ_self _) _
              exact ⟨_, _, _, _, _, _, xss, L, rfl, hN1, hN4, by omega, hR4, own_ints (own_aside (own_aside (HO3.out.alloc _) (aside_of_grown HG.out) (by omega)) hset (by omega)), hlen4,
                HB.out.trans ((HS1.out.trans (((HAA3.out.alloc _).grown HG.out (fun k hk => by cases hk; exact hlo0)).set_new (g := bt) hlob _)).below hp HB.out.size)⟩
            · obtain ⟨P, C, X, hLo, hro⟩ := HRW.out.lie
              have hL := hLo.aside HA3.out (by omega)
              obtain ⟨hco, hfo, _, _⟩ := hL.top.at0 (i := 0) (by omega)
              have HLIE := hide hL
              obtain ⟨hlo0, hhi0⟩ := hLo.low 0 (by omega)
              obtain ⟨hlob, hhib⟩ := hLo.lowb
              obtain ⟨a3, cap3, hu3, hcap3, hlen3, hsome3, _⟩ := owned_of_own HO3.out
              subst hu3
              obtain ⟨P0, hP0⟩ : ∃ P0, P0 = P 0 := ⟨_, rfl⟩
              obtain ⟨C0, hC0⟩ : ∃ C0, C0 = C 0 := ⟨_, rfl⟩
              rw [← hP0, ← hC0] at hco
              rw [← hP0] at hlo0 hhi0
              have HP0 := hide hP0
              have HROW : Hid (OwnInts P0 (P0 + 1) w3 (some ⟨P0, 0, none⟩) q (X 0)) := by rw [hP0]; exact hL.row 0 (by omega)
              clear hL hro hLo hP0 hC0
              have cont := fun wz (h : Cur wz p) => l2Draw_aside p wz h
              have HCONT := hide cont
              have HC3 := hide c3
              clear cont c3
              go_wp2_with fail
              go_region_with (go_at_call 64; refine (HCONT.out w3.drew (HC3.out.drewN 1)).mono ?_; rintro e w5 ⟨xx, rfl, s5⟩; have hco5 : w5.cell? ⟨bt, 0, none⟩ = some (.slice (some ⟨P0, 0, none⟩) q C0) := (World.cell?_of_block (s5.block bt (by show bt < w3.heap.size; omega) (.inr (by omega)))).trans hco; obtain ⟨hcp, hfp, _, _⟩ := (HROW.out.2.aside (w := w3.drew) s5 (.inr (by omega))).at0 (i := 0) (by omega))
              all_goals
                have sA : Aside p (p + 1) w3 w5 := ((Aside.refl p (p + 1) w3).drewN 1).trans s5
                have HSA := hide sA
                clear sA s5 hco5 hcp hfp
                go_wp2_with fail
                go_ret2
                obtain ⟨xss, hR4, hlen4⟩ := (HLIE.out.aside HSA.out (by omega)).set00 (by omega) hN1 (by omega) xx
                rw [← HP0.out] at hR4
                have hset : Aside P0 (P0 + 1) w5 (w5.setCell ⟨P0, 0, none⟩ (.int .i64 xx)) := (Aside.refl _ _ _).setCell (p := ⟨P0, 0, none⟩) (Nat.le_refl _) (Nat.lt_succ_self _) _
                exact ⟨_, _, _, _, _, _, xss, L, rfl, hN1, hN4, by omega, hR4, own_ints (own_aside (own_aside HO3.out HSA.out (by omega)) hset (by omega)), hlen4,
                  HB.out.trans ((HS1.out.trans ((HAA3.out.trans HSA.out).set_new (g := P0) hlo0 _)).below hp HB.out.size)⟩
end Go.Proofs.Ytacjaoeghjkhoab
