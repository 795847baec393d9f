/- Chapter 19, the program: OrderOk. -/
import Derived.Test.YtnemncmaaejajaaHistImplE
import Derived.Test.YtnemncmaaejajaaHistImplH
namespace Go.Proofs.Ytnemncmaaejajaa
open Go.RowKit
set_option linter.unusedVariables false
set_option linter.unusedSimpArgs false
set_option maxRecDepth 20000

theorem st_letters (L : List O9) (us : List Bool) (vs : List ByteArray) : ∃ p m0 m1 m2 : Int, stOf L us vs = stV p m0 m1 m2 ∧ stOb L us vs = stO p m0 m1 m2 := ⟨_, _, _, _, rfl, rfl⟩
theorem st_first (L : List O9) : stOf L (marks0 L.length) texts0 = stV 0 (-1) (-1) (-1) ∧ stOb L (marks0 L.length) texts0 = stO 0 (-1) (-1) (-1) := by
  unfold stOf stOb
  rw [pb_zero]
  exact ⟨rfl, rfl⟩
theorem stV_inj {p m0 m1 m2 p' n0 n1 n2 : Int} (h : stV p m0 m1 m2 = stV p' n0 n1 n2) : p = p' ∧ m0 = n0 ∧ m1 = n1 ∧ m2 = n2 := by
  simp only [stV, Value.agg.injEq, Array.mk.injEq, List.cons.injEq, Value.int.injEq, true_and, and_true] at h
  exact h
/-- How far the program's order has come. -/
def OrdI (L : List O9) (ps : List Int) (k gs : Nat) (wB wr : World) : Prop :=
  ∃ us vs, putO L (ps.take k) (marks0 L.length) texts0 = some (us, vs) ∧ us.length = L.length ∧ VsOk L vs ∧ wr.heap[gs]? = some (stOb L us vs) ∧ Aside gs (gs + 1) wB wr
set_option maxHeartbeats 3200000 in
theorem implOrderOk_any (a : Option Addr) (n cap : Nat) (L : List O9) (ao : Option Addr) (m co : Nat) (ps : List Int) (w : World) {lo hi lo4 hi4 : Nat} (h : Ops9 lo hi w a n L) (hn : n ≤ 9223372036854775807) (hcap : n ≤ cap) (hp : Ints lo4 hi4 w ao m ps) (hm : m ≤ 1048576) :
    Calls Try.prog 17 #[.slice a n cap, .slice ao m co] w fun r w' => r = .returned (.bool (orderF L ps)) ∧ Below w.heap.size w w' := by
  have HH := hide h
  have HP := hide hp
  have HLN := hide h.1
  have HPN := hide hp.1
  have HC := hide (implHistoryOk_any a n cap L w h hn hcap)
  clear h hp
  go_enter Try.func17, Try.ntmps17
  go_wp2_with fail
  refine HC.out.mono ?_
  rintro e w1 ⟨rfl, b1⟩
  have HB1 := hide b1
  clear b1 HC
  obtain ⟨q, hq⟩ : ∃ q, histOk L = q := ⟨_, rfl⟩
  have HQ := hide hq
  rw [hq]
  clear hq
  cases q with
  | false =>
    have HN : Hid (orderF L ps = false) := by show _ = _; unfold orderF; rw [HQ.out]; rfl
    go_wp2_with fail
    go_ret
    exact ⟨ret_of HN.out.symm, HB1.out⟩
  | true =>
    have HZ : Hid (n ≤ 12) := by show n ≤ 12; rw [← HLN.out]; exact histOk_len HQ.out
    have HTR := hide (trialOf_any a n cap L w1 (HH.out.later HB1.out HH.out.2.1) HZ.out)
    go_wp2_with fail
    refine HTR.out.mono ?_
    rintro e w2 ⟨v, rfl, ho2, b2⟩
    obtain ⟨at_, ct, rfl, _, hl2, _, hown2⟩ := owned_of_own ho2
    have HT2 : Hid (Ints w1.heap.size w2.heap.size w2 at_ n (txNos L)) := ⟨by unfold txNos; rw [List.length_map]; exact HLN.out, (hown2.congr (fun j hj => map_cell _ j (by unfold txNos; rw [List.length_map, HLN.out]; exact hj))).reads⟩
    have HB2 := hide (below_here HB1.out b2)
    obtain ⟨w3, hw3⟩ : ∃ w3, w3 = w2.alloc (.cells #[.slice a n cap, .slice at_ n ct] 56) := ⟨_, rfl⟩
    have HB3 : Hid (Below w2.heap.size w2 w3) := by rw [hw3]; exact (Below.refl _ _).alloc (Nat.le_refl _) _
    have H3 : Hid (w3.heap[w2.heap.size]? = some (.cells #[.slice a n cap, .slice at_ n ct] 56)) := by rw [hw3]; exact heap_new _ _
    clear b2 ho2 hown2 hl2 HTR
    go_upto_region 4 with fail
    rw [← hw3]
    clear hw3
    go_wp2_with fail
    refine (newStanding_any w3).mono ?_
    rintro e w4 ⟨rfl, b4⟩
    obtain ⟨w5, hw5⟩ : ∃ w5, w5 = w4.alloc (stO 0 (-1) (-1) (-1)) := ⟨_, rfl⟩
    have HB5 : Hid (Below w3.heap.size w3 w5) := by rw [hw5]; exact b4.alloc b4.size _
    have H5 : Hid (w5.heap[w4.heap.size]? = some (stO 0 (-1) (-1) (-1))) := by rw [hw5]; exact heap_new _ _
    have HZ5 : Hid (w3.heap.size ≤ w4.heap.size ∧ w4.heap.size < w5.heap.size) := by rw [hw5]; have := b4.size; exact ⟨by omega, by simp⟩
    clear b4
    go_upto_region 5 with fail
    rw [← hw5]
    clear hw5
    have HBW5 : Hid (Below w.heap.size w w5) := below_here (below_here HB2.out HB3.out) HB5.out
    have HT5 := hide ((HT2.out.later HB3.out HT2.out.2.1).later HB5.out (Nat.le_trans HT2.out.2.1 HB3.out.size))
    have HZ3 : Hid (w2.heap.size < w3.heap.size ∧ w.heap.size ≤ w2.heap.size) := ⟨(Array.getElem?_eq_some_iff.1 H3.out).1, HB2.out.size⟩
    have H35 := hide (block_on H3.out HB5.out)
    go_wp2_with fail
    go_loopw [19] (fun i wr => ∃ k : Nat, k ≤ m ∧ i = .int .i64 (k : Int) ∧ OrdI L ps k w4.heap.size w5 wr) (fun i _ => m - (intOf i).toNat)
    case atStart => exact ⟨0, Nat.zero_le _, rfl, _, _, rfl, by simp [marks0], VsOk.zero L, by rw [(st_first L).2]; exact H5.out, Aside.refl _ _ _⟩
    case round =>
      obtain ⟨k, hk, rfl, us, vs, hput, hus, hvs, hst, has⟩ := hrel
      obtain ⟨w6, hw6⟩ : ∃ w6, w6 = wr := ⟨_, rfl⟩
      subst hw6
      have HPU := hide hput
      have HUS := hide hus
      have HVS := hide hvs
      have HST := hide hst
      have HAS := hide has
      have HBW : Hid (Below w.heap.size w w6) := HBW5.out.trans (has.below (by have := HZ5.out; have := HZ3.out; omega) HBW5.out.size)
      have HT6 : Hid (Ints w1.heap.size w2.heap.size w6 at_ n (txNos L)) := HT5.out.aside has (.inl (by have := HZ5.out; have := HZ3.out; omega))
      have H36 : Hid (w6.heap[w2.heap.size]? = some (.cells #[.slice a n cap, .slice at_ n ct] 56)) := (has.block _ (by have := HZ5.out; have := HZ3.out; omega) (.inl (by have := HZ5.out; have := HZ3.out; omega))).trans H35.out
      clear hput hus hvs hst has
      obtain ⟨p, m0, m1, m2, hsv, hso⟩ := st_letters L us vs
      have HSO : Hid (w6.heap[w4.heap.size]? = some (stO p m0 m1 m2)) := by rw [← hso]; exact HST.out
      have HSV := hide hsv
      clear hso hsv
      by_cases hlt : k < m
      · have hkm : (k : Int) < (m : Int) := by omega
        obtain ⟨bo, oo, rfl, _, hbo, hco⟩ := HP.out.2.2 (by omega)
        have hz := (HBW.out.cell (p := ⟨bo, oo + k, none⟩) (by show bo < _; have := HP.out.2.1; omega)).trans (hco k hlt)
        unfold cellI at hz
        obtain ⟨z, hz2⟩ : ∃ z, z = ps.getD k 0 := ⟨_, rfl⟩
        rw [← hz2] at hz
        have HZZ := hide hz2
        have HPC : Hid (Calls Try.prog 39 #[.agg #[.slice a n cap, .slice at_ n ct], stV p m0 m1 m2, .int .i64 z] w6 fun e w' => e = .returned (placedV L us vs z) ∧ Below w6.heap.size w6 w') := by
          have h := placed_any a n cap L at_ ct us vs z w6 (HH.out.later HBW.out HH.out.2.1) HQ.out HT6.out (HUS.out.trans HLN.out) HVS.out
          rw [HSV.out] at h
          exact h
        obtain ⟨t0, t1⟩ := h9_two H36.out
        obtain ⟨c0, c1, c2, c3⟩ := four_cells HSO.out
        clear hco hz2
        go_wp2_with fail
        refine HPC.out.mono ?_
        rintro e w7 ⟨rfl, b7⟩
        have HB7 := hide b7
        clear b7 hz t0 t1 c0 c1 c2 c3
        obtain ⟨x, hx⟩ : ∃ x, stepP L us vs z = x := ⟨_, rfl⟩
        have HX := hide hx
        unfold placedV
        rw [hx]
        clear hx
        cases x with
        | false =>
          have HN : Hid (orderF L ps = false) := orderF_fall (putO_fall (by rw [HPN.out]; exact hlt) HPU.out (by rw [← HZZ.out]; exact HX.out))
          rw [if_neg (by decide), HSV.out]
          go_wp2_with fail
          go_ret
          exact ⟨ret_of HN.out.symm, (below_here HBW.out HB7.out).alloc (below_here HBW.out HB7.out).size _⟩
        | true =>
          rw [if_pos rfl]
          obtain ⟨p', m0', m1', m2', hsv', hso'⟩ := st_letters L (us.set z.toNat true) (wrote L z.toNat vs)
          rw [hsv']
          obtain ⟨w8, hw8⟩ : ∃ w8, w8 = w7.alloc (stO p' m0' m1' m2') := ⟨_, rfl⟩
          have HB8 : Hid (Below w6.heap.size w6 w8) := by rw [hw8]; exact HB7.out.alloc HB7.out.size _
          have H8 : Hid (w8.heap[w7.heap.size]? = some (stO p' m0' m1' m2')) := by rw [hw8]; exact heap_new _ _
          have K8 := hide (block_on HSO.out HB8.out)
          have HSO' : Hid (stOb L (us.set z.toNat true) (wrote L z.toNat vs) = stO p' m0' m1' m2') := hso'
          clear hsv' hso'
          go_upto_region 9 with fail
          rw [← hw8]
          clear hw8
          obtain ⟨c0, c1, c2, c3⟩ := four_cells H8.out
          obtain ⟨d0, d1, d2, d3⟩ := four_cells K8.out
          have f0 := four_frozen K8.out 0
          have f1 := four_frozen K8.out 1
          have f2 := four_frozen K8.out 2
          have f3 := four_frozen K8.out 3
          have HRS := hide (four_set K8.out (.int .i64 p') (.int .i64 m0') (.int .i64 m1') (.int .i64 m2'))
          have HA8 : Hid (Aside w4.heap.size (w4.heap.size + 1) w5 w8) := HAS.out.trans ⟨HB8.out.os, HB8.out.tape, HB8.out.output, HB8.out.size, fun j hj _ => HB8.out.block j hj⟩
          have HA9 := hide ((((HA8.out.setCell (p := ⟨w4.heap.size, 0, none⟩) (Nat.le_refl _) (Nat.lt_succ_self _) (.int .i64 p')).setCell (p := ⟨w4.heap.size, 1, none⟩) (Nat.le_refl _) (Nat.lt_succ_self _) (.int .i64 m0')).setCell (p := ⟨w4.heap.size, 2, none⟩) (Nat.le_refl _) (Nat.lt_succ_self _) (.int .i64 m1')).setCell (p := ⟨w4.heap.size, 3, none⟩) (Nat.le_refl _) (Nat.lt_succ_self _) (.int .i64 m2'))
          have HPX := hide (putO_next (by rw [HPN.out]; exact hlt) HPU.out (by rw [← HZZ.out]; exact HX.out))
          have HJZ : Hid (z.toNat < L.length) := by
            have h := HX.out
            unfold stepP at h
            simp only [Bool.and_eq_true] at h
            have h2 : 0 ≤ z ∧ z ≤ (L.length : Int) - 1 := by simpa [inB] using h.1
            show _ < _
            omega
          have HK1 : Hid (k + 1 ≤ m) := hlt
          go_wp2_with fail
          go_roundw
          case rel => exact ⟨k + 1, HK1.out, by go_num, us.set z.toNat true, wrote L z.toNat vs, by rw [HZZ.out]; exact HPX.out, by rw [List.length_set]; exact HUS.out, HVS.out.wrote HJZ.out, by rw [HSO'.out]; exact HRS.out, HA9.out⟩
          case measure => have := HK1.out; simp [intOf]; omega
      · obtain rfl : k = m := by omega
        have HPA : Hid (putO L ps (marks0 L.length) texts0 = some (us, vs)) := by
          have h2 := HPU.out
          rw [List.take_of_length_le (by rw [HPN.out]; exact Nat.le_refl _)] at h2
          exact h2
        have HF : Hid (orderF L ps = !waitK L us endB L.length) := by
          show _ = _
          rw [orderF_eq, HQ.out, HPA.out]
          show stoodK L us L.length = _
          exact stood_wait HQ.out us _ (Nat.le_refl _)
        have HWC : Hid (Calls Try.prog 40 #[.agg #[.slice a n cap, .slice at_ n ct], stV p m0 m1 m2] w6 fun e w' => e = .returned (.bool (!waitK L us endB L.length)) ∧ Below w6.heap.size w6 w') := by
          have h := isWhole_any a n cap L us (.slice at_ n ct) m0 m1 m2 w6 (HH.out.later HBW.out HH.out.2.1) HZ.out (HUS.out.trans HLN.out)
          have e := HSV.out
          unfold stOf at e
          rw [(stV_inj e).1] at h
          exact h
        obtain ⟨t0, t1⟩ := h9_two H36.out
        obtain ⟨c0, c1, c2, c3⟩ := four_cells HSO.out
        go_wp2_with fail
        refine HWC.out.mono ?_
        rintro e w7 ⟨rfl, b7⟩
        have HB7 := hide b7
        clear b7 t0 t1 c0 c1 c2 c3
        go_wp2_with fail
        go_ret
        exact ⟨ret_of HF.out.symm, below_here HBW.out HB7.out⟩
end Go.Proofs.Ytnemncmaaejajaa
