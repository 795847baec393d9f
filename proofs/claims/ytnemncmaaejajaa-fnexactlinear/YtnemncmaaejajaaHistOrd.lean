/- Chapter 19: is a list of numbers an order? Plainly, and the model's OrderOk. -/
import Derived.Test.YtnemncmaaejajaaHistLin
namespace Go.Proofs.Ytnemncmaaejajaa
open Go.RowKit
set_option linter.unusedVariables false
set_option linter.unusedSimpArgs false
set_option maxRecDepth 20000

def stepP (L : List O9) (us : List Bool) (vs : List ByteArray) (z : Int) : Bool := inB z 0 ((L.length : Int) - 1) && nx L us z.toNat vs
def putO (L : List O9) : List Int → List Bool → List ByteArray → Option (List Bool × List ByteArray)
  | [], us, vs => some (us, vs)
  | z :: zs, us, vs => if stepP L us vs z then putO L zs (us.set z.toNat true) (wrote L z.toNat vs) else none
/-- Is it an order? -/
def orderF (L : List O9) (ps : List Int) : Bool := histOk L && (decide (ps.length ≤ L.length) && match putO L ps (marks0 L.length) texts0 with | some p => stoodK L p.1 L.length | none => false)
theorem putO_append (L : List O9) : ∀ (xs ys : List Int) (us : List Bool) (vs : List ByteArray), putO L (xs ++ ys) us vs = (putO L xs us vs).bind fun p => putO L ys p.1 p.2
  | [], ys, us, vs => rfl
  | z :: zs, ys, us, vs => by
    show (if stepP L us vs z then putO L (zs ++ ys) _ _ else none) = (if stepP L us vs z then putO L zs _ _ else none).bind _
    cases stepP L us vs z with
    | false => rfl
    | true => exact putO_append L zs ys _ _
theorem take_at {ps : List Int} {k : Nat} (h : k < ps.length) : ps.take (k + 1) = ps.take k ++ [ps.getD k 0] := by
  rw [List.take_succ_eq_append_getElem h, List.getD_eq_getElem?_getD, List.getElem?_eq_getElem h]; rfl
theorem putO_next {L : List O9} {ps : List Int} {k : Nat} {us : List Bool} {vs : List ByteArray} {us0 : List Bool} {vs0 : List ByteArray} (h : k < ps.length) (hp : putO L (ps.take k) us0 vs0 = some (us, vs)) (hs : stepP L us vs (ps.getD k 0) = true) : putO L (ps.take (k + 1)) us0 vs0 = some (us.set (ps.getD k 0).toNat true, wrote L (ps.getD k 0).toNat vs) := by
  rw [take_at h, putO_append, hp]
  show (if stepP L us vs (ps.getD k 0) then _ else none) = _
  rw [hs]; rfl
theorem putO_fall {L : List O9} {ps : List Int} {k : Nat} {us : List Bool} {vs : List ByteArray} {us0 : List Bool} {vs0 : List ByteArray} (h : k < ps.length) (hp : putO L (ps.take k) us0 vs0 = some (us, vs)) (hs : stepP L us vs (ps.getD k 0) = false) : putO L ps us0 vs0 = none := by
  rw [← List.take_append_drop (k + 1) ps, putO_append, take_at h, putO_append, hp]
  show ((if stepP L us vs (ps.getD k 0) then _ else none : Option (List Bool × List ByteArray)).bind _) = none
  rw [hs]; rfl
theorem stepP_at {L : List O9} {us : List Bool} {vs : List ByteArray} {j : Nat} (h : j < L.length) : stepP L us vs (j : Int) = nx L us j vs := by
  unfold stepP
  rw [show inB (j : Int) 0 ((L.length : Int) - 1) = true by simp [inB]; omega]
  rfl
theorem stepP_out {L : List O9} {us : List Bool} {vs : List ByteArray} {z : Int} (h : inB z 0 ((L.length : Int) - 1) = false) : stepP L us vs z = false := by unfold stepP; rw [h]; rfl
theorem orderF_fall {L : List O9} {ps : List Int} (h : putO L ps (marks0 L.length) texts0 = none) : orderF L ps = false := by unfold orderF; rw [h]; simp
theorem orderF_long {L : List O9} {ps : List Int} (h : L.length < ps.length) : orderF L ps = false := by unfold orderF; rw [decide_eq_false (by omega)]; simp
theorem orderF_all {L : List O9} {ps : List Int} {us : List Bool} {vs : List ByteArray} (h1 : histOk L = true) (h2 : ps.length ≤ L.length) (h : putO L ps (marks0 L.length) texts0 = some (us, vs)) : orderF L ps = stoodK L us L.length := by unfold orderF; rw [h, h1, decide_eq_true h2]; rfl
theorem putO_length (L : List O9) : ∀ (ps : List Int) (us : List Bool) (vs : List ByteArray) (p : List Bool × List ByteArray), us.length = L.length → putO L ps us vs = some p → ps.length + unstood p.1 = unstood us
  | [], us, vs, p, _, h => by simp only [putO, Option.some.injEq] at h; subst h; simp
  | z :: zs, us, vs, p, hl, h => by
    have h2 : (if stepP L us vs z then putO L zs (us.set z.toNat true) (wrote L z.toNat vs) else none) = some p := h
    cases hs : stepP L us vs z with
    | false => rw [hs] at h2; cases h2
    | true =>
      rw [hs] at h2
      have ih := putO_length L zs _ _ p (by rw [List.length_set]; exact hl) h2
      unfold stepP at hs
      simp only [Bool.and_eq_true] at hs
      have hz : 0 ≤ z ∧ z ≤ (L.length : Int) - 1 := by simpa [inB] using hs.1
      have := unstood_set (us := us) (i := z.toNat) (by omega) (nx_un hs.2)
      simp only [List.length_cons]
      omega
/-- An order has no more numbers than there are operations: the bound on its length says nothing more. -/
theorem orderF_eq (L : List O9) (ps : List Int) : orderF L ps = (histOk L && match putO L ps (marks0 L.length) texts0 with | some p => stoodK L p.1 L.length | none => false) := by
  unfold orderF
  cases hp : putO L ps (marks0 L.length) texts0 with
  | none => simp
  | some p =>
    have := putO_length L ps _ _ p (by simp [marks0]) hp
    rw [show unstood (marks0 L.length) = L.length by simp [unstood, marks0]] at this
    rw [decide_eq_true (by omega)]
    simp

/-- How far the order has come. -/
def OrdAt (L : List O9) (ps : List Int) (k bu : Nat) (n : Nat) (wB wr : World) : Prop :=
  ∃ us vs, putO L (ps.take k) (marks0 L.length) texts0 = some (us, vs) ∧ SrIn bu wB.heap.size bu (bu + 1) (some ⟨bu, 0, none⟩) n us (some ⟨bu + 1, 0, none⟩) vs wB wr
set_option maxHeartbeats 6400000 in
theorem specOrderOk_any (a : Option Addr) (n cap : Nat) (L : List O9) (ao : Option Addr) (m co : Nat) (ps : List Int) (w : World) {lo hi lo4 hi4 : Nat} (h : Ops9 lo hi w a n L) (hn : n ≤ 9223372036854775807) (hp : Ints lo4 hi4 w ao m ps) (hh4 : hi4 ≤ w.heap.size) :
    Calls Try.prog 15 #[.slice a n cap, .slice ao m co] w fun r w' => r = .returned (.bool (orderF L ps)) ∧ Below w.heap.size w w' := by
  have HH := hide h
  have HP := hide hp
  have HLN := hide h.1
  have HPN := hide hp.1
  have HC := hide (specHistoryOk_any a n cap L w h hn)
  have HZ4 := hide hh4
  clear h hp hh4
  go_enter Try.func15, Try.ntmps15
  go_wp2_with fail
  refine HC.out.mono ?_
  rintro e w1 ⟨rfl, b1⟩
  have HB1 := hide b1
  clear b1 HC
  obtain ⟨q, hq⟩ : ∃ q, histOk L = q := ⟨_, rfl⟩
  have HQ := hide hq
  rw [hq]
  clear hq
  cases q with
  | false =>
    have HN : Hid (orderF L ps = false) := by show _ = _; unfold orderF; rw [HQ.out]; rfl
    go_wp2_with fail
    go_ret
    exact ⟨by rw [HN.out]; rfl, HB1.out⟩
  | true =>
    have hz : n ≤ 12 := by rw [← HLN.out]; exact histOk_len HQ.out
    by_cases hmn : n < m
    · have hmn2 : (n : Int) < (m : Int) := by omega
      have HN : Hid (orderF L ps = false) := orderF_long (by rw [HLN.out, HPN.out]; exact hmn)
      clear hz hmn
      go_wp2_with fail
      go_ret
      exact ⟨by rw [HN.out]; rfl, HB1.out⟩
    · have hmn2 : ¬ (n : Int) < (m : Int) := by omega
      have HMN : Hid (m ≤ n) := by show m ≤ n; omega
      have hmn3 : decide (n < m) = false := decide_eq_false hmn
      have HZ : Hid (n ≤ 12) := hz
      clear hz hmn
      have hmkB : ∀ W : World, (Instr.makeSlice 52 (.int .i64 (n : Int)) (.int .i64 (n : Int))).run Try.prog W = .ok (.slice (some ⟨W.heap.size, 0, none⟩) n n) (W.alloc (.cells (madeCells #[.bool false] n) 4)) := fun W => run_make_row' (P := Try.prog) 52 4 (.bool false) 1 Try.underlying52 Try.infoB9 rfl .i64 .i64 n (by have := HZ.out; omega) (by have := HZ.out; omega) W
      have hmkS : ∀ W : World, (Instr.makeSlice 53 (.int .i64 3) (.int .i64 3)).run Try.prog W = .ok (.slice (some ⟨W.heap.size, 0, none⟩) 3 3) (W.alloc (.cells (madeCells #[.string ByteArray.empty] 3) 9)) := fun W => run_make_row' (P := Try.prog) 53 9 (.string ByteArray.empty) 16 Try.underlying53 Try.infoS9 rfl .i64 .i64 3 (by omega) (by omega) W
      obtain ⟨wB, hwB⟩ : ∃ wB, wB = (w1.alloc (.cells (madeCells #[.bool false] n) 4)).alloc (.cells (madeCells #[.string ByteArray.empty] 3) 9) := ⟨_, rfl⟩
      have hzB : wB.heap.size = w1.heap.size + 1 + 1 := by rw [hwB]; simp
      have HBB : Hid (Below w1.heap.size w1 wB) := by rw [hwB]; exact ((Below.refl _ _).alloc (Nat.le_refl _) _).alloc (by simp) _
      have HSB : Hid (SrIn w1.heap.size wB.heap.size w1.heap.size (w1.heap.size + 1) (some ⟨w1.heap.size, 0, none⟩) n (marks0 n) (some ⟨w1.heap.size + 1, 0, none⟩) texts0 wB wB) := ⟨made_marks (t := 4) (by rw [hwB]; exact heap_old (heap_new _ _)), made_texts (t := 9) (by rw [hwB]; exact heap_at (by simp)), Aside.refl _ _ _⟩
      have HZB := hide hzB
      have HZ1 : Hid (w.heap.size ≤ w1.heap.size) := HB1.out.size
      clear hzB
      go_upto_region 5 with fail
      rw [← hwB]
      clear hwB hmkB hmkS hmn2 hmn3
      go_wp2_with fail
      go_loopw [7] (fun i wr => ∃ k : Nat, k ≤ m ∧ i = .int .i64 (k : Int) ∧ OrdAt L ps k w1.heap.size n wB wr) (fun i _ => m - (intOf i).toNat)
      case atStart => exact ⟨0, Nat.zero_le _, rfl, _, _, rfl, by rw [HLN.out]; exact HSB.out⟩
      case round =>
        clear HSB
        obtain ⟨k, hk, rfl, us, vs, hput, hsr⟩ := hrel
        obtain ⟨w2, hw2⟩ : ∃ w2, w2 = wr := ⟨_, rfl⟩
        subst hw2
        have HPU := hide hput
        have HS2 := hide hsr
        have HLB : Hid (Below w1.heap.size w1 w2) := HBB.out.trans (hsr.a.below (Nat.le_refl _) HBB.out.size)
        have HL2 : Hid (Ops9 lo hi w2 a n L) := HH.out.later (below_here HB1.out HLB.out) HH.out.2.1
        have hs2 : wB.heap.size ≤ w2.heap.size := hsr.a.size
        have HD : Hid (w1.heap.size + 1 < wB.heap.size ∧ wB.heap.size ≤ w2.heap.size) := by have := HZB.out; exact ⟨by omega, hs2⟩
        clear hput hsr hs2
        by_cases hlt : k < m
        · have hkm : (k : Int) < (m : Int) := by omega
          have HK1 : Hid (k + 1 ≤ m) := hlt
          have hk12 : k < 12 := by have := HMN.out; have := HZ.out; omega
          obtain ⟨bo, oo, rfl, _, hbo, hco⟩ := HP.out.2.2 (by omega)
          have hz := ((below_here HB1.out HLB.out).cell (p := ⟨bo, oo + k, none⟩) (by show bo < _; have := HZ4.out; omega)).trans (hco k hlt)
          unfold cellI at hz
          obtain ⟨z, hz2⟩ : ∃ z, z = ps.getD k 0 := ⟨_, rfl⟩
          rw [← hz2] at hz
          have HZZ := hide hz2
          have hj1 : IntKind.i64.wrap ((n : Int) - 1) = (n : Int) - 1 := by rw [IntKind.wrap_i64]; have := HZ.out; omega
          clear hco hz2
          go_wp2_with fail
          refine (l1In_any _ _ _ _).mono ?_
          rintro e w3 ⟨rfl, rfl⟩
          obtain ⟨x, hx⟩ : ∃ x, inB z 0 ((n : Int) - 1) = x := ⟨_, rfl⟩
          rw [hx]
          have HX := hide hx
          clear hx hj1
          cases x with
          | false =>
            have HN : Hid (orderF L ps = false) := orderF_fall (putO_fall (by rw [HPN.out]; exact hlt) HPU.out (by rw [← HZZ.out]; exact stepP_out (by rw [HLN.out]; exact HX.out)))
            go_wp2_with fail
            go_ret
            exact ⟨by rw [HN.out]; rfl, below_here HB1.out HLB.out⟩
          | true =>
            obtain ⟨j, hj, hjn⟩ : ∃ j : Nat, z = (j : Int) ∧ j < n := by
              have h2 := HX.out
              simp only [inB, Bool.and_eq_true, decide_eq_true_eq] at h2
              exact ⟨z.toNat, by omega, by omega⟩
            subst hj
            have HJ : Hid (j < n) := hjn
            have hats := histOk_ats HQ.out j (by rw [HLN.out]; exact hjn)
            have HAT := hide hats
            have HNX := hide (l19Next_any a n cap L (some ⟨w1.heap.size, 0, none⟩) n us j (some ⟨w1.heap.size + 1, 0, none⟩) 3 vs w2 HL2.out (by have := HZ.out; omega) HS2.out.u.bools (by have := HD.out; omega) hjn HS2.out.v.texts hats.1 hats.2)
            have HST : Hid (stepP L us vs (ps.getD k 0) = nx L us j vs) := by show _ = _; rw [← HZZ.out]; exact stepP_at (by rw [HLN.out]; exact HJ.out)
            clear hats hz
            go_wp2_with fail
            refine HNX.out.mono ?_
            rintro e w3 ⟨rfl, b3⟩
            have HS3 := hide (HS2.out.after (by have := HD.out; omega) HD.out.1 (Nat.le_refl _) b3)
            have HL3 := hide (HL2.out.later b3 (by have := HH.out.2.1; have := HD.out; have := HBB.out.size; have := HZ1.out; omega))
            have HB3 := hide (b3)
            have HD3 : Hid (w1.heap.size + 1 < wB.heap.size ∧ wB.heap.size ≤ w3.heap.size ∧ w.heap.size ≤ w1.heap.size) := by have := HD.out; have := b3.size; exact ⟨by omega, by omega, HZ1.out⟩
            have HLB3 : Hid (Below w1.heap.size w1 w3) := HLB.out.trans (b3.mono HLB.out.size)
            clear b3 HNX HL2 HS2 HB3 HD HLB
            obtain ⟨x, hx⟩ : ∃ x, nx L us j vs = x := ⟨_, rfl⟩
            rw [hx] at HST
            rw [hx]
            have HXN := hide hx
            clear hx
            cases x with
            | false =>
              have HN : Hid (orderF L ps = false) := orderF_fall (putO_fall (by rw [HPN.out]; exact hlt) HPU.out HST.out)
              go_wp2_with fail
              go_ret
              exact ⟨by rw [HN.out]; rfl, below_here HB1.out HLB3.out⟩
            | true =>
              have HPX : Hid (putO L (ps.take (k + 1)) (marks0 L.length) texts0 = some (us.set j true, wrote L j vs)) := by
                have h2 := putO_next (by rw [HPN.out]; exact hlt) HPU.out HST.out
                rw [← HZZ.out] at h2
                exact h2
              obtain ⟨ou, hou, hm⟩ := own_mark HS3.out.u (by have := HJ.out; omega)
              simp only [Option.some.injEq, Addr.mk.injEq, and_true, true_and] at hou
              subst hou
              obtain ⟨g0, g1⟩ := hm j HJ.out
              simp only [Nat.zero_add] at g0 g1
              have HS4 : Hid (SrIn w1.heap.size wB.heap.size w1.heap.size (w1.heap.size + 1) (some ⟨w1.heap.size, 0, none⟩) n (us.set j true) (some ⟨w1.heap.size + 1, 0, none⟩) vs wB (w3.setCell ⟨w1.heap.size, j, none⟩ (.bool true))) := by
                have h := HS3.out.mark (q := true) ⟨Nat.le_refl _, by have := HD3.out; omega⟩ (by omega) HJ.out
                rw [Nat.zero_add] at h
                exact h
              obtain ⟨w4, hw4⟩ : ∃ w4, w4 = w3.setCell ⟨w1.heap.size, j, none⟩ (.bool true) := ⟨_, rfl⟩
              rw [← hw4] at HS4
              have hjn3 : (j : Int) < (n : Int) := by omega
              go_upto_region 12 with fail
              rw [← hw4]
              clear hw4 g0 g1 hm
              have HL4 : Hid (Below w1.heap.size w1 w4) := HBB.out.trans (HS4.out.a.below (Nat.le_refl _) HBB.out.size)
              obtain ⟨b, off, rfl, _, hb, hc⟩ := HH.out.2.2 (by have := HJ.out; omega)
              obtain ⟨e0, e1, e2, e3, e4⟩ := op9_row hc (below_here HB1.out HL4.out) (show b < w.heap.size by have := HH.out.2.1; omega) HJ.out
              obtain ⟨ov, hov, hv⟩ := own_text HS4.out.v
              simp only [Option.some.injEq, Addr.mk.injEq, and_true, true_and] at hov
              subst hov
              have hat := HAT.out
              obtain ⟨oa, how⟩ : ∃ o, o = o9At L j := ⟨_, rfl⟩
              have HOW := hide how
              rw [← how] at e0 e1 e2 e3 e4 hat
              obtain ⟨xa, xw, xt, xb, xe⟩ := oa
              dsimp only at e0 e1 e2 e3 e4 hat
              obtain ⟨A, hA⟩ : ∃ A : Nat, xa = (A : Int) := ⟨xa.toNat, by omega⟩
              subst hA
              have hA3 : A < 3 := by omega
              have hA3' : (A : Int) < 3 := by omega
              have HA3 := hide hA3
              obtain ⟨hvA, hvF⟩ := hv A hA3
              simp only [Nat.zero_add] at hvA hvF
              have HWR : Hid (wrote L j vs = if xw then vs.set A xt else vs) := by show _ = _; unfold wrote; rw [← HOW.out]; rfl
              clear how hat hv hc
              cases xw with
              | false =>
                go_wp2_with fail
                go_roundw
                case rel => exact ⟨k + 1, HK1.out, by go_num, us.set j true, wrote L j vs, HPX.out, by rw [HWR.out]; exact HS4.out⟩
                case measure => have := HK1.out; simp [intOf]; omega
              | true =>
                have HS5 : Hid (SrIn w1.heap.size wB.heap.size w1.heap.size (w1.heap.size + 1) (some ⟨w1.heap.size, 0, none⟩) n (us.set j true) (some ⟨w1.heap.size + 1, 0, none⟩) (vs.set A xt) wB (w4.setCell ⟨w1.heap.size + 1, A, none⟩ (.string xt)).drew) := by
                  have h := HS4.out.write ⟨by omega, HD3.out.1⟩ (by omega) HA3.out xt
                  rw [Nat.zero_add] at h
                  exact h.drew1
                go_upto_region 13 with fail
                go_region
                all_goals
                  go_wp2_with fail
                  go_roundw
                  case rel => exact ⟨k + 1, HK1.out, by go_num, us.set j true, wrote L j vs, HPX.out, by rw [HWR.out, if_pos rfl]; exact HS5.out⟩
                  case measure => have := HK1.out; simp [intOf]; omega
        · obtain rfl : k = m := by omega
          have HPA : Hid (putO L ps (marks0 L.length) texts0 = some (us, vs)) := by
            have h2 := HPU.out
            rw [List.take_of_length_le (by rw [HPN.out]; exact Nat.le_refl _)] at h2
            exact h2
          have HOF : Hid (orderF L ps = stoodK L us L.length) := orderF_all HQ.out (by rw [HPN.out, HLN.out]; exact HMN.out) HPA.out
          have HSZ2 : Hid (w2.heap.size ≤ w2.heap.size) := Nat.le_refl _
          clear hlt HPA HPU
          go_wp2_with fail
          go_loopw [9] (fun i wr => ∃ j : Nat, j ≤ n ∧ i = .int .i64 (j : Int) ∧ stoodK L us j = true ∧ Below w2.heap.size w2 wr) (fun i _ => n - (intOf i).toNat)
          case atStart => exact ⟨0, Nat.zero_le _, rfl, rfl, Below.refl _ _⟩
          case round =>
            obtain ⟨j, hj, rfl, hst, hbel⟩ := hrel
            obtain ⟨w3, hw3⟩ : ∃ w3, w3 = wr := ⟨_, rfl⟩
            subst hw3
            have HST := hide hst
            have HB := hide hbel
            have HBW : Hid (Below w.heap.size w w3) := below_here (below_here HB1.out HLB.out) hbel
            clear hst hbel
            by_cases hlt : j < n
            · have hjn : (j : Int) < (n : Int) := by omega
              have HJL : Hid (j < L.length) := by rw [HLN.out]; exact hlt
              have hj12 : j < 12 := by have := HZ.out; omega
              obtain ⟨b, off, rfl, _, hb, hc⟩ := HH.out.2.2 (by omega)
              obtain ⟨e0, e1, e2, e3, e4⟩ := op9_row hc HBW.out (show b < w.heap.size by have := HH.out.2.1; omega) hlt
              obtain ⟨ou, hou, hm⟩ := own_mark (HS2.out.u.later HB.out (by have := HD.out; omega)) (by omega)
              simp only [Option.some.injEq, Addr.mk.injEq, and_true, true_and] at hou
              subst hou
              have huk := (hm j hlt).1
              simp only [Nat.zero_add] at huk
              obtain ⟨uk, huk2⟩ : ∃ q, us.getD j false = q := ⟨_, rfl⟩
              have HUK := hide huk2
              rw [huk2] at huk
              obtain ⟨E, hE⟩ : ∃ E, E = (o9At L j).e := ⟨_, rfl⟩
              have HEE := hide hE
              rw [← hE] at e4
              have HSK : Hid (stoodK L us (j + 1) = (uk || decide (E < 0))) := by show (stoodK L us j && (us.getD j false || decide ((o9At L j).e < 0))) = _; rw [HST.out, HUK.out, ← HEE.out]; rfl
              clear e0 e1 e2 e3 hm hc hb huk2 hE
              cases uk with
              | true =>
                go_wp2_with fail
                go_roundw
                case rel => exact ⟨j + 1, by omega, by go_num, by rw [HSK.out]; rfl, HB.out⟩
                case measure => simp [intOf]; omega
              | false =>
                by_cases h0 : 0 ≤ E
                · have hd : decide (0 ≤ E) = true := decide_eq_true h0
                  have HN : Hid (orderF L ps = false) := by
                    show _ = _
                    rw [HOF.out]
                    have h1 : stoodK L us (j + 1) = false := by rw [HSK.out, decide_eq_false (by omega)]; rfl
                    have h2 := stoodK_no h1 (L.length - (j + 1))
                    rwa [show j + 1 + (L.length - (j + 1)) = L.length by have := HJL.out; omega] at h2
                  go_wp2_with fail
                  go_ret
                  exact ⟨by rw [HN.out]; rfl, HBW.out⟩
                · have hd : decide (0 ≤ E) = false := decide_eq_false h0
                  have HN : Hid (stoodK L us (j + 1) = true) := by show _ = _; rw [HSK.out, decide_eq_true (by omega)]; rfl
                  go_wp2_with fail
                  go_roundw
                  case rel => exact ⟨j + 1, by omega, by go_num, HN.out, HB.out⟩
                  case measure => simp [intOf]; omega
            · obtain rfl : j = n := by omega
              have HN : Hid (orderF L ps = true) := by show _ = _; rw [HOF.out, HLN.out]; exact HST.out
              go_wp2_with fail
              go_ret
              exact ⟨by rw [HN.out]; rfl, HBW.out⟩
end Go.Proofs.Ytnemncmaaejajaa
