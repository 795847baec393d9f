/- Chapter 19, the program: its search. -/
import Derived.Test.YtnemncmaaejajaaHistGo
namespace Go.Proofs.Ytnemncmaaejajaa
open Go.RowKit
set_option linter.unusedVariables false
set_option linter.unusedSimpArgs false
set_option maxRecDepth 20000

/-- What the search answers, and leaves. -/
def GoesTo (L : List O9) (B gs gm : Nat) (vl vt v : Value) (ps : List Int) (c d : Nat) (r : Option (List Int)) (w : World) (e : Ending) (w' : World) : Prop :=
  e = .returned (.bool r.isSome) ∧ ∃ v' c' F', GAt B gs gm vl vt w' v' (r.getD ps) c' F' ∧ VainOk L F' ∧ c' ≤ c + d ∧ GStep gs gm v v' w w'
/-- What holds in its loop. -/
def GLoop (L : List O9) (B gs gm : Nat) (vl vt v0 : Value) (ps : List Int) (c0 d j g : Nat) (X : Obj) (w wr : World) : Prop :=
  ∃ v c F, GAt B gs gm vl vt wr v ps c F ∧ VainOk L F ∧ c ≤ c0 + j * d ∧ GStep gs gm v0 v w wr ∧ wr.heap[g]? = some X
theorem bq_set9 {q W : World} (h : Below q.heap.size q W) {b o : Nat} (hb : q.heap.size ≤ b) (v : Value) : Below q.heap.size q (W.setCell ⟨b, o, none⟩ v) := h.setCell (p := ⟨b, o, none⟩) hb v
set_option maxHeartbeats 12800000 in
theorem goesOn_any (a : Option Addr) (n cap : Nat) (L : List O9) (at_ : Option Addr) (ct : Nat) {B gs gm lo hi lo4 hi4 : Nat} (hok : histOk L = true) (hLn : L.length = n) (hhi : hi ≤ B) (hh4 : hi4 ≤ B) :
    ∀ (f : Nat) (us : List Bool) (vs : List ByteArray) (ps : List Int) (v : Value) (c : Nat) (F : SetS) (w : World), Ops9 lo hi w a n L → Ints lo4 hi4 w at_ n (txNos L) → B ≤ w.heap.size → GAt B gs gm (.slice a n cap) (.slice at_ n ct) w v ps c F → VainOk L F → us.length = n → VsOk L vs → unstood us < f → ps.length + unstood us ≤ 100 → c + 13 ^ f ≤ 13 ^ 14 →
      Calls Try.prog 42 #[.pointer (some ⟨gs, 0, none⟩), stOf L us vs] w (GoesTo L B gs gm (.slice a n cap) (.slice at_ n ct) v ps c (13 ^ f) (srch L f us vs ps) w) := by
  intro f
  induction f with
  | zero => intro us vs ps v c F w _ _ _ _ _ _ _ h; exact absurd h (Nat.not_lt_zero _)
  | succ f ih =>
    intro us vs ps v c F w hY hT hB hG hF hu hv hf hpl hc
    have HIH := hide ih
    clear ih
    have HY := hide hY
    have HT := hide hT
    have HG := hide hG
    have HF := hide hF
    have HU := hide hu
    have HV := hide hv
    have HD : Hid (B ≤ w.heap.size ∧ unstood us < f + 1 ∧ ps.length + unstood us ≤ 100 ∧ c + 13 ^ (f + 1) ≤ 13 ^ 14 ∧ hi ≤ B ∧ hi4 ≤ B) := ⟨hB, hf, hpl, hc, hhi, hh4⟩
    have HOK := hide hok
    have HLN := hide hLn
    have HN12 : Hid (n ≤ 12) := by show n ≤ 12; rw [← hLn]; exact histOk_len hok
    clear hY hT hB hG hF hu hv hf hpl hc hok hLn hhi hh4
    obtain ⟨p, m0, m1, m2, hsv, hso⟩ := st_letters L us vs
    have HSV := hide hsv
    have HPB : Hid (p = (pb us : Int)) := by
      have h := hsv
      unfold stOf at h
      exact (stV_inj h).1.symm
    have HFIT : Hid (FitS p m0 m1 m2) := by
      have h := hsv
      unfold stOf at h
      obtain ⟨e0, e1, e2, e3⟩ := stV_inj h
      rw [← e0, ← e1, ← e2, ← e3]
      exact fit_of HV.out (by rw [HLN.out]; exact HN12.out) (HU.out.trans HLN.out.symm)
    have HKEY : Hid (∀ G : SetS, keyB L us vs G = G p m0 m1 m2) := fun G => by
      have h := hsv
      unfold stOf at h
      obtain ⟨e0, e1, e2, e3⟩ := stV_inj h
      unfold keyB
      rw [e0, e1, e2, e3]
    have HVPUT : Hid (∀ G : SetS, VainOk L G → Dead L us vs → VainOk L (putS G p m0 m1 m2)) := fun G h1 h2 => by
      have h := hsv
      unfold stOf at h
      obtain ⟨e0, e1, e2, e3⟩ := stV_inj h
      have h3 := h1.put (HU.out.trans HLN.out.symm) HV.out h2
      rw [e0, e1, e2, e3] at h3
      exact h3
    rw [hsv]
    clear hsv hso
    obtain ⟨wA, hwA⟩ : ∃ wA, wA = w.alloc (stO p m0 m1 m2) := ⟨_, rfl⟩
    have HBA : Hid (Below w.heap.size w wA) := by rw [hwA]; exact (Below.refl _ _).alloc (Nat.le_refl _) _
    have HX : Hid (wA.heap[w.heap.size]? = some (stO p m0 m1 m2)) := by rw [hwA]; exact heap_new _ _
    have HGA := hide (HG.out.later HBA.out)
    have HIW : ∀ W, Hid (Below wA.heap.size wA W → Calls Try.prog 40 #[.agg #[.slice a n cap, .slice at_ n ct], stV p m0 m1 m2] W fun e w' => e = .returned (.bool (stoodK L us L.length)) ∧ Below W.heap.size W w') := fun W hb => by
      have h := isWhole_any a n cap L us (.slice at_ n ct) m0 m1 m2 W ((HY.out.later HBA.out HY.out.2.1).later hb (Nat.le_trans HY.out.2.1 HBA.out.size)) HN12.out HU.out
      rw [← HPB.out, ← stood_wait HOK.out us _ (Nat.le_refl _)] at h
      exact h
    have HSK : ∀ W, Hid (Below wA.heap.size wA W → W.cell? ⟨gs, 0, none⟩ = some (.slice a n cap) ∧ W.cell? ⟨gs, 1, none⟩ = some (.slice at_ n ct) ∧ W.cell? ⟨w.heap.size, 0, none⟩ = some (.int .i64 p) ∧ W.cell? ⟨w.heap.size, 1, none⟩ = some (.int .i64 m0) ∧ W.cell? ⟨w.heap.size, 2, none⟩ = some (.int .i64 m1) ∧ W.cell? ⟨w.heap.size, 3, none⟩ = some (.int .i64 m2)) := fun W hb => by
      obtain ⟨e0, e1, _, _⟩ := four_cells (block_on HGA.out.s hb)
      obtain ⟨d0, d1, d2, d3⟩ := four_cells (block_on HX.out hb)
      exact ⟨e0, e1, d0, d1, d2, d3⟩
    have HBR : Hid (Below wA.heap.size wA wA) := Below.refl _ _
    go_enter Try.func42, Try.ntmps42
    go_upto_region 1 with fail
    rw [← hwA]
    clear hwA
    go_region_held3 (fun W => W.cell? ⟨gs, 0, none⟩ = some (.slice a n cap) ∧ W.cell? ⟨gs, 1, none⟩ = some (.slice at_ n ct) ∧ W.cell? ⟨w.heap.size, 0, none⟩ = some (.int .i64 p) ∧ W.cell? ⟨w.heap.size, 1, none⟩ = some (.int .i64 m0) ∧ W.cell? ⟨w.heap.size, 2, none⟩ = some (.int .i64 m1) ∧ W.cell? ⟨w.heap.size, 3, none⟩ = some (.int .i64 m2))
      (exact (HSK _).out (by repeat (first | with_reducible exact HBR.out | with_reducible exact HB1.out | with_reducible apply bq_drew | with_reducible apply bq_alloc)))
      (first | (go_at_call 40; refine ((HIW wA.drew).out (bq_drew HBR.out)).mono ?_; rintro e w1 ⟨rfl, b1⟩; have HB1 : Hid (Below wA.heap.size wA w1) := below_here (bq_drew HBR.out) b1; clear b1) | fail)
    have HG1 := hide (HGA.out.later HB1.out)
    have HX1 := hide (block_on HX.out HB1.out)
    have HW1 : Hid (Below w.heap.size w w1) := below_here HBA.out HB1.out
    clear HIW HSK HBR HGA HX
    obtain ⟨st, hst⟩ : ∃ st, stoodK L us L.length = st := ⟨_, rfl⟩
    have HST := hide hst
    rw [hst]
    clear hst
    cases st with
    | true =>
      have HE : Hid (srch L (f + 1) us vs ps = some ps) := srch_stood HST.out
      go_wp2_with fail
      go_ret
      rw [HE.out]
      exact ⟨rfl, v, c, F, HG1.out, HF.out, Nat.le_add_right _ _, GStep.of_below HW1.out⟩
    | false =>
      have HE : Hid (srch L (f + 1) us vs ps = firstS (askS L f us vs ps) L.length 0) := srch_ask HST.out
      obtain ⟨x, hx⟩ : ∃ x, F p m0 m1 m2 = x := ⟨_, rfl⟩
      have HXF := hide hx
      have hl1 := HG1.out.m.look HFIT.out
      have hl2 := (HG1.out.m.kept (w' := w1.drew) rfl).look HFIT.out
      have hl3 := (HG1.out.later (W' := w1.alloc (.cells #[] 77)) ((Below.refl _ _).alloc (Nat.le_refl _) _)).m.look HFIT.out
      have hl4 := (HG1.out.later (W' := (w1.alloc (.cells #[] 77)).drew) ((Below.refl _ _).alloc (Nat.le_refl _) _).drew).m.look HFIT.out
      rw [hx] at hl1 hl2 hl3 hl4
      obtain ⟨g0, g1, g2, g3⟩ := four_cells HG1.out.s
      obtain ⟨d0, d1, d2, d3⟩ := four_cells HX1.out
      have hlt0 : gs < w1.heap.size := (Array.getElem?_eq_some_iff.1 HG1.out.s).1
      have hlt1 : w.heap.size < w1.heap.size := (Array.getElem?_eq_some_iff.1 HX1.out).1
      clear hx g0 g1 g2
      go_upto_region 3 with fail
      go_cut [5, 6] from 16 to 24 (fun _ q wx => q = .bool x ∧ Below w1.heap.size w1 wx)
      case first =>
        go_region
        all_goals
          go_wp2_with fail
          go_meet
          exact ⟨rfl, ((Below.refl w1.heap.size w1).alloc (Nat.le_refl _) _).drew⟩
      case rest =>
        obtain ⟨rfl, hb2⟩ := hcut
        have HG2 := hide (HG1.out.later hb2)
        have HX2 := hide (block_on HX1.out hb2)
        have HW2 : Hid (Below w.heap.size w wc) := below_here HW1.out hb2
        clear hb2 d0 d1 d2 d3 g3 hlt0 hlt1 hl1 hl2 hl3 hl4 HX1 HG1 HW1 HB1
        obtain ⟨w2, hw2⟩ : ∃ w2, w2 = wc := ⟨_, rfl⟩
        subst hw2
        cases x with
        | true =>
          have HN : Hid (srch L (f + 1) us vs ps = none) := (HF.out us vs (HU.out.trans HLN.out.symm) HV.out (by rw [HKEY.out]; exact HXF.out)) (f + 1) ps HD.out.2.1
          go_wp2_with fail
          go_ret
          rw [HN.out]
          exact ⟨rfl, v, c, F, HG2.out, HF.out, Nat.le_add_right _ _, GStep.of_below HW2.out⟩
        | false =>
          obtain ⟨g0, g1, g2, g3⟩ := four_cells HG2.out.s
          go_upto_region 6 with fail
          go_wp2_with fail
          go_loopw [32] (fun i wr => ∃ j : Nat, j ≤ n ∧ i = .int .i64 (j : Int) ∧ srch L (f + 1) us vs ps = firstS (askS L f us vs ps) (n - j) j ∧ GLoop L B gs gm (.slice a n cap) (.slice at_ n ct) v ps c (13 ^ f) j w.heap.size (stO p m0 m1 m2) w wr) (fun i _ => n - (intOf i).toNat)
          case atStart => exact ⟨0, Nat.zero_le _, rfl, by rw [HE.out, HLN.out, Nat.sub_zero], v, c, F, HG2.out, HF.out, by simp, GStep.of_below HW2.out, HX2.out⟩
          case round =>
            clear g0 g1 g2 g3 HG2 HX2 HW2
            obtain ⟨j, hj, rfl, hfs, v1, c1, F1, hG, hF, hcc, hst, hx⟩ := hrel
            obtain ⟨w3, hw3⟩ : ∃ w3, w3 = wr := ⟨_, rfl⟩
            subst hw3
            have HFS := hide hfs
            have HG3 := hide hG
            have HF3 := hide hF
            have HC3 := hide hcc
            have HST3 := hide hst
            have HX3 := hide hx
            have hbw := hst.below hG.bs hG.bm HG.out.own HD.out.1
            have HBW : Hid (Below B w w3) := hbw
            have HZ3 : Hid (w.heap.size < w3.heap.size) := (Array.getElem?_eq_some_iff.1 hx).1
            clear hfs hG hF hcc hst hx hbw
            by_cases hlt : j < n
            · have hjn : (j : Int) < (n : Int) := by omega
              have HJ : Hid (j < n) := hlt
              have HJL : Hid (j < L.length) := by show j < _; rw [HLN.out]; exact hlt
              obtain ⟨x, hx⟩ : ∃ x, nx L us j vs = x := ⟨_, rfl⟩
              have HX := hide hx
              obtain ⟨q, n0, n1, n2, hpv, hpt⟩ : ∃ q n0 n1 n2 : Int, placedV L us vs (j : Int) = .tuple #[stV q n0 n1 n2, .bool x] ∧ (x = true → stOf L (us.set j true) (wrote L j vs) = stV q n0 n1 n2) := by
                unfold placedV
                rw [stepP_at HJL.out, hx]
                cases x with
                | true => exact ⟨_, _, _, _, rfl, fun _ => rfl⟩
                | false => exact ⟨_, _, _, _, rfl, fun e => by cases e⟩
              have HPT := hide hpt
              have HPC : ∀ W, Hid (Below w3.heap.size w3 W → Calls Try.prog 39 #[.agg #[.slice a n cap, .slice at_ n ct], stV p m0 m1 m2, .int .i64 (j : Int)] W fun e w' => e = .returned (.tuple #[stV q n0 n1 n2, .bool x]) ∧ Below W.heap.size W w') := fun W hb => by
                have h := placed_any a n cap L at_ ct us vs (j : Int) W ((HY.out.later HBW.out HD.out.2.2.2.2.1).later hb (by have := HBW.out.size; have := HD.out; omega)) HOK.out ((HT.out.later HBW.out HD.out.2.2.2.2.2).later hb (by have := HBW.out.size; have := HD.out; omega)) HU.out HV.out
                rw [HSV.out, hpv] at h
                exact h
              have HSK : ∀ W, Hid (Below w3.heap.size w3 W → W.cell? ⟨gs, 0, none⟩ = some (.slice a n cap) ∧ W.cell? ⟨gs, 1, none⟩ = some (.slice at_ n ct) ∧ W.cell? ⟨w.heap.size, 0, none⟩ = some (.int .i64 p) ∧ W.cell? ⟨w.heap.size, 1, none⟩ = some (.int .i64 m0) ∧ W.cell? ⟨w.heap.size, 2, none⟩ = some (.int .i64 m1) ∧ W.cell? ⟨w.heap.size, 3, none⟩ = some (.int .i64 m2)) := fun W hb => by
                obtain ⟨e0, e1, _, _⟩ := four_cells (block_on HG3.out.s hb)
                obtain ⟨d0, d1, d2, d3⟩ := four_cells (block_on HX3.out hb)
                exact ⟨e0, e1, d0, d1, d2, d3⟩
              have HBR : Hid (Below w3.heap.size w3 w3) := Below.refl _ _
              clear hx hpv hpt
              go_upto_region 9 with fail
              go_cut [8, 9] from 33 to 74 (fun pp qq wx => ∃ nb, pp = .pointer (some ⟨nb, 0, none⟩) ∧ qq = .bool x ∧ wx.heap[nb]? = some (stO q n0 n1 n2) ∧ Below w3.heap.size w3 wx)
              case first =>
                go_region_held3 (fun W => W.cell? ⟨gs, 0, none⟩ = some (.slice a n cap) ∧ W.cell? ⟨gs, 1, none⟩ = some (.slice at_ n ct) ∧ W.cell? ⟨w.heap.size, 0, none⟩ = some (.int .i64 p) ∧ W.cell? ⟨w.heap.size, 1, none⟩ = some (.int .i64 m0) ∧ W.cell? ⟨w.heap.size, 2, none⟩ = some (.int .i64 m1) ∧ W.cell? ⟨w.heap.size, 3, none⟩ = some (.int .i64 m2))
                  (exact (HSK _).out (by repeat (first | with_reducible exact HBR.out | with_reducible exact HB5.out | with_reducible apply bq_drew | with_reducible apply bq_alloc | (with_reducible refine bq_set9 ?_ (by omega) _))))
                  (first
                    | (go_at_call 39; refine ((HPC _).out (bq_drew HBR.out)).mono ?_; rintro e w5 ⟨rfl, b5⟩; have HB5 : Hid (Below w3.heap.size w3 w5) := below_here (bq_drew HBR.out) b5; have hs5 := HB5.out.size; clear b5)
                    | (go_at_call 39; refine ((HPC _).out (bq_drew (bq_alloc HBR.out _))).mono ?_; rintro e w5 ⟨rfl, b5⟩; have HB5 : Hid (Below w3.heap.size w3 w5) := below_here (bq_drew (bq_alloc HBR.out _)) b5; have hs5 := HB5.out.size; have HN5 : Hid (w5.heap[w3.heap.size]? = some (stO 0 0 0 0)) := block_on (w := (w3.alloc (stO 0 0 0 0)).drew) (heap_new w3 (stO 0 0 0 0)) b5; obtain ⟨y0, y1, y2, y3⟩ := four_cells HN5.out; have f0 := four_frozen HN5.out 0; have f1 := four_frozen HN5.out 1; have f2 := four_frozen HN5.out 2; have f3 := four_frozen HN5.out 3; clear b5)
                    | fail)
                all_goals
                  go_wp2_with fail
                  go_meet
                  refine ⟨_, rfl, rfl, ?_, ?_⟩
                  · first
                      | with_reducible exact heap_new _ _
                      | with_reducible exact four_set HN5.out _ _ _ _
                  · first
                      | with_reducible exact bq_alloc HB5.out _
                      | with_reducible exact four_below HB5.out (Nat.le_refl _) _ _ _ _
              case rest =>
                obtain ⟨nb, rfl, rfl, hnb, hb4⟩ := hcut
                clear HPC HSK HBR
                obtain ⟨w4, hw4⟩ : ∃ w4, w4 = wc := ⟨_, rfl⟩
                subst hw4
                have HNB := hide hnb
                have HB4 := hide hb4
                have HG4 := hide (HG3.out.later hb4)
                have HX4 := hide (block_on HX3.out hb4)
                have HST4 := hide (HST3.out.trans (GStep.of_below (gs := gs) (gm := gm) (v := v1) hb4))
                have HZ4 : Hid (w3.heap.size ≤ w4.heap.size) := hb4.size
                clear hnb hb4
                cases x with
                | false =>
                  have HN : Hid (firstS (askS L f us vs ps) (n - j) j = firstS (askS L f us vs ps) (n - (j + 1)) (j + 1)) := by
                    show _ = _
                    rw [show n - j = (n - (j + 1)) + 1 by have := HJ.out; omega]
                    exact firstS_skip (by unfold askS; rw [HX.out]; rfl)
                  have HC4 : Hid (c1 ≤ c + (j + 1) * 13 ^ f) := Nat.le_trans HC3.out (Nat.add_le_add_left (Nat.mul_le_mul_right _ (Nat.le_succ j)) c)
                  have HJ1 : Hid (j + 1 ≤ n) := HJ.out
                  have hj12 : j < 12 := by have := HN12.out; omega
                  go_wp2_with fail
                  go_roundw
                  case rel => exact ⟨j + 1, HJ1.out, by go_num, HFS.out.trans HN.out, v1, c1, F1, HG4.out, HF3.out, HC4.out, HST4.out, HX4.out⟩
                  case measure => have := HJ1.out; simp [intOf]; omega
                | true =>
                  obtain ⟨a5, c5, w6, hap, hs6, hG7, hS7⟩ := HG4.out.push (j : Int) (by have := HD.out; omega) (by have := HBW.out.size; have := HD.out; have := HZ4.out; omega)
                  have HAP := hide hap
                  have HG7 := hide hG7
                  have HS7 := hide hS7
                  have HS6 := hide hs6
                  obtain ⟨w7, hw7⟩ : ∃ w7, w7 = w6.setCell ⟨gs, 2, none⟩ (.slice a5 (ps.length + 1) c5) := ⟨_, rfl⟩
                  rw [← hw7] at HG7 HS7
                  obtain ⟨e0, e1, e2, e3⟩ := four_cells HS6.out
                  have f2 := four_frozen HS6.out 2
                  obtain ⟨g0, g1, g2, g3⟩ := four_cells HG4.out.s
                  have HNB7 : Hid (w7.heap[nb]? = some (stO q n0 n1 n2)) := by
                    have hnl := (Array.getElem?_eq_some_iff.1 HNB.out).1
                    have hg4 := (Array.getElem?_eq_some_iff.1 HG4.out.s).1
                    refine (HS7.out.block nb hnl ?_ ?_ ?_).trans HNB.out
                    · intro e
                      have h1 := HNB.out
                      rw [e, HG4.out.s] at h1
                      simp at h1
                    · intro e
                      obtain ⟨es, cl, h2⟩ := HG4.out.m.isMap
                      have h1 := HNB.out
                      rw [e, h2] at h1
                      cases h1
                    · intro e
                      rcases HG4.out.o.2 with ⟨e5, _⟩ | ⟨g', cap', cur', e5, _, hg', _⟩
                      · rw [e5] at e; cases e
                      · rw [e5] at e
                        have e6 : some g' = some nb := e
                        simp only [Option.some.injEq] at e6
                        subst e6
                        have h1 := HNB.out
                        rw [hg'] at h1
                        simp at h1
                  have HX7 : Hid (w7.heap[w.heap.size]? = some (stO p m0 m1 m2)) := by
                    refine (HS7.out.block _ (Array.getElem?_eq_some_iff.1 HX4.out).1 ?_ ?_ ?_).trans HX4.out
                    · intro e
                      have h1 := HX4.out
                      rw [e, HG4.out.s] at h1
                      simp at h1
                    · intro e
                      obtain ⟨es, cl, h2⟩ := HG4.out.m.isMap
                      have h1 := HX4.out
                      rw [e, h2] at h1
                      cases h1
                    · intro e
                      rcases HG4.out.o.2 with ⟨e5, _⟩ | ⟨g', cap', cur', e5, _, hg', _⟩
                      · rw [e5] at e; cases e
                      · rw [e5] at e
                        have e6 : some g' = some w.heap.size := e
                        simp only [Option.some.injEq] at e6
                        subst e6
                        have h1 := HX4.out
                        rw [hg'] at h1
                        simp at h1
                  have HST7 := hide (HST4.out.trans HS7.out)
                  have HBW7 := hide (HST7.out.below HG.out.bs HG.out.bm HG.out.own HD.out.1)
                  have hc12 : c + (j + 1) * 13 ^ f + 13 ^ f ≤ 13 ^ 14 := by
                    have h1 := HD.out.2.2.2.1
                    have h2 := HJ.out
                    have h3 := HN12.out
                    have h4 : (j + 1) * 13 ^ f ≤ 12 * 13 ^ f := Nat.mul_le_mul_right _ (by omega)
                    rw [Nat.pow_succ] at h1
                    omega
                  have hun := unstood_set (us := us) (i := j) (by rw [HU.out]; exact HJ.out) (nx_un HX.out)
                  have HCALL := hide (HIH.out (us.set j true) (wrote L j vs) (ps ++ [(j : Int)]) (.slice a5 (ps.length + 1) c5) c1 F1 w7 (HY.out.later HBW7.out HD.out.2.2.2.2.1) (HT.out.later HBW7.out HD.out.2.2.2.2.2) (by have := HBW7.out.size; have := HD.out; omega) HG7.out HF3.out (by rw [List.length_set]; exact HU.out) (HV.out.wrote HJL.out) (by have := HD.out; omega) (by rw [List.length_append]; have := HD.out; simp; omega) (by have := HC3.out; have : j * 13 ^ f ≤ (j + 1) * 13 ^ f := Nat.mul_le_mul_right _ (by omega); omega))
                  rw [HPT.out rfl] at HCALL
                  clear hap hG7 hS7 hs6 hc12 hun
                  go_upto_region 11 with fail
                  go_upto_region 12 with (at_builtin; refine Lib.wpList_append_run _ rfl (.tmp 51) (.tmp 53) _ _ rfl _ _ rfl rfl _ _ HAP.out ?_)
                  rw [← hw7]
                  clear hw7 e0 e1 e2 e3 f2 g0 g1 g2 g3
                  obtain ⟨d0, d1, d2, d3⟩ := four_cells HNB7.out
                  go_wp2_with fail
                  refine HCALL.out.mono ?_
                  rintro e w8 ⟨rfl, v8, c8, F8, hG8, hF8, hc8, hS8⟩
                  have HG8 := hide hG8
                  have HF8 := hide hF8
                  have HC8 : Hid (c8 ≤ c + (j + 1) * 13 ^ f) := by
                    show _ ≤ _
                    have h1 := HC3.out
                    have h2 : (j + 1) * 13 ^ f = j * 13 ^ f + 13 ^ f := by rw [Nat.add_mul, Nat.one_mul]
                    omega
                  have HST8 := hide (HST7.out.trans hS8)
                  have HX8 : Hid (w8.heap[w.heap.size]? = some (stO p m0 m1 m2)) := by
                    refine (hS8.block _ (Array.getElem?_eq_some_iff.1 HX7.out).1 ?_ ?_ ?_).trans HX7.out
                    · intro e
                      have h1 := HX7.out
                      rw [e, HG7.out.s] at h1
                      simp at h1
                    · intro e
                      obtain ⟨es, cl, h2⟩ := HG7.out.m.isMap
                      have h1 := HX7.out
                      rw [e, h2] at h1
                      cases h1
                    · intro e
                      rcases HG7.out.o.2 with ⟨e5, _⟩ | ⟨g', cap', cur', e5, _, hg', _⟩
                      · rw [e5] at e; cases e
                      · rw [e5] at e
                        have e6 : some g' = some w.heap.size := e
                        simp only [Option.some.injEq] at e6
                        subst e6
                        have h1 := HX7.out
                        rw [hg'] at h1
                        simp at h1
                  clear d0 d1 d2 d3 hG8 hF8 hc8 hS8 HCALL HNB7 HX7
                  obtain ⟨r, hr⟩ : ∃ r, srch L f (us.set j true) (wrote L j vs) (ps ++ [(j : Int)]) = r := ⟨_, rfl⟩
                  have HASK : Hid (askS L f us vs ps j = r) := by
                    show _ = _
                    unfold askS
                    rw [HX.out]
                    exact hr
                  rw [hr] at HG8
                  rw [hr]
                  clear hr
                  cases r with
                  | some o =>
                    have HR : Hid (srch L (f + 1) us vs ps = some o) := by
                      show _ = _
                      rw [HFS.out, show n - j = (n - (j + 1)) + 1 by have := HJ.out; omega]
                      exact firstS_hit HASK.out
                    have HC9 : Hid (c8 ≤ c + 13 ^ (f + 1)) := by
                      refine Nat.le_trans HC8.out (Nat.add_le_add_left ?_ c)
                      rw [Nat.pow_succ, Nat.mul_comm]
                      exact Nat.mul_le_mul_left _ (by have := HJ.out; have := HN12.out; omega)
                    go_wp2_with fail
                    go_ret
                    rw [HR.out]
                    exact ⟨rfl, v8, c8, F8, HG8.out, HF8.out, HC9.out, HST8.out⟩
                  | none =>
                    obtain ⟨g, c9, rfl, hG9, hS9, hcap9⟩ := GAt.pop (ps := ps) (x := (j : Int)) HG8.out
                    have HG9 := hide hG9
                    have HST9 := hide (HST8.out.trans hS9)
                    have HX9 : Hid ((w8.setCell ⟨gs, 2, none⟩ (.slice (some ⟨g, 0, none⟩) ps.length c9)).heap[w.heap.size]? = some (stO p m0 m1 m2)) := by
                      refine (((Aside.refl gs (gs + 1) w8).setCell (p := ⟨gs, 2, none⟩) (Nat.le_refl _) (Nat.lt_succ_self _) _).block _ (Array.getElem?_eq_some_iff.1 HX8.out).1 ?_).trans HX8.out
                      have hne : w.heap.size ≠ gs := by
                        intro e
                        have h1 := HX8.out
                        rw [e, HG8.out.s] at h1
                        simp at h1
                      omega
                    have HN : Hid (firstS (askS L f us vs ps) (n - j) j = firstS (askS L f us vs ps) (n - (j + 1)) (j + 1)) := by
                      show _ = _
                      rw [show n - j = (n - (j + 1)) + 1 by have := HJ.out; omega]
                      exact firstS_skip HASK.out
                    obtain ⟨w9, hw9⟩ : ∃ w9, w9 = w8.setCell ⟨gs, 2, none⟩ (.slice (some ⟨g, 0, none⟩) ps.length c9) := ⟨_, rfl⟩
                    rw [← hw9] at HG9 HST9 HX9
                    obtain ⟨e0, e1, e2, e3⟩ := four_cells HG8.out.s
                    have f2 := four_frozen HG8.out.s 2
                    obtain ⟨M, hM⟩ : ∃ M, M = ps.length := ⟨_, rfl⟩
                    rw [← hM] at hcap9 e2 hw9
                    have hM12 : M ≤ 100 := by have := HD.out; omega
                    have hMc : M ≤ c9 := by omega
                    have HJ1 : Hid (j + 1 ≤ n) := HJ.out
                    have hj12 : j < 12 := by have := HN12.out; omega
                    clear hG9 hS9 hM
                    go_upto_region 14 with fail
                    go_region
                    rw [← hw9]
                    clear hw9 e0 e1 e2 e3 f2 hM12 hMc hcap9
                    have HD9 : Hid (Below w9.heap.size w9 w9.drew) := (Below.refl _ _).drew
                    go_wp2_with fail
                    go_roundw
                    case rel => exact ⟨j + 1, HJ1.out, by go_num, HFS.out.trans HN.out, _, c8, F8, HG9.out.later HD9.out, HF8.out, HC8.out, HST9.out.trans (GStep.of_below HD9.out), block_on HX9.out HD9.out⟩
                    case measure => have := HJ1.out; simp [intOf]; omega
            · obtain rfl : j = n := by omega
              have HN : Hid (srch L (f + 1) us vs ps = none) := by
                show _ = _
                rw [HFS.out, show j - j = 0 by omega]
                rfl
              have HDD : Hid (Dead L us vs) := dead_of (HU.out.trans HLN.out.symm) HD.out.2.1 HN.out
              have hlen : c1 + 1 ≤ c + 13 ^ (f + 1) := by
                have h1 := HC3.out
                have h2 : j * 13 ^ f ≤ 12 * 13 ^ f := Nat.mul_le_mul_right _ HN12.out
                have h3 : 0 < 13 ^ f := Nat.pow_pos (by omega)
                rw [Nat.pow_succ]
                omega
              have HC9 := hide hlen
              have HD3 : Hid (Below w3.heap.size w3 w3.drew) := (Below.refl _ _).drew
              obtain ⟨w9, hput, hG9, hS9⟩ := (HG3.out.later HD3.out).put (show c1 < maxLen by have h1 := HD.out.2.2.2.1; have h2 : (13 : Nat) ^ 14 < maxLen := (by decide); omega) HFIT.out
              have HPU := hide hput
              have HG9 := hide hG9
              have HST9 := hide ((HST3.out.trans (GStep.of_below HD3.out)).trans hS9)
              have HF9 := hide (HVPUT.out F1 HF3.out HDD.out)
              obtain ⟨g0, g1, g2, g3⟩ := four_cells HG3.out.s
              obtain ⟨d0, d1, d2, d3⟩ := four_cells HX3.out
              clear hG9 hS9 hlen hlt
              go_upto_region 16 with fail
              go_region
              clear g0 g1 g2 g3 d0 d1 d2 d3 hput
              go_wp2_with fail
              go_ret
              rw [HN.out]
              exact ⟨rfl, v1, c1 + 1, _, HG9.out, HF9.out, HC9.out, HST9.out⟩
end Go.Proofs.Ytnemncmaaejajaa
