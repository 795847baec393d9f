/- Chapter 19: may an operation stand next? -/
import Derived.Test.YtnemncmaaejajaaHistBase
import Derived.Test.YtnemncmaaejajaaReadBase
import Derived.Test.YtnemncmaaejajaaTextEq
import Derived.BigQuiet
namespace Go.Proofs.Ytnemncmaaejajaa
open Go.RowKit
set_option linter.unusedVariables false
set_option linter.unusedSimpArgs false
set_option maxRecDepth 20000

def late (L : List O9) (us : List Bool) (i k : Nat) : Bool := !us.getD k false && (!decide (k = i) && (decide (0 ≤ (o9At L k).e) && decide ((o9At L k).e < (o9At L i).b)))
def nxK (L : List O9) (us : List Bool) (i : Nat) : Nat → Bool
  | 0 => true
  | k + 1 => nxK L us i k && !late L us i k
def nx (L : List O9) (us : List Bool) (i : Nat) (vs : List ByteArray) : Bool := !us.getD i false && (nxK L us i L.length && ((o9At L i).w || decide (vs.getD (o9At L i).a.toNat ByteArray.empty = (o9At L i).t)))
theorem nxK_no {L : List O9} {us : List Bool} {i k : Nat} (h : nxK L us i k = false) : ∀ d, nxK L us i (k + d) = false
  | 0 => h
  | d + 1 => by show (nxK L us i (k + d) && _) = false; rw [nxK_no h d]; rfl
theorem nx_late {L : List O9} {us : List Bool} {i k : Nat} {vs : List ByteArray} (hk : k < L.length) (h : late L us i k = true) : nx L us i vs = false := by
  have h1 : nxK L us i (k + 1) = false := by show (nxK L us i k && !late L us i k) = false; rw [h]; simp
  have h2 := nxK_no h1 (L.length - (k + 1))
  rw [show k + 1 + (L.length - (k + 1)) = L.length by omega] at h2
  unfold nx
  rw [h2]; simp
theorem drew_below {B : Nat} {w wr : World} (nq : Nat) (h : Below B w wr) : Below B w (wr.drewN nq) := ⟨h.1, h.2, h.3, h.4, h.5⟩
set_option maxHeartbeats 6400000 in
theorem l19Next_any (a : Option Addr) (n cap : Nat) (L : List O9) (au : Option Addr) (cu : Nat) (us : List Bool) (i : Nat) (av : Option Addr) (cv : Nat) (vs : List ByteArray) (w : World) {lo hi lo2 hi2 lo3 hi3 : Nat} (h : Ops9 lo hi w a n L) (hn : n ≤ 1000) (hu : Bools lo2 hi2 w au n us) (hu2 : hi2 ≤ w.heap.size) (hi9 : i < n) (hv : Texts lo3 hi3 w av 3 vs) (h0 : 0 ≤ (o9At L i).a) (h2 : (o9At L i).a ≤ 2) :
    Calls Try.prog 36 #[.slice a n cap, .slice au n cu, .int .i64 (i : Int), .slice av 3 cv] w fun r w' => r = .returned (.bool (nx L us i vs)) ∧ Below w.heap.size w w' := by
  have HL := hide h.1
  have hsz := h.2.1
  obtain ⟨b, off, rfl, _, hb, hc⟩ := h.2.2 (by omega)
  obtain ⟨bu, ou, rfl, _, hbu, hcu⟩ := hu.2.2 (by omega)
  obtain ⟨bv, ov, rfl, _, hbv, hcv⟩ := hv.2.2 (by omega)
  have hvs := hv.2.1
  have HCC := hide hc
  have HCU := hide hcu
  have HCV := hide hcv
  have hui := hcu i hi9
  unfold cellO at hui
  obtain ⟨ui, hui2⟩ : ∃ q, us.getD i false = q := ⟨_, rfl⟩
  have HUI := hide hui2
  rw [hui2] at hui
  have hin : (i : Int) < (n : Int) := by omega
  have HBW : Hid (b < w.heap.size ∧ bu < w.heap.size ∧ bv < w.heap.size) := ⟨by omega, by omega, by omega⟩
  obtain ⟨c0, c1, c2, c3, c4⟩ := op9_row hc (Below.refl w.heap.size w) (show b < w.heap.size by omega) hi9
  obtain ⟨oa, how⟩ : ∃ o, o = o9At L i := ⟨_, rfl⟩
  have HOW := hide how
  rw [← how] at c0 c1 c2 c3 c4 h0 h2
  obtain ⟨xa, xw, xt, xb, xe⟩ := oa
  dsimp only at c0 c1 c2 c3 c4 h0 h2
  clear h hu hv hc hcu hcv how hui2
  cases ui with
  | true =>
    have HE : Hid (nx L us i vs = false) := by show _ = _; unfold nx; rw [HUI.out]; rfl
    go_enter Try.func36, Try.ntmps36
    go_wp2_with fail
    go_ret
    exact ⟨by rw [HE.out]; rfl, Below.refl _ _⟩
  | false =>
    obtain ⟨wO, hwO⟩ : ∃ wO, wO = w.alloc (.cells #[.int .i64 xa, .bool xw, .string xt, .int .i64 xb, .int .i64 xe] 45) := ⟨_, rfl⟩
    have HBO : Hid (Below w.heap.size w wO) := by rw [hwO]; exact (Below.refl _ _).alloc (Nat.le_refl _) _
    have HO : Hid (wO.heap[w.heap.size]? = some (.cells #[.int .i64 xa, .bool xw, .string xt, .int .i64 xb, .int .i64 xe] 45)) := by rw [hwO]; exact heap_new _ _
    go_enter Try.func36, Try.ntmps36
    go_upto_region 4 with fail
    rw [← hwO]
    clear hwO c0 c1 c2 c3 c4 hui
    go_wp2_with fail
    go_loopw [10] (fun j wr => ∃ k : Nat, k ≤ n ∧ j = .int .i64 (k : Int) ∧ nxK L us i k = true ∧ Below w.heap.size w wr ∧ wr.heap[w.heap.size]? = some (.cells #[.int .i64 xa, .bool xw, .string xt, .int .i64 xb, .int .i64 xe] 45)) (fun j _ => n - (intOf j).toNat)
    case atStart => exact ⟨0, Nat.zero_le _, rfl, rfl, HBO.out, HO.out⟩
    case round =>
      obtain ⟨k, hk, rfl, hnk, hbel, ho⟩ := hrel
      have HNK := hide hnk
      have HBL := hide hbel
      have HOO := hide ho
      clear hnk
      obtain ⟨d0, d1, d2, d3, d4⟩ := op9_cells ho
      by_cases hlt : k < n
      · obtain ⟨e0, e1, e2, e3, e4⟩ := op9_row HCC.out hbel HBW.out.1 hlt
        have hkn : (k : Int) < (n : Int) := by omega
        have huk := (hbel.cell (p := ⟨bu, ou + k, none⟩) HBW.out.2.1).trans (HCU.out k hlt)
        unfold cellO at huk
        obtain ⟨uk, huk2⟩ : ∃ q, us.getD k false = q := ⟨_, rfl⟩
        have HUK := hide huk2
        rw [huk2] at huk
        obtain ⟨E, hE⟩ : ∃ E, E = (o9At L k).e := ⟨_, rfl⟩
        have HEE := hide hE
        rw [← hE] at e4
        have HLT : Hid (late L us i k = (!uk && (!decide (k = i) && (decide (0 ≤ E) && decide (E < xb))))) := by show _ = _; unfold late; rw [HUK.out, ← HEE.out, ← HOW.out]
        have HKL : Hid (k < L.length) := by have h9 : L.length = n := HL.out; show k < _; omega
        clear hbel ho huk2 hE e0 e1 e2 e3
        cases uk with
        | true =>
          have HN2 : Hid (nxK L us i (k + 1) = true) := by show (nxK L us i k && !late L us i k) = true; rw [HNK.out, HLT.out]; rfl
          go_upto_region 7 with fail
          go_quiet (fail)
          go_wp2_with fail
          exact ⟨⟨k + 1, by omega, by simp, HN2.out, drew_below _ HBL.out, HOO.out⟩, by simp only [intOf]; omega⟩
        | false =>
          by_cases hki : k = i
          · have hkI : (k : Int) = (i : Int) := by omega
            have hne : ((k : Int) != (i : Int)) = false := by simp [hkI]
            have HN2 : Hid (nxK L us i (k + 1) = true) := by show (nxK L us i k && !late L us i k) = true; rw [HNK.out, HLT.out, decide_eq_true hki]; rfl
            clear hkI hki
            go_upto_region 7 with fail
            go_quiet (fail)
            go_wp2_with fail
            exact ⟨⟨k + 1, by omega, by simp, HN2.out, drew_below _ HBL.out, HOO.out⟩, by simp only [intOf]; omega⟩
          · have hkI : ¬ (k : Int) = (i : Int) := by omega
            have hne : ((k : Int) != (i : Int)) = true := by simp [hkI]
            by_cases hE0 : 0 ≤ E
            · have hE1 : decide (0 ≤ E) = true := decide_eq_true hE0
              by_cases hEb : E < xb
              · have hE2 : decide (E < xb) = true := decide_eq_true hEb
                have HE : Hid (nx L us i vs = false) := nx_late HKL.out (by rw [HLT.out, decide_eq_false hki, hE1, hE2]; rfl)
                go_upto_region 7 with fail
                go_quiet (fail)
                go_wp2_with fail
                go_ret
                exact ⟨by rw [HE.out]; rfl, drew_below _ HBL.out⟩
              · have hE2 : decide (E < xb) = false := decide_eq_false hEb
                have HN2 : Hid (nxK L us i (k + 1) = true) := by show (nxK L us i k && !late L us i k) = true; rw [HNK.out, HLT.out, decide_eq_false hki, hE1, hE2]; rfl
                go_upto_region 7 with fail
                go_quiet (fail)
                go_wp2_with fail
                exact ⟨⟨k + 1, by omega, by simp, HN2.out, drew_below _ HBL.out, HOO.out⟩, by simp only [intOf]; omega⟩
            · have hE1 : decide (0 ≤ E) = false := decide_eq_false hE0
              have HN2 : Hid (nxK L us i (k + 1) = true) := by show (nxK L us i k && !late L us i k) = true; rw [HNK.out, HLT.out, decide_eq_false hki, hE1]; rfl
              go_upto_region 7 with fail
              go_quiet (fail)
              go_wp2_with fail
              exact ⟨⟨k + 1, by omega, by simp, HN2.out, drew_below _ HBL.out, HOO.out⟩, by simp only [intOf]; omega⟩
      · have hkn : ¬ (k : Int) < (n : Int) := by omega
        have HKN : Hid (k = n) := by show _ = _; omega
        have HALL : Hid (nxK L us i L.length = true) := by show _ = _; rw [show L.length = k by have h9 : L.length = n := HL.out; have := HKN.out; omega]; exact HNK.out
        have HNX : Hid (nx L us i vs = (xw || decide (vs.getD xa.toNat ByteArray.empty = xt))) := by show _ = _; unfold nx; rw [HUI.out, HALL.out, ← HOW.out]; rfl
        cases xw with
        | true =>
          go_upto_region 9 with fail
          go_quiet (fail)
          go_wp2_with fail
          go_ret
          exact ⟨by rw [HNX.out]; rfl, drew_below _ HBL.out⟩
        | false =>
          obtain ⟨A, hA⟩ : ∃ A : Nat, xa = (A : Int) := ⟨xa.toNat, by omega⟩
          subst hA
          have hA3 : A < 3 := by omega
          have hA3' : (A : Int) < 3 := by omega
          have hvA := (hbel.cell (p := ⟨bv, ov + A, none⟩) HBW.out.2.2).trans (HCV.out A hA3)
          unfold cellT at hvA
          obtain ⟨T, hT⟩ : ∃ T, T = vs.getD A ByteArray.empty := ⟨_, rfl⟩
          have HT := hide hT
          rw [← hT] at hvA
          have HEND : Hid (nx L us i vs = decide (T = xt)) := by show _ = _; rw [HNX.out, show ((A : Int)).toNat = A from rfl, ← HT.out]; rfl
          clear hT HNX
          have HQ : Hid ((T.toList == xt.toList) = decide (T = xt)) := text_eq T xt
          go_upto_region 9 with fail
          go_quiet (fail)
          go_wp2_with fail
          go_ret
          exact ⟨by rw [HEND.out, ← HQ.out]; rfl, drew_below _ HBL.out⟩
end Go.Proofs.Ytnemncmaaejajaa
