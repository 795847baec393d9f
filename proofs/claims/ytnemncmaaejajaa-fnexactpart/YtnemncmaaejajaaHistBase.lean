/- Chapter 19: histories, plainly and in memory. An Op has five cells: At, Write, Text, Begin, End. -/
import Derived.Test.YtnemncmaaejajaaResCell
import Derived.Test.YtnemncmaaejajaaWalkIn
import Derived.Test.YtnemncmaaejajaaTextBase
import Derived.Deep.Cut
namespace Go.Proofs.Ytnemncmaaejajaa
open Go.RowKit
set_option linter.unusedVariables false
set_option linter.unusedSimpArgs false
set_option maxRecDepth 20000

structure O9 where
  a : Int
  w : Bool
  t : ByteArray
  b : Int
  e : Int
def o9At (L : List O9) (i : Nat) : O9 := L.getD i ⟨0, false, ByteArray.empty, 0, 0⟩
def o9Ok (o : O9) : Bool := inB o.a 0 2 && (!decide (o.b < 0) && (decide (o.e = -1) || !decide (o.e ≤ o.b)))
/-- Do an operation and an earlier one have no time in common? -/
def o9Apart (o x : O9) : Bool := !decide (x.b = o.b) && (!decide (x.b = o.e) && (!decide (x.e = o.b) && !(decide (x.e = o.e) && !decide (o.e = -1))))
def apartK (L : List O9) (i : Nat) : Nat → Bool
  | 0 => true
  | k + 1 => apartK L i k && o9Apart (o9At L i) (o9At L k)
def histK (L : List O9) : Nat → Bool
  | 0 => true
  | k + 1 => histK L k && (o9Ok (o9At L k) && apartK L k k)
def histOk (L : List O9) : Bool := decide (L.length ≤ 12) && histK L L.length
theorem apartK_no {L : List O9} {i k : Nat} (h : apartK L i k = false) : ∀ d, apartK L i (k + d) = false
  | 0 => h
  | d + 1 => by show (apartK L i (k + d) && _) = false; rw [apartK_no h d]; rfl
theorem histK_no {L : List O9} {k : Nat} (h : histK L k = false) : ∀ d, histK L (k + d) = false
  | 0 => h
  | d + 1 => by show (histK L (k + d) && _) = false; rw [histK_no h d]; rfl
theorem hist_fall {L : List O9} {k : Nat} (hk : k < L.length) (h : (o9Ok (o9At L k) && apartK L k k) = false) : histOk L = false := by
  have h1 : histK L (k + 1) = false := by show (histK L k && _) = false; rw [h, Bool.and_false]
  have h2 := histK_no h1 (L.length - (k + 1))
  rw [show k + 1 + (L.length - (k + 1)) = L.length by omega] at h2
  unfold histOk
  rw [h2, Bool.and_false]
theorem apart_fall {L : List O9} {i k : Nat} (hk : k < i) (h : o9Apart (o9At L i) (o9At L k) = false) : apartK L i i = false := by
  have h1 : apartK L i (k + 1) = false := by show (apartK L i k && _) = false; rw [h, Bool.and_false]
  have h2 := apartK_no h1 (i - (k + 1))
  rwa [show k + 1 + (i - (k + 1)) = i by omega] at h2
def o9J (o : O9) : Nat → Value
  | 0 => .int .i64 o.a
  | 1 => .bool o.w
  | 2 => .string o.t
  | 3 => .int .i64 o.b
  | _ => .int .i64 o.e
def o9C (L : List O9) (i : Nat) : Value := o9J (o9At L (i / 5)) (i % 5)
def Ops9 (lo hi : Nat) (w : World) (a : Option Addr) (n : Nat) (L : List O9) : Prop := L.length = n ∧ Reads lo hi w a (n * 5) (o9C L)
theorem Ops9.later {lo hi n B : Nat} {w w' : World} {a : Option Addr} {L : List O9} (h : Ops9 lo hi w a n L) (hb : Below B w w') (hB : hi ≤ B) : Ops9 lo hi w' a n L := ⟨h.1, h.2.later hb hB⟩
theorem op9_row {L : List O9} {w w' : World} {b off n k B : Nat} (hc : ∀ i, i < n * 5 → w.cell? ⟨b, off + i, none⟩ = some (o9C L i)) (hbel : Below B w w') (hb : b < B) (hk : k < n) :
    w'.cell? ⟨b, off + k * 5, none⟩ = some (.int .i64 (o9At L k).a) ∧ w'.cell? ⟨b, off + k * 5 + 1, none⟩ = some (.bool (o9At L k).w) ∧ w'.cell? ⟨b, off + k * 5 + 2, none⟩ = some (.string (o9At L k).t) ∧ w'.cell? ⟨b, off + k * 5 + 3, none⟩ = some (.int .i64 (o9At L k).b) ∧ w'.cell? ⟨b, off + k * 5 + 4, none⟩ = some (.int .i64 (o9At L k).e) := by
  have g : ∀ j, j < 5 → w'.cell? ⟨b, off + k * 5 + j, none⟩ = some (o9J (o9At L k) j) := fun j hj => by
    rw [hbel.cell (p := ⟨b, off + k * 5 + j, none⟩) hb, Nat.add_assoc, hc (k * 5 + j) (by omega)]
    unfold o9C
    rw [show (k * 5 + j) / 5 = k by omega, show (k * 5 + j) % 5 = j by omega]
  exact ⟨g 0 (by omega), g 1 (by omega), g 2 (by omega), g 3 (by omega), g 4 (by omega)⟩
theorem op9_cells {W : World} {b : Nat} {c0 c1 c2 c3 c4 : Value} {t : TypeId} {fr : Nat × Nat} (h : W.heap[b]? = some (.cells #[c0, c1, c2, c3, c4] t fr)) :
    W.cell? ⟨b, 0, none⟩ = some c0 ∧ W.cell? ⟨b, 1, none⟩ = some c1 ∧ W.cell? ⟨b, 2, none⟩ = some c2 ∧ W.cell? ⟨b, 3, none⟩ = some c3 ∧ W.cell? ⟨b, 4, none⟩ = some c4 := by
  simp [World.cell?, h]
set_option maxHeartbeats 6400000 in
theorem specHistoryOk_any (a : Option Addr) (n cap : Nat) (L : List O9) (w : World) {lo hi : Nat} (h : Ops9 lo hi w a n L) (hn : n ≤ 9223372036854775807) :
    Calls Try.prog 9 #[.slice a n cap] w fun r w' => r = .returned (.bool (histOk L)) ∧ Below w.heap.size w w' := by
  have HL := hide h.1
  have HX := hide h.2
  have hsz := h.2.1
  clear h
  by_cases h12 : 12 < n
  · have HE : Hid (histOk L = false) := by show _ = _; unfold histOk; rw [decide_eq_false (by have := HL.out; omega)]; rfl
    have h12' : (12 : Int) < (n : Int) := by omega
    go_enter Try.func9, Try.ntmps9
    go_wp2_with fail
    go_ret
    exact ⟨by rw [HE.out]; rfl, Below.refl _ _⟩
  · have h12' : ¬ (12 : Int) < (n : Int) := by omega
    go_enter Try.func9, Try.ntmps9
    go_wp2_with fail
    go_loopw [3] (fun i wr => ∃ k : Nat, k ≤ n ∧ i = .int .i64 (k : Int) ∧ histK L k = true ∧ Below w.heap.size w wr) (fun i _ => n - (intOf i).toNat)
    case atStart => exact ⟨0, Nat.zero_le _, rfl, rfl, Below.refl _ _⟩
    case round =>
      obtain ⟨k, hk, rfl, hhk, hbel⟩ := hrel
      obtain ⟨w1, hw1⟩ : ∃ w1, w1 = wr := ⟨_, rfl⟩
      subst hw1
      have HHK := hide hhk
      clear hhk
      by_cases hlt : k < n
      · obtain ⟨b, off, rfl, _, hb, hc⟩ := HX.out.2 (by omega)
        obtain ⟨c0, c1, c2, c3, c4⟩ := op9_row hc hbel (show b < w.heap.size by omega) hlt
        obtain ⟨oa, how⟩ : ∃ o, o = o9At L k := ⟨_, rfl⟩
        have HOW := hide how
        rw [← how] at c0 c1 c2 c3 c4
        obtain ⟨xa, xw, xt, xb, xe⟩ := oa
        dsimp only at c0 c1 c2 c3 c4
        obtain ⟨wO, hwO⟩ : ∃ wO, wO = w1.alloc (.cells #[.int .i64 xa, .bool xw, .string xt, .int .i64 xb, .int .i64 xe] 45) := ⟨_, rfl⟩
        have HBO : Hid (Below w.heap.size w wO) := by rw [hwO]; exact hbel.alloc hbel.size _
        have HO : Hid (wO.heap[w1.heap.size]? = some (.cells #[.int .i64 xa, .bool xw, .string xt, .int .i64 xb, .int .i64 xe] 45)) := by rw [hwO]; exact heap_new _ _
        have HCC := hide hc
        have HBW : Hid (b < w.heap.size) := by show b < _; omega
        have hkl : k < L.length := by have h9 : L.length = n := HL.out; omega
        have HFALL : Hid ((o9Ok ⟨xa, xw, xt, xb, xe⟩ && apartK L k k) = false → histOk L = false) := fun hh => hist_fall hkl (by rw [← HOW.out]; exact hh)
        clear hkl
        clear hc how hbel
        go_upto_region 7 with fail
        rw [← hwO]
        clear hwO c0 c1 c2 c3 c4
        obtain ⟨d0, d1, d2, d3, d4⟩ := op9_cells HO.out
        go_wp2_with fail
        refine (l1In_any _ _ _ _).mono ?_
        rintro e w2 ⟨rfl, rfl⟩
        have hself : ∀ q : Bool, Hid (o9Ok ⟨xa, xw, xt, xb, xe⟩ = false → (o9Ok ⟨xa, xw, xt, xb, xe⟩ && apartK L k k) = false) := fun _ hh => by rw [hh]; rfl
        cases hq1 : inB xa 0 2 with
        | false =>
          have HE : Hid (histOk L = false) := HFALL.out (by unfold o9Ok; rw [hq1]; rfl)
          go_wp2_with fail
          go_ret
          exact ⟨by rw [HE.out]; rfl, HBO.out⟩
        | true =>
          by_cases hb0 : xb < 0
          · have HE : Hid (histOk L = false) := HFALL.out (by unfold o9Ok; rw [decide_eq_true hb0]; simp)
            go_wp2_with fail
            go_ret
            exact ⟨by rw [HE.out]; rfl, HBO.out⟩
          · have HOK : ∀ q : Bool, q = (decide (xe = -1) || !decide (xe ≤ xb)) → o9Ok ⟨xa, xw, xt, xb, xe⟩ = q := fun q hq => by unfold o9Ok; rw [hq1, decide_eq_false hb0, hq]; rfl
            by_cases hbad : ¬ xe = -1 ∧ xe ≤ xb
            · obtain ⟨he1, hle⟩ := hbad
              have hne1 : (xe != -1) = true := by simp [he1]
              have HE : Hid (histOk L = false) := HFALL.out (by rw [HOK false (by rw [decide_eq_false he1, decide_eq_true hle]; rfl)]; rfl)
              clear HOK hself hq1
              go_wp2_with fail
              go_ret
              exact ⟨by rw [HE.out]; rfl, HBO.out⟩
            · have hcase : xe = -1 ∨ (¬ xe = -1 ∧ ¬ xe ≤ xb) := by
                by_cases he1 : xe = -1
                · exact .inl he1
                · exact .inr ⟨he1, fun c => hbad ⟨he1, c⟩⟩
              have HO9 : Hid (o9Ok ⟨xa, xw, xt, xb, xe⟩ = true) := HOK true (by
                rcases hcase with c | ⟨c, d⟩
                · rw [decide_eq_true c]; rfl
                · rw [decide_eq_false c, decide_eq_false d]; rfl)
              clear HOK hself hq1 hbad
              obtain ⟨q9, hq9⟩ : ∃ q9, (xe != -1) = q9 := ⟨_, rfl⟩
              have HQ9 := hide hq9
              rcases hcase with he1 | ⟨he1, hle⟩
              · have hne1 : (xe != -1) = false := by simp [he1]
                have HE1 := hide he1
                clear hq9 he1
                go_upto_region 9 with fail
                clear d0 d1 d2 d3 d4
                have hsO : w1.heap.size < wO.heap.size := (Array.getElem?_eq_some_iff.1 HO.out).1
                go_wp2_with fail
                go_loopw [5] (fun i wr => ∃ j : Nat, j ≤ k ∧ i = .int .i64 (j : Int) ∧ apartK L k j = true ∧ Below w.heap.size w wr ∧ wr.heap[w1.heap.size]? = some (.cells #[.int .i64 xa, .bool xw, .string xt, .int .i64 xb, .int .i64 xe] 45)) (fun i _ => k - (intOf i).toNat)
                case atStart => exact ⟨0, Nat.zero_le _, rfl, rfl, HBO.out, HO.out⟩
                case round =>
                  obtain ⟨j, hj, rfl, haj, hb2, ho2⟩ := hrel
                  have HAJ := hide haj
                  clear haj
                  by_cases hjk : j < k
                  · obtain ⟨c0, c1, c2, c3, c4⟩ := op9_row HCC.out hb2 HBW.out (show j < n by omega)
                    obtain ⟨ox, hox⟩ : ∃ o, o = o9At L j := ⟨_, rfl⟩
                    have HOX := hide hox
                    rw [← hox] at c0 c1 c2 c3 c4
                    obtain ⟨ya, yw, yt, yb, ye⟩ := ox
                    dsimp only at c0 c1 c2 c3 c4
                    obtain ⟨wX, hwX⟩ : ∃ wX, wX = wr.alloc (.cells #[.int .i64 ya, .bool yw, .string yt, .int .i64 yb, .int .i64 ye] 45) := ⟨_, rfl⟩
                    have HBX : Hid (Below w.heap.size w wX) := by rw [hwX]; exact hb2.alloc hb2.size _
                    have HX9 : Hid (wX.heap[wr.heap.size]? = some (.cells #[.int .i64 ya, .bool yw, .string yt, .int .i64 yb, .int .i64 ye] 45)) := by rw [hwX]; exact heap_new _ _
                    have HO2 : Hid (wX.heap[w1.heap.size]? = some (.cells #[.int .i64 xa, .bool xw, .string xt, .int .i64 xb, .int .i64 xe] 45)) := by rw [hwX]; exact heap_old ho2
                    have HBAD : Hid (o9Apart ⟨xa, xw, xt, xb, xe⟩ ⟨ya, yw, yt, yb, ye⟩ = false → histOk L = false) := fun hh => HFALL.out (by rw [apart_fall hjk (by rw [← HOW.out, ← HOX.out]; exact hh), Bool.and_false])
                    clear hox hb2 ho2
                    go_upto_region 13 with fail
                    rw [← hwX]
                    clear hwX c0 c1 c2 c3 c4
                    obtain ⟨c0, c1, c2, c3, c4⟩ := op9_cells HX9.out
                    obtain ⟨d0, d1, d2, d3, d4⟩ := op9_cells HO2.out
                    by_cases e1 : yb = xb
                    · have HE : Hid (histOk L = false) := HBAD.out (by unfold o9Apart; rw [decide_eq_true e1]; rfl)
                      have f1 : (yb == xb) = true := by simp [e1]
                      go_wp2_with fail
                      go_ret
                      exact ⟨by rw [HE.out]; rfl, HBX.out⟩
                    · have f1 : (yb == xb) = false := by simp [e1]
                      by_cases e2 : yb = xe
                      · have HE : Hid (histOk L = false) := HBAD.out (by unfold o9Apart; rw [decide_eq_true e2]; simp)
                        have f2 : (yb == xe) = true := by simp [e2]
                        go_wp2_with fail
                        go_ret
                        exact ⟨by rw [HE.out]; rfl, HBX.out⟩
                      · have f2 : (yb == xe) = false := by simp [e2]
                        by_cases e3 : ye = xb
                        · have HE : Hid (histOk L = false) := HBAD.out (by unfold o9Apart; rw [decide_eq_true e3]; simp)
                          have f3 : (ye == xb) = true := by simp [e3]
                          go_wp2_with fail
                          go_ret
                          exact ⟨by rw [HE.out]; rfl, HBX.out⟩
                        · have f3 : (ye == xb) = false := by simp [e3]
                          by_cases e4 : ye = xe
                          · have f4 : (ye == xe) = true := by simp [e4]
                            clear e4
                            have HA2 : Hid (apartK L k (j + 1) = true) := by show (apartK L k j && o9Apart (o9At L k) (o9At L j)) = true; rw [HAJ.out, ← HOW.out, ← HOX.out]; unfold o9Apart; rw [decide_eq_false e1, decide_eq_false e2, decide_eq_false e3, decide_eq_true HE1.out]; simp
                            go_wp2_with fail
                            exact ⟨⟨j + 1, by omega, by go_num, HA2.out, HBX.out, HO2.out⟩, by simp [intOf]; omega⟩
                          · have f4 : (ye == xe) = false := by simp [e4]
                            have HA2 : Hid (apartK L k (j + 1) = true) := by show (apartK L k j && o9Apart (o9At L k) (o9At L j)) = true; rw [HAJ.out, ← HOW.out, ← HOX.out]; unfold o9Apart; rw [decide_eq_false e1, decide_eq_false e2, decide_eq_false e3, decide_eq_false e4]; rfl
                            go_wp2_with fail
                            exact ⟨⟨j + 1, by omega, by go_num, HA2.out, HBX.out, HO2.out⟩, by simp [intOf]; omega⟩
                  · obtain rfl : j = k := by omega
                    have HH2 : Hid (histK L (j + 1) = true) := by show (histK L j && (o9Ok (o9At L j) && apartK L j j)) = true; rw [HHK.out, ← HOW.out, HO9.out, HAJ.out]; rfl
                    go_wp2_with fail
                    exact ⟨⟨j + 1, by omega, by go_num, HH2.out, hb2⟩, by simp [intOf]; omega⟩
              · have hne1 : (xe != -1) = true := by simp [he1]
                clear hq9
                go_upto_region 9 with fail
                clear d0 d1 d2 d3 d4
                have hsO : w1.heap.size < wO.heap.size := (Array.getElem?_eq_some_iff.1 HO.out).1
                go_wp2_with fail
                go_loopw [5] (fun i wr => ∃ j : Nat, j ≤ k ∧ i = .int .i64 (j : Int) ∧ apartK L k j = true ∧ Below w.heap.size w wr ∧ wr.heap[w1.heap.size]? = some (.cells #[.int .i64 xa, .bool xw, .string xt, .int .i64 xb, .int .i64 xe] 45)) (fun i _ => k - (intOf i).toNat)
                case atStart => exact ⟨0, Nat.zero_le _, rfl, rfl, HBO.out, HO.out⟩
                case round =>
                  obtain ⟨j, hj, rfl, haj, hb2, ho2⟩ := hrel
                  have HAJ := hide haj
                  clear haj
                  by_cases hjk : j < k
                  · obtain ⟨c0, c1, c2, c3, c4⟩ := op9_row HCC.out hb2 HBW.out (show j < n by omega)
                    obtain ⟨ox, hox⟩ : ∃ o, o = o9At L j := ⟨_, rfl⟩
                    have HOX := hide hox
                    rw [← hox] at c0 c1 c2 c3 c4
                    obtain ⟨ya, yw, yt, yb, ye⟩ := ox
                    dsimp only at c0 c1 c2 c3 c4
                    obtain ⟨wX, hwX⟩ : ∃ wX, wX = wr.alloc (.cells #[.int .i64 ya, .bool yw, .string yt, .int .i64 yb, .int .i64 ye] 45) := ⟨_, rfl⟩
                    have HBX : Hid (Below w.heap.size w wX) := by rw [hwX]; exact hb2.alloc hb2.size _
                    have HX9 : Hid (wX.heap[wr.heap.size]? = some (.cells #[.int .i64 ya, .bool yw, .string yt, .int .i64 yb, .int .i64 ye] 45)) := by rw [hwX]; exact heap_new _ _
                    have HO2 : Hid (wX.heap[w1.heap.size]? = some (.cells #[.int .i64 xa, .bool xw, .string xt, .int .i64 xb, .int .i64 xe] 45)) := by rw [hwX]; exact heap_old ho2
                    have HBAD : Hid (o9Apart ⟨xa, xw, xt, xb, xe⟩ ⟨ya, yw, yt, yb, ye⟩ = false → histOk L = false) := fun hh => HFALL.out (by rw [apart_fall hjk (by rw [← HOW.out, ← HOX.out]; exact hh), Bool.and_false])
                    clear hox hb2 ho2
                    go_upto_region 13 with fail
                    rw [← hwX]
                    clear hwX c0 c1 c2 c3 c4
                    obtain ⟨c0, c1, c2, c3, c4⟩ := op9_cells HX9.out
                    obtain ⟨d0, d1, d2, d3, d4⟩ := op9_cells HO2.out
                    by_cases e1 : yb = xb
                    · have HE : Hid (histOk L = false) := HBAD.out (by unfold o9Apart; rw [decide_eq_true e1]; rfl)
                      have f1 : (yb == xb) = true := by simp [e1]
                      go_wp2_with fail
                      go_ret
                      exact ⟨by rw [HE.out]; rfl, HBX.out⟩
                    · have f1 : (yb == xb) = false := by simp [e1]
                      by_cases e2 : yb = xe
                      · have HE : Hid (histOk L = false) := HBAD.out (by unfold o9Apart; rw [decide_eq_true e2]; simp)
                        have f2 : (yb == xe) = true := by simp [e2]
                        go_wp2_with fail
                        go_ret
                        exact ⟨by rw [HE.out]; rfl, HBX.out⟩
                      · have f2 : (yb == xe) = false := by simp [e2]
                        by_cases e3 : ye = xb
                        · have HE : Hid (histOk L = false) := HBAD.out (by unfold o9Apart; rw [decide_eq_true e3]; simp)
                          have f3 : (ye == xb) = true := by simp [e3]
                          go_wp2_with fail
                          go_ret
                          exact ⟨by rw [HE.out]; rfl, HBX.out⟩
                        · have f3 : (ye == xb) = false := by simp [e3]
                          by_cases e4 : ye = xe
                          · have f4 : (ye == xe) = true := by simp [e4]
                            have HE : Hid (histOk L = false) := HBAD.out (by unfold o9Apart; rw [decide_eq_true e4, decide_eq_false he1]; simp)
                            go_wp2_with fail
                            go_ret
                            exact ⟨by rw [HE.out]; rfl, HBX.out⟩
                          · have f4 : (ye == xe) = false := by simp [e4]
                            have HA2 : Hid (apartK L k (j + 1) = true) := by show (apartK L k j && o9Apart (o9At L k) (o9At L j)) = true; rw [HAJ.out, ← HOW.out, ← HOX.out]; unfold o9Apart; rw [decide_eq_false e1, decide_eq_false e2, decide_eq_false e3, decide_eq_false e4]; rfl
                            go_wp2_with fail
                            exact ⟨⟨j + 1, by omega, by go_num, HA2.out, HBX.out, HO2.out⟩, by simp [intOf]; omega⟩
                  · obtain rfl : j = k := by omega
                    have HH2 : Hid (histK L (j + 1) = true) := by show (histK L j && (o9Ok (o9At L j) && apartK L j j)) = true; rw [HHK.out, ← HOW.out, HO9.out, HAJ.out]; rfl
                    go_wp2_with fail
                    exact ⟨⟨j + 1, by omega, by go_num, HH2.out, hb2⟩, by simp [intOf]; omega⟩
      · obtain rfl : k = n := by omega
        have HE : Hid (histOk L = true) := by show _ = _; unfold histOk; rw [decide_eq_true (by have := HL.out; omega), HL.out, HHK.out]; rfl
        go_wp2_with fail
        go_ret
        exact ⟨by rw [HE.out]; rfl, hbel⟩
end Go.Proofs.Ytnemncmaaejajaa
