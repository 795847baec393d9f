/- Several texts in one: ChipOkS, WearMath, ChipAtS, ChipCan, HeapMath, FtlBase, ChipEq, PlaceWalk. -/
import Derived.Test.YtocinobbocjikaaNChipOwn2
import Derived.Test.YtocinobbocjikaaNInfo
section
namespace Go.Proofs.Ytocinobbocjikaa
open Go.RowKit
set_option linter.unusedVariables false
set_option maxRecDepth 20000

def txOk (s : ByteArray) : Bool := decide (1 ≤ s.size) && decide (s.size ≤ 200)
def sqOk (z : Int) (q : Sq) : Bool := decide ((q.1.length : Int) ≤ z) && (inB q.2.1 0 1000000 && q.1.all txOk)
def chipOk (z : Int) (qs : List Sq) : Bool := inB z 1 8 && (decide (1 ≤ qs.length) && (decide (qs.length ≤ 12) && qs.all (sqOk z)))
theorem sq_all_step {z : Int} {qs : List Sq} {k : Nat} (h : k < qs.length) (h1 : (qs.take k).all (sqOk z) = true) (h2 : sqOk z (sqAt qs k) = true) : (qs.take (k + 1)).all (sqOk z) = true := by
  rw [List.take_succ_eq_append_getElem h, List.all_append, h1]
  unfold sqAt at h2
  rw [List.getD_eq_getElem?_getD, List.getElem?_eq_getElem h] at h2
  simpa using h2
theorem sq_all_fall {z : Int} {qs : List Sq} {k : Nat} (h : k < qs.length) (h2 : sqOk z (sqAt qs k) = false) : chipOk z qs = false := by
  have : qs.all (sqOk z) = false := by
    rw [List.all_eq_false]
    unfold sqAt at h2
    rw [List.getD_eq_getElem?_getD, List.getElem?_eq_getElem h] at h2
    exact ⟨qs[k], List.getElem_mem h, by simpa using h2⟩
  unfold chipOk
  rw [this]; simp
theorem tx_all_step {ts : List ByteArray} {k : Nat} (h : k < ts.length) (h1 : (ts.take k).all txOk = true) (h2 : txOk (ts.getD k ByteArray.empty) = true) : (ts.take (k + 1)).all txOk = true := by
  rw [List.take_succ_eq_append_getElem h, List.all_append, h1]
  rw [List.getD_eq_getElem?_getD, List.getElem?_eq_getElem h] at h2
  simpa using h2
theorem tx_all_fall {ts : List ByteArray} {k : Nat} (h : k < ts.length) (h2 : txOk (ts.getD k ByteArray.empty) = false) : ts.all txOk = false := by
  rw [List.all_eq_false]
  rw [List.getD_eq_getElem?_getD, List.getElem?_eq_getElem h] at h2
  exact ⟨ts[k], List.getElem_mem h, by simpa using h2⟩

set_option maxHeartbeats 1600000 in
theorem specChipOk_any (z : Int) (a : Option Addr) (n cap : Nat) (qs : List Sq) (w : World) {lo hi : Nat} (h : Squares lo hi w a n qs) (hhi : hi ≤ w.heap.size) (hn : n ≤ 1048576) (hf : ∀ x ∈ qs, sqFits x) :
    Calls Try.prog 34 #[.agg #[.int .i64 z, .slice a n cap]] w fun e w' => e = .returned (.bool (chipOk z qs)) ∧ Below w.heap.size w w' := by
  obtain ⟨wA, hwA⟩ : ∃ wA, wA = w.alloc (.cells #[.int .i64 z, .slice a n cap] 26) := ⟨_, rfl⟩
  have hzA : wA.heap.size = w.heap.size + 1 := by rw [hwA]; simp
  have HBA : Hid (Below w.heap.size w wA) := by rw [hwA]; exact (Below.refl _ _).alloc (Nat.le_refl _) _
  have H1 : Hid (wA.heap[w.heap.size]? = some (.cells #[.int .i64 z, .slice a n cap] 26)) := by rw [hwA]; exact heap_new _ _
  have HSQ := hide (h.later HBA.out hhi)
  have HL := hide h.1
  have HF := hide hf
  clear h hf
  obtain ⟨hA0, hA1⟩ := two_cells H1.out
  by_cases hz : inB z 1 8 = true
  · by_cases h1 : 1 ≤ n
    · by_cases h12 : n ≤ 12
      · have e1 : decide ((n : Int) < 1) = false := by simp; omega
        have e2 : decide ((n : Int) > 12) = false := by simp; omega
        go_enter Try.func34, Try.ntmps34
        go_wp2_with fail
        rw [← hwA]
        clear hwA
        refine (l1In_any z 1 8 wA).mono ?_
        rintro e w1 ⟨rfl, rfl⟩
        rw [hz]
        go_wp2_with fail
        clear hA0 hA1 e1 e2
        have HZZ := hide hz
        clear hz
        go_loopw [3] (fun i wr => ∃ k : Nat, k ≤ n ∧ i = .int .i64 (k : Int) ∧ (qs.take k).all (sqOk z) = true ∧ Below wA.heap.size wA wr) (fun i _ => n - (intOf i).toNat)
        case atStart => exact ⟨0, Nat.zero_le _, rfl, by simp, Below.refl _ _⟩
        case round =>
          obtain ⟨k, hk, rfl, hall, hbel⟩ := hrel
          obtain ⟨hA0, hA1⟩ := two_cells (block_on H1.out hbel)
          have HAL := hide hall
          have HBB := hide hbel
          clear hall
          by_cases hlt : k < n
          · have hql : k < qs.length := by rw [HL.out]; exact hlt
            obtain ⟨_, A, C, hx, ht⟩ := HSQ.out
            obtain ⟨b, off, rfl, _, hb, hc⟩ := hx.2 (by omega)
            obtain ⟨c0, c1, c2⟩ := sq_cells hc hbel (show b < wA.heap.size by omega) hlt
            have HTX := hide ((ht k hlt).later hbel (by omega))
            have hl9 : (sqAt qs k).1.length ≤ maxLen := (HF.out _ (by unfold sqAt; rw [List.getD_eq_getElem?_getD, List.getElem?_eq_getElem hql]; exact List.getElem_mem hql)).2.1
            have hwf : (Lit.int .i64 (sqAt qs k).2.1).wf = true := (HF.out _ (by unfold sqAt; rw [List.getD_eq_getElem?_getD, List.getElem?_eq_getElem hql]; exact List.getElem_mem hql)).2.2
            have htf : ∀ s ∈ (sqAt qs k).1, s.size ≤ maxLen := (HF.out _ (by unfold sqAt; rw [List.getD_eq_getElem?_getD, List.getElem?_eq_getElem hql]; exact List.getElem_mem hql)).1
            unfold maxLen at hl9 htf
            have hws : w.heap.size < wr.heap.size := by have := hbel.size; omega
            have hA0' : (wr.alloc (.cells #[.slice (A k) (sqAt qs k).1.length (C k), .int .i64 (sqAt qs k).2.1, .bool (sqAt qs k).2.2] 40)).cell? ⟨w.heap.size, 0, none⟩ = some (.int .i64 z) := (((Below.refl wr.heap.size wr).alloc (Nat.le_refl _) _).cell (p := ⟨w.heap.size, 0, none⟩) hws).trans hA0
            clear hc hx ht hbel
            have HFA := hide (fun h => sq_all_fall (z := z) hql h)
            have HST := hide (fun h => sq_all_step (z := z) hql HAL.out h)
            generalize sqAt qs k = y at *
            obtain ⟨ts, zw, bd⟩ := y
            dsimp only at c0 c1 c2 hl9 hwf htf HTX hA0'
            have HTF := hide htf
            clear htf hwf
            by_cases hle : (ts.length : Int) ≤ z
            · have g1 : decide ((ts.length : Int) > z) = false := by simp; omega
              go_wp2_with fail
              obtain ⟨wB, hwB⟩ : ∃ wB, wB = wr.alloc (.cells #[.slice (A k) ts.length (C k), .int .i64 zw, .bool bd] 40) := ⟨_, rfl⟩
              rw [← hwB] at hA0' ⊢
              have HB1 : Hid (Below wr.heap.size wr wB) := by rw [hwB]; exact (Below.refl _ _).alloc (Nat.le_refl _) _
              have HB0 : Hid (wB.heap[wr.heap.size]? = some (.cells #[.slice (A k) ts.length (C k), .int .i64 zw, .bool bd] 40)) := by rw [hwB]; exact heap_new _ _
              have HTB := hide (HTX.out.later HB1.out HTX.out.2.1)
              have HBW := hide (below_here (below_here HBA.out HBB.out) HB1.out)
              have HBA1 := hide (below_here HBB.out HB1.out)
              clear hwB hA0' HTX
              refine (l1In_any zw 0 1000000 wB).mono ?_
              rintro e w1 ⟨rfl, rfl⟩
              by_cases hin : inB zw 0 1000000 = true
              · rw [hin]
                obtain ⟨d0, d1, d2⟩ := three_cells HB0.out
                go_wp2_with fail
                clear d0 d1 d2
                go_loopw [5] (fun i wq => ∃ j : Nat, j ≤ ts.length ∧ i = .int .i64 (j : Int) ∧ (ts.take j).all txOk = true ∧ Below wB.heap.size wB wq) (fun i _ => ts.length - (intOf i).toNat)
                case atStart => exact ⟨0, Nat.zero_le _, rfl, by simp, Below.refl _ _⟩
                case round =>
                  obtain ⟨j, hj, rfl, hal, hbq⟩ := hrel
                  obtain ⟨d0, d1, d2⟩ := three_cells (block_on HB0.out hbq)
                  have HAT := hide hal
                  have HBQ := hide hbq
                  clear hal
                  by_cases hjl : j < ts.length
                  · obtain ⟨_, _, hxx⟩ := HTB.out
                    obtain ⟨b2, off2, hAk, _, hb2, hc2⟩ := hxx (by omega)
                    have hcj : wr.cell? ⟨b2, off2 + j, none⟩ = some (.string (ts.getD j ByteArray.empty)) := (hbq.cell (p := ⟨b2, off2 + j, none⟩) (by show b2 < _; have := HTB.out.2.1; omega)).trans (hc2 j hjl)
                    rw [hAk] at d0
                    clear hxx hc2 hbq
                    have HFJ := hide (fun h => tx_all_fall (k := j) hjl h)
                    have HSJ := hide (fun h => tx_all_step (k := j) hjl HAT.out h)
                    have hx9 : (ts.getD j ByteArray.empty).size ≤ 9223372036854775807 := by
                      refine Nat.le_trans (HTF.out _ ?_) (by omega)
                      rw [List.getD_eq_getElem?_getD, List.getElem?_eq_getElem hjl]
                      exact List.getElem_mem _
                    have HNA : Hid (ts.all txOk = false → chipOk z qs = false) := fun h => HFA.out (by unfold sqOk; rw [h]; simp)
                    generalize ts.getD j ByteArray.empty = x at *
                    by_cases hx1 : 1 ≤ x.size
                    · by_cases hx2 : x.size ≤ 200
                      · have q1 : decide ((x.size : Int) < 1) = false := by simp; omega
                        have q2 : decide ((x.size : Int) > 200) = false := by simp; omega
                        have HOK := hide (HSJ.out (by unfold txOk; rw [decide_eq_true hx1, decide_eq_true hx2]; rfl))
                        go_wp2_with fail
                        exact ⟨⟨j + 1, by omega, by go_num, HOK.out, HBQ.out⟩, by simp [intOf]; omega⟩
                      · have q1 : decide ((x.size : Int) < 1) = false := by simp; omega
                        have q2 : decide ((x.size : Int) > 200) = true := by simp; omega
                        have HNO := hide (HNA.out (HFJ.out (by unfold txOk; rw [decide_eq_false hx2]; simp)))
                        go_wp2_with fail
                        go_ret
                        exact ⟨ret_bool HNO.out.symm, below_here HBW.out HBQ.out⟩
                    · have q1 : decide ((x.size : Int) < 1) = true := by simp; omega
                      have HNO := hide (HNA.out (HFJ.out (by unfold txOk; rw [decide_eq_false hx1]; simp)))
                      go_wp2_with fail
                      go_ret
                      exact ⟨ret_bool HNO.out.symm, below_here HBW.out HBQ.out⟩
                  · have HOK := hide (HST.out (by
                      have h9 := HAT.out
                      rw [List.take_of_length_le (by omega)] at h9
                      unfold sqOk
                      rw [decide_eq_true hle, hin, h9]; rfl))
                    go_wp2_with fail
                    exact ⟨⟨k + 1, by omega, by go_num, HOK.out, below_here HBA1.out HBQ.out⟩, by simp [intOf]; omega⟩
              · have hin' : inB zw 0 1000000 = false := by simpa using hin
                rw [hin']
                have HNO := hide (HFA.out (by unfold sqOk; rw [hin']; simp))
                go_wp2_with fail
                go_ret
                exact ⟨ret_bool HNO.out.symm, HBW.out⟩
            · have g1 : decide ((ts.length : Int) > z) = true := by simp; omega
              have HNO := hide (HFA.out (by unfold sqOk; rw [decide_eq_false hle]; rfl))
              go_wp2_with fail
              go_ret
              exact ⟨ret_bool HNO.out.symm, below_here (below_here HBA.out HBB.out) ((Below.refl wr.heap.size wr).alloc (Nat.le_refl _) _)⟩
          · go_wp2_with fail
            go_ret
            have hq := HL.out
            refine ⟨ret_bool ?_, below_here HBA.out HBB.out⟩
            have h9 := HAL.out
            rw [List.take_of_length_le (by omega)] at h9
            unfold chipOk
            rw [HZZ.out, h9, decide_eq_true (by omega), decide_eq_true (by omega)]
            rfl
      · have e1 : decide ((n : Int) < 1) = false := by simp; omega
        have e2 : decide ((n : Int) > 12) = true := by simp; omega
        have HNO : Hid (chipOk z qs = false) := by show _ = _; unfold chipOk; rw [HL.out, decide_eq_false h12]; simp
        go_enter Try.func34, Try.ntmps34
        go_wp2_with fail
        rw [← hwA]
        clear hwA
        refine (l1In_any z 1 8 wA).mono ?_
        rintro e w1 ⟨rfl, rfl⟩
        rw [hz]
        go_wp2_with fail
        go_ret
        exact ⟨ret_bool HNO.out.symm, HBA.out⟩
    · have e1 : decide ((n : Int) < 1) = true := by simp; omega
      have HNO : Hid (chipOk z qs = false) := by show _ = _; unfold chipOk; rw [HL.out, decide_eq_false h1]; simp
      go_enter Try.func34, Try.ntmps34
      go_wp2_with fail
      rw [← hwA]
      clear hwA
      refine (l1In_any z 1 8 wA).mono ?_
      rintro e w1 ⟨rfl, rfl⟩
      rw [hz]
      go_wp2_with fail
      go_ret
      exact ⟨ret_bool HNO.out.symm, HBA.out⟩
  · have hz' : inB z 1 8 = false := by simpa using hz
    have HNO : Hid (chipOk z qs = false) := by show _ = _; unfold chipOk; rw [hz']; rfl
    go_enter Try.func34, Try.ntmps34
    go_wp2_with fail
    rw [← hwA]
    clear hwA
    refine (l1In_any z 1 8 wA).mono ?_
    rintro e w1 ⟨rfl, rfl⟩
    rw [hz']
    go_wp2_with fail
    go_ret
    exact ⟨ret_bool HNO.out.symm, HBA.out⟩
end Go.Proofs.Ytocinobbocjikaa
end

section
namespace Go.Proofs.Ytocinobbocjikaa
open Go.RowKit
set_option linter.unusedVariables false

/-- Is it a page there? -/
def plThere (qs : List Sq) (p : Pl) : Bool := inB p.1 0 ((qs.length : Int) - 1) && inB p.2 0 (((sqAt qs p.1.toNat).1.length : Int) - 1)
def plOk (qs : List Sq) (ps : List Pl) (i : Nat) : Bool := (plAt ps i == (-1, 0)) || (plThere qs (plAt ps i) && (List.range i).all (fun k => plAt ps k != plAt ps i))
def mapOk (z : Int) (qs : List Sq) (ps : List Pl) : Bool := chipOk z qs && (decide (1 ≤ ps.length) && (decide (ps.length ≤ 64) && (List.range ps.length).all (plOk qs ps)))
theorem mapOk_chip {z : Int} {qs : List Sq} {ps : List Pl} (h : mapOk z qs ps = true) : chipOk z qs = true := by
  unfold mapOk at h; simp only [Bool.and_eq_true] at h; exact h.1
theorem mapOk_len {z : Int} {qs : List Sq} {ps : List Pl} (h : mapOk z qs ps = true) : 1 ≤ ps.length ∧ ps.length ≤ 64 := by
  unfold mapOk at h; simp only [Bool.and_eq_true, decide_eq_true_eq] at h; exact ⟨h.2.1, h.2.2.1⟩
theorem mapOk_fall {z : Int} {qs : List Sq} {ps : List Pl} {i : Nat} (h : i < ps.length) (hf : plOk qs ps i = false) : mapOk z qs ps = false := by
  have : (List.range ps.length).all (plOk qs ps) = false := by
    rw [List.all_eq_false]
    exact ⟨i, List.mem_range.2 h, by simp [hf]⟩
  unfold mapOk; rw [this]; simp
theorem all_range_step {f : Nat → Bool} {k : Nat} (h : (List.range k).all f = true) (hk : f k = true) : (List.range (k + 1)).all f = true := by
  rw [List.range_succ, List.all_append, h]; simp [hk]
theorem all_range_fall {f : Nat → Bool} {k n : Nat} (h : k < n) (hk : f k = false) : (List.range n).all f = false := by
  rw [List.all_eq_false]; exact ⟨k, List.mem_range.2 h, by simp [hk]⟩
/-- How many lie in a Square. -/
def liveN (ps : List Pl) (s : Int) : Nat := (ps.filter (fun p => p.1 == s)).length
theorem liveN_step {ps : List Pl} {k : Nat} (h : k < ps.length) (s : Int) : liveN (ps.take (k + 1)) s = liveN (ps.take k) s + (if (plAt ps k).1 == s then 1 else 0) := by
  unfold liveN plAt
  rw [List.take_succ_eq_append_getElem h, List.filter_append, List.length_append, List.getD_eq_getElem?_getD, List.getElem?_eq_getElem h]
  simp only [Option.getD_some, List.filter_cons, List.filter_nil]
  split <;> simp_all
theorem liveN_le (ps : List Pl) (s : Int) : liveN ps s ≤ ps.length := List.length_filter_le _ _
def live (z : Int) (qs : List Sq) (ps : List Pl) (s : Int) : Int := if mapOk z qs ps && inB s 0 ((qs.length : Int) - 1) then (liveN ps s : Int) else -1
/-- The room of Squares that are not Bad. -/
def freeK (z : Int) (qs : List Sq) (k : Nat) : Int := ((qs.take k).map fun q => if q.2.2 then 0 else z - (q.1.length : Int)).sum
theorem freeK_step {z : Int} {qs : List Sq} {k : Nat} (h : k < qs.length) : freeK z qs (k + 1) = freeK z qs k + (if (sqAt qs k).2.2 then 0 else z - ((sqAt qs k).1.length : Int)) := by
  unfold freeK sqAt
  rw [List.take_succ_eq_append_getElem h, List.map_append, List.sum_append, List.getD_eq_getElem?_getD, List.getElem?_eq_getElem h]
  simp
def free (z : Int) (qs : List Sq) : Int := if chipOk z qs then freeK z qs qs.length else -1
/-- The least and the greatest wipes of the first k Squares that are not Bad. -/
def leastK (qs : List Sq) : Nat → Int
  | 0 => -1
  | k + 1 => if (sqAt qs k).2.2 then leastK qs k else if leastK qs k < 0 ∨ (sqAt qs k).2.1 < leastK qs k then (sqAt qs k).2.1 else leastK qs k
def mostK (qs : List Sq) : Nat → Int
  | 0 => -1
  | k + 1 => if (sqAt qs k).2.2 then mostK qs k else if (sqAt qs k).2.1 < mostK qs k then mostK qs k else (sqAt qs k).2.1
def worn (z : Int) (qs : List Sq) : Int × Int := if chipOk z qs then (leastK qs qs.length, mostK qs qs.length) else (-1, -1)
/-- Is a Square without Pages and not Bad? -/
def isEmpty (q : Sq) : Bool := (q.1.length == 0) && !q.2.2
/-- i comes behind all that have no more wipes. -/
def insW (qs : List Sq) (i : Nat) : List Nat → List Nat
  | [] => [i]
  | j :: js => if (sqAt qs j).2.1 ≤ (sqAt qs i).2.1 then j :: insW qs i js else i :: j :: js
def emptyK (qs : List Sq) : Nat → List Nat
  | 0 => []
  | k + 1 => if isEmpty (sqAt qs k) then insW qs k (emptyK qs k) else emptyK qs k
def emptyL (z : Int) (qs : List Sq) : List Int := if chipOk z qs then (emptyK qs qs.length).map (fun (i : Nat) => (i : Int)) else []
/-- The victim among the first k Squares, as the model walks. -/
def mayV (qs : List Sq) (op : Int) (i : Nat) : Bool := !((sqAt qs i).1.length == 0) && (!(sqAt qs i).2.2 && !((i : Int) == op))
def betterV (qs : List Sq) (ps : List Pl) (i b : Nat) : Bool := decide (liveN ps (i : Int) < liveN ps (b : Int)) || (decide (liveN ps (i : Int) = liveN ps (b : Int)) && decide ((sqAt qs i).2.1 < (sqAt qs b).2.1))
def bestK (qs : List Sq) (ps : List Pl) (op : Int) : Nat → Option Nat
  | 0 => none
  | k + 1 => if mayV qs op k then (match bestK qs ps op k with | none => some k | some b => if betterV qs ps k b then some k else some b) else bestK qs ps op k
def victimV (z : Int) (qs : List Sq) (ps : List Pl) (op : Int) : Int :=
  match bestK qs ps op qs.length with
  | none => -1
  | some b => if (liveN ps (b : Int) : Int) = z then -1 else (b : Int)
def victim (z : Int) (qs : List Sq) (ps : List Pl) (op : Int) : Int := if mapOk z qs ps then victimV z qs ps op else -1
theorem bestK_lt {qs : List Sq} {ps : List Pl} {op : Int} : ∀ {k b : Nat}, bestK qs ps op k = some b → b < k
  | 0, b, h => by cases h
  | k + 1, b, h => by
    unfold bestK at h
    split at h
    · split at h
      · cases h; omega
      · rename_i c hc
        have := bestK_lt hc
        split at h
        · cases h; omega
        · cases h; omega
    · have := bestK_lt h; omega
theorem insW_length (qs : List Sq) (i : Nat) : ∀ l, (insW qs i l).length = l.length + 1
  | [] => rfl
  | j :: js => by
    unfold insW
    split
    · simp [insW_length qs i js]
    · rfl
theorem emptyK_length (qs : List Sq) : ∀ k, (emptyK qs k).length ≤ k
  | 0 => Nat.le_refl _
  | k + 1 => by
    have := emptyK_length qs k
    unfold emptyK
    split
    · rw [insW_length]; omega
    · omega
theorem insW_mem (qs : List Sq) (i : Nat) : ∀ l x, x ∈ insW qs i l ↔ x = i ∨ x ∈ l
  | [], x => by simp [insW]
  | j :: js, x => by
    unfold insW
    split
    · rw [List.mem_cons, insW_mem qs i js, List.mem_cons]
      constructor
      · rintro (h | h | h) <;> simp [h]
      · rintro (h | h | h) <;> simp [h]
    · simp
theorem emptyK_mem (qs : List Sq) : ∀ k x, x ∈ emptyK qs k ↔ x < k ∧ isEmpty (sqAt qs x) = true
  | 0, x => by simp [emptyK]
  | k + 1, x => by
    unfold emptyK
    split
    · rename_i h
      rw [insW_mem, emptyK_mem qs k]
      constructor
      · rintro (rfl | ⟨h1, h2⟩)
        · exact ⟨by omega, h⟩
        · exact ⟨by omega, h2⟩
      · rintro ⟨h1, h2⟩
        by_cases e : x = k
        · exact .inl e
        · exact .inr ⟨by omega, h2⟩
    · rename_i h
      rw [emptyK_mem qs k]
      constructor
      · rintro ⟨h1, h2⟩; exact ⟨by omega, h2⟩
      · rintro ⟨h1, h2⟩
        refine ⟨?_, h2⟩
        by_cases e : x = k
        · subst e; exact absurd h2 h
        · omega
/-- One comes ahead of another: less wipes, or as many and the lesser number. -/
def aheadW (qs : List Sq) (i j : Nat) : Prop := (sqAt qs i).2.1 < (sqAt qs j).2.1 ∨ (sqAt qs i).2.1 = (sqAt qs j).2.1 ∧ i < j
theorem insW_sorted (qs : List Sq) (i : Nat) : ∀ l, List.Pairwise (aheadW qs) l → (∀ x ∈ l, x < i) → List.Pairwise (aheadW qs) (insW qs i l)
  | [], _, _ => by simp [insW]
  | j :: js, h, hl => by
    unfold insW
    rw [List.pairwise_cons] at h
    split
    · rename_i hle
      rw [List.pairwise_cons]
      refine ⟨fun x hx => ?_, insW_sorted qs i js h.2 (fun x hx => hl x (by simp [hx]))⟩
      rw [insW_mem] at hx
      rcases hx with rfl | hx
      · have hj := hl j (by simp)
        rcases Int.lt_or_eq_of_le hle with h1 | h1
        · exact .inl h1
        · exact .inr ⟨h1, hj⟩
      · exact h.1 x hx
    · rename_i hle
      rw [List.pairwise_cons]
      refine ⟨fun x hx => ?_, by rw [List.pairwise_cons]; exact h⟩
      have hij : (sqAt qs i).2.1 < (sqAt qs j).2.1 := by omega
      rw [List.mem_cons] at hx
      rcases hx with rfl | hx
      · exact .inl hij
      · rcases h.1 x hx with h1 | h1
        · exact .inl (by omega)
        · exact .inl (by omega)
theorem emptyK_sorted (qs : List Sq) : ∀ k, List.Pairwise (aheadW qs) (emptyK qs k)
  | 0 => by simp [emptyK]
  | k + 1 => by
    unfold emptyK
    split
    · exact insW_sorted qs k _ (emptyK_sorted qs k) (fun x hx => ((emptyK_mem qs k x).1 hx).1)
    · exact emptyK_sorted qs k
theorem aheadW_asymm {qs : List Sq} {i j : Nat} (h : aheadW qs i j) (k : aheadW qs j i) : False := by
  unfold aheadW at h k; omega
/-- The one list of the empty Squares that is by wipes. -/
theorem sorted_one {qs : List Sq} : ∀ {l m : List Nat}, List.Pairwise (aheadW qs) l → List.Pairwise (aheadW qs) m → (∀ x, x ∈ l ↔ x ∈ m) → l = m
  | [], [], _, _, _ => rfl
  | [], b :: m, _, _, h => absurd ((h b).2 (by simp)) (by simp)
  | a :: l, [], _, _, h => absurd ((h a).1 (by simp)) (by simp)
  | a :: l, b :: m, hl, hm, h => by
    rw [List.pairwise_cons] at hl hm
    have e : a = b := by
      have h1 := (h a).1 (by simp)
      have h2 := (h b).2 (by simp)
      rw [List.mem_cons] at h1 h2
      rcases h1 with h1 | h1
      · exact h1
      · rcases h2 with h2 | h2
        · exact h2.symm
        · exact (aheadW_asymm (hl.1 b h2) (hm.1 a h1)).elim
    subst e
    have na : a ∉ l := fun hh => aheadW_asymm (hl.1 a hh) (hl.1 a hh)
    have nb : a ∉ m := fun hh => aheadW_asymm (hm.1 a hh) (hm.1 a hh)
    rw [sorted_one hl.2 hm.2 (fun x => by
      have := h x
      simp only [List.mem_cons] at this
      constructor
      · intro hx
        rcases this.1 (.inr hx) with e | e
        · subst e; exact absurd hx na
        · exact e
      · intro hx
        rcases this.2 (.inr hx) with e | e
        · subst e; exact absurd hx nb
        · exact e)]
end Go.Proofs.Ytocinobbocjikaa
end

section
namespace Go.Proofs.Ytocinobbocjikaa
open Go.RowKit
set_option linter.unusedVariables false
set_option maxRecDepth 20000

def pageAt (z : Int) (qs : List Sq) (s p : Int) : ByteArray :=
  if chipOk z qs && (inB s 0 ((qs.length : Int) - 1) && inB p 0 (((sqAt qs s.toNat).1.length : Int) - 1)) then (sqAt qs s.toNat).1.getD p.toNat ByteArray.empty else ByteArray.empty

end Go.Proofs.Ytocinobbocjikaa
end

section
namespace Go.Proofs.Ytocinobbocjikaa
open Go.RowKit
set_option linter.unusedVariables false
set_option maxRecDepth 20000

def canK (z : Int) (q : Sq) (kd : Int) (tx : ByteArray) : Bool :=
  if kd = 1 then decide ((q.1.length : Int) < z) && txOk tx else if kd = 2 then decide (q.2.1 < 1000000) else decide (kd = 3)
def canJ (z : Int) (qs : List Sq) (j : Jb) : Bool := inB j.2.1 0 ((qs.length : Int) - 1) && (!(sqAt qs j.2.1.toNat).2.2 && canK z (sqAt qs j.2.1.toNat) j.1 j.2.2)

set_option maxHeartbeats 1600000 in
theorem l8Can_any (z : Int) (a : Option Addr) (n cap : Nat) (qs : List Sq) (kd sq : Int) (tx : ByteArray) (w : World) {lo hi : Nat} (h : Squares lo hi w a n qs) (hhi : hi ≤ w.heap.size) (hn : n ≤ 1048576) (hf : ∀ x ∈ qs, sqFits x) (htx : tx.size ≤ maxLen) :
    Calls Try.prog 82 #[.agg #[.int .i64 z, .slice a n cap], .agg #[.int .i64 kd, .int .i64 sq, .string tx]] w fun e w' => e = .returned (.bool (canJ z qs (kd, sq, tx))) ∧ Below w.heap.size w w' := by
  obtain ⟨wA, hwA⟩ : ∃ wA, wA = (w.alloc (.cells #[.int .i64 z, .slice a n cap] 26)).alloc (.cells #[.int .i64 kd, .int .i64 sq, .string tx] 116) := ⟨_, rfl⟩
  have hzA : wA.heap.size = w.heap.size + 1 + 1 := by rw [hwA]; simp
  have HBA : Hid (Below w.heap.size w wA) := by rw [hwA]; exact ((Below.refl _ _).alloc (Nat.le_refl _) _).alloc (by simp) _
  have H1 : Hid (wA.heap[w.heap.size]? = some (.cells #[.int .i64 z, .slice a n cap] 26)) := by rw [hwA]; exact heap_old (heap_new _ _)
  have H2 : Hid (wA.heap[w.heap.size + 1]? = some (.cells #[.int .i64 kd, .int .i64 sq, .string tx] 116)) := by rw [hwA]; exact heap_at (by simp)
  have HSQ := hide (h.later HBA.out hhi)
  have HL := hide h.1
  have HF := hide hf
  unfold maxLen at htx
  clear h hf
  go_enter Try.func82, Try.ntmps82
  go_wp2_with fail
  rw [← hwA]
  clear hwA
  refine (l1In_any sq 0 ((n : Int) - 1) wA).mono ?_
  rintro e w1 ⟨rfl, rfl⟩
  obtain ⟨a0, a1⟩ := two_cells H1.out
  obtain ⟨b0, b1, b2⟩ := three_cells H2.out
  by_cases hin : inB sq 0 ((n : Int) - 1) = true
  · rw [hin]
    have hin2 := hin
    unfold inB at hin2
    simp only [Bool.and_eq_true, decide_eq_true_eq] at hin2
    obtain ⟨i, rfl⟩ : ∃ i : Nat, sq = (i : Int) := ⟨sq.toNat, by omega⟩
    have hlt : i < n := by omega
    have hql : i < qs.length := by rw [HL.out]; exact hlt
    obtain ⟨_, A, C, hx, ht⟩ := HSQ.out
    obtain ⟨b, off, rfl, _, hb, hc⟩ := hx.2 (by omega)
    obtain ⟨c0, c1, c2⟩ := sq_cells hc (Below.refl wA.heap.size wA) (show b < wA.heap.size by have := hx.1; omega) hlt
    have hfi := sq_fits HF.out hql
    have hl9 := hfi.2.1
    unfold maxLen at hl9
    have HE : Hid (canJ z qs (kd, (i : Int), tx) = (!(sqAt qs i).2.2 && canK z (sqAt qs i) kd tx)) := by
      show _ = _
      unfold canJ
      dsimp only
      rw [HL.out, hin]
      simp
    clear hc hx ht hfi hin hin2
    generalize sqAt qs i = y at *
    obtain ⟨ts, zw, bd⟩ := y
    dsimp only at c0 c1 c2 hl9
    cases bd with
    | true =>
      go_wp2_with fail
      go_ret
      exact ⟨ret_bool (by rw [HE.out]; rfl), HBA.out⟩
    | false =>
      have hb0 : w.heap.size < wA.heap.size := by omega
      have hb1 : w.heap.size + 1 < wA.heap.size := by omega
      have HBB := hide ((Below.refl wA.heap.size wA).alloc (Nat.le_refl _) (.cells #[.slice (A i) ts.length (C i), .int .i64 zw, .bool false] 40))
      have a0' := (HBB.out.cell (p := ⟨w.heap.size, 0, none⟩) hb0).trans a0
      have b0' := (HBB.out.cell (p := ⟨w.heap.size + 1, 0, none⟩) hb1).trans b0
      have b2' := (HBB.out.cell (p := ⟨w.heap.size + 1, 2, none⟩) hb1).trans b2
      have HBF := hide (below_here HBA.out HBB.out)
      have HE2 : Hid (canJ z qs (kd, (i : Int), tx) = canK z (ts, zw, false) kd tx) := HE.out
      clear HE
      by_cases k1 : kd = 1
      · subst k1
        by_cases m1 : (ts.length : Int) < z
        · by_cases m2 : 1 ≤ tx.size
          · have g1 : decide ((ts.length : Int) < z) = true := by simpa using m1
            have g2 : decide ((1 : Int) ≤ (tx.size : Int)) = true := by simp; omega
            have g2' : decide ((tx.size : Int) ≥ 1) = true := g2
            have HV : Hid (canK z (ts, zw, false) 1 tx = decide ((tx.size : Int) ≤ 200)) := by
              show _ = _
              unfold canK txOk
              rw [if_pos rfl, g1, decide_eq_true m2]
              simp
              omega
            go_wp2_with fail
            go_ret
            exact ⟨ret_bool (by rw [HE2.out, HV.out]), HBF.out⟩
          · have g1 : decide ((ts.length : Int) < z) = true := by simpa using m1
            have g2 : decide ((1 : Int) ≤ (tx.size : Int)) = false := by simp; omega
            have g2' : decide ((tx.size : Int) ≥ 1) = false := g2
            have HV : Hid (canK z (ts, zw, false) 1 tx = false) := by
              show _ = _
              unfold canK txOk
              rw [if_pos rfl, decide_eq_false m2]
              simp
            go_wp2_with fail
            go_ret
            exact ⟨ret_bool (by rw [HE2.out, HV.out]), HBF.out⟩
        · have g1 : decide ((ts.length : Int) < z) = false := by simpa using m1
          have HV : Hid (canK z (ts, zw, false) 1 tx = false) := by
            show _ = _
            unfold canK
            rw [if_pos rfl, g1]
            rfl
          go_wp2_with fail
          go_ret
          exact ⟨ret_bool (by rw [HE2.out, HV.out]), HBF.out⟩
      · by_cases k2 : kd = 2
        · subst k2
          go_wp2_with fail
          go_ret
          exact ⟨ret_bool (by rw [HE2.out]; rfl), HBF.out⟩
        · have g1 : (kd == 1) = false := by simpa using k1
          have g2 : (kd == 2) = false := by simpa using k2
          have HV : Hid (canK z (ts, zw, false) kd tx = (kd == 3)) := by
            show _ = _
            unfold canK
            rw [if_neg k1, if_neg k2]
            rfl
          go_wp2_with fail
          go_ret
          exact ⟨ret_bool (by rw [HE2.out, HV.out]), HBF.out⟩
  · have hin' : inB sq 0 ((n : Int) - 1) = false := by simpa using hin
    rw [hin']
    have HNO : Hid (canJ z qs (kd, sq, tx) = false) := by show _ = _; unfold canJ; dsimp only; rw [HL.out, hin']; rfl
    go_wp2_with fail
    go_ret
    exact ⟨ret_bool HNO.out.symm, HBA.out⟩
end Go.Proofs.Ytocinobbocjikaa
end

section
namespace Go.Proofs.Ytocinobbocjikaa
open Go.RowKit
set_option linter.unusedVariables false

/-- A rank: how many are live, how often wiped, which number. -/
abbrev Rk := Int × Int × Int
def lessR (a b : Rk) : Prop := a.1 < b.1 ∨ a.1 = b.1 ∧ (a.2.1 < b.2.1 ∨ a.2.1 = b.2.1 ∧ a.2.2 < b.2.2)
instance (a b : Rk) : Decidable (lessR a b) := by unfold lessR; infer_instance
theorem lessR_asymm {a b : Rk} (h : lessR a b) (k : lessR b a) : False := by unfold lessR at h k; omega
theorem lessR_trans {a b c : Rk} (h : lessR a b) (k : lessR b c) : lessR a c := by unfold lessR at *; omega
theorem leR_trans {a b c : Rk} (h : ¬ lessR b a) (k : ¬ lessR c b) : ¬ lessR c a := by unfold lessR at *; omega
theorem leR_of_less {a b : Rk} (h : lessR a b) : ¬ lessR b a := fun k => lessR_asymm h k
theorem leR_anti {a b : Rk} (h : ¬ lessR a b) (k : ¬ lessR b a) : a = b := by
  obtain ⟨a1, a2, a3⟩ := a
  obtain ⟨b1, b2, b3⟩ := b
  unfold lessR at *
  dsimp only at *
  have e1 : a1 = b1 := by omega
  have e2 : a2 = b2 := by omega
  have e3 : a3 = b3 := by omega
  rw [e1, e2, e3]
/-- Two of them exchanged. -/
def swp (f : Nat → Rk) (i j : Nat) (k : Nat) : Rk := if k = i then f j else if k = j then f i else f k
theorem swp_l (f : Nat → Rk) (i j : Nat) : swp f i j i = f j := by simp [swp]
theorem swp_r (f : Nat → Rk) (i j : Nat) : swp f i j j = f i := by
  unfold swp; by_cases h : j = i
  · rw [if_pos h, h]
  · rw [if_neg h, if_pos rfl]
theorem swp_o (f : Nat → Rk) (i j : Nat) {k : Nat} (h1 : k ≠ i) (h2 : k ≠ j) : swp f i j k = f k := by simp [swp, h1, h2]
theorem swp_at (f : Nat → Rk) (i j k : Nat) : ∃ m, swp f i j k = f m ∧ (k = i ∧ m = j ∨ k = j ∧ m = i ∨ k ≠ i ∧ k ≠ j ∧ m = k) := by
  by_cases h1 : k = i
  · exact ⟨j, by rw [h1, swp_l], .inl ⟨h1, rfl⟩⟩
  · by_cases h2 : k = j
    · exact ⟨i, by rw [h2, swp_r], .inr (.inl ⟨h2, rfl⟩)⟩
    · exact ⟨k, swp_o f i j h1 h2, .inr (.inr ⟨h1, h2, rfl⟩)⟩
/-- The same ones among the first n, in another order. -/
def SameR (n : Nat) (f g : Nat → Rk) : Prop := ∃ p q : Nat → Nat, (∀ i, i < n → p i < n ∧ q i < n ∧ q (p i) = i ∧ p (q i) = i ∧ g i = f (p i))
theorem SameR.refl (n : Nat) (f : Nat → Rk) : SameR n f f := ⟨id, id, fun i hi => ⟨hi, hi, rfl, rfl, rfl⟩⟩
theorem SameR.trans {n : Nat} {f g h : Nat → Rk} (a : SameR n f g) (b : SameR n g h) : SameR n f h := by
  obtain ⟨p, q, hp⟩ := a
  obtain ⟨r, s, hr⟩ := b
  refine ⟨fun i => p (r i), fun i => s (q i), fun i hi => ?_⟩
  obtain ⟨r1, r2, r3, r4, r5⟩ := hr i hi
  obtain ⟨p1, p2, p3, p4, p5⟩ := hp (r i) r1
  obtain ⟨q1, q2, q3, q4, q5⟩ := hp i hi
  refine ⟨p1, (hr _ q2).2.1, ?_, ?_, by rw [r5, p5]⟩
  · show s (q (p (r i))) = i
    rw [p3, r3]
  · show p (r (s (q i))) = i
    rw [(hr _ q2).2.2.2.1, q4]
theorem SameR.swp {n : Nat} (f : Nat → Rk) {i j : Nat} (hi : i < n) (hj : j < n) : SameR n f (swp f i j) := by
  refine ⟨fun k => if k = i then j else if k = j then i else k, fun k => if k = i then j else if k = j then i else k, fun k hk => ?_⟩
  have e : ∀ k, k < n → (if k = i then j else if k = j then i else k) < n ∧ (if (if k = i then j else if k = j then i else k) = i then j else if (if k = i then j else if k = j then i else k) = j then i else (if k = i then j else if k = j then i else k)) = k := by
    intro k hk
    by_cases h1 : k = i
    · subst h1; simp
      exact hj
    · by_cases h2 : k = j
      · subst h2; simp [h1]; exact hi
      · simp [h1, h2]; exact hk
  refine ⟨(e k hk).1, (e k hk).1, (e k hk).2, (e k hk).2, ?_⟩
  show Go.Proofs.Ytocinobbocjikaa.swp f i j k = _
  unfold Go.Proofs.Ytocinobbocjikaa.swp
  show _ = f (if k = i then j else if k = j then i else k)
  by_cases h1 : k = i
  · rw [if_pos h1, if_pos h1]
  · by_cases h2 : k = j
    · rw [if_neg h1, if_neg h1, if_pos h2, if_pos h2]
    · rw [if_neg h1, if_neg h1, if_neg h2, if_neg h2]
theorem SameR.mem {n : Nat} {f g : Nat → Rk} (a : SameR n f g) (x : Rk) : (∃ i, i < n ∧ g i = x) ↔ (∃ i, i < n ∧ f i = x) := by
  obtain ⟨p, q, hp⟩ := a
  constructor
  · rintro ⟨i, hi, e⟩
    exact ⟨p i, (hp i hi).1, by rw [← (hp i hi).2.2.2.2, e]⟩
  · rintro ⟨i, hi, e⟩
    obtain ⟨q1, q2, q3, q4, q5⟩ := hp i hi
    exact ⟨q i, q2, by rw [(hp _ q2).2.2.2.2, q4, e]⟩
/-- No two of the first n are alike. -/
def InjR (n : Nat) (f : Nat → Rk) : Prop := ∀ i j, i < n → j < n → f i = f j → i = j
theorem SameR.inj {n : Nat} {f g : Nat → Rk} (a : SameR n f g) (h : InjR n f) : InjR n g := by
  obtain ⟨p, q, hp⟩ := a
  intro i j hi hj e
  rw [(hp i hi).2.2.2.2, (hp j hj).2.2.2.2] at e
  have := h _ _ (hp i hi).1 (hp j hj).1 e
  rw [← (hp i hi).2.2.1, ← (hp j hj).2.2.1, this]
/-- A heap: none is less than what stands above it. -/
def HeapR (n : Nat) (f : Nat → Rk) : Prop := ∀ k, 0 < k → k < n → ¬ lessR (f k) (f ((k - 1) / 2))
/-- .. but for the one at j, on its way up. -/
def UpR (n : Nat) (f : Nat → Rk) (j : Nat) : Prop :=
  (∀ k, 0 < k → k < n → k ≠ j → ¬ lessR (f k) (f ((k - 1) / 2))) ∧ (∀ k, 0 < k → k < n → (k - 1) / 2 = j → 0 < j → ¬ lessR (f k) (f ((j - 1) / 2)))
theorem UpR.start {n : Nat} {f : Nat → Rk} (h : HeapR n f) : UpR (n + 1) f n :=
  ⟨fun k h1 h2 h3 => h k h1 (by omega), fun k h1 h2 h3 _ => by omega⟩
theorem UpR.stop {n : Nat} {f : Nat → Rk} {j : Nat} (h : UpR n f j) (hj : j = 0 ∨ ¬ lessR (f j) (f ((j - 1) / 2))) : HeapR n f := by
  intro k h1 h2
  by_cases e : k = j
  · subst e
    rcases hj with h0 | h0
    · omega
    · exact h0
  · exact h.1 k h1 h2 e
theorem UpR.step {n : Nat} {f : Nat → Rk} {j : Nat} (h : UpR n f j) (hj : 0 < j) (hn : j < n) (hl : lessR (f j) (f ((j - 1) / 2))) : UpR n (swp f ((j - 1) / 2) j) ((j - 1) / 2) := by
  have hpar : (j - 1) / 2 < j := by omega
  generalize hi : (j - 1) / 2 = i at *
  refine ⟨fun k h1 h2 h3 => ?_, fun k h1 h2 h3 h4 => ?_⟩
  · by_cases e : k = j
    · subst e
      rw [swp_r, hi, swp_l]
      exact leR_of_less hl
    · rw [swp_o f i j h3 e]
      by_cases e1 : (k - 1) / 2 = i
      · rw [e1, swp_l]
        have := h.1 k h1 h2 e
        rw [e1] at this
        exact leR_trans (leR_of_less hl) this
      · by_cases e2 : (k - 1) / 2 = j
        · rw [e2, swp_r]
          have := h.2 k h1 h2 e2 hj
          rw [hi] at this
          exact this
        · rw [swp_o f i j e1 e2]
          exact h.1 k h1 h2 e
  · have hii : (i - 1) / 2 ≠ i := by omega
    have hij : (i - 1) / 2 ≠ j := by omega
    rw [swp_o f i j hii hij]
    have hi2 := h.1 i h4 (by omega) (by omega)
    by_cases e : k = j
    · subst e
      rw [swp_r]
      exact hi2
    · rw [swp_o f i j (by omega) e]
      have := h.1 k h1 h2 e
      rw [h3] at this
      exact leR_trans hi2 this
/-- .. but for the one at i, on its way down. -/
def DownR (n : Nat) (f : Nat → Rk) (i : Nat) : Prop :=
  (∀ k, 0 < k → k < n → (k - 1) / 2 ≠ i → ¬ lessR (f k) (f ((k - 1) / 2))) ∧ (∀ k, 0 < k → k < n → (k - 1) / 2 = i → 0 < i → ¬ lessR (f k) (f ((i - 1) / 2)))
theorem DownR.start {n : Nat} {f g : Nat → Rk} (h : HeapR (n + 1) f) (hg : ∀ k, 0 < k → k < n → g k = f k) : DownR n g 0 := by
  refine ⟨fun k h1 h2 h3 => ?_, fun k h1 h2 h3 h4 => by omega⟩
  rw [hg k h1 h2, hg ((k - 1) / 2) (by omega) (by omega)]
  exact h k h1 (by omega)
theorem DownR.stop {n : Nat} {f : Nat → Rk} {i : Nat} (h : DownR n f i) (h1 : 2 * i + 1 < n → ¬ lessR (f (2 * i + 1)) (f i)) (h2 : 2 * i + 2 < n → ¬ lessR (f (2 * i + 2)) (f i)) : HeapR n f := by
  intro k hk hn
  by_cases e : (k - 1) / 2 = i
  · rw [e]
    by_cases e1 : k = 2 * i + 1
    · subst e1; exact h1 hn
    · obtain rfl : k = 2 * i + 2 := by omega
      exact h2 hn
  · exact h.1 k hk hn e
/-- The lesser child j of i comes up. -/
theorem DownR.step {n : Nat} {f : Nat → Rk} {i j : Nat} (h : DownR n f i) (hj : j = 2 * i + 1 ∨ j = 2 * i + 2) (hn : j < n) (hl : lessR (f j) (f i))
    (hm : ∀ k, (k = 2 * i + 1 ∨ k = 2 * i + 2) → k < n → ¬ lessR (f k) (f j)) : DownR n (swp f i j) j := by
  have hpj : (j - 1) / 2 = i := by omega
  have hij : i < j := by omega
  refine ⟨fun k h1 h2 h3 => ?_, fun k h1 h2 h3 h4 => ?_⟩
  · by_cases e1 : (k - 1) / 2 = i
    · rw [e1, swp_l]
      by_cases e2 : k = j
      · subst e2
        rw [swp_r]
        exact leR_of_less hl
      · rw [swp_o f i j (by omega) e2]
        exact hm k (by omega) h2
    · rw [swp_o f i j e1 h3]
      by_cases e2 : k = i
      · subst e2
        rw [swp_l]
        have := h.2 j (by omega) hn hpj h1
        exact this
      · have e3 : k ≠ j := fun e => e1 (by rw [e]; exact hpj)
        rw [swp_o f i j e2 e3]
        exact h.1 k h1 h2 e1
  · rw [hpj, swp_l]
    have e1 : k ≠ i := by omega
    have e2 : k ≠ j := by omega
    rw [swp_o f i j e1 e2]
    have := h.1 k h1 h2 (by omega)
    rw [h3] at this
    exact this
/-- The first of a heap is the least. -/
theorem HeapR.least {n : Nat} {f : Nat → Rk} (h : HeapR n f) : ∀ k, k < n → ¬ lessR (f k) (f 0) := by
  intro k
  induction k using Nat.strongRecOn with
  | ind k ih =>
    intro hk
    by_cases e : k = 0
    · subst e; exact fun hh => lessR_asymm hh hh
    · have h1 := h k (by omega) hk
      have h2 := ih ((k - 1) / 2) (by omega) (by omega)
      exact leR_trans h2 h1
theorem HeapR.none (f : Nat → Rk) : HeapR 0 f := fun k _ h => absurd h (by omega)
end Go.Proofs.Ytocinobbocjikaa
end

section
namespace Go.Proofs.Ytocinobbocjikaa
open Go.RowKit Go.ChangeShapes Go.WideShapes Go.ChangeAt Go.Deep
set_option linter.unusedVariables false

theorem array5 {α : Type} {cs : Array α} (h : cs.size = 5) : ∃ c0 c1 c2 c3 c4, cs = #[c0, c1, c2, c3, c4] := by
  obtain ⟨l⟩ := cs
  match l, h with
  | [c0, c1, c2, c3, c4], _ => exact ⟨c0, c1, c2, c3, c4, rfl⟩
/-- An Ftl that came in: a Chip, a map, two numbers. -/
theorem ftl_read {H : Type} {enc : TypeId × Value → H} {P : Program} {W : World} {r : Reach} {b0 : Nat} {T e s pe : TypeId} {h0 h1 h2 h3 g0 g1 f0 f1 f2 p0 p1 : Field} {v : Value} {d : DataW H} {ps : List MemPlace}
    (hT : P.underlying T = some (.struct #[h0, h1, h2, h3])) (hC : P.cellsOf T = 5) (offs : (h0.offset, h1.offset, h2.offset, h3.offset) = (0, 2, 3, 4)) (szs : (P.cellsOf h0.type, P.cellsOf h1.type, P.cellsOf h2.type, P.cellsOf h3.type) = (2, 1, 1, 1))
    (hc : P.underlying h0.type = some (.struct #[g0, g1])) (honeT : oneCellFields P #[g0, g1] = true) (hg0 : P.underlying g0.type = some (.int .i64))
    (ht : P.underlying g1.type = some (.slice e)) (he : P.underlying e = some (.struct #[f0, f1, f2])) (ce : P.cellsOf e = 3) (hone : oneCellFields P #[f0, f1, f2] = true)
    (k0 : P.underlying f0.type = some (.slice s)) (hs : P.underlying s = some .string) (cs1 : P.cellsOf s = 1) (k1 : P.underlying f1.type = some (.int .i64)) (k2 : P.underlying f2.type = some .bool)
    (hp : P.underlying h1.type = some (.slice pe)) (hpe : P.underlying pe = some (.struct #[p0, p1])) (cpe : P.cellsOf pe = 2) (honep : oneCellFields P #[p0, p1] = true)
    (hp0 : P.underlying p0.type = some (.int .i64)) (hp1 : P.underlying p1.type = some (.int .i64)) (ho : P.underlying h2.type = some (.int .i64)) (hst : P.underlying h3.type = some (.int .i64))
    (hv : Value.okWide P W r b0 T v) (h : DataW.Trod enc P W 0 (fun _ => true) true T v d ps) :
    ∃ (z : Int) (a : Option Addr) (len cap : Nat) (qs : List Sq) (am : Option Addr) (m cm : Nat) (pl : List Pl) (op st : Int), v = .agg #[.int .i64 z, .slice a len cap, .slice am m cm, .int .i64 op, .int .i64 st] ∧ (Lit.int .i64 z).wf = true ∧ Squares 0 W.heap.size W a len qs ∧ (∀ x ∈ qs, sqFits x) ∧ len ≤ maxLen ∧
      Places 0 W.heap.size W am m pl ∧ (∀ x ∈ pl, plFits x) ∧ m ≤ maxLen ∧ (Lit.int .i64 op).wf = true ∧ (Lit.int .i64 st).wf = true := by
  simp only [Prod.mk.injEq] at offs szs
  obtain ⟨o0, o1, o2, o3⟩ := offs
  obtain ⟨c0, c1, c2, c3⟩ := szs
  obtain ⟨cs, rfl, hsz⟩ := Go.WideShapes.okWide_struct hT hv
  obtain ⟨x0, x1, x2, x3, x4, rfl⟩ := array5 (hsz.trans hC)
  obtain ⟨fuel, hf⟩ := h
  obtain ⟨y0, y1, y2, y3, n, _, _, t0, t1, t2, t3⟩ := Go.Joins.trod_struct4 hT hf
  rw [o0, c0] at t0
  rw [o1, c1] at t1
  rw [o2, c2] at t2
  rw [o3, c3] at t3
  simp [Value.cells] at t0 t1 t2 t3
  obtain ⟨u0, u1, n', _, _, s0, s1⟩ := trod_struct2 hc t0
  obtain ⟨q0, r0⟩ := hone_of honeT 0 g0 rfl
  obtain ⟨q1, r1⟩ := hone_of honeT 1 g1 rfl
  simp [q0, r0, q1, r1] at s0 s1
  obtain ⟨z, e0, _, kz⟩ := DataW.trod_int hg0 s0
  obtain ⟨a, len, cap, e1⟩ := Go.Joins.slice_form ht s1
  obtain ⟨am, m, cm, e2⟩ := Go.Joins.slice_form hp t1
  obtain ⟨op, e3, _, ko⟩ := DataW.trod_int ho t2
  obtain ⟨st, e4, _, ks⟩ := DataW.trod_int hst t3
  simp only [List.cons.injEq, and_true] at e0 e1 e2 e3 e4
  subst e0; subst e1; subst e2; subst e3; subst e4
  obtain ⟨qs, g3, g4, g5⟩ := squares_read ht he ce hone k0 hs cs1 k1 k2 (show DataW.trod enc P W 0 (fun _ => true) true n' g1.type [.slice a len cap] = some (u1.1, u1.2) from s1)
  obtain ⟨pl, g6, g7, g8⟩ := places_read (d := y1.1) (ps := y1.2) hp hpe cpe honep hp0 hp1 ⟨n, by simpa [Value.cells] using t1⟩
  exact ⟨z, a, len, cap, qs, am, m, cm, pl, op, st, rfl, kz, g3, g4, g5, g6, g7, g8, ko, ks⟩
end Go.Proofs.Ytocinobbocjikaa
end

section
namespace Go.Proofs.Ytocinobbocjikaa
open Go.RowKit
set_option linter.unusedVariables false
set_option maxRecDepth 20000

set_option maxHeartbeats 800000 in
theorem eqSquare_same (a a' : Option Addr) (n cap n' cap' : Nat) (ts : List ByteArray) (z : Int) (b : Bool) (w : World) {lo hi lo' hi' : Nat} (h : Texts lo hi w a n ts) (h' : Texts lo' hi' w a' n' ts) (hn : n ≤ 1048576) (hn' : n' ≤ 1048576) :
    Calls Try.prog 75 #[.agg #[.slice a n cap, .int .i64 z, .bool b], .agg #[.slice a' n' cap', .int .i64 z, .bool b]] w fun e w' => e = .returned (.bool true) ∧ Below w.heap.size w w' := by
  obtain ⟨wA, hwA⟩ : ∃ wA, wA = (w.alloc (.cells #[.slice a n cap, .int .i64 z, .bool b] 40)).alloc (.cells #[.slice a' n' cap', .int .i64 z, .bool b] 40) := ⟨_, rfl⟩
  have hzA : wA.heap.size = w.heap.size + 1 + 1 := by rw [hwA]; simp
  have HBA : Hid (Below w.heap.size w wA) := by rw [hwA]; exact (((Below.refl _ _).alloc (Nat.le_refl _) _).alloc (by simp) _)
  have H1 : Hid (wA.heap[w.heap.size]? = some (.cells #[.slice a n cap, .int .i64 z, .bool b] 40)) := by rw [hwA]; exact heap_old (heap_new _ _)
  have H2 : Hid (wA.heap[w.heap.size + 1]? = some (.cells #[.slice a' n' cap', .int .i64 z, .bool b] 40)) := by rw [hwA]; exact heap_at (by simp)
  have HTA := hide (h.later HBA.out h.2.1)
  have HTB := hide (h'.later HBA.out h'.2.1)
  clear h h'
  go_enter Try.func75, Try.ntmps75
  go_wp2_with fail
  rw [← hwA]
  clear hwA
  refine (eqT_any a n cap ts a' n' cap' ts wA HTA.out HTB.out hn hn').mono ?_
  rintro e w1 ⟨rfl, b1⟩
  have HB1 := hide (below_here HBA.out b1)
  obtain ⟨c0, c1, c2⟩ := three_cells (block_on H1.out b1)
  obtain ⟨d0, d1, d2⟩ := three_cells (block_on H2.out b1)
  have e0 : decide (ts = ts) = true := by simp
  rw [e0]
  clear b1 H1 H2 HTA HTB e0
  go_wp2_with fail
  go_ret
  exact ⟨rfl, HB1.out⟩

set_option maxHeartbeats 1600000 in
theorem eqSquareS_same (a a' : Option Addr) (n cap cap' : Nat) (qs : List Sq) (w : World) {lo hi lo' hi' : Nat} (h : Squares lo hi w a n qs) (h' : Squares lo' hi' w a' n qs) (hfit : n + weight qs ≤ 1048576) :
    Calls Try.prog 64 #[.slice a n cap, .slice a' n cap'] w fun e w' => e = .returned (.bool true) ∧ Below w.heap.size w w' := by
  obtain ⟨hl, A, C, hx, ht⟩ := h
  obtain ⟨hl', A', C', hx', ht'⟩ := h'
  have HL := hide hl
  have HX := hide hx
  have HX' := hide hx'
  have HT := hide ht
  have HT' := hide ht'
  have hsz := hx.1
  have hsz' := hx'.1
  clear hl hl' hx hx' ht ht'
  go_enter Try.func64, Try.ntmps64
  go_wp2_with fail
  go_loopw [5] (fun i wr => ∃ k : Nat, k ≤ n ∧ i = .int .i64 k ∧ Below w.heap.size w wr) (fun i _ => n - (intOf i).toNat)
  case atStart => exact ⟨0, Nat.zero_le _, rfl, Below.refl _ _⟩
  case round =>
    obtain ⟨k, hk, rfl, hbel⟩ := hrel
    by_cases hlt : k < n
    · obtain ⟨b, off, rfl, _, hb, hc⟩ := HX.out.2 (by omega)
      obtain ⟨b', off', rfl, _, hb', hc'⟩ := HX'.out.2 (by omega)
      obtain ⟨c0, c1, c2⟩ := sq_cells hc hbel (show b < w.heap.size by omega) hlt
      obtain ⟨d0, d1, d2⟩ := sq_cells hc' hbel (show b' < w.heap.size by omega) hlt
      have HI := hide ((HT.out k hlt).later hbel hsz)
      have HI' := hide ((HT'.out k hlt).later hbel hsz')
      have hl9 : (sqAt qs k).1.length ≤ 1048576 := by have := len_weight (show k < qs.length by rw [HL.out]; exact hlt); omega
      have HBB := hide hbel
      clear hc hc' hbel
      generalize sqAt qs k = y at *
      obtain ⟨ts, z, bd⟩ := y
      have HCC : ∀ w2, Hid (Below wr.heap.size wr w2 → Calls Try.prog 75 #[.agg #[.slice (A k) ts.length (C k), .int .i64 z, .bool bd], .agg #[.slice (A' k) ts.length (C' k), .int .i64 z, .bool bd]] w2 fun e w' => e = .returned (.bool true) ∧ Below w2.heap.size w2 w') := fun w2 hb2 =>
        eqSquare_same _ _ _ _ _ _ ts z bd w2 (HI.out.later hb2 (by have := HI.out.2.1; omega)) (HI'.out.later hb2 (by have := HI'.out.2.1; omega)) hl9 hl9
      generalize A k = p at c0 HCC
      generalize A' k = p' at d0 HCC
      generalize C k = cp at c0 HCC
      generalize C' k = cp' at d0 HCC
      clear HI HI'
      go_wp2_with fail
      go_region_with (go_at_call 75; refine ((HCC _).out (Below.refl _ wr).drew).mono ?_; rintro e w1 ⟨rfl, b1⟩; have HB1 := hide (below_here (show Below w.heap.size w wr.drew from HBB.out.drew) b1); clear b1)
      all_goals go_wp2_with fail
      all_goals exact ⟨⟨k + 1, by omega, by go_num, HB1.out⟩, by simp [intOf]; omega⟩
    · go_wp2_with fail
      go_ret
      exact ⟨rfl, hbel⟩

set_option maxHeartbeats 800000 in
theorem eqChip_same (z : Int) (a a' : Option Addr) (n cap cap' : Nat) (qs : List Sq) (w : World) {lo hi lo' hi' : Nat} (h : Squares lo hi w a n qs) (h' : Squares lo' hi' w a' n qs) (hhi : hi ≤ w.heap.size) (hhi' : hi' ≤ w.heap.size) (hfit : n + weight qs ≤ 1048576) :
    Calls Try.prog 49 #[.agg #[.int .i64 z, .slice a n cap], .agg #[.int .i64 z, .slice a' n cap']] w fun e w' => e = .returned (.bool true) ∧ Below w.heap.size w w' := by
  obtain ⟨wA, hwA⟩ : ∃ wA, wA = (w.alloc (.cells #[.int .i64 z, .slice a n cap] 26)).alloc (.cells #[.int .i64 z, .slice a' n cap'] 26) := ⟨_, rfl⟩
  have HBA : Hid (Below w.heap.size w wA) := by rw [hwA]; exact (((Below.refl _ _).alloc (Nat.le_refl _) _).alloc (by simp) _)
  have HTA := hide (h.later HBA.out hhi)
  have HTB := hide (h'.later HBA.out hhi')
  clear h h'
  go_enter Try.func49, Try.ntmps49
  go_wp2_with fail
  rw [← hwA]
  clear hwA
  refine (eqSquareS_same a a' n cap cap' qs wA HTA.out HTB.out hfit).mono ?_
  rintro e w1 ⟨rfl, b1⟩
  have HB1 := hide (below_here HBA.out b1)
  clear b1 HTA HTB
  go_wp2_with fail
  go_ret
  exact ⟨rfl, HB1.out⟩
end Go.Proofs.Ytocinobbocjikaa
end

section
namespace Go.Proofs.Ytocinobbocjikaa
open Go.RowKit
set_option linter.unusedVariables false
set_option maxRecDepth 20000

theorem Try.infoPl : (Try.prog.info? 66).map (fun i => (i.zero, i.size, i.bytes)) = some (some (.agg #[.int .i64 0, .int .i64 0]), 2, 16) := by kernel_rfl
theorem eqPlace_same (p q : Int) (w : World) :
    Calls Try.prog 65 #[.agg #[.int .i64 p, .int .i64 q], .agg #[.int .i64 p, .int .i64 q]] w fun e w' => e = .returned (.bool true) ∧ Below w.heap.size w w' := by
  go_enter Try.func65, Try.ntmps65
  go_wp2_with fail
  go_ret
  exact ⟨rfl, ((Below.refl w.heap.size w).alloc (Nat.le_refl _) _).alloc (by simp) _⟩

set_option maxHeartbeats 1600000 in
theorem eqPlaceS_same (a a' : Option Addr) (n cap cap' : Nat) (ps : List Pl) (w : World) {lo hi lo' hi' : Nat} (h : Places lo hi w a n ps) (h' : Places lo' hi' w a' n ps) (hn : n ≤ 1048576) :
    Calls Try.prog 50 #[.slice a n cap, .slice a' n cap'] w fun e w' => e = .returned (.bool true) ∧ Below w.heap.size w w' := by
  obtain ⟨hl, hx⟩ := h
  obtain ⟨hl', hx'⟩ := h'
  have HX := hide hx
  have HX' := hide hx'
  have hsz := hx.1
  have hsz' := hx'.1
  clear hl hl' hx hx'
  go_enter Try.func50, Try.ntmps50
  go_wp2_with fail
  go_loopw [5] (fun i wr => ∃ k : Nat, k ≤ n ∧ i = .int .i64 k ∧ Below w.heap.size w wr) (fun i _ => n - (intOf i).toNat)
  case atStart => exact ⟨0, Nat.zero_le _, rfl, Below.refl _ _⟩
  case round =>
    obtain ⟨k, hk, rfl, hbel⟩ := hrel
    by_cases hlt : k < n
    · obtain ⟨b, off, rfl, _, hb, hc⟩ := HX.out.2 (by omega)
      obtain ⟨b', off', rfl, _, hb', hc'⟩ := HX'.out.2 (by omega)
      obtain ⟨c0, c1⟩ := pl_cells hc hbel (show b < w.heap.size by omega) hlt
      obtain ⟨d0, d1⟩ := pl_cells hc' hbel (show b' < w.heap.size by omega) hlt
      have HBB := hide hbel
      clear hc hc' hbel
      generalize plAt ps k = y at *
      obtain ⟨p, q⟩ := y
      go_wp2_with fail
      go_region_with (go_at_call 65; refine (eqPlace_same p q _).mono ?_; rintro e w1 ⟨rfl, b1⟩; have HB1 := hide (below_here (show Below w.heap.size w wr.drew from HBB.out.drew) b1); clear b1)
      all_goals go_wp2_with fail
      all_goals exact ⟨⟨k + 1, by omega, by go_num, HB1.out⟩, by simp [intOf]; omega⟩
    · go_wp2_with fail
      go_ret
      exact ⟨rfl, hbel⟩

end Go.Proofs.Ytocinobbocjikaa
end

