/- Several texts in one: ChipAns, FtlMark, WearImplB. -/
import Derived.Test.YtkpfdgceelmijaaGreatDoorQChipOwn2
import Derived.Test.YtkpfdgceelmijaaGreatDoorQChipImplB
import Derived.Test.YtkpfdgceelmijaaGreatDoorQChipGrow
section
namespace Go.Proofs.YtkpfdgceelmijaaGreatDoor
open Go.RowKit
set_option linter.unusedVariables false
set_option maxRecDepth 20000

def AnsQ (lo hi : Nat) (w : World) (a : Option Addr) (n : Nat) (qs : List Sq) : Prop := hi ≤ w.heap.size ∧ ((n = 0 ∧ qs = []) ∨ OwnSquares lo hi w a n qs)
section
variable {lo hi n : Nat} {w w' : World} {a : Option Addr} {qs : List Sq}
theorem AnsQ.squares (h : AnsQ lo hi w a n qs) : Squares lo hi w a n qs := by
  obtain ⟨h1, ⟨rfl, rfl⟩ | h2⟩ := h
  · exact ⟨rfl, fun _ => none, fun _ => 0, ⟨h1, fun h => absurd h (by omega)⟩, fun i hi => absurd hi (by omega)⟩
  · exact h2.squares
theorem AnsQ.later (h : AnsQ lo hi w a n qs) {B : Nat} (hb : Below B w w') (hB : hi ≤ B) : AnsQ lo hi w' a n qs :=
  ⟨Nat.le_trans h.1 hb.size, h.2.elim .inl (fun h => .inr (h.later hb hB))⟩
theorem AnsQ.aside (h : AnsQ lo hi w a n qs) {l r : Nat} (hb : Aside l r w w') (hB : r ≤ lo ∨ hi ≤ l) : AnsQ lo hi w' a n qs :=
  ⟨Nat.le_trans h.1 hb.size, h.2.elim .inl (fun h => .inr (h.aside hb hB))⟩
theorem AnsQ.wide (h : AnsQ lo hi w a n qs) {lo' hi' : Nat} (h1 : lo' ≤ lo) (h2 : hi ≤ hi') (h3 : hi' ≤ w.heap.size) : AnsQ lo' hi' w a n qs :=
  ⟨h3, h.2.elim .inl (fun h => .inr (h.wide h1 h2 h3))⟩
end
/-- A Chip answered: its value, where it lies, and that nothing else was written. -/
def ChipAns (w : World) (z : Int) (qs : List Sq) (v : Value) (w' : World) : Prop := ∃ a c, v = .agg #[.int .i64 z, .slice a qs.length c] ∧ AnsQ w.heap.size w'.heap.size w' a qs.length qs ∧ Below w.heap.size w w'

/-- What NewChip tells. -/
def newOk (q z : Int) : Bool := inB q 1 12 && inB z 1 8
def newZ (q z : Int) : Int := if newOk q z then z else 0
def newQ (q z : Int) : List Sq := if newOk q z then List.replicate q.toNat ([], 0, false) else []
theorem newOk_nat {q z : Int} (h : newOk q z = true) : ∃ n : Nat, q = (n : Int) ∧ 1 ≤ n ∧ n ≤ 12 ∧ inB z 1 8 = true := by
  unfold newOk at h
  simp only [Bool.and_eq_true] at h
  obtain ⟨h1, h2⟩ := h
  have h3 := h1
  unfold inB at h3
  simp only [Bool.and_eq_true, decide_eq_true_eq] at h3
  exact ⟨q.toNat, by omega, by omega, by omega, h2⟩
theorem implNewChip_ans (q z : Int) (w : World) : Calls Tryz.prog 11 #[.int .i64 q, .int .i64 z] w fun e w' => ∃ v, e = .returned (.tuple #[v, .bool (newOk q z)]) ∧ ChipAns w (newZ q z) (newQ q z) v w' := by
  cases h : newOk q z with
  | true =>
    obtain ⟨n, rfl, h1, h2, h3⟩ := newOk_nat h
    refine (implNewChip_any n z w h1 h2 h3).mono ?_
    rintro e w1 ⟨a, rfl, ho, hb⟩
    refine ⟨_, rfl, a, n, ?_, ⟨Nat.le_refl _, .inr ?_⟩, hb⟩
    · unfold newZ newQ; rw [h]; simp
    · unfold newQ; rw [h]; simpa using ho
  | false =>
    refine (implNewChip_no q z w h).mono ?_
    rintro e w1 ⟨rfl, hb⟩
    refine ⟨_, rfl, none, 0, ?_, ⟨Nat.le_refl _, .inl ?_⟩, hb⟩
    · unfold newZ newQ; rw [h]; rfl
    · unfold newQ; rw [h]; exact ⟨rfl, rfl⟩
end Go.Proofs.YtkpfdgceelmijaaGreatDoor
end

section
namespace Go.Proofs.YtkpfdgceelmijaaGreatDoor
open Go.RowKit
set_option linter.unusedVariables false
set_option maxRecDepth 20000

/-! ### An Ftl of one's own -/
/-- Squares and Places in blocks of their own, apart. -/
def FtlOwn (lo hi : Nat) (w : World) (a am : Option Addr) (qs : List Sq) (ps : List Pl) : Prop :=
  hi ≤ w.heap.size ∧ ((qs = [] ∧ ps = []) ∨ ∃ g off A C P gm, OwnSqs lo hi w a qs.length qs g off A C P ∧ OwnPlaces gm (gm + 1) w am ps.length ps ∧ lo ≤ gm ∧ gm < hi ∧ gm ≠ g ∧ ∀ i, i < qs.length → 0 < (sqAt qs i).1.length → gm ≠ P i)
section
variable {lo hi : Nat} {w w' : World} {a am : Option Addr} {qs : List Sq} {ps : List Pl}
theorem FtlOwn.squares (h : FtlOwn lo hi w a am qs ps) : Squares lo hi w a qs.length qs := by
  obtain ⟨h1, ⟨rfl, rfl⟩ | ⟨g, off, A, C, P, gm, h2, _⟩⟩ := h
  · exact (AnsQ.squares ⟨h1, .inl ⟨rfl, rfl⟩⟩)
  · exact AnsQ.squares ⟨h1, .inr ⟨g, off, A, C, P, h2⟩⟩
theorem FtlOwn.places (h : FtlOwn lo hi w a am qs ps) : Places lo hi w am ps.length ps := by
  obtain ⟨h1, ⟨rfl, rfl⟩ | ⟨g, off, A, C, P, gm, _, h2, h3, h4, _⟩⟩ := h
  · exact ⟨rfl, h1, fun h => absurd h (by simp)⟩
  · exact ⟨rfl, h1, fun hn => by obtain ⟨b, off, e, h5, h6, h7⟩ := h2.2.reads.2 hn; exact ⟨b, off, e, by omega, by omega, h7⟩⟩
theorem FtlOwn.later (h : FtlOwn lo hi w a am qs ps) {B : Nat} (hb : Below B w w') (hB : hi ≤ B) : FtlOwn lo hi w' a am qs ps := by
  obtain ⟨h1, h2 | ⟨g, off, A, C, P, gm, h2, h3, h4, h5, h6⟩⟩ := h
  · exact ⟨Nat.le_trans h1 hb.size, .inl h2⟩
  · exact ⟨Nat.le_trans h1 hb.size, .inr ⟨g, off, A, C, P, gm, h2.later hb hB, h3.later hb (by omega), h4, h5, h6⟩⟩
theorem FtlOwn.aside (h : FtlOwn lo hi w a am qs ps) {l r : Nat} (hb : Aside l r w w') (hB : r ≤ lo ∨ hi ≤ l) : FtlOwn lo hi w' a am qs ps := by
  obtain ⟨h1, h2 | ⟨g, off, A, C, P, gm, h2, h3, h4, h5, h6⟩⟩ := h
  · exact ⟨Nat.le_trans h1 hb.size, .inl h2⟩
  · exact ⟨Nat.le_trans h1 hb.size, .inr ⟨g, off, A, C, P, gm, h2.aside hb hB, h3.aside hb (by omega), h4, h5, h6⟩⟩
theorem FtlOwn.wide (h : FtlOwn lo hi w a am qs ps) {lo' hi' : Nat} (h1' : lo' ≤ lo) (h2' : hi ≤ hi') (h3' : hi' ≤ w.heap.size) : FtlOwn lo' hi' w a am qs ps := by
  obtain ⟨h1, h2 | ⟨g, off, A, C, P, gm, h2, h3, h4, h5, h6⟩⟩ := h
  · exact ⟨h3', .inl h2⟩
  · exact ⟨h3', .inr ⟨g, off, A, C, P, gm, h2.wide h1' h2' h3', h3, by omega, by omega, h6⟩⟩
end
/-- An Ftl: its fields. -/
structure Fv where
  z : Int
  qs : List Sq
  ps : List Pl
  op : Int
  st : Int
def fvV (f : Fv) (a : Option Addr) (c : Nat) (am : Option Addr) (cm : Nat) : Value := .agg #[.int .i64 f.z, .slice a f.qs.length c, .slice am f.ps.length cm, .int .i64 f.op, .int .i64 f.st]
/-- An Ftl answered: its value, where it lies, and that nothing else was written. -/
def FtlAns (w : World) (f : Fv) (v : Value) (w' : World) : Prop := ∃ a c am cm, v = fvV f a c am cm ∧ FtlOwn w.heap.size w'.heap.size w' a am f.qs f.ps ∧ Below w.heap.size w w' ∧ f.ps.length ≤ cm

end Go.Proofs.YtkpfdgceelmijaaGreatDoor
end

section
namespace Go.Proofs.YtkpfdgceelmijaaGreatDoor
open Go.RowKit
set_option linter.unusedVariables false
set_option maxRecDepth 20000

theorem plAt_take (ps : List Pl) (k : Nat) {j : Nat} (h : j < k) : plAt (ps.take k) j = plAt ps j := by
  unfold plAt
  rw [List.getD_eq_getElem?_getD, List.getD_eq_getElem?_getD, List.getElem?_take, if_pos h]
theorem noneOf_take (ps : List Pl) (k : Nat) (v : Pl) : noneOf (ps.take k) k v = noneOf ps k v := by
  unfold noneOf
  rw [Bool.eq_iff_iff, List.all_eq_true, List.all_eq_true]
  constructor
  · intro h j hj
    have := h j hj
    rwa [plAt_take ps k (List.mem_range.1 hj)] at this
  · intro h j hj
    rw [plAt_take ps k (List.mem_range.1 hj)]
    exact h j hj
theorem Places.take {lo hi n : Nat} {w : World} {a : Option Addr} {ps : List Pl} (h : Places lo hi w a n ps) {k : Nat} (hk : k ≤ n) : Places lo hi w a k (ps.take k) := by
  obtain ⟨hl, hz, hx⟩ := h
  refine ⟨by rw [List.length_take]; omega, hz, fun h0 => ?_⟩
  obtain ⟨b, off, e, h1, h2, h3⟩ := hx (by omega)
  refine ⟨b, off, e, h1, h2, fun i hi => ?_⟩
  rw [h3 i (by omega)]
  unfold cellP
  rw [plAt_take ps k (show i / 2 < k by omega)]

set_option maxHeartbeats 3200000 in
theorem implMapOk_any (z : Int) (a : Option Addr) (n cap : Nat) (qs : List Sq) (al : Option Addr) (m capl : Nat) (ps : List Pl) (w : World) {lo hi lo' hi' : Nat} (h : Squares lo hi w a n qs) (hhi : hi ≤ w.heap.size) (hn : n ≤ 1048576) (hf : ∀ x ∈ qs, sqFits x) (hp : Places lo' hi' w al m ps) (hhi' : hi' ≤ w.heap.size) (hm : m ≤ 1048576) (hcl : m ≤ capl) :
    Calls Tryz.prog 13 #[.agg #[.int .i64 z, .slice a n cap], .slice al m capl] w fun e w' => e = .returned (.bool (mapOk z qs ps)) ∧ Below w.heap.size w w' := by
  obtain ⟨wA, hwA⟩ : ∃ wA, wA = w.alloc (.cells #[.int .i64 z, .slice a n cap] 27) := ⟨_, rfl⟩
  have hzA : wA.heap.size = w.heap.size + 1 := by rw [hwA]; simp
  have HBA : Hid (Below w.heap.size w wA) := by rw [hwA]; exact (Below.refl _ _).alloc (Nat.le_refl _) _
  have H1 : Hid (wA.heap[w.heap.size]? = some (.cells #[.int .i64 z, .slice a n cap] 27)) := by rw [hwA]; exact heap_new _ _
  have HSQ := hide (h.later HBA.out hhi)
  have HPL := hide (hp.later HBA.out hhi')
  have HL := hide h.1
  have HLP := hide hp.1
  have HF := hide hf
  clear h hf hp
  obtain ⟨a0, a1⟩ := two_cells H1.out
  go_enter Tryz.func13, Tryz.ntmps13
  go_wp2_with fail
  rw [← hwA]
  clear hwA
  refine (implChipOk_any z a n cap qs wA HSQ.out (by omega) hn HF.out).mono ?_
  rintro e w1 ⟨rfl, b1⟩
  have K1 := hide (block_on H1.out b1)
  have HS1 := hide (HSQ.out.later b1 (by omega))
  have HP1 := hide (HPL.out.later b1 (by omega))
  have HB1 := hide (below_here HBA.out b1)
  have hs1 := b1.size
  clear b1 H1 HSQ HPL HBA a0 a1
  cases hok : chipOk z qs with
  | false =>
    have HE : Hid (mapOk z qs ps = false) := by show _ = _; unfold mapOk; rw [hok]; rfl
    go_wp2_with fail
    go_ret
    exact ⟨ret_bool HE.out.symm, HB1.out⟩
  | true =>
    by_cases h1 : 1 ≤ m
    · have g1 : decide ((m : Int) < 1) = false := by simp; omega
      by_cases h64 : m ≤ 64
      · have g2 : decide ((m : Int) > 64) = false := by simp; omega
        have HE : Hid (mapOk z qs ps = (List.range ps.length).all (plOk qs ps)) := by
          show _ = _
          unfold mapOk
          rw [hok, HLP.out, decide_eq_true h1, decide_eq_true h64]
          rfl
        clear hok
        go_wp2_with fail
        clear g1 g2
        go_loopw [22, 5] (fun i _ wr => ∃ k : Nat, k ≤ m ∧ i = .int .i64 (k : Int) ∧ (List.range k).all (plOk qs ps) = true ∧ Below w1.heap.size w1 wr) (fun i _ _ => m - (intOf i).toNat)
        case atStart => exact ⟨0, Nat.zero_le _, rfl, rfl, Below.refl _ _⟩
        case round =>
          obtain ⟨k, hk, rfl, hall, hbel⟩ := hrel
          have HAL := hide hall
          have HBB := hide hbel
          clear hall
          by_cases hlt : k < m
          · have hpl : k < ps.length := by rw [HLP.out]; exact hlt
            obtain ⟨b, off, rfl, _, hb, hc⟩ := HP1.out.2.2 (by omega)
            obtain ⟨c0, c1⟩ := pl_cells hc hbel (show b < w1.heap.size by have := HP1.out.2.1; omega) hlt
            have HFA : Hid (plOk qs ps k = false → mapOk z qs ps = false) := fun hh => mapOk_fall hpl hh
            have HST : Hid (plOk qs ps k = true → (List.range (k + 1)).all (plOk qs ps) = true) := fun hh => all_range_step HAL.out hh
            have HPO : Hid (plOk qs ps k = ((((plAt ps k).1 == -1) && ((plAt ps k).2 == 0)) || (plThere qs (plAt ps k) && noneOf ps k (plAt ps k)))) := by
              show _ = _
              unfold plOk
              rw [pl_eq]
              rfl
            have HTK := hide (HP1.out.take (show k ≤ m by omega))
            clear hc
            generalize plAt ps k = y at *
            obtain ⟨p, q⟩ := y
            dsimp only at c0 c1 HPO
            obtain ⟨wX, hwX⟩ : ∃ wX, wX = wr.alloc (.cells #[.int .i64 p, .int .i64 q] 45) := ⟨_, rfl⟩
            have hzX : wX.heap.size = wr.heap.size + 1 := by rw [hwX]; simp
            have HBX : Hid (Below wr.heap.size wr wX) := by rw [hwX]; exact (Below.refl _ _).alloc (Nat.le_refl _) _
            have HX1 : Hid (wX.heap[wr.heap.size]? = some (.cells #[.int .i64 p, .int .i64 q] 45)) := by rw [hwX]; exact heap_new _ _
            have hsr := hbel.size
            go_wp2_with fail
            rw [← hwX]
            clear hwX c0 c1 hbel
            refine (isNone_any p q wX).mono ?_
            rintro e w2 ⟨rfl, b2⟩
            have HX2 := hide (block_on HX1.out b2)
            have HB2 := hide (below_here (below_here HBB.out HBX.out) b2)
            have hs2 := b2.size
            clear b2 HBX HX1
            cases hnone : ((p == -1) && (q == 0)) with
            | true =>
              have HOK := hide (HST.out (by rw [HPO.out, hnone]; rfl))
              go_wp2_with fail
              exact ⟨⟨k + 1, by omega, by go_num, HOK.out, HB2.out⟩, by simp [intOf]; omega⟩
            | false =>
              have HPO2 : Hid (plOk qs ps k = (plThere qs (p, q) && noneOf ps k (p, q))) := by show _ = _; rw [HPO.out, hnone]; rfl
              obtain ⟨c0, c1⟩ := two_cells HX2.out
              obtain ⟨a0, a1⟩ := two_cells (block_on K1.out HB2.out)
              have cT : ∀ d os, Calls Tryz.prog 28 #[.agg #[.int .i64 z, .slice a n cap], .int .i64 p, .int .i64 q] (Go.Sort.grow (redrawn w2 d) os) fun e w'' => e = .returned (.bool (plThere qs (p, q))) ∧ ∃ p : Regrown, w'' = Go.Sort.grow (redrawn w2 p.d) p.os := fun d os => Calls.regrown_of ((hasPage_any z a n cap qs p q _ (HS1.out.later (below_here HB2.out (below_regrown w2 d os)) (by omega)) (by have := (below_regrown w2 d os).size; omega) hn HF.out).mono (fun e w' hh => ⟨by rw [hh.1]; unfold plThere; rw [HL.out], hh.2⟩))
              have cC : ∀ d os, Calls Tryz.prog 29 #[.slice (some ⟨b, off, none⟩) k capl, .agg #[.int .i64 p, .int .i64 q]] (Go.Sort.grow (redrawn w2 d) os) fun e w'' => e = .returned (.bool (!(noneOf ps k (p, q)))) ∧ ∃ p : Regrown, w'' = Go.Sort.grow (redrawn w2 p.d) p.os := fun d os => Calls.regrown_of ((containsPl_any (some ⟨b, off, none⟩) k capl (ps.take k) p q _ (HTK.out.later (below_here HB2.out (below_regrown w2 d os)) (by have := HP1.out.2.1; omega)) (by have := (below_regrown w2 d os).size; have := HP1.out.2.1; omega) (by omega)).mono (fun e w' hh => ⟨by rw [hh.1, noneOf_take], hh.2⟩))
              have k0 := cell_regrown a0
              have k1 := cell_regrown a1
              have k2 := cell_regrown c0
              have k3 := cell_regrown c1
              have hkm : (k : Int) ≤ (m : Int) := by omega
              have hkc : (k : Int) ≤ (capl : Int) := by omega
              clear hnone
              cases hth : plThere qs (p, q) with
              | false =>
                have HNO := hide (HFA.out (by rw [HPO2.out, hth]; rfl))
                rw [hth] at cT
                go_upto_region 7 with fail
                go_cut [42] (fun c wx => c = .bool true ∧ Below w2.heap.size w2 wx)
                case first =>
                  refine wp_region_quiet_below (by kernel_rfl) (by kernel_rfl) ?_
                  repeat (go_big_quiet_step ((go_at_call 28; exact cT _ _)))
                  refine wpQuiet_nil ?_
                  intro _ hw'
                  obtain ⟨⟨dq, osq⟩, hw''⟩ := hw'
                  subst hw''
                  have HBQ := hide (below_regrown w2 dq osq)
                  go_wp2_with fail
                  go_meet
                  exact ⟨rfl, HBQ.out⟩
                case rest =>
                  obtain ⟨rfl, hb3⟩ := hcut
                  have HB3 := hide (below_here HB2.out hb3)
                  clear hb3 k0 k1 k2 k3 cT cC c0 c1 a0 a1
                  go_wp2_with fail
                  go_ret
                  exact ⟨ret_bool HNO.out.symm, below_here HB1.out HB3.out⟩
              | true =>
                have HPO3 : Hid (plOk qs ps k = noneOf ps k (p, q)) := by show _ = _; rw [HPO2.out, hth]; rfl
                rw [hth] at cT
                go_upto_region 7 with fail
                go_cut [42] (fun c wx => c = .bool (!(noneOf ps k (p, q))) ∧ Below w2.heap.size w2 wx)
                case first =>
                  refine wp_region_quiet_below (by kernel_rfl) (by kernel_rfl) ?_
                  repeat (go_big_quiet_step ((first | (go_at_call 28; exact cT _ _) | (go_at_call 29; exact cC _ _))))
                  refine wpQuiet_nil ?_
                  intro _ hw'
                  obtain ⟨⟨dq, osq⟩, hw''⟩ := hw'
                  subst hw''
                  have HBQ := hide (below_regrown w2 dq osq)
                  go_wp2_with fail
                  go_meet
                  exact ⟨rfl, HBQ.out⟩
                case rest =>
                  obtain ⟨rfl, hb3⟩ := hcut
                  have HB3 := hide (below_here HB2.out hb3)
                  clear hb3 k0 k1 k2 k3 cT cC c0 c1 a0 a1
                  cases hno : noneOf ps k (p, q) with
                  | false =>
                    have HNO := hide (HFA.out (by rw [HPO3.out, hno]))
                    go_wp2_with fail
                    go_ret
                    exact ⟨ret_bool HNO.out.symm, below_here HB1.out HB3.out⟩
                  | true =>
                    have HOK := hide (HST.out (by rw [HPO3.out, hno]))
                    go_wp2_with fail
                    exact ⟨⟨k + 1, by omega, by go_num, HOK.out, HB3.out⟩, by simp [intOf]; omega⟩
          · obtain rfl : k = m := by omega
            have HE2 : Hid (mapOk z qs ps = true) := by show _ = _; rw [HE.out, HLP.out]; exact HAL.out
            go_wp2_with fail
            go_ret
            exact ⟨ret_bool HE2.out.symm, below_here HB1.out HBB.out⟩
      · have g2 : decide ((m : Int) > 64) = true := by simp; omega
        have HE : Hid (mapOk z qs ps = false) := by show _ = _; unfold mapOk; rw [HLP.out, decide_eq_false h64]; simp
        go_wp2_with fail
        go_ret
        exact ⟨ret_bool HE.out.symm, HB1.out⟩
    · have g1 : decide ((m : Int) < 1) = true := by simp; omega
      have HE : Hid (mapOk z qs ps = false) := by show _ = _; unfold mapOk; rw [HLP.out, decide_eq_false h1]; simp
      go_wp2_with fail
      go_ret
      exact ⟨ret_bool HE.out.symm, HB1.out⟩

end Go.Proofs.YtkpfdgceelmijaaGreatDoor
end

