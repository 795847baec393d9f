/- The walk of chapter 6's program: Solved. -/
import Derived.Test.YtacjaoeghjkhoabSolveImpl3
import Derived.Test.YtacjaoeghjkhoabSolveImpl0
import Derived.Test.YtacjaoeghjkhoabCopyBase
namespace Go.Proofs.Ytacjaoeghjkhoab
open Go.RowKit
set_option linter.unusedVariables false
set_option linter.unusedSimpArgs false
set_option maxRecDepth 20000

theorem Try.sizeI64s : (Try.prog.info? 2).map (·.size) = some 1 := by kernel_rfl
/-- Rows of W in one block: all have m, those from k on still nought. -/
def Slots (n W k : Nat) (m : Nat → Nat → Nat) (F : Nat → Value) : Prop := ∀ i, i < n → ∀ j, j < W → F (i * W + j) = .int .i64 ((if i < k then m i j else 0 : Nat) : Int)
theorem slot_other {i k W j q : Nat} (h : i ≠ k) (hj : j < W) (h1 : k * W ≤ q) (h2 : q < k * W + W) : i * W + j ≠ q := by
  intro e
  rcases Nat.lt_or_gt_of_ne h with h3 | h3
  · have := slot_lt h3 hj; omega
  · have := Nat.mul_le_mul_right W (show k + 1 ≤ i from h3)
    rw [Nat.add_mul, Nat.one_mul] at this
    omega
theorem slot_in {i n W : Nat} (h : i < n) : i * W + W ≤ n * W := by
  have := Nat.mul_le_mul_right W (show i + 1 ≤ n from h)
  rw [Nat.add_mul, Nat.one_mul] at this
  exact this
/-- Rows that were cut out of one block. -/
theorem mat_of_slots {base n W gc g : Nat} {w : World} {m : Nat → Nat → Nat} {F : Nat → Value} (h1 : w.rowIs gc 2 (n * W) F) (h2 : w.rowIs g 44 n (fun i => .slice (some ⟨gc, i * W, none⟩) W W)) (hs : Slots n W n m F) (hb : base ≤ gc) (hb2 : base ≤ g) : MatW base n W w g (fun _ => gc) (fun i => i * W) (fun _ => W) m := by
  refine ⟨h2, fun i hi => ⟨n * W, F, h1, slot_in hi, fun k hk => by rw [hs i hi k hk, if_pos hi]⟩, fun i j hi hj hij => .inr ?_, ⟨hb2, fun _ _ => hb⟩, fun _ _ => rfl⟩
  rcases Nat.lt_or_gt_of_ne hij with h | h
  · exact .inl (slot_in h)
  · exact .inr (slot_in h)
/-- One row more has what it should. -/
theorem slots_step {n W k : Nat} {m : Nat → Nat → Nat} {F F' : Nat → Value} (h : Slots n W k m F) (hk : k < n) (h1 : ∀ j, j < W → F' (k * W + j) = .int .i64 (m k j : Int)) (h2 : ∀ q, q < k * W ∨ k * W + W ≤ q → F' q = F q) : Slots n W (k + 1) m F' := by
  intro i hi j hj
  by_cases e : i = k
  · subst e; rw [h1 j hj]; simp
  · have h3 : i * W + j < k * W ∨ k * W + W ≤ i * W + j := by
      rcases Nat.lt_or_gt_of_ne e with h4 | h4
      · exact .inl (slot_lt h4 hj)
      · have := slot_in (W := W) h4; omega
    rw [h2 _ h3, h i hi j hj]
    by_cases e2 : i < k
    · rw [if_pos e2, if_pos (by omega)]
    · rw [if_neg e2, if_neg (by omega)]

theorem matOf_lt {xss : List (List Int)} {ys : List Int} {n : Nat} (hl : xss.length = n) (h : rowsOk xss ys = true) : ∀ i, i < n → ∀ k, matOf xss ys i k < 256 := by
  obtain ⟨h1, h8, hy, hey, hr⟩ := (rowsOk_iff hl).1 h
  intro i hi k
  unfold matOf
  rw [hl]
  by_cases e : k < n
  · rw [if_pos e]
    have hro := hr i hi
    simp only [rowOk, Bool.and_eq_true, decide_eq_true_eq] at hro
    have := elems_iff.1 hro.2 k (by omega)
    simp only [elem, inB, Bool.and_eq_true, decide_eq_true_eq] at this
    omega
  · rw [if_neg e]
    have := elems_iff.1 hey i (by omega)
    simp only [elem, inB, Bool.and_eq_true, decide_eq_true_eq] at this
    omega
theorem matOf_col {xss : List (List Int)} {ys : List Int} {n : Nat} (hl : xss.length = n) : Sv.col n (matOf xss ys) n = matOf xss ys := by
  funext i j
  unfold Sv.col matOf
  rw [hl]
  by_cases e : j < n
  · simp [e]
  · simp [e]
theorem matOf_row {xss : List (List Int)} {ys : List Int} {n i j : Nat} (hl : xss.length = n) (h : rowsOk xss ys = true) (hi : i < n) (hj : j < n) : cellI (xss.getD i []) j = .int .i64 (matOf xss ys i j : Int) := by
  obtain ⟨h1, h8, hy, hey, hr⟩ := (rowsOk_iff hl).1 h
  have hro := hr i hi
  simp only [rowOk, Bool.and_eq_true, decide_eq_true_eq] at hro
  have := elems_iff.1 hro.2 j (by omega)
  simp only [elem, inB, Bool.and_eq_true, decide_eq_true_eq] at this
  unfold cellI matOf
  rw [hl, if_pos hj, Int.toNat_of_nonneg (by omega)]
theorem matOf_right {xss : List (List Int)} {ys : List Int} {n i : Nat} (hl : xss.length = n) (h : rowsOk xss ys = true) (hi : i < n) : cellI ys i = .int .i64 (matOf xss ys i n : Int) := by
  obtain ⟨h1, h8, hy, hey, hr⟩ := (rowsOk_iff hl).1 h
  have := elems_iff.1 hey i (by omega)
  simp only [elem, inB, Bool.and_eq_true, decide_eq_true_eq] at this
  unfold cellI matOf
  rw [hl, if_neg (by omega), Int.toNat_of_nonneg (by omega)]

set_option maxHeartbeats 3200000 in
theorem implSolved_any (a : Option Addr) (n cap : Nat) (xss : List (List Int)) (a' : Option Addr) (n' cap' : Nat) (ys : List Int) (w : World) {lo hi lo' hi' : Nat} (h : Rows2 lo hi w a n xss) (h' : Ints lo' hi' w a' n' ys) (hn : n ≤ 1048576) (hn' : n' ≤ 1048576) (hxs : ∀ s ∈ xss, s.length ≤ 1048576) :
    Calls Try.prog 30 #[.slice a n cap, .slice a' n' cap'] w (SolvedTo xss ys w) := by
  have HSYS := hide (isSystem_any a n cap xss a' n' cap' ys w h h' hn hn' hxs)
  have HL := hide h.1
  have HLY := hide h'.1
  cases hok : rowsOk xss ys
  · have HEM : Hid (OwnInts w.heap.size (w.alloc (.cells #[] 2)).heap.size (w.alloc (.cells #[] 2)) (some ⟨w.heap.size, 0, none⟩) 0 []) := ⟨rfl, Nat.le_refl _, fun h => absurd h (Nat.lt_irrefl _)⟩
    have HEB : Hid (Below w.heap.size w (w.alloc (.cells #[] 2))) := (Below.refl _ _).alloc (Nat.le_refl _) _
    have HA : Hid (Answer xss ys [] false) := .inl ⟨hok, rfl, rfl⟩
    clear h h' hxs
    go_enter Try.func30, Try.ntmps30
    go_wp2_with fail
    refine HSYS.out.mono ?_
    rw [hok]
    rintro e w1 ⟨rfl, rfl⟩
    go_wp2_with fail
    go_ret2
    exact ⟨_, _, _, _, _, rfl, by omega, HEM.out, HA.out, HEB.out⟩
  · obtain ⟨h1, h8, hy, hey, hro⟩ := (rowsOk_iff HL.out).1 hok
    obtain rfl : n' = n := HLY.out.symm.trans hy
    obtain ⟨hl, A, C, ⟨hsz, hx⟩, hr⟩ := h
    obtain ⟨hly, hsz', hx'⟩ := h'
    obtain ⟨b, off, rfl, hb0, hb, hc⟩ := hx (by omega)
    obtain ⟨b', off', rfl, hb0', hb', hc'⟩ := hx' (by omega)
    have HOK := hide hok
    have HC := hide hc
    have HC' := hide hc'
    have HR : Hid (∀ i, i < n' → w.cell? ⟨b, off + i, none⟩ = some (.slice (A i) n' (C i)) ∧ Reads lo hi w (A i) n' (fun j => .int .i64 (matOf xss ys i j : Int))) := by
      intro i hi
      have hq := hro i hi
      simp only [rowOk, Bool.and_eq_true, decide_eq_true_eq] at hq
      have h1 := hc i hi
      have h2 := (hr i hi).2
      simp only [hq.1] at h1 h2
      exact ⟨h1, h2.congr (fun j hj => matOf_row HL.out hok hi hj)⟩
    have HY : Hid (∀ i, i < n' → w.cell? ⟨b', off' + i, none⟩ = some (.int .i64 (matOf xss ys i n' : Int))) := fun i hi => by rw [hc' i hi, matOf_right HL.out hok hi]
    have HGD := hide (matOf_lt HL.out hok)
    have HCOL := hide (matOf_col (ys := ys) HL.out)
    obtain ⟨m, hmm⟩ : ∃ m, m = matOf xss ys := ⟨_, rfl⟩
    rw [← hmm] at HR HY HGD HCOL
    have HMM := hide hmm
    clear hx hr hxs hly hx' hc hc' hl hmm HC HC' hro hey hok
    go_enter Try.func30, Try.ntmps30
    go_wp2_with fail
    refine HSYS.out.mono ?_
    rw [HOK.out]
    rintro e w1 ⟨rfl, rfl⟩
    go_wp2_with fail
    refine (newRows_any n' (n' + 1) h8 (by omega) (by omega) w).mono ?_
    rintro e w1 ⟨rfl, r1, r2, b1⟩
    have HR1 := hide r1
    have HR2 := hide r2
    have HB1 := hide b1
    clear r1 r2 b1
    go_wp2_with fail
    go_loopw [26, 8, 9] (fun i _ _ wr => ∃ (k : Nat) (F : Nat → Value), k ≤ n' ∧ i = .int .i64 (k : Int) ∧ wr.rowIs w.heap.size 2 (n' * (n' + 1)) F ∧ Slots n' (n' + 1) k m F ∧ wr.rowIs (w.heap.size + 1) 44 n' (fun i => .slice (some ⟨w.heap.size, i * (n' + 1), none⟩) (n' + 1) (n' + 1)) ∧ Below w.heap.size w wr) (fun i _ _ _ => n' - (intOf i).toNat)
    case atStart => exact ⟨0, _, Nat.zero_le _, rfl, HR1.out, fun i _ j _ => by simp, HR2.out, HB1.out⟩
    case round =>
      obtain ⟨k, F, hk, rfl, hr1, hsl, hr2, hbel⟩ := hrel
      clear HR1 HR2 HB1
      by_cases hlt : k < n'
      · have hco := hr2.cell hlt
        obtain ⟨hck0, hrd0⟩ := HR.out k hlt
        have hck : wr.cell? ⟨b, off + k, none⟩ = some (.slice (A k) n' (C k)) := (hbel.cell (p := ⟨b, off + k, none⟩) (by show b < _; omega)).trans hck0
        have hrd := hrd0.later hbel hsz
        have hin := slot_in (W := n' + 1) hlt
        obtain ⟨w1, hcp, hrow1, hasd⟩ := copy_row (P := Try.prog) wr 44 44 3 2 Try.underlying44 Try.sizeI64s w.heap.size (k * (n' + 1)) (n' + 1) (n' + 1) (n' * (n' + 1)) 2 F _ hr1 (A k) n' (C k) lo hi hrd n' (by simp [Nat.min_def]) (by omega) (fun _ _ => rfl)
        have hcy : w1.cell? ⟨b', off' + k, none⟩ = some (.int .i64 (m k n' : Int)) := (World.cell?_of_block (w := wr) (a := ⟨b', off' + k, none⟩) (hasd.block b' (by have := hbel.size; omega) (.inl (by omega)))).trans ((hbel.cell (p := ⟨b', off' + k, none⟩) (by show b' < _; omega)).trans (HY.out k hlt))
        have hcl := hrow1.cell (i := k * (n' + 1) + n') (by omega)
        have hfl := hrow1.frozen (k * (n' + 1) + n')
        have HN1 := hide (hrow1.set (k * (n' + 1) + n') (.int .i64 (m k n' : Int)))
        have HN2 : Hid (Slots n' (n' + 1) (k + 1) m (fun j => if j = k * (n' + 1) + n' then .int .i64 (m k n' : Int) else if k * (n' + 1) ≤ j ∧ j < k * (n' + 1) + n' then .int .i64 (m k (j - k * (n' + 1)) : Int) else F j)) := by
          refine slots_step hsl hlt (fun j hj => ?_) (fun q hq => ?_)
          · by_cases e : j = n'
            · subst e; simp
            · rw [if_neg (by omega), if_pos (by omega), Nat.add_sub_cancel_left]
          · rw [if_neg (by omega), if_neg (by omega)]
        have HN3 := hide ((row_aside hr2 hasd (by omega)).setOther (a := ⟨w.heap.size, k * (n' + 1) + n', none⟩) (by simp) (.int .i64 (m k n' : Int)))
        have HN4 := hide ((hbel.trans (hasd.below (Nat.le_refl _) hbel.size)).setCell (p := ⟨w.heap.size, k * (n' + 1) + n', none⟩) (Nat.le_refl _) (.int .i64 (m k n' : Int)))
        clear hr1 hsl hr2 hbel hrd0 hrd hrow1 hasd hck0 hin
        generalize k * (n' + 1) = s at *
        generalize m k n' = y at *
        generalize A k = p at *
        generalize C k = cp at *
        go_wp2_with fail
        exact ⟨⟨k + 1, _, by omega, by go_num, HN1.out, HN2.out, HN3.out, HN4.out⟩, by simp [intOf]; omega⟩
      · obtain rfl : k = n' := by omega
        have HMW : Hid (MatW w.heap.size k (k + 1) wr (w.heap.size + 1) (fun _ => w.heap.size) (fun i => i * (k + 1)) (fun _ => k + 1) m) := mat_of_slots hr1 hr2 hsl (Nat.le_refl _) (Nat.le_succ _)
        have HBW := hide hbel
        clear hr1 hsl hr2 hbel HSYS
        go_wp2_with fail
        refine (reduce_any w.heap.size k (k + 1) (w.heap.size + 1) k _ _ _ m wr HMW.out h8 (by omega) (by omega) HGD.out).mono ?_
        rintro e w2 ⟨bb, rfl, hred, hb2⟩
        have hB2 : Below w.heap.size w w2 := HBW.out.trans hb2
        rcases hred with ⟨rfl, P, O, C2, m1, hM1, hW1⟩ | ⟨rfl, hT⟩
        · have HT : Hid (Answer xss ys ((List.range k).map fun i => (m1 i k : Int)) true) := .inr ⟨HOK.out, by have := hW1.done (Nat.le_refl k); rw [HCOL.out, HMM.out] at this; rw [HL.out]; exact this⟩
          have HM1 := hide hM1
          have HB2 := hide hB2
          have hs2 := hB2.size
          have hmk := run_make_row' (P := Try.prog) 44 2 (.int .i64 0) 8 Try.underlying44 Try.infoI64 rfl .i64 .i64 k (by omega) (by omega)
          clear hM1 hW1 hB2 hb2 HMW HBW
          go_wp2_with fail
          go_loopw [53, 11, 12] (fun i _ _ wr => ∃ r : Nat, r ≤ k ∧ i = .int .i64 (r : Int) ∧ wr.rowIs w2.heap.size 2 k (fun q => .int .i64 ((if q < r then m1 q k else 0 : Nat) : Int)) ∧ Below w2.heap.size w2 wr) (fun i _ _ _ => k - (intOf i).toNat)
          case atStart => exact ⟨0, Nat.zero_le _, rfl, (World.rowIs_made w2 (.int .i64 0) k 2).congr (fun _ _ => by simp), (Below.refl _ _).alloc (Nat.le_refl _) _⟩
          case round =>
            obtain ⟨r, hr, rfl, hrow, hbel⟩ := hrel
            have hM := HM1.out.below hbel
            by_cases hlt2 : r < k
            · have co := (hM.at hlt2).1
              have cc := hM.cell hlt2 (show k < k + 1 by omega)
              have hco := hrow.cell hlt2
              have hfo := hrow.frozen r
              have HR : Hid ((wr.setCell ⟨w2.heap.size, r, none⟩ (.int .i64 (m1 r k : Int))).rowIs w2.heap.size 2 k (fun q => .int .i64 ((if q < r + 1 then m1 q k else 0 : Nat) : Int))) := by
                refine (hrow.set r _).congr fun q _ => ?_
                by_cases e1 : q = r
                · subst e1; simp
                · by_cases e2 : q < r
                  · simp [e1, e2, show q < r + 1 by omega]
                  · simp [e1, e2, show ¬ q < r + 1 by omega]
              have HB := hide (hbel.setCell (p := ⟨w2.heap.size, r, none⟩) (Nat.le_refl _) (.int .i64 (m1 r k : Int)))
              clear hrow hbel hM
              generalize m1 r k = y at *
              go_wp2_with fail
              exact ⟨⟨r + 1, by omega, by go_num, HR.out, HB.out⟩, by simp [intOf]; omega⟩
            · obtain rfl : r = k := by omega
              have HOI : Hid (OwnInts w.heap.size wr.heap.size wr (some ⟨w2.heap.size, 0, none⟩) r ((List.range r).map fun i => (m1 i r : Int))) := by
                refine ⟨by simp, owned_of_row (hrow.congr fun q hq => ?_) hs2 hrow.lt (Nat.le_refl _)⟩
                unfold cellI
                rw [List.getD_eq_getElem?_getD, List.getElem?_map, List.getElem?_range hq]
                simp [hq]
              have HBE : Hid (Below w.heap.size w wr) := below_here HB2.out hbel
              clear hrow hbel hM
              go_wp2_with fail
              go_ret2
              exact ⟨_, _, _, _, _, rfl, by omega, HOI.out, HT.out, HBE.out⟩
        · have HT : Hid (Answer xss ys [] false) := .inr ⟨HOK.out, by have := hT k (Nat.le_refl k); rw [HCOL.out, HMM.out] at this; rw [HL.out]; exact this⟩
          have HEM : Hid (OwnInts w.heap.size (w2.alloc (.cells #[] 2)).heap.size (w2.alloc (.cells #[] 2)) (some ⟨w2.heap.size, 0, none⟩) 0 []) := ⟨rfl, Nat.le_refl _, fun h => absurd h (Nat.lt_irrefl _)⟩
          have HEB : Hid (Below w.heap.size w (w2.alloc (.cells #[] 2))) := hB2.alloc hB2.size _
          clear hT hB2 hb2 HMW HBW
          go_wp2_with fail
          go_ret2
          exact ⟨_, _, _, _, _, rfl, by omega, HEM.out, HT.out, HEB.out⟩
end Go.Proofs.Ytacjaoeghjkhoab
