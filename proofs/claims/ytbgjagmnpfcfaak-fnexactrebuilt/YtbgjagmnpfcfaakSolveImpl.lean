/- The walks of chapter 6's program: new rows, a row swept, reduce, is it a system, Solved. -/
import Derived.Test.YtbgjagmnpfcfaakRowsMat
import Derived.Test.YtbgjagmnpfcfaakSpareImplB2
import Derived.Test.YtbgjagmnpfcfaakSolveBase
import Derived.Test.YtbgjagmnpfcfaakSolveMat2
import Derived.Deep.DeepCutAuto
import Derived.Test.YtbgjagmnpfcfaakFieldImpl
import Derived.Test.YtbgjagmnpfcfaakCopyBase
namespace Go.Proofs.Ytbgjagmnpfcfaak
open Go.RowKit
set_option linter.unusedVariables false
set_option linter.unusedSimpArgs false
set_option maxRecDepth 20000

set_option maxHeartbeats 800000 in
theorem newRows_any (n W : Nat) (hn : n ≤ 8) (hW1 : 1 ≤ W) (hW : W ≤ 1048576) (w : World) :
    Calls Try.prog 50 #[.int .i64 (n : Int), .int .i64 (W : Int)] w fun e w' => e = .returned (.slice (some ⟨w.heap.size + 1, 0, none⟩) n n) ∧ w'.rowIs w.heap.size 2 (n * W) (fun _ => .int .i64 0) ∧ w'.rowIs (w.heap.size + 1) 29 n (fun i => .slice (some ⟨w.heap.size, i * W, none⟩) W W) ∧ Below w.heap.size w w' := by
  have hW0 : ¬ W = 0 := by omega
  have hq : n * W ≤ 8388608 := Nat.mul_le_mul hn hW
  have HS : ∀ k, Hid (k < n → k * W + W ≤ n * W) := fun k hk => by
    have := Nat.mul_le_mul_right W (show k + 1 ≤ n from hk)
    rw [Nat.add_mul, Nat.one_mul] at this
    exact this
  have hm0 : (n : Int) * (W : Int) = ((n * W : Nat) : Int) := by simp
  obtain ⟨q, hqe⟩ : ∃ q, q = n * W := ⟨_, rfl⟩
  rw [← hqe] at hq hm0 ⊢
  have hmkI := run_make_row' (P := Try.prog) 29 2 (.int .i64 0) 8 Try.underlying29 Try.infoI64 rfl .i64 .i64 q (by omega) (by omega)
  have hmkS := run_make_row' (P := Try.prog) 28 29 (.slice none 0 0) 24 Try.underlying28 Try.infoSI rfl .i64 .i64 n (by omega) (by omega)
  have HQ := hide hqe
  clear hqe
  go_enter Try.func50, Try.ntmps50
  go_wp2_with fail
  go_loopw [18, 7, 8, 9] (fun i _ _ _ wr => ∃ k : Nat, k ≤ n ∧ i = .int .i64 (k : Int) ∧ wr.rowIs w.heap.size 2 q (fun _ => .int .i64 0) ∧ wr.rowIs (w.heap.size + 1) 29 n (fun i => if i < k then .slice (some ⟨w.heap.size, i * W, none⟩) W W else .slice none 0 0) ∧ Below w.heap.size w wr) (fun i _ _ _ _ => n - (intOf i).toNat)
  case atStart =>
    refine ⟨0, Nat.zero_le _, rfl, (World.rowIs_made w (.int .i64 0) q 2).alloc _, ?_, ((Below.refl _ _).alloc (Nat.le_refl _) _).alloc (by simp) _⟩
    have := World.rowIs_made (w.alloc (.cells (madeCells #[.int .i64 0] q) 2)) (.slice none 0 0) n 29
    simp only [World.size_alloc] at this
    exact this.congr (fun _ _ => by simp)
  case round =>
    obtain ⟨k, hk, rfl, hr1, hr2, hbel⟩ := hrel
    by_cases hlt : k < n
    · have hle := (HS k).out hlt
      rw [← HQ.out] at hle
      have hm1 : (k : Int) * (W : Int) = ((k * W : Nat) : Int) := by simp
      have hm2 : ((k : Int) + 1) * (W : Int) = ((k * W + W : Nat) : Int) := by rw [Int.add_mul]; simp
      have hco := hr2.cell hlt
      have hfo := hr2.frozen k
      have HR1 := hide (hr1.setOther (a := ⟨w.heap.size + 1, k, none⟩) (by simp) (.slice (some ⟨w.heap.size, k * W, none⟩) W W))
      have HR2 : Hid ((wr.setCell ⟨w.heap.size + 1, k, none⟩ (.slice (some ⟨w.heap.size, k * W, none⟩) W W)).rowIs (w.heap.size + 1) 29 n (fun i => if i < k + 1 then .slice (some ⟨w.heap.size, i * W, none⟩) W W else .slice none 0 0)) := by
        refine (hr2.set k _).congr fun i _ => ?_
        by_cases e1 : i = k
        · subst e1; simp
        · by_cases e2 : i < k
          · simp [e1, e2, show i < k + 1 by omega]
          · simp [e1, e2, show ¬ i < k + 1 by omega]
      have HB := hide (hbel.setCell (p := ⟨w.heap.size + 1, k, none⟩) (Nat.le_succ _) (.slice (some ⟨w.heap.size, k * W, none⟩) W W))
      clear hr1 hr2 hbel
      generalize k * W = f at *
      go_wp2_with fail
      exact ⟨⟨k + 1, by omega, by go_num, HR1.out, HR2.out, HB.out⟩, by simp [intOf]; omega⟩
    · obtain rfl : k = n := by omega
      have HR1 := hide hr1
      have HR2 := hide (hr2.congr (g := fun i => .slice (some ⟨w.heap.size, i * W, none⟩) W W) (fun i hi => by simp [hi]))
      have HB := hide hbel
      clear hr1 hr2 hbel
      go_wp2_with fail
      go_ret
      exact ⟨rfl, HR1.out, HR2.out, HB.out⟩
end Go.Proofs.Ytbgjagmnpfcfaak
namespace Go.Proofs.Ytbgjagmnpfcfaak
open Go.RowKit
set_option linter.unusedVariables false
set_option linter.unusedSimpArgs false
set_option maxRecDepth 20000

theorem addF_row {W a : Nat} {y : Nat → Nat} {k : Nat} (hk : k < W) : addF 0 W a (fun _ => .int .i64 0) (fun _ => 0) y k = .int .i64 (Field.mul a (y k) : Nat) := by
  unfold addF
  rw [if_pos (by omega)]
  simp
set_option maxHeartbeats 1600000 in
theorem sweep_any (base n W g cap c : Nat) (P O C : Nat → Nat) (m : Nat → Nat → Nat) (w : World) (h : MatW base n W w g P O C m) (hc : c < n) (hn : n ≤ 8) (hnW : n ≤ W) (hW : W ≤ 1048576) (hm : ∀ i, i < n → ∀ k, m i k < 256) (h0 : m c c ≠ 0) :
    Calls Try.prog 68 #[.slice (some ⟨g, 0, none⟩) n cap, .int .i64 (c : Int)] w fun e w' => e = .returned (.tuple #[]) ∧ (∃ P' O' C', MatW base n W w' g P' O' C' (Sv.elim (Sv.scale m c (Field.inv (m c c))) c)) ∧ Below base w w' := by
  have hbase : base ≤ w.heap.size := Nat.le_trans h.low.1 (Nat.le_of_lt h.outer.lt)
  have hmk := run_make_row' (P := Try.prog) 29 2 (.int .i64 0) 8 Try.underlying29 Try.infoI64 rfl .i64 .i64 W (by omega) (by omega)
  obtain ⟨f, hf⟩ : ∃ f, f = Field.inv (m c c) := ⟨_, rfl⟩
  have hcc8 := hm c hc c
  have hf8 : f < 256 := by rw [hf]; exact Field.inv_lt hcc8
  have HI : Hid (invI ((m c c : Nat) : Int) = (f : Int)) := by rw [hf]; exact invI_nat hcc8 h0
  rw [← hf]
  have HM := hide h
  have HG := hide hm
  have co0 := (h.at hc).1
  have hgl := h.outer.lt
  have hpl : P c < w.heap.size := h.lt hc
  clear hf h hm
  have HMA : ∀ w2, Hid (Below w.heap.size w w2 → MatW base n W w2 g P O C m) := fun w2 hb => HM.out.below hb
  have HR0 : Hid ((w.alloc (.cells (madeCells #[.int .i64 0] W) 2)).rowIs w.heap.size 2 W (fun _ => .int .i64 0)) := World.rowIs_made w (.int .i64 0) W 2
  have HB0 : Hid (Below w.heap.size w (w.alloc (.cells (madeCells #[.int .i64 0] W) 2))) := (Below.refl _ _).alloc (Nat.le_refl _) _
  have hco : (w.alloc (.cells (madeCells #[.int .i64 0] W) 2)).cell? ⟨g, c, none⟩ = some (.slice (some ⟨P c, O c, none⟩) W (C c)) := (((HMA _).out HB0.out).at hc).1
  have hcc : (w.alloc (.cells (madeCells #[.int .i64 0] W) 2)).cell? ⟨P c, O c + c, none⟩ = some (.int .i64 (m c c : Int)) := ((HMA _).out HB0.out).cell hc (by omega)
  have HIN : Hid (Calls Try.prog 63 #[.int .i64 ((m c c : Nat) : Int)] (w.alloc (.cells (madeCells #[.int .i64 0] W) 2)).drew fun e w' => e = .returned (.int .i64 (f : Int)) ∧ Below (w.alloc (.cells (madeCells #[.int .i64 0] W) 2)).heap.size (w.alloc (.cells (madeCells #[.int .i64 0] W) 2)) w' ∧ w'.cell? ⟨g, c, none⟩ = some (.slice (some ⟨P c, O c, none⟩) W (C c))) := by
    refine (implInverse_any _ _).mono ?_
    rintro e w1 ⟨rfl, b1⟩
    rw [HI.out]
    have b2 : Below (w.alloc (.cells (madeCells #[.int .i64 0] W) 2)).heap.size (w.alloc (.cells (madeCells #[.int .i64 0] W) 2)) w1 := Below.trans (b := (w.alloc (.cells (madeCells #[.int .i64 0] W) 2)).drew) (Below.refl _ _).drew b1
    exact ⟨rfl, b2, (b2.cell (p := ⟨g, c, none⟩) (by simp; omega)).trans hco⟩
  have HAD : ∀ w2, Hid (Below (w.alloc (.cells (madeCells #[.int .i64 0] W) 2)).heap.size (w.alloc (.cells (madeCells #[.int .i64 0] W) 2)) w2 → Calls Try.prog 40 #[.slice (some ⟨w.heap.size, 0, none⟩) W W, .int .i64 (f : Int), .slice (some ⟨P c, O c, none⟩) W (C c)] w2 fun e w' => e = .returned (.tuple #[]) ∧ w'.rowIs w.heap.size 2 W (fun k => .int .i64 (Field.mul f (m c k) : Nat)) ∧ MatW base n W w' g P O C m ∧ Below w.heap.size w w') := by
    intro w2 hb
    have hb2 : Below w.heap.size w w2 := HB0.out.trans (hb.mono (by simp))
    have hm2 := (HMA _).out hb2
    refine (addMultiple_any w.heap.size 0 W W W f _ (fun _ => 0) (m c) _ W (C c) (P c) (P c + 1) w2 hf8 hW (by omega) (row_below HR0.out hb (by simp)) (fun k _ => rfl) (fun _ _ => by omega) (fun k _ => HG.out c hc k) (Nat.le_refl _) hW (hm2.reads hc) (by omega)).mono ?_
    rintro e w' ⟨rfl, r', a'⟩
    have hb3 : Below w.heap.size w w' := hb2.trans (a'.below (Nat.le_refl _) hb2.size)
    exact ⟨rfl, r'.congr (fun k hk => addF_row hk), (HMA _).out hb3, hb3⟩
  go_enter Try.func68, Try.ntmps68
  go_upto_region 1 with fail
  go_cut [4] (fun v wx => v = .slice (some ⟨w.heap.size, 0, none⟩) W W ∧ wx.rowIs w.heap.size 2 W (fun k => .int .i64 (Field.mul f (m c k) : Nat)) ∧ MatW base n W wx g P O C m ∧ Below w.heap.size w wx)
  case first =>
    clear HR0 HB0 HM HI hmk co0
    generalize w.alloc (.cells (madeCells #[.int .i64 0] W) 2) = wA at *
    go_region_with (first | (go_at_call 63; refine HIN.out.mono ?_; rintro e w2 ⟨rfl, b2, co2⟩) | (go_at_call 40; refine ((HAD w2).out b2).mono ?_; rintro e w3 ⟨rfl, r3⟩; have HR3 := hide r3; clear r3))
    all_goals
      go_wp2_with fail
      go_meet
      exact ⟨rfl, HR3.out⟩
  case rest =>
    obtain ⟨rfl, hr, hM, hB⟩ := hcut
    clear HR0 HB0 HI hmk co0 HIN HAD hco hcc HMA
    have hfn : ∀ i, i < n → P i ≠ w.heap.size := fun i hi => Nat.ne_of_lt (HM.out.lt hi)
    have HFN := hide hfn
    have HPL : Hid (MatW base n W (wc.setCell ⟨g, c, none⟩ (.slice (some ⟨w.heap.size, 0, none⟩) W W)) g (fun i => if i = c then w.heap.size else P i) (fun i => if i = c then 0 else O i) (fun i => if i = c then W else C i) (Sv.scale m c f)) := by
      refine (hM.place hc hr hbase hfn).congr fun i hi k hk => ?_
      unfold Sv.scale
      by_cases e : i = c
      · simp [e]
      · simp [e]
    have HBP : Hid (Below base w (wc.setCell ⟨g, c, none⟩ (.slice (some ⟨w.heap.size, 0, none⟩) W W))) := (hB.mono hbase).setCell (p := ⟨g, c, none⟩) hM.low.1 _
    have HRP := hide (hr.setOther (a := ⟨g, c, none⟩) (by show w.heap.size ≠ g; omega) (.slice (some ⟨w.heap.size, 0, none⟩) W W))
    have hco := (hM.at hc).1
    have hfo := (hM.at hc).2
    have hbs : w.heap.size < wc.heap.size := hr.lt
    have HG2 : Hid (∀ i, i < n → ∀ k, Sv.scale m c f i k < 256) := by
      intro i hi k
      unfold Sv.scale
      split
      · exact Field.mul_lt hf8
      · exact HG.out i hi k
    have HROW : Hid (∀ k, Sv.scale m c f c k = Field.mul f (m c k)) := fun k => by simp [Sv.scale]
    obtain ⟨P', hP'⟩ : ∃ P' : Nat → Nat, P' = fun i => if i = c then w.heap.size else P i := ⟨_, rfl⟩
    obtain ⟨O', hO'⟩ : ∃ O' : Nat → Nat, O' = fun i => if i = c then 0 else O i := ⟨_, rfl⟩
    obtain ⟨C', hC'⟩ : ∃ C' : Nat → Nat, C' = fun i => if i = c then W else C i := ⟨_, rfl⟩
    rw [← hP', ← hO', ← hC'] at HPL
    have HPC : Hid (P' c = w.heap.size ∧ O' c = 0 ∧ ∀ i, i < n → i ≠ c → P' i ≠ w.heap.size) := ⟨by simp [hP'], by simp [hO'], fun i hi e => by simp [hP', e, hfn i hi]⟩
    clear hr hM hB hfn hP' hO' hC' HM HFN
    obtain ⟨m2, hm2⟩ : ∃ m2, m2 = Sv.scale m c f := ⟨_, rfl⟩
    rw [← hm2] at HPL HG2 HROW
    have HM2 := hide hm2
    clear hm2
    go_wp2_with fail
    go_loopw [33, 5, 6] (fun i _ _ wr => ∃ k : Nat, k ≤ n ∧ i = .int .i64 (k : Int) ∧ MatW base n W wr g P' O' C' (elm m2 c k) ∧ Below base w wr ∧ wc.heap.size ≤ wr.heap.size) (fun i _ _ _ => n - (intOf i).toNat)
    case atStart => exact ⟨0, Nat.zero_le _, rfl, HPL.out.congr (fun a _ b _ => elm_zero m2 c a b), HBP.out, by rw [Go.Deep.nblk_setCell]; exact Nat.le_refl _⟩
    case round =>
      obtain ⟨k, hk, rfl, hM, hB, hsz⟩ := hrel
      clear HPL HBP HRP hco hfo
      have HM := hide hM
      have HB := hide hB
      clear hM hB
      by_cases hlt : k < n
      · have co := (HM.out.at hlt).1
        by_cases hkc : k = c
        · have e1 : ((k : Int) != (c : Int)) = false := by simp; omega
          have HN : Hid (MatW base n W wr g P' O' C' (elm m2 c (k + 1))) := HM.out.congr (fun a _ b _ => by rw [hkc]; exact elm_self m2 c a b)
          clear HM hkc
          go_wp2_with fail
          exact ⟨⟨k + 1, by omega, by go_num, HN.out, HB.out, hsz⟩, by simp [intOf]; omega⟩
        · have e1 : ((k : Int) != (c : Int)) = true := by simp; omega
          have cc := HM.out.cell hlt (show c < W by omega)
          rw [elm_row] at cc
          have hcc8 := HG2.out k hlt c
          have HCA : Hid (Calls Try.prog 40 #[.slice (some ⟨P' k, O' k, none⟩) W (C' k), .int .i64 ((m2 k c : Nat) : Int), .slice (some ⟨w.heap.size, 0, none⟩) W W] wr fun e w' => e = .returned (.tuple #[]) ∧ MatW base n W w' g P' O' C' (elm m2 c (k + 1)) ∧ Below base w w' ∧ wc.heap.size ≤ w'.heap.size) := by
            obtain ⟨N, F, g1, g2, g3⟩ := HM.out.row k hlt
            have hrd := HM.out.reads hc
            rw [HPC.out.1, HPC.out.2.1] at hrd
            have hne := HPC.out.2.2 k hlt hkc
            refine (addMultiple_any (P' k) (O' k) W (C' k) N (m2 k c) F (m2 k) (m2 c) _ W W w.heap.size (w.heap.size + 1) wr hcc8 hW g2 g1 (fun j hj => by rw [g3 j hj, elm_row]) (fun j _ => HG2.out k hlt j) (fun j _ => HG2.out c hc j) (Nat.le_refl _) hW (hrd.congr (fun j _ => by rw [elm_col])) (by omega)).mono ?_
            rintro e w' ⟨rfl, r', a'⟩
            refine ⟨rfl, ?_, HB.out.trans (a'.below (HM.out.low.2 k hlt) (by omega)), Nat.le_trans hsz a'.size⟩
            refine (HM.out.rewrite hlt a' g1 r' (x := fun j => m2 k j ^^^ Field.mul (m2 k c) (m2 c j)) (fun j hj => ?_) (fun q _ hq => ?_)).congr fun i hi j hj => ?_
            · unfold addF
              rw [if_pos (by omega), Nat.add_sub_cancel_left]
            · unfold addF
              rw [if_neg (by omega)]
            · unfold elm
              by_cases e : i = k
              · subst e; simp [hkc]
              · by_cases e2 : i < k
                · simp [e, e2, show i < k + 1 by omega]
                · simp [e, e2, show ¬ i < k + 1 by omega]
          clear HM HB hkc
          generalize m2 k c = y at *
          go_wp2_with fail
          refine HCA.out.mono ?_
          rintro e w4 ⟨rfl, h4⟩
          have H4 := hide h4
          clear h4 HCA
          go_wp2_with fail
          exact ⟨⟨k + 1, by omega, by go_num, H4.out⟩, by simp [intOf]; omega⟩
      · obtain rfl : k = n := by omega
        have HN : Hid (MatW base k W wr g P' O' C' (Sv.elim m2 c)) := HM.out.congr (fun a ha b _ => elm_all m2 c k a b ha)
        clear HM
        go_wp2_with fail
        go_end0
        exact ⟨rfl, ⟨P', O', C', by rw [← HM2.out]; exact HN.out⟩, HB.out⟩
end Go.Proofs.Ytbgjagmnpfcfaak
namespace Go.Proofs.Ytbgjagmnpfcfaak
open Go.RowKit
set_option linter.unusedVariables false
set_option linter.unusedSimpArgs false
set_option maxRecDepth 20000

theorem turn_eq (m : Nat → Nat → Nat) (c t : Nat) : Sv.elim (Sv.scale (Sv.swap m t c) c (Field.inv (Sv.swap m t c c c))) c = Sv.turn m c t := by
  unfold Sv.turn
  rw [Sv.swap_at]
theorem MatW.mid {base n W g : Nat} {w : World} {P O C : Nat → Nat} {m : Nat → Nat → Nat} (h : MatW base n W w g P O C m) {p q : Nat} (hp : p < n) (hq : q < n) :
    (w.setCell ⟨g, p, none⟩ (.slice (some ⟨P q, O q, none⟩) W (C q))).cell? ⟨g, q, none⟩ = some (.slice (some ⟨P q, O q, none⟩) W (C q)) := by
  by_cases e : q = p
  · subst e; exact World.cell?_setCell_same _ _ _ (h.at hq).1
  · rw [World.cell?_setCell_other _ _ _ _ (by intro e'; simp only [Addr.mk.injEq] at e'; omega)]; exact (h.at hq).1
def Reduced (base n W g : Nat) (m0 : Nat → Nat → Nat) (w : World) (b : Bool) (w' : World) : Prop :=
  ((b = true ∧ ∃ P O C m, MatW base n W w' g P O C m ∧ Sv.Wide n n m0 m) ∨ (b = false ∧ ∀ k, n ≤ k → Sv.Told n (Sv.col n m0 k) [] false)) ∧ Below base w w'
set_option maxHeartbeats 1600000 in
theorem reduce_any (base n W g cap : Nat) (P O C : Nat → Nat) (m0 : Nat → Nat → Nat) (w : World) (h : MatW base n W w g P O C m0) (hn : n ≤ 8) (hnW : n ≤ W) (hW : W ≤ 1048576) (hm : ∀ i, i < n → ∀ k, m0 i k < 256) :
    Calls Try.prog 51 #[.slice (some ⟨g, 0, none⟩) n cap] w fun e w' => ∃ b, e = .returned (.bool b) ∧ Reduced base n W g m0 w b w' := by
  have hbase : base ≤ w.heap.size := Nat.le_trans h.low.1 (Nat.le_of_lt h.outer.lt)
  have HM := hide h
  have HG := hide hm
  clear h hm
  go_enter Try.func51, Try.ntmps51
  go_wp2_with fail
  go_step3
  go_wp2_with fail
  go_step3
  go_wp2_with fail
  go_loopw [7, 3, 4] (fun i _ _ wr => ∃ (c : Nat) (P O C : Nat → Nat) (m : Nat → Nat → Nat), c ≤ n ∧ i = .int .i64 (c : Int) ∧ MatW base n W wr g P O C m ∧ Sv.Wide n c m0 m ∧ Below base w wr) (fun i _ _ _ => n - (intOf i).toNat)
  case atStart => exact ⟨0, P, O, C, m0, Nat.zero_le _, rfl, HM.out, Sv.Wide.start HG.out, Below.refl _ _⟩
  case round =>
    obtain ⟨c, P, O, C, m, hcn, rfl, hM, hWd, hB⟩ := hrel
    clear HM
    have HM := hide hM
    have HW := hide hWd
    have HB := hide hB
    clear hM hWd hB
    by_cases hc : c < n
    · go_wp2_with fail
      go_loop [4] (fun i => ∃ t : Nat, c ≤ t ∧ t ≤ n ∧ i = .int .i64 (t : Int) ∧ ∀ j, c ≤ j → j < t → m j c = 0) (fun i => n - (intOf i).toNat)
      case atStart => exact ⟨c, Nat.le_refl _, by omega, rfl, fun j h1 h2 => absurd h2 (by omega)⟩
      case round =>
        obtain ⟨t, hct, htn, rfl, hz⟩ := hrel
        have HZ := hide hz
        clear hz
        by_cases ht : t < n
        · have co := (HM.out.at ht).1
          have cc := HM.out.cell ht (show c < W by omega)
          by_cases hm0 : m t c = 0
          · have HZ2 : Hid (∀ j, c ≤ j → j < t + 1 → m j c = 0) := fun j h1 h2 => by
              rcases Nat.lt_or_ge j t with h | h
              · exact HZ.out j h1 h
              · rw [show j = t by omega]; exact hm0
            rw [hm0] at cc
            clear hm0 HZ
            go_wp2_with fail
            exact ⟨⟨t + 1, by omega, by omega, by go_num, HZ2.out⟩, by simp [intOf]; omega⟩
          · have e0 : (((m t c : Nat) : Int) != 0) = true := by simp; omega
            have cof := (HM.out.at ht).2
            have ca := (HM.out.at hc).1
            have caf := (HM.out.at hc).2
            have cmid := HM.out.mid hc ht
            have HSW := hide (HM.out.swapped hc ht)
            have HG2 : Hid (∀ i, i < n → ∀ k, Sv.swap m t c i k < 256) := by
              intro i hi k
              unfold Sv.swap
              split
              · exact HW.out.good c hc k
              · split
                · exact HW.out.good t ht k
                · exact HW.out.good i hi k
            have HNZ : Hid (Sv.swap m t c c c ≠ 0) := by show _ ≠ _; rw [Sv.swap_at]; exact hm0
            have HST : Hid (Sv.Wide n (c + 1) m0 (Sv.turn m c t)) := HW.out.step hc ht hct hm0
            have HBS := hide ((HB.out.setCell (p := ⟨g, c, none⟩) HM.out.low.1 (.slice (some ⟨P t, O t, none⟩) W (C t))).setCell (p := ⟨g, t, none⟩) HM.out.low.1 (.slice (some ⟨P c, O c, none⟩) W (C c)))
            have HSP : ∀ q, Hid (Calls Try.prog 68 #[.slice (some ⟨g, 0, none⟩) n cap, .int .i64 (c : Int)] (((wr.setCell ⟨g, c, none⟩ (.slice (some ⟨P t, O t, none⟩) W (C t))).setCell ⟨g, t, none⟩ (.slice (some ⟨P c, O c, none⟩) W (C c))).drewN q) fun e w' => e = .returned (.tuple #[]) ∧ (∃ P' O' C', MatW base n W w' g P' O' C' (Sv.turn m c t)) ∧ Below base w w') := by
              intro q
              have hm' := HSW.out.of (w' := (((wr.setCell ⟨g, c, none⟩ (.slice (some ⟨P t, O t, none⟩) W (C t))).setCell ⟨g, t, none⟩ (.slice (some ⟨P c, O c, none⟩) W (C c))).drewN q)) (fun k _ _ => rfl)
              show Calls _ _ _ _ _
              refine (sweep_any base n W g cap c _ _ _ (Sv.swap m t c) _ hm' hc hn hnW hW HG2.out HNZ.out).mono ?_
              rintro e w' ⟨rfl, ⟨P', O', C', h'⟩, b'⟩
              rw [turn_eq] at h'
              exact ⟨rfl, ⟨P', O', C', h'⟩, (below_drewN HBS.out q).trans b'⟩
            clear HM HW HB hm0 HZ HSW HG2 HNZ HBS
            go_wp2_with fail
            go_region
            all_goals
              go_wp2_with fail
              refine (HSP 1).out.mono ?_
              rintro e w4 ⟨rfl, ⟨P', O', C', h4⟩, b4⟩
              have H4 := hide h4
              have B4 := hide b4
              clear h4 b4
              go_wp2_with fail
              exact ⟨⟨c + 1, P', O', C', _, by omega, by go_num, H4.out, HST.out, B4.out⟩, by simp [intOf]; omega⟩
        · obtain rfl : t = n := by omega
          have HT : Hid (∀ k, t ≤ k → Sv.Told t (Sv.col t m0 k) [] false) := fun k hk => HW.out.stuck hc (fun i h1 h2 => HZ.out i h1 h2) hk
          clear HM HW HZ
          go_wp2_with fail
          try rw [Exit.noGoto_ret]
          go_ret
          exact ⟨false, rfl, .inr ⟨rfl, HT.out⟩, HB.out⟩
    · obtain rfl : c = n := by omega
      go_wp2_with fail
      try rw [Exit.noGoto_ret]
      go_ret
      exact ⟨true, rfl, .inl ⟨rfl, P, O, C, m, HM.out, HW.out⟩, HB.out⟩
end Go.Proofs.Ytbgjagmnpfcfaak
namespace Go.Proofs.Ytbgjagmnpfcfaak
open Go.RowKit
set_option linter.unusedVariables false
set_option linter.unusedSimpArgs false
set_option maxRecDepth 20000

set_option maxHeartbeats 400000 in
theorem areElements_any (a : Option Addr) (n cap : Nat) (xs : List Int) (w : World) {lo hi : Nat} (h : Ints lo hi w a n xs) (hn : n ≤ 1048576) :
    Calls Try.prog 67 #[.slice a n cap] w fun e w' => e = .returned (.bool (elems xs)) ∧ w = w' := by
  obtain ⟨hl, hsz, hx⟩ := h
  have HL := hide hl
  clear hl
  go_enter Try.func67, Try.ntmps67
  go_wp2_with fail
  go_loop [7, 4] (fun i _ => ∃ k : Nat, k ≤ n ∧ i = .int .i64 k ∧ ∀ j, j < k → elem (xs.getD j 0) = true) (fun i _ => n - (intOf i).toNat)
  case atStart => exact ⟨0, Nat.zero_le _, rfl, fun j hj => absurd hj (by omega)⟩
  case round =>
    obtain ⟨k, hk, rfl, hall⟩ := hrel
    have HA := hide hall
    clear hall
    by_cases hlt : k < n
    · obtain ⟨b, off, rfl, _, hb, hc⟩ := hx (by omega)
      have hck : w.cell? ⟨b, off + k, none⟩ = some (.int .i64 (xs.getD k 0)) := hc k hlt
      cases he : elem (xs.getD k 0)
      · have HN : Hid (elems xs = false) := by
          show _ = _
          cases e : elems xs
          · rfl
          · have := elems_iff.1 e k (by rw [HL.out]; exact hlt)
            rw [he] at this; cases this
        clear hc hx
        generalize xs.getD k 0 = x at hck he
        go_wp2_with fail
        refine (isElement_any _ _).mono ?_
        rw [he]
        rintro e w1 ⟨rfl, rfl⟩
        go_wp2_with fail
        go_ret
        exact ⟨ret_bool HN.out.symm, rfl⟩
      · have HY : Hid (∀ j, j < k + 1 → elem (xs.getD j 0) = true) := by
          intro j hj
          rcases Nat.lt_or_ge j k with h' | h'
          · exact HA.out j h'
          · obtain rfl : j = k := by omega
            exact he
        clear hc hx
        generalize xs.getD k 0 = x at hck he
        go_wp2_with fail
        refine (isElement_any _ _).mono ?_
        rw [he]
        rintro e w1 ⟨rfl, rfl⟩
        go_wp2_with fail
        exact ⟨⟨k + 1, by omega, by go_num, HY.out⟩, by simp [intOf]; omega⟩
    · have HY : Hid (elems xs = true) := elems_iff.2 (fun j hj => HA.out j (by rw [HL.out] at hj; omega))
      go_wp2_with fail
      go_ret
      exact ⟨ret_bool HY.out.symm, rfl⟩

theorem rowsOk_iff {xss : List (List Int)} {ys : List Int} {n : Nat} (hl : xss.length = n) : rowsOk xss ys = true ↔ (1 ≤ n ∧ n ≤ 8 ∧ ys.length = n ∧ elems ys = true ∧ ∀ i, i < n → rowOk n (xss.getD i []) = true) := by
  simp only [rowsOk, Bool.and_eq_true, decide_eq_true_eq, hl, List.all_eq_true]
  constructor
  · rintro ⟨h1, h2, h3, h4, h5⟩
    exact ⟨h1, h2, h3, h4, fun i hi => h5 _ (getR_mem (show i < xss.length by omega))⟩
  · rintro ⟨h1, h2, h3, h4, h5⟩
    refine ⟨h1, h2, h3, h4, fun xs hxs => ?_⟩
    obtain ⟨i, hi, e⟩ := List.getElem_of_mem hxs
    have := h5 i (by omega)
    rw [List.getD_eq_getElem?_getD, List.getElem?_eq_getElem hi, Option.getD_some, e] at this
    exact this
theorem rowsOk_no {xss : List (List Int)} {ys : List Int} {n : Nat} (hl : xss.length = n) (h : ¬ (1 ≤ n ∧ n ≤ 8 ∧ ys.length = n ∧ elems ys = true ∧ ∀ i, i < n → rowOk n (xss.getD i []) = true)) : rowsOk xss ys = false := by
  cases e : rowsOk xss ys
  · rfl
  · exact absurd ((rowsOk_iff hl).1 e) h
set_option maxHeartbeats 800000 in
theorem isSystem_any (a : Option Addr) (n cap : Nat) (xss : List (List Int)) (a' : Option Addr) (n' cap' : Nat) (ys : List Int) (w : World) {lo hi lo' hi' : Nat} (h : Rows2 lo hi w a n xss) (h' : Ints lo' hi' w a' n' ys) (hn : n ≤ 1048576) (hn' : n' ≤ 1048576) (hxs : ∀ s ∈ xss, s.length ≤ 1048576) :
    Calls Try.prog 49 #[.slice a n cap, .slice a' n' cap'] w fun e w' => e = .returned (.bool (rowsOk xss ys)) ∧ w = w' := by
  obtain ⟨hl, A, C, ⟨hsz, hx⟩, hr⟩ := h
  have HL := hide hl
  have HR := hide hr
  have HX := hide hxs
  have HY := hide h'
  have HLY := hide h'.1
  clear hl hr hxs h'
  by_cases h1 : 1 ≤ n
  · by_cases h8 : n ≤ 8
    · by_cases hnn : n' = n
      · subst hnn
        cases hey : elems ys
        · have HN : Hid (rowsOk xss ys = false) := rowsOk_no HL.out (by rw [hey]; simp)
          go_enter Try.func49, Try.ntmps49
          go_wp2_with fail
          refine (areElements_any _ _ _ _ _ HY.out hn).mono ?_
          rw [hey]
          rintro e w1 ⟨rfl, rfl⟩
          go_wp2_with fail
          go_ret
          exact ⟨ret_bool HN.out.symm, rfl⟩
        · obtain ⟨b, off, rfl, _, hb, hc⟩ := hx (by omega)
          have HC := hide hc
          have HEY := hide hey
          clear hx hc
          go_enter Try.func49, Try.ntmps49
          go_wp2_with fail
          refine (areElements_any _ _ _ _ _ HY.out hn).mono ?_
          rw [hey]
          rintro e w1 ⟨rfl, rfl⟩
          clear hey
          go_wp2_with fail
          go_loop [29, 7] (fun i _ => ∃ k : Nat, k ≤ n' ∧ i = .int .i64 k ∧ ∀ j, j < k → rowOk n' (xss.getD j []) = true) (fun i _ => n' - (intOf i).toNat)
          case atStart => exact ⟨0, Nat.zero_le _, rfl, fun j hj => absurd hj (by omega)⟩
          case round =>
            obtain ⟨k, hk, rfl, hall⟩ := hrel
            have HA := hide hall
            clear hall
            by_cases hlt : k < n'
            · have hck : w.cell? ⟨b, off + k, none⟩ = some (.slice (A k) (xss.getD k []).length (C k)) := HC.out k hlt
              have hik := HR.out k hlt
              have hzk := HX.out _ (getR_mem (show k < xss.length by rw [HL.out]; exact hlt))
              have HIK := hide hik
              obtain ⟨z, hz⟩ : ∃ z, z = (xss.getD k []).length := ⟨_, rfl⟩
              rw [← hz] at hck hzk
              have HIZ : Hid (Ints lo hi w (A k) z (xss.getD k [])) := by have := HIK.out; rw [← hz] at this; exact this
              have HZ := hide hz
              clear hik HIK hz
              generalize A k = p at hck HIZ
              generalize C k = cp at hck
              by_cases hzn : z = n'
              · have e0 : ((z : Int) != (n' : Int)) = false := by simp; omega
                cases hel : elems (xss.getD k [])
                · have HN : Hid (rowsOk xss ys = false) := rowsOk_no HL.out (fun h => by have := h.2.2.2.2 k hlt; rw [rowOk_e hel] at this; cases this)
                  clear hzn
                  go_wp2_with fail
                  refine (areElements_any _ _ _ _ _ HIZ.out (by omega)).mono ?_
                  rw [hel]
                  rintro e w1 ⟨rfl, rfl⟩
                  go_wp2_with fail
                  go_ret
                  exact ⟨ret_bool HN.out.symm, rfl⟩
                · have HY2 : Hid (∀ j, j < k + 1 → rowOk n' (xss.getD j []) = true) := by
                    intro j hj
                    rcases Nat.lt_or_ge j k with h' | h'
                    · exact HA.out j h'
                    · obtain rfl : j = k := by omega
                      exact rowOk_y (HZ.out.symm.trans hzn) hel
                  clear hzn
                  go_wp2_with fail
                  refine (areElements_any _ _ _ _ _ HIZ.out (by omega)).mono ?_
                  rw [hel]
                  rintro e w1 ⟨rfl, rfl⟩
                  go_wp2_with fail
                  exact ⟨⟨k + 1, by omega, by go_num, HY2.out⟩, by simp [intOf]; omega⟩
              · have e0 : ((z : Int) != (n' : Int)) = true := by simp; omega
                have HN : Hid (rowsOk xss ys = false) := rowsOk_no HL.out (fun h => by have := h.2.2.2.2 k hlt; rw [rowOk_l (fun e => hzn (HZ.out.trans e))] at this; cases this)
                go_wp2_with fail
                go_ret
                exact ⟨ret_bool HN.out.symm, rfl⟩
            · have HY2 : Hid (rowsOk xss ys = true) := (rowsOk_iff HL.out).2 ⟨h1, h8, HLY.out, HEY.out, fun j hj => HA.out j (by omega)⟩
              go_wp2_with fail
              go_ret
              exact ⟨ret_bool HY2.out.symm, rfl⟩
      · have e1 : ((n' : Int) != (n : Int)) = true := by simp; omega
        have HN : Hid (rowsOk xss ys = false) := rowsOk_no HL.out (by rw [HLY.out]; omega)
        go_enter Try.func49, Try.ntmps49
        go_wp2_with fail
        go_ret
        exact ⟨ret_bool HN.out.symm, rfl⟩
    · have HN : Hid (rowsOk xss ys = false) := rowsOk_no HL.out (by omega)
      go_enter Try.func49, Try.ntmps49
      go_wp2_with fail
      go_ret
      exact ⟨ret_bool HN.out.symm, rfl⟩
  · have HN : Hid (rowsOk xss ys = false) := rowsOk_no HL.out (by omega)
    go_enter Try.func49, Try.ntmps49
    go_wp2_with fail
    go_ret
    exact ⟨ret_bool HN.out.symm, rfl⟩
end Go.Proofs.Ytbgjagmnpfcfaak
namespace Go.Proofs.Ytbgjagmnpfcfaak
open Go.RowKit
set_option linter.unusedVariables false
set_option linter.unusedSimpArgs false
set_option maxRecDepth 20000

theorem Try.sizeI64s : (Try.prog.info? 2).map (·.size) = some 1 := by kernel_rfl
/-- Rows of W in one block: all have m, those from k on still nought. -/
def Slots (n W k : Nat) (m : Nat → Nat → Nat) (F : Nat → Value) : Prop := ∀ i, i < n → ∀ j, j < W → F (i * W + j) = .int .i64 ((if i < k then m i j else 0 : Nat) : Int)
theorem slot_other {i k W j q : Nat} (h : i ≠ k) (hj : j < W) (h1 : k * W ≤ q) (h2 : q < k * W + W) : i * W + j ≠ q := by
  intro e
  rcases Nat.lt_or_gt_of_ne h with h3 | h3
  · have := slot_lt h3 hj; omega
  · have := Nat.mul_le_mul_right W (show k + 1 ≤ i from h3)
    rw [Nat.add_mul, Nat.one_mul] at this
    omega
theorem slot_in {i n W : Nat} (h : i < n) : i * W + W ≤ n * W := by
  have := Nat.mul_le_mul_right W (show i + 1 ≤ n from h)
  rw [Nat.add_mul, Nat.one_mul] at this
  exact this
/-- Rows that were cut out of one block. -/
theorem mat_of_slots {base n W gc g : Nat} {w : World} {m : Nat → Nat → Nat} {F : Nat → Value} (h1 : w.rowIs gc 2 (n * W) F) (h2 : w.rowIs g 29 n (fun i => .slice (some ⟨gc, i * W, none⟩) W W)) (hs : Slots n W n m F) (hb : base ≤ gc) (hb2 : base ≤ g) : MatW base n W w g (fun _ => gc) (fun i => i * W) (fun _ => W) m := by
  refine ⟨h2, fun i hi => ⟨n * W, F, h1, slot_in hi, fun k hk => by rw [hs i hi k hk, if_pos hi]⟩, fun i j hi hj hij => .inr ?_, ⟨hb2, fun _ _ => hb⟩, fun _ _ => rfl⟩
  rcases Nat.lt_or_gt_of_ne hij with h | h
  · exact .inl (slot_in h)
  · exact .inr (slot_in h)
/-- One row more has what it should. -/
theorem slots_step {n W k : Nat} {m : Nat → Nat → Nat} {F F' : Nat → Value} (h : Slots n W k m F) (hk : k < n) (h1 : ∀ j, j < W → F' (k * W + j) = .int .i64 (m k j : Int)) (h2 : ∀ q, q < k * W ∨ k * W + W ≤ q → F' q = F q) : Slots n W (k + 1) m F' := by
  intro i hi j hj
  by_cases e : i = k
  · subst e; rw [h1 j hj]; simp
  · have h3 : i * W + j < k * W ∨ k * W + W ≤ i * W + j := by
      rcases Nat.lt_or_gt_of_ne e with h4 | h4
      · exact .inl (slot_lt h4 hj)
      · have := slot_in (W := W) h4; omega
    rw [h2 _ h3, h i hi j hj]
    by_cases e2 : i < k
    · rw [if_pos e2, if_pos (by omega)]
    · rw [if_neg e2, if_neg (by omega)]

theorem matOf_lt {xss : List (List Int)} {ys : List Int} {n : Nat} (hl : xss.length = n) (h : rowsOk xss ys = true) : ∀ i, i < n → ∀ k, matOf xss ys i k < 256 := by
  obtain ⟨h1, h8, hy, hey, hr⟩ := (rowsOk_iff hl).1 h
  intro i hi k
  unfold matOf
  rw [hl]
  by_cases e : k < n
  · rw [if_pos e]
    have hro := hr i hi
    simp only [rowOk, Bool.and_eq_true, decide_eq_true_eq] at hro
    have := elems_iff.1 hro.2 k (by omega)
    simp only [elem, inB, Bool.and_eq_true, decide_eq_true_eq] at this
    omega
  · rw [if_neg e]
    have := elems_iff.1 hey i (by omega)
    simp only [elem, inB, Bool.and_eq_true, decide_eq_true_eq] at this
    omega
theorem matOf_col {xss : List (List Int)} {ys : List Int} {n : Nat} (hl : xss.length = n) : Sv.col n (matOf xss ys) n = matOf xss ys := by
  funext i j
  unfold Sv.col matOf
  rw [hl]
  by_cases e : j < n
  · simp [e]
  · simp [e]
theorem matOf_row {xss : List (List Int)} {ys : List Int} {n i j : Nat} (hl : xss.length = n) (h : rowsOk xss ys = true) (hi : i < n) (hj : j < n) : cellI (xss.getD i []) j = .int .i64 (matOf xss ys i j : Int) := by
  obtain ⟨h1, h8, hy, hey, hr⟩ := (rowsOk_iff hl).1 h
  have hro := hr i hi
  simp only [rowOk, Bool.and_eq_true, decide_eq_true_eq] at hro
  have := elems_iff.1 hro.2 j (by omega)
  simp only [elem, inB, Bool.and_eq_true, decide_eq_true_eq] at this
  unfold cellI matOf
  rw [hl, if_pos hj, Int.toNat_of_nonneg (by omega)]
theorem matOf_right {xss : List (List Int)} {ys : List Int} {n i : Nat} (hl : xss.length = n) (h : rowsOk xss ys = true) (hi : i < n) : cellI ys i = .int .i64 (matOf xss ys i n : Int) := by
  obtain ⟨h1, h8, hy, hey, hr⟩ := (rowsOk_iff hl).1 h
  have := elems_iff.1 hey i (by omega)
  simp only [elem, inB, Bool.and_eq_true, decide_eq_true_eq] at this
  unfold cellI matOf
  rw [hl, if_neg (by omega), Int.toNat_of_nonneg (by omega)]

set_option maxHeartbeats 3200000 in
theorem implSolved_any (a : Option Addr) (n cap : Nat) (xss : List (List Int)) (a' : Option Addr) (n' cap' : Nat) (ys : List Int) (w : World) {lo hi lo' hi' : Nat} (h : Rows2 lo hi w a n xss) (h' : Ints lo' hi' w a' n' ys) (hn : n ≤ 1048576) (hn' : n' ≤ 1048576) (hxs : ∀ s ∈ xss, s.length ≤ 1048576) :
    Calls Try.prog 19 #[.slice a n cap, .slice a' n' cap'] w (SolvedTo xss ys w) := by
  have HSYS := hide (isSystem_any a n cap xss a' n' cap' ys w h h' hn hn' hxs)
  have HL := hide h.1
  have HLY := hide h'.1
  cases hok : rowsOk xss ys
  · have HEM : Hid (OwnInts w.heap.size (w.alloc (.cells #[] 2)).heap.size (w.alloc (.cells #[] 2)) (some ⟨w.heap.size, 0, none⟩) 0 []) := ⟨rfl, Nat.le_refl _, fun h => absurd h (Nat.lt_irrefl _)⟩
    have HEB : Hid (Below w.heap.size w (w.alloc (.cells #[] 2))) := (Below.refl _ _).alloc (Nat.le_refl _) _
    have HA : Hid (Answer xss ys [] false) := .inl ⟨hok, rfl, rfl⟩
    clear h h' hxs
    go_enter Try.func19, Try.ntmps19
    go_wp2_with fail
    refine HSYS.out.mono ?_
    rw [hok]
    rintro e w1 ⟨rfl, rfl⟩
    go_wp2_with fail
    go_ret2
    exact ⟨_, _, _, _, _, rfl, by omega, HEM.out, HA.out, HEB.out⟩
  · obtain ⟨h1, h8, hy, hey, hro⟩ := (rowsOk_iff HL.out).1 hok
    obtain rfl : n' = n := HLY.out.symm.trans hy
    obtain ⟨hl, A, C, ⟨hsz, hx⟩, hr⟩ := h
    obtain ⟨hly, hsz', hx'⟩ := h'
    obtain ⟨b, off, rfl, hb0, hb, hc⟩ := hx (by omega)
    obtain ⟨b', off', rfl, hb0', hb', hc'⟩ := hx' (by omega)
    have HOK := hide hok
    have HC := hide hc
    have HC' := hide hc'
    have HR : Hid (∀ i, i < n' → w.cell? ⟨b, off + i, none⟩ = some (.slice (A i) n' (C i)) ∧ Reads lo hi w (A i) n' (fun j => .int .i64 (matOf xss ys i j : Int))) := by
      intro i hi
      have hq := hro i hi
      simp only [rowOk, Bool.and_eq_true, decide_eq_true_eq] at hq
      have h1 := hc i hi
      have h2 := (hr i hi).2
      simp only [hq.1] at h1 h2
      exact ⟨h1, h2.congr (fun j hj => matOf_row HL.out hok hi hj)⟩
    have HY : Hid (∀ i, i < n' → w.cell? ⟨b', off' + i, none⟩ = some (.int .i64 (matOf xss ys i n' : Int))) := fun i hi => by rw [hc' i hi, matOf_right HL.out hok hi]
    have HGD := hide (matOf_lt HL.out hok)
    have HCOL := hide (matOf_col (ys := ys) HL.out)
    obtain ⟨m, hmm⟩ : ∃ m, m = matOf xss ys := ⟨_, rfl⟩
    rw [← hmm] at HR HY HGD HCOL
    have HMM := hide hmm
    clear hx hr hxs hly hx' hc hc' hl hmm HC HC' hro hey hok
    go_enter Try.func19, Try.ntmps19
    go_wp2_with fail
    refine HSYS.out.mono ?_
    rw [HOK.out]
    rintro e w1 ⟨rfl, rfl⟩
    go_wp2_with fail
    refine (newRows_any n' (n' + 1) h8 (by omega) (by omega) w).mono ?_
    rintro e w1 ⟨rfl, r1, r2, b1⟩
    have HR1 := hide r1
    have HR2 := hide r2
    have HB1 := hide b1
    clear r1 r2 b1
    go_wp2_with fail
    go_loopw [26, 8, 9] (fun i _ _ wr => ∃ (k : Nat) (F : Nat → Value), k ≤ n' ∧ i = .int .i64 (k : Int) ∧ wr.rowIs w.heap.size 2 (n' * (n' + 1)) F ∧ Slots n' (n' + 1) k m F ∧ wr.rowIs (w.heap.size + 1) 29 n' (fun i => .slice (some ⟨w.heap.size, i * (n' + 1), none⟩) (n' + 1) (n' + 1)) ∧ Below w.heap.size w wr) (fun i _ _ _ => n' - (intOf i).toNat)
    case atStart => exact ⟨0, _, Nat.zero_le _, rfl, HR1.out, fun i _ j _ => by simp, HR2.out, HB1.out⟩
    case round =>
      obtain ⟨k, F, hk, rfl, hr1, hsl, hr2, hbel⟩ := hrel
      clear HR1 HR2 HB1
      by_cases hlt : k < n'
      · have hco := hr2.cell hlt
        obtain ⟨hck0, hrd0⟩ := HR.out k hlt
        have hck : wr.cell? ⟨b, off + k, none⟩ = some (.slice (A k) n' (C k)) := (hbel.cell (p := ⟨b, off + k, none⟩) (by show b < _; omega)).trans hck0
        have hrd := hrd0.later hbel hsz
        have hin := slot_in (W := n' + 1) hlt
        obtain ⟨w1, hcp, hrow1, hasd⟩ := copy_row (P := Try.prog) wr 29 29 3 2 Try.underlying29 Try.sizeI64s w.heap.size (k * (n' + 1)) (n' + 1) (n' + 1) (n' * (n' + 1)) 2 F _ hr1 (A k) n' (C k) lo hi hrd n' (by simp [Nat.min_def]) (by omega) (fun _ _ => rfl)
        have hcy : w1.cell? ⟨b', off' + k, none⟩ = some (.int .i64 (m k n' : Int)) := (World.cell?_of_block (w := wr) (a := ⟨b', off' + k, none⟩) (hasd.block b' (by have := hbel.size; omega) (.inl (by omega)))).trans ((hbel.cell (p := ⟨b', off' + k, none⟩) (by show b' < _; omega)).trans (HY.out k hlt))
        have hcl := hrow1.cell (i := k * (n' + 1) + n') (by omega)
        have hfl := hrow1.frozen (k * (n' + 1) + n')
        have HN1 := hide (hrow1.set (k * (n' + 1) + n') (.int .i64 (m k n' : Int)))
        have HN2 : Hid (Slots n' (n' + 1) (k + 1) m (fun j => if j = k * (n' + 1) + n' then .int .i64 (m k n' : Int) else if k * (n' + 1) ≤ j ∧ j < k * (n' + 1) + n' then .int .i64 (m k (j - k * (n' + 1)) : Int) else F j)) := by
          refine slots_step hsl hlt (fun j hj => ?_) (fun q hq => ?_)
          · by_cases e : j = n'
            · subst e; simp
            · rw [if_neg (by omega), if_pos (by omega), Nat.add_sub_cancel_left]
          · rw [if_neg (by omega), if_neg (by omega)]
        have HN3 := hide ((row_aside hr2 hasd (by omega)).setOther (a := ⟨w.heap.size, k * (n' + 1) + n', none⟩) (by simp) (.int .i64 (m k n' : Int)))
        have HN4 := hide ((hbel.trans (hasd.below (Nat.le_refl _) hbel.size)).setCell (p := ⟨w.heap.size, k * (n' + 1) + n', none⟩) (Nat.le_refl _) (.int .i64 (m k n' : Int)))
        clear hr1 hsl hr2 hbel hrd0 hrd hrow1 hasd hck0 hin
        generalize k * (n' + 1) = s at *
        generalize m k n' = y at *
        generalize A k = p at *
        generalize C k = cp at *
        go_wp2_with fail
        exact ⟨⟨k + 1, _, by omega, by go_num, HN1.out, HN2.out, HN3.out, HN4.out⟩, by simp [intOf]; omega⟩
      · obtain rfl : k = n' := by omega
        have HMW : Hid (MatW w.heap.size k (k + 1) wr (w.heap.size + 1) (fun _ => w.heap.size) (fun i => i * (k + 1)) (fun _ => k + 1) m) := mat_of_slots hr1 hr2 hsl (Nat.le_refl _) (Nat.le_succ _)
        have HBW := hide hbel
        clear hr1 hsl hr2 hbel HSYS
        go_wp2_with fail
        refine (reduce_any w.heap.size k (k + 1) (w.heap.size + 1) k _ _ _ m wr HMW.out h8 (by omega) (by omega) HGD.out).mono ?_
        rintro e w2 ⟨bb, rfl, hred, hb2⟩
        have hB2 : Below w.heap.size w w2 := HBW.out.trans hb2
        rcases hred with ⟨rfl, P, O, C2, m1, hM1, hW1⟩ | ⟨rfl, hT⟩
        · have HT : Hid (Answer xss ys ((List.range k).map fun i => (m1 i k : Int)) true) := .inr ⟨HOK.out, by have := hW1.done (Nat.le_refl k); rw [HCOL.out, HMM.out] at this; rw [HL.out]; exact this⟩
          have HM1 := hide hM1
          have HB2 := hide hB2
          have hs2 := hB2.size
          have hmk := run_make_row' (P := Try.prog) 29 2 (.int .i64 0) 8 Try.underlying29 Try.infoI64 rfl .i64 .i64 k (by omega) (by omega)
          clear hM1 hW1 hB2 hb2 HMW HBW
          go_wp2_with fail
          go_loopw [53, 11, 12] (fun i _ _ wr => ∃ r : Nat, r ≤ k ∧ i = .int .i64 (r : Int) ∧ wr.rowIs w2.heap.size 2 k (fun q => .int .i64 ((if q < r then m1 q k else 0 : Nat) : Int)) ∧ Below w2.heap.size w2 wr) (fun i _ _ _ => k - (intOf i).toNat)
          case atStart => exact ⟨0, Nat.zero_le _, rfl, (World.rowIs_made w2 (.int .i64 0) k 2).congr (fun _ _ => by simp), (Below.refl _ _).alloc (Nat.le_refl _) _⟩
          case round =>
            obtain ⟨r, hr, rfl, hrow, hbel⟩ := hrel
            have hM := HM1.out.below hbel
            by_cases hlt2 : r < k
            · have co := (hM.at hlt2).1
              have cc := hM.cell hlt2 (show k < k + 1 by omega)
              have hco := hrow.cell hlt2
              have hfo := hrow.frozen r
              have HR : Hid ((wr.setCell ⟨w2.heap.size, r, none⟩ (.int .i64 (m1 r k : Int))).rowIs w2.heap.size 2 k (fun q => .int .i64 ((if q < r + 1 then m1 q k else 0 : Nat) : Int))) := by
                refine (hrow.set r _).congr fun q _ => ?_
                by_cases e1 : q = r
                · subst e1; simp
                · by_cases e2 : q < r
                  · simp [e1, e2, show q < r + 1 by omega]
                  · simp [e1, e2, show ¬ q < r + 1 by omega]
              have HB := hide (hbel.setCell (p := ⟨w2.heap.size, r, none⟩) (Nat.le_refl _) (.int .i64 (m1 r k : Int)))
              clear hrow hbel hM
              generalize m1 r k = y at *
              go_wp2_with fail
              exact ⟨⟨r + 1, by omega, by go_num, HR.out, HB.out⟩, by simp [intOf]; omega⟩
            · obtain rfl : r = k := by omega
              have HOI : Hid (OwnInts w.heap.size wr.heap.size wr (some ⟨w2.heap.size, 0, none⟩) r ((List.range r).map fun i => (m1 i r : Int))) := by
                refine ⟨by simp, owned_of_row (hrow.congr fun q hq => ?_) hs2 hrow.lt (Nat.le_refl _)⟩
                unfold cellI
                rw [List.getD_eq_getElem?_getD, List.getElem?_map, List.getElem?_range hq]
                simp [hq]
              have HBE : Hid (Below w.heap.size w wr) := below_here HB2.out hbel
              clear hrow hbel hM
              go_wp2_with fail
              go_ret2
              exact ⟨_, _, _, _, _, rfl, by omega, HOI.out, HT.out, HBE.out⟩
        · have HT : Hid (Answer xss ys [] false) := .inr ⟨HOK.out, by have := hT k (Nat.le_refl k); rw [HCOL.out, HMM.out] at this; rw [HL.out]; exact this⟩
          have HEM : Hid (OwnInts w.heap.size (w2.alloc (.cells #[] 2)).heap.size (w2.alloc (.cells #[] 2)) (some ⟨w2.heap.size, 0, none⟩) 0 []) := ⟨rfl, Nat.le_refl _, fun h => absurd h (Nat.lt_irrefl _)⟩
          have HEB : Hid (Below w.heap.size w (w2.alloc (.cells #[] 2))) := hB2.alloc hB2.size _
          clear hT hB2 hb2 HMW HBW
          go_wp2_with fail
          go_ret2
          exact ⟨_, _, _, _, _, rfl, by omega, HEM.out, HT.out, HEB.out⟩
end Go.Proofs.Ytbgjagmnpfcfaak
