/- The walk of chapter 6's program: a row is divided by its element and taken off all others. -/
import Derived.Test.YtacjaoeghjkhoabSolveImpl1
import Derived.Test.YtacjaoeghjkhoabSolveMat2
import Derived.Deep.DeepCutAuto
namespace Go.Proofs.Ytacjaoeghjkhoab
open Go.RowKit
set_option linter.unusedVariables false
set_option linter.unusedSimpArgs false
set_option maxRecDepth 20000

theorem addF_row {W a : Nat} {y : Nat → Nat} {k : Nat} (hk : k < W) : addF 0 W a (fun _ => .int .i64 0) (fun _ => 0) y k = .int .i64 (Field.mul a (y k) : Nat) := by
  unfold addF
  rw [if_pos (by omega)]
  simp
set_option maxHeartbeats 1600000 in
theorem sweep_any (base n W g cap c : Nat) (P O C : Nat → Nat) (m : Nat → Nat → Nat) (w : World) (h : MatW base n W w g P O C m) (hc : c < n) (hn : n ≤ 8) (hnW : n ≤ W) (hW : W ≤ 1048576) (hm : ∀ i, i < n → ∀ k, m i k < 256) (h0 : m c c ≠ 0) :
    Calls Try.prog 80 #[.slice (some ⟨g, 0, none⟩) n cap, .int .i64 (c : Int)] w fun e w' => e = .returned (.tuple #[]) ∧ (∃ P' O' C', MatW base n W w' g P' O' C' (Sv.elim (Sv.scale m c (Field.inv (m c c))) c)) ∧ Below base w w' := by
  have hbase : base ≤ w.heap.size := Nat.le_trans h.low.1 (Nat.le_of_lt h.outer.lt)
  have hmk := run_make_row' (P := Try.prog) 44 2 (.int .i64 0) 8 Try.underlying44 Try.infoI64 rfl .i64 .i64 W (by omega) (by omega)
  obtain ⟨f, hf⟩ : ∃ f, f = Field.inv (m c c) := ⟨_, rfl⟩
  have hcc8 := hm c hc c
  have hf8 : f < 256 := by rw [hf]; exact Field.inv_lt hcc8
  have HI : Hid (invI ((m c c : Nat) : Int) = (f : Int)) := by rw [hf]; exact invI_nat hcc8 h0
  rw [← hf]
  have HM := hide h
  have HG := hide hm
  have co0 := (h.at hc).1
  have hgl := h.outer.lt
  have hpl : P c < w.heap.size := h.lt hc
  clear hf h hm
  have HMA : ∀ w2, Hid (Below w.heap.size w w2 → MatW base n W w2 g P O C m) := fun w2 hb => HM.out.below hb
  have HR0 : Hid ((w.alloc (.cells (madeCells #[.int .i64 0] W) 2)).rowIs w.heap.size 2 W (fun _ => .int .i64 0)) := World.rowIs_made w (.int .i64 0) W 2
  have HB0 : Hid (Below w.heap.size w (w.alloc (.cells (madeCells #[.int .i64 0] W) 2))) := (Below.refl _ _).alloc (Nat.le_refl _) _
  have hco : (w.alloc (.cells (madeCells #[.int .i64 0] W) 2)).cell? ⟨g, c, none⟩ = some (.slice (some ⟨P c, O c, none⟩) W (C c)) := (((HMA _).out HB0.out).at hc).1
  have hcc : (w.alloc (.cells (madeCells #[.int .i64 0] W) 2)).cell? ⟨P c, O c + c, none⟩ = some (.int .i64 (m c c : Int)) := ((HMA _).out HB0.out).cell hc (by omega)
  have HIN : Hid (Calls Try.prog 75 #[.int .i64 ((m c c : Nat) : Int)] (w.alloc (.cells (madeCells #[.int .i64 0] W) 2)).drew fun e w' => e = .returned (.int .i64 (f : Int)) ∧ Below (w.alloc (.cells (madeCells #[.int .i64 0] W) 2)).heap.size (w.alloc (.cells (madeCells #[.int .i64 0] W) 2)) w' ∧ w'.cell? ⟨g, c, none⟩ = some (.slice (some ⟨P c, O c, none⟩) W (C c))) := by
    refine (implInverse_any _ _).mono ?_
    rintro e w1 ⟨rfl, b1⟩
    rw [HI.out]
    have b2 : Below (w.alloc (.cells (madeCells #[.int .i64 0] W) 2)).heap.size (w.alloc (.cells (madeCells #[.int .i64 0] W) 2)) w1 := Below.trans (b := (w.alloc (.cells (madeCells #[.int .i64 0] W) 2)).drew) (Below.refl _ _).drew b1
    exact ⟨rfl, b2, (b2.cell (p := ⟨g, c, none⟩) (by simp; omega)).trans hco⟩
  have HAD : ∀ w2, Hid (Below (w.alloc (.cells (madeCells #[.int .i64 0] W) 2)).heap.size (w.alloc (.cells (madeCells #[.int .i64 0] W) 2)) w2 → Calls Try.prog 48 #[.slice (some ⟨w.heap.size, 0, none⟩) W W, .int .i64 (f : Int), .slice (some ⟨P c, O c, none⟩) W (C c)] w2 fun e w' => e = .returned (.tuple #[]) ∧ w'.rowIs w.heap.size 2 W (fun k => .int .i64 (Field.mul f (m c k) : Nat)) ∧ MatW base n W w' g P O C m ∧ Below w.heap.size w w') := by
    intro w2 hb
    have hb2 : Below w.heap.size w w2 := HB0.out.trans (hb.mono (by simp))
    have hm2 := (HMA _).out hb2
    refine (addMultiple_any w.heap.size 0 W W W f _ (fun _ => 0) (m c) _ W (C c) (P c) (P c + 1) w2 hf8 hW (by omega) (row_below HR0.out hb (by simp)) (fun k _ => rfl) (fun _ _ => by omega) (fun k _ => HG.out c hc k) (Nat.le_refl _) hW (hm2.reads hc) (by omega)).mono ?_
    rintro e w' ⟨rfl, r', a'⟩
    have hb3 : Below w.heap.size w w' := hb2.trans (a'.below (Nat.le_refl _) hb2.size)
    exact ⟨rfl, r'.congr (fun k hk => addF_row hk), (HMA _).out hb3, hb3⟩
  go_enter Try.func80, Try.ntmps80
  go_upto_region 1 with fail
  go_cut [4] (fun v wx => v = .slice (some ⟨w.heap.size, 0, none⟩) W W ∧ wx.rowIs w.heap.size 2 W (fun k => .int .i64 (Field.mul f (m c k) : Nat)) ∧ MatW base n W wx g P O C m ∧ Below w.heap.size w wx)
  case first =>
    clear HR0 HB0 HM HI hmk co0
    generalize w.alloc (.cells (madeCells #[.int .i64 0] W) 2) = wA at *
    go_region_with (first | (go_at_call 75; refine HIN.out.mono ?_; rintro e w2 ⟨rfl, b2, co2⟩) | (go_at_call 48; refine ((HAD w2).out b2).mono ?_; rintro e w3 ⟨rfl, r3⟩; have HR3 := hide r3; clear r3))
    all_goals
      go_wp2_with fail
      go_meet
      exact ⟨rfl, HR3.out⟩
  case rest =>
    obtain ⟨rfl, hr, hM, hB⟩ := hcut
    clear HR0 HB0 HI hmk co0 HIN HAD hco hcc HMA
    have hfn : ∀ i, i < n → P i ≠ w.heap.size := fun i hi => Nat.ne_of_lt (HM.out.lt hi)
    have HFN := hide hfn
    have HPL : Hid (MatW base n W (wc.setCell ⟨g, c, none⟩ (.slice (some ⟨w.heap.size, 0, none⟩) W W)) g (fun i => if i = c then w.heap.size else P i) (fun i => if i = c then 0 else O i) (fun i => if i = c then W else C i) (Sv.scale m c f)) := by
      refine (hM.place hc hr hbase hfn).congr fun i hi k hk => ?_
      unfold Sv.scale
      by_cases e : i = c
      · simp [e]
      · simp [e]
    have HBP : Hid (Below base w (wc.setCell ⟨g, c, none⟩ (.slice (some ⟨w.heap.size, 0, none⟩) W W))) := (hB.mono hbase).setCell (p := ⟨g, c, none⟩) hM.low.1 _
    have HRP := hide (hr.setOther (a := ⟨g, c, none⟩) (by show w.heap.size ≠ g; omega) (.slice (some ⟨w.heap.size, 0, none⟩) W W))
    have hco := (hM.at hc).1
    have hfo := (hM.at hc).2
    have hbs : w.heap.size < wc.heap.size := hr.lt
    have HG2 : Hid (∀ i, i < n → ∀ k, Sv.scale m c f i k < 256) := by
      intro i hi k
      unfold Sv.scale
      split
      · exact Field.mul_lt hf8
      · exact HG.out i hi k
    have HROW : Hid (∀ k, Sv.scale m c f c k = Field.mul f (m c k)) := fun k => by simp [Sv.scale]
    obtain ⟨P', hP'⟩ : ∃ P' : Nat → Nat, P' = fun i => if i = c then w.heap.size else P i := ⟨_, rfl⟩
    obtain ⟨O', hO'⟩ : ∃ O' : Nat → Nat, O' = fun i => if i = c then 0 else O i := ⟨_, rfl⟩
    obtain ⟨C', hC'⟩ : ∃ C' : Nat → Nat, C' = fun i => if i = c then W else C i := ⟨_, rfl⟩
    rw [← hP', ← hO', ← hC'] at HPL
    have HPC : Hid (P' c = w.heap.size ∧ O' c = 0 ∧ ∀ i, i < n → i ≠ c → P' i ≠ w.heap.size) := ⟨by simp [hP'], by simp [hO'], fun i hi e => by simp [hP', e, hfn i hi]⟩
    clear hr hM hB hfn hP' hO' hC' HM HFN
    obtain ⟨m2, hm2⟩ : ∃ m2, m2 = Sv.scale m c f := ⟨_, rfl⟩
    rw [← hm2] at HPL HG2 HROW
    have HM2 := hide hm2
    clear hm2
    go_wp2_with fail
    go_loopw [33, 5, 6] (fun i _ _ wr => ∃ k : Nat, k ≤ n ∧ i = .int .i64 (k : Int) ∧ MatW base n W wr g P' O' C' (elm m2 c k) ∧ Below base w wr ∧ wc.heap.size ≤ wr.heap.size) (fun i _ _ _ => n - (intOf i).toNat)
    case atStart => exact ⟨0, Nat.zero_le _, rfl, HPL.out.congr (fun a _ b _ => elm_zero m2 c a b), HBP.out, by rw [Go.Deep.nblk_setCell]; exact Nat.le_refl _⟩
    case round =>
      obtain ⟨k, hk, rfl, hM, hB, hsz⟩ := hrel
      clear HPL HBP HRP hco hfo
      have HM := hide hM
      have HB := hide hB
      clear hM hB
      by_cases hlt : k < n
      · have co := (HM.out.at hlt).1
        by_cases hkc : k = c
        · have e1 : ((k : Int) != (c : Int)) = false := by simp; omega
          have HN : Hid (MatW base n W wr g P' O' C' (elm m2 c (k + 1))) := HM.out.congr (fun a _ b _ => by rw [hkc]; exact elm_self m2 c a b)
          clear HM hkc
          go_wp2_with fail
          exact ⟨⟨k + 1, by omega, by go_num, HN.out, HB.out, hsz⟩, by simp [intOf]; omega⟩
        · have e1 : ((k : Int) != (c : Int)) = true := by simp; omega
          have cc := HM.out.cell hlt (show c < W by omega)
          rw [elm_row] at cc
          have hcc8 := HG2.out k hlt c
          have HCA : Hid (Calls Try.prog 48 #[.slice (some ⟨P' k, O' k, none⟩) W (C' k), .int .i64 ((m2 k c : Nat) : Int), .slice (some ⟨w.heap.size, 0, none⟩) W W] wr fun e w' => e = .returned (.tuple #[]) ∧ MatW base n W w' g P' O' C' (elm m2 c (k + 1)) ∧ Below base w w' ∧ wc.heap.size ≤ w'.heap.size) := by
            obtain ⟨N, F, g1, g2, g3⟩ := HM.out.row k hlt
            have hrd := HM.out.reads hc
            rw [HPC.out.1, HPC.out.2.1] at hrd
            have hne := HPC.out.2.2 k hlt hkc
            refine (addMultiple_any (P' k) (O' k) W (C' k) N (m2 k c) F (m2 k) (m2 c) _ W W w.heap.size (w.heap.size + 1) wr hcc8 hW g2 g1 (fun j hj => by rw [g3 j hj, elm_row]) (fun j _ => HG2.out k hlt j) (fun j _ => HG2.out c hc j) (Nat.le_refl _) hW (hrd.congr (fun j _ => by rw [elm_col])) (by omega)).mono ?_
            rintro e w' ⟨rfl, r', a'⟩
            refine ⟨rfl, ?_, HB.out.trans (a'.below (HM.out.low.2 k hlt) (by omega)), Nat.le_trans hsz a'.size⟩
            refine (HM.out.rewrite hlt a' g1 r' (x := fun j => m2 k j ^^^ Field.mul (m2 k c) (m2 c j)) (fun j hj => ?_) (fun q _ hq => ?_)).congr fun i hi j hj => ?_
            · unfold addF
              rw [if_pos (by omega), Nat.add_sub_cancel_left]
            · unfold addF
              rw [if_neg (by omega)]
            · unfold elm
              by_cases e : i = k
              · subst e; simp [hkc]
              · by_cases e2 : i < k
                · simp [e, e2, show i < k + 1 by omega]
                · simp [e, e2, show ¬ i < k + 1 by omega]
          clear HM HB hkc
          generalize m2 k c = y at *
          go_wp2_with fail
          refine HCA.out.mono ?_
          rintro e w4 ⟨rfl, h4⟩
          have H4 := hide h4
          clear h4 HCA
          go_wp2_with fail
          exact ⟨⟨k + 1, by omega, by go_num, H4.out⟩, by simp [intOf]; omega⟩
      · obtain rfl : k = n := by omega
        have HN : Hid (MatW base k W wr g P' O' C' (Sv.elim m2 c)) := HM.out.congr (fun a ha b _ => elm_all m2 c k a b ha)
        clear HM
        go_wp2_with fail
        go_end0
        exact ⟨rfl, ⟨P', O', C', by rw [← HM2.out]; exact HN.out⟩, HB.out⟩
end Go.Proofs.Ytacjaoeghjkhoab
