/- For every slice of bytes the law FnSolved returns true and leaves its argument as it was; no condition. -/
import Derived.Test.YtacjaoeghjkhoabRows
import Derived.Test.YtacjaoeghjkhoabSolveSpec3
import Derived.Test.YtacjaoeghjkhoabSolveImpl
import Derived.Test.YtacjaoeghjkhoabDrawSolve2
import Derived.Test.YtacjaoeghjkhoabSolveLaw
import Derived.Test.YtacjaoeghjkhoabLikeTwo
import Derived.Test.YtacjaoeghjkhoabLawBase
import Derived.WalkKit
import Derived.ProofKit
import Derived.OpenShut
import Derived.ShutString
import Derived.ChangeOld
import Derived.Below
namespace Go.Proofs.Ytacjaoeghjkhoab.fnSolved
open Go.ChangeShapes Go.WideShapes Go.ChangeAt Go.RowKit
open Go.ChangeMaps (open_string shut_string)
set_option linter.unusedVariables false

theorem own : ownKnob Try.prog.godebug = none := by kernel_rfl
theorem laidOut : laidOutB Try.prog = true := by kernel_rfl

/-- WHAT THE WALK IS TOLD OF A SLICE OF INTEGERS THAT CAME IN: it is nil; or it leads to a row of 'cap' cells, the numbers 'zs' (the first 'len' are its elements, the rest its spare room), each fitting its kind. -/
def IsRow (k : IntKind) (w : World) (a : Option Addr) (len cap : Nat) (zs : List Int) : Prop :=
  (a = none ∧ len = 0 ∧ cap = 0 ∧ zs = []) ∨
  ∃ x, a = some x ∧ len ≤ cap ∧ cap ≤ maxLen ∧ zs.length = cap ∧ (∀ i, i < zs.length → w.cell? (x.add i) = some (.int k (zs.getD i 0))) ∧ ∀ n ∈ zs, (Lit.int k n).wf = true

set_option maxHeartbeats 3200000 in
set_option maxRecDepth 100000 in

theorem walk (a0 : Option Addr) (len0 cap0 : Nat) (z0 : List Int) (w : World) (w0 : IsRow .u8 w a0 len0 cap0 z0) :
    Calls Try.prog 5 #[.slice a0 len0 cap0] w fun e w' => e = .returned (.bool true) ∧ Below w.heap.size w w' := by
  obtain ⟨l, hA⟩ : ∃ l, Bytes 0 w.heap.size w a0 len0 l := ⟨_, bytes_of (by unfold IsRow at w0; exact w0)⟩
  have hlen : len0 ≤ 9223372036854775807 := by
    rcases w0 with ⟨_, rfl, _, _⟩ | ⟨x, _, hl, hm, _⟩
    · omega
    · unfold maxLen at hm; omega
  clear w0
  by_cases hbig : 4096 < len0
  · have hb' : decide (4096 < len0) = true := by simpa using hbig
    go_enter Try.func5, Try.ntmps5
    go_wp2_with fail
    refine (big_any a0 len0 cap0 w hlen).mono ?_
    rintro e w1 ⟨rfl, rfl⟩
    go_wp2_with fail
    go_ret
    exact ⟨rfl, Below.refl _ _⟩
  · have hb' : decide (4096 < len0) = false := by simpa using hbig
    have hn : len0 ≤ 4096 := by omega
    clear hbig
    have HA := hide hA
    clear hA
    obtain ⟨j0, hj0, hy0, hy1, hy2⟩ := info_parts Try.infoSI
    go_enter Try.func5, Try.ntmps5
    go_wp2_with fail
    refine (big_any a0 len0 cap0 w hlen).mono ?_
    rintro e w1 ⟨rfl, rfl⟩
    go_wp2_with fail
    refine (drawSolved_any a0 len0 cap0 l w HA.out hn).mono ?_
    rintro e w1 ⟨ra, n, rc, ya, m, yc, xss, ys, rfl, n1, n4, m5, hR, hY, hx5, b1⟩
    have HR := hide hR
    have HY := hide hY
    have HX : Hid (∀ s ∈ xss, s.length ≤ 1048576) := fun s hs => by have := hx5 s hs; omega
    have HB1 := hide b1
    clear hR hY hx5 b1
    go_wp2_with fail
    refine (implSolved_any ra n rc xss ya m yc ys w1 HR.out HY.out (by omega) (by omega) HX.out).mono ?_
    rintro e w2 ⟨p2, m2, c2, out, t, rfl, hm2, o2, A2, b2⟩
    have HR2 := hide (HR.out.later b2 (Nat.le_refl _))
    have HY2 := hide (HY.out.later b2 (Nat.le_refl _))
    have s2 := b2.size
    go_wp2_with fail
    refine (specSolved_any ra n rc xss ya m yc ys w2 HR2.out HY2.out (by omega) (by omega) HX.out).mono ?_
    rintro e w3 ⟨p3, m3, c3, out3, t3, rfl, hm3, o3, A3, b3⟩
    obtain ⟨rfl, rfl⟩ := A2.one A3
    have s23 := b3.size
    have HO2 := hide (o2.later b3 (Nat.le_refl _))
    have HO3 := hide o3
    have HAN := hide A2
    have B3 := below_here b2 b3
    have HB3 := hide B3
    have s3 := B3.size
    clear o2 o3 A2 A3 b2 b3 B3 HR2 HY2
    go_wp2_with fail
    refine (likeTwo_any p2 m2 c2 _ p3 m3 c3 _ w3 HO2.out.ints HO3.out.ints (by omega) (by omega)).mono ?_
    rintro e w4 ⟨rfl, b4⟩
    have HB4 := hide (below_here HB3.out b4)
    have HO4 := hide (HO2.out.later b4 (by omega))
    have s4 := b4.size
    clear HO2 HO3 HB3 b4
    cases t
    · have hnone := answer_none HAN.out
      have hm0 : m2 = 0 := by have := HO4.out.1; rw [hnone] at this; exact this.symm
      subst hm0
      clear hnone
      go_wp2_with fail
      go_ret
      exact ⟨rfl, below_here HB1.out HB4.out⟩
    · have hln := HR.out.1
      obtain ⟨f1, f2, f3, M, x, R, hM, hx, hRr, hdot⟩ := solved_facts HAN.out hln
      have h1 := HO4.out.1
      have h2 := HY.out.1
      obtain rfl : m2 = n := by omega
      obtain rfl : m = m2 := by omega
      have HM := hide hM
      have HXX := hide hx
      have HRR := hide hRr
      have HDOT := hide hdot
      have HF3 := hide f3
      have HLN := hide hln
      obtain ⟨_, AR, CR, hRR, hRI⟩ := HR.out.later HB4.out (Nat.le_refl _)
      obtain ⟨rb, roff, rfl, _, hrb, hrc⟩ := hRR.2 (by omega)
      obtain ⟨yb, yoff, hya, _, hyb, hyc⟩ := (HY.out.later HB4.out (Nat.le_refl _)).2.2 (by omega)
      obtain ⟨ob, ooff, hoa, _, hob, hoc⟩ := HO4.out.ints.2.2 (by omega)
      subst hya hoa
      have HRC := hide hrc
      have HRI := hide hRI
      have HYC := hide hyc
      have HOC := hide hoc
      clear hM hx hRr hdot f1 f2 f3 h1 h2 hln hRR hRI hrc hyc hoc
      go_wp2_with fail
      go_loopw [9] (fun i wr => ∃ k : Nat, k ≤ m ∧ i = .int .i64 (k : Int) ∧ Below w4.heap.size w4 wr) (fun i _ => m - (intOf i).toNat)
      case atStart => exact ⟨0, Nat.zero_le _, rfl, Below.refl _ _⟩
      case round =>
        obtain ⟨k, hk, rfl, hbel⟩ := hrel
        obtain ⟨wo, hwo⟩ : ∃ wo, wo = wr := ⟨_, rfl⟩
        subst hwo
        have HBL := hide hbel
        clear hbel
        by_cases hlt : k < m
        · have hck := (HBL.out.cell (p := ⟨rb, roff + k, none⟩) (by show rb < _; omega)).trans (HRC.out k hlt)
          have hIk := (HRI.out k hlt)
          rw [HF3.out k hlt] at hck hIk
          obtain ⟨kb, koff, hka, _, hkb, hkc⟩ := hIk.2.2 (by omega)
          rw [hka] at hck
          obtain ⟨CK, hCK⟩ : ∃ CK, CK = CR k := ⟨_, rfl⟩
          rw [← hCK] at hck
          have HKC := hide hkc
          have HMK := hide (fun j (hj : j < m) => HM.out k j hlt hj)
          clear hIk hkc hka hCK
          go_wp2_with fail
          go_loopw [10, 11] (fun t j wq => ∃ q : Nat, q ≤ m ∧ j = .int .i64 (q : Int) ∧ t = .int .i64 ((Sv.dot (M k) x q : Nat) : Int) ∧ Below w4.heap.size w4 wq) (fun _ j _ => m - (intOf j).toNat)
          case atStart => exact ⟨0, Nat.zero_le _, rfl, rfl, HBL.out⟩
          case round =>
            obtain ⟨q, hq, rfl, rfl, hbq⟩ := hrel
            have HBQ := hide hbq
            clear hbq
            by_cases hqt : q < m
            · have hcr := (HBQ.out.cell (p := ⟨rb, roff + k, none⟩) (by show rb < _; omega)).trans ((HBL.out.cell (p := ⟨rb, roff + k, none⟩) (by show rb < _; omega)).symm.trans hck)
              have hcm := (HBQ.out.cell (p := ⟨kb, koff + q, none⟩) (by show kb < _; omega)).trans (HKC.out q hqt)
              have hcx := (HBQ.out.cell (p := ⟨ob, ooff + q, none⟩) (by show ob < _; omega)).trans (HOC.out q hqt)
              obtain ⟨hm1, hm2⟩ := HMK.out q hqt
              obtain ⟨hx1, hx2⟩ := HXX.out q hqt
              unfold cellI at hcm hcx
              rw [hm1] at hcm
              rw [hx1] at hcx
              have HD : Hid (Sv.dot (M k) x (q + 1) = Sv.dot (M k) x q ^^^ Field.mul (M k q) (x q)) := rfl
              have hd8 : Sv.dot (M k) x q < 256 := Sv.dot_lt (fun j hj => (HMK.out j (by omega)).2)
              generalize M k q = A at hcm hm2 HD
              generalize x q = B at hcx hx2 HD
              generalize Sv.dot (M k) x q = D at hd8 HD
              clear hm1 hx1 hck
              have HP := fun wz => hide (specProduct_any (A : Int) (B : Int) wz)
              have HSU := fun wz => hide (specSum_any (D : Int) ((Field.mul A B : Nat) : Int) wz)
              rw [mulI_nat hm2 hx2] at HP
              rw [sumI_nat hd8 (Field.mul_lt hm2)] at HSU
              go_wp2_with fail
              go_quiet (first | (go_at_call 34; exact Calls.quiet_of_same ((HP _).out.mono fun e w' hh => ⟨hh.1, hh.2.symm⟩)) | (go_at_call 33; exact Calls.quiet_of_same ((HSU _).out.mono fun e w' hh => ⟨hh.1, hh.2.symm⟩)))
              go_wp2_with fail
              go_roundw
              case rel => exact ⟨q + 1, by omega, by go_num, by rw [HD.out], below_drewN HBQ.out _⟩
              case measure => simp [intOf]; omega
            · obtain rfl : q = m := by omega
              have hcy := (HBQ.out.cell (p := ⟨yb, yoff + k, none⟩) (by show yb < _; omega)).trans (HYC.out k hlt)
              unfold cellI at hcy
              rw [HRR.out k hlt] at hcy
              rw [HDOT.out k hlt]
              generalize R k = RK at hcy
              clear hck
              go_wp2_with fail
              go_roundw
              case rel => exact ⟨k + 1, by omega, by go_num, HBQ.out⟩
              case measure => simp [intOf]; omega
        · obtain rfl : k = m := by omega
          by_cases h2 : k < 2
          · go_wp2_with fail
            go_ret
            exact ⟨rfl, below_here HB1.out (HB4.out.trans (HBL.out.mono HB4.out.size))⟩
          · have HE := hide (own_made0 wo 44)
            have HBE := hide ((Below.refl wo.heap.size wo).alloc (Nat.le_refl _) (.cells #[] 44))
            go_wp2_with fail
            go_loopw [12, 13] (fun v i wq => ∃ q : Nat, q ≤ k ∧ i = .int .i64 (q : Int) ∧ wq.ownsRow wo.heap.size 44 1 v q ((List.range q).map fun i => Value.slice (AR i) (xss.getD i []).length (CR i)) ∧ Below wo.heap.size wo wq) (fun _ i _ => k - (intOf i).toNat)
            case atStart => exact ⟨0, Nat.zero_le _, rfl, HE.out, HBE.out⟩
            case round =>
              obtain ⟨q, hq, rfl, hown, hbq⟩ := hrel
              have HOWN := hide hown
              have HBQ := hide hbq
              have hsq := hbq.size
              have hs4 := HBL.out.size
              clear hown hbq HE HBE
              by_cases hqt : q < k
              · have hcr := (HBQ.out.cell (p := ⟨rb, roff + q, none⟩) (by show rb < _; omega)).trans ((HBL.out.cell (p := ⟨rb, roff + q, none⟩) (by show rb < _; omega)).trans (HRC.out q hqt))
                obtain ⟨V, hV⟩ : ∃ V, V = Value.slice (AR q) (xss.getD q []).length (CR q) := ⟨_, rfl⟩
                have HV := hide hV
                have H1 : Hid (((List.range (q + 1)).map fun i => Value.slice (AR i) (xss.getD i []).length (CR i)) = ((List.range q).map fun i => Value.slice (AR i) (xss.getD i []).length (CR i)) ++ [.slice (AR q) (xss.getD q []).length (CR q)]) := by show _ = _; rw [List.range_succ, List.map_append]; rfl
                generalize (xss.getD q []).length = z at hcr H1
                generalize AR q = aq at hcr H1
                generalize CR q = cq at hcr H1
                clear hV HV
                have HO3 := hide (HOWN.out.alloc (.cells #[.slice aq z cq] 44))
                have HB3 := hide (HBQ.out.alloc hsq (.cells #[.slice aq z cq] 44))
                go_wp2_with (at_builtin; (refine wpList_append_own _ rfl (.tmp 91) (.tmp 96) 43 rfl wo.heap.size 44 j0 (.slice none 0 0) 1 24 Try.underlying43 hj0 hy0 hy1 hy2 rfl (by decide) _ _ _ rfl HO3.out ⟨wr.heap.size, 0, none⟩ 1 1 [.slice aq z cq] rfl rfl (cell_one_new _ _ _) (by simp [Value.oneCell']) (by unfold maxLen; omega) (by omega) (by simp; omega) ?_); intro v' w5 hown hgrow _; have HO5 := hide hown; have HB5 := hide (HB3.out.grown hgrow (by simp; omega) (fun k hk => (HO3.out.lt k hk).1)); clear hown hgrow)
                go_roundw
                case rel => exact ⟨q + 1, by omega, by go_num, by rw [H1.out]; exact HO5.out, HB5.out⟩
                case measure => simp [intOf]; omega
              · obtain rfl : q = k := by omega
                obtain ⟨a5, cap5, hu5, hcap5, hlen5, hsome5, _⟩ := owned_of_own HOWN.out
                obtain ⟨g, rfl⟩ := hsome5 (by omega)
                subst hu5
                have hcr := (HBQ.out.cell (p := ⟨rb, roff + 1, none⟩) (by show rb < _; omega)).trans ((HBL.out.cell (p := ⟨rb, roff + 1, none⟩) (by show rb < _; omega)).trans (HRC.out 1 (by omega)))
                rw [HF3.out 1 (by omega)] at hcr
                obtain ⟨hcg, hfg, _, _⟩ := (own_at HOWN.out).at0 (i := 0) (by omega)
                obtain ⟨hg1, hg2⟩ := own_block_lt HOWN.out
                have hg0 : ((List.range q).map fun i => Value.slice (AR i) (xss.getD i []).length (CR i)).getD 0 (.int .i64 0) = .slice (AR 0) q (CR 0) := by
                  rw [List.getD_eq_getElem?_getD, List.getElem?_map, List.getElem?_range (by omega)]
                  show Value.slice (AR 0) (xss.getD 0 []).length (CR 0) = _
                  rw [HF3.out 0 (by omega)]
                rw [hg0] at hcg
                have hB6 : Below wo.heap.size wo (wr.setCell ⟨g, 0, none⟩ (.slice (AR 1) q (CR 1))) := HBQ.out.setCell (p := ⟨g, 0, none⟩) hg1 _
                have HB6 := hide hB6
                have hs6 := hB6.size
                have HR6 : Hid (Rows2 0 (wr.setCell ⟨g, 0, none⟩ (.slice (AR 1) q (CR 1))).heap.size (wr.setCell ⟨g, 0, none⟩ (.slice (AR 1) q (CR 1))) (some ⟨g, 0, none⟩) q (xss.set 0 (xss.getD 1 []))) := by
                  have hln := HLN.out
                  have hgs : ∀ i, (xss.set 0 (xss.getD 1 [])).getD i [] = if i = 0 then xss.getD 1 [] else xss.getD i [] := fun i => by
                    by_cases e : i = 0
                    · subst e; simp [List.getD_eq_getElem?_getD, show 0 < xss.length by omega]
                    · rw [if_neg e, List.getD_eq_getElem?_getD, List.getElem?_set_ne (fun h => e h.symm), List.getD_eq_getElem?_getD]
                  have hgl : ∀ i, i < q → ((xss.set 0 (xss.getD 1 [])).getD i []).length = q := fun i hi => by
                    rw [hgs i]
                    split
                    · exact HF3.out 1 (by omega)
                    · exact HF3.out i hi
                  refine ⟨by rw [List.length_set]; exact hln, fun i => if i = 0 then AR 1 else AR i, fun i => if i = 0 then CR 1 else CR i, ?_, ?_⟩
                  · refine ((((own_at HOWN.out).set0 (i := 0) (by omega) (.slice (AR 1) q (CR 1))).congr (fun i hi => ?_)).reads).wide (Nat.zero_le _) (by rw [Go.Deep.nblk_setCell]; omega) (Nat.le_refl _)
                    rw [hgl i hi]
                    dsimp only
                    by_cases e : i = 0
                    · rw [if_pos e, if_pos e, if_pos e]
                    · rw [if_neg e, if_neg e, if_neg e, List.getD_eq_getElem?_getD, List.getElem?_map, List.getElem?_range hi]
                      show Value.slice (AR i) (xss.getD i []).length (CR i) = _
                      rw [HF3.out i hi]
                  · intro i hi
                    rw [hgs i]
                    dsimp only
                    by_cases e : i = 0
                    · rw [if_pos e, if_pos e]
                      exact (((HRI.out 1 (by omega)).later HBL.out (by omega)).later hB6 (by omega)).wide (Nat.le_refl _) (by omega) (Nat.le_refl _)
                    · rw [if_neg e, if_neg e]
                      exact (((HRI.out i hi).later HBL.out (by omega)).later hB6 (by omega)).wide (Nat.le_refl _) (by omega) (Nat.le_refl _)
                have HX6 : Hid (∀ s ∈ xss.set 0 (xss.getD 1 []), s.length ≤ 1048576) := fun s hs => by
                  rcases List.mem_or_eq_of_mem_set hs with h | h
                  · exact HX.out s h
                  · rw [h, HF3.out 1 (by omega)]; omega
                have HY6 := hide (((HY.out.later HB4.out (Nat.le_refl _)).later HBL.out (by omega)).later hB6 (by omega))
                have HBF := hide (below_here HB1.out (HB4.out.trans ((HBL.out.mono HB4.out.size).trans (hB6.mono (by omega)))))
                have HTW := hide (fun (o : List Int) (b : Bool) (h : Answer (xss.set 0 (xss.getD 1 [])) ys o b) => solved_twice HLN.out (by omega) h)
                clear hB6 hg0
                generalize xss.set 0 (xss.getD 1 []) = yss at HR6 HX6 HTW
                go_wp2_with fail
                refine (implSolved_any (some ⟨g, 0, none⟩) q cap5 yss _ q yc ys _ HR6.out HY6.out (by omega) (by omega) HX6.out).mono ?_
                rintro e w7 ⟨p7, m7, c7, out7, t7, rfl, hm7, o7, A7, b7⟩
                obtain rfl := HTW.out _ _ A7
                have HB7 := hide (below_here HBF.out b7)
                clear A7 b7 o7
                go_wp2_with fail
                go_ret
                exact ⟨rfl, HB7.out⟩

/-! ### THE ROW's STEP: WRITTEN OUT: LEAVE IT -/
set_option maxRecDepth 100000 in
theorem lifted (os : Os) (started : os.Started) (H : Type) (enc : TypeId × Value → H) :
    ReturnsInHanded {} Try.checked os 5 .any (Rows.fnSolvedSpec.pre6 enc Try.prog Try.f5 Rows.fnSolvedRow.domain false) (Rows.fnSolvedSpec.post enc Try.prog Try.f5 false true false false) := by
  refine returnsInHanded_of_change (C := Try.checked) own started (by kernel_rfl) Try.func5
    (ChangeSpec.witness6 (enc := enc) (C := Try.checked) false ⟨#[], #[.slice none 0 0], []⟩ 8 (by kernel_rfl) (by kernel_rfl) (by kernel_rfl) (by kernel_rfl)) ?_
  intro W base args ds gs before hval0 hW hcnd _
  have hval : ∀ (j : Nat) t v, Try.f5.params[j]? = some t → args[j]? = some v → Value.okWide Try.prog W .any base t v := hval0
  have hW' := hW
  obtain ⟨p, q, hA0, hV, rfl, hfz, hnd⟩ := hW
  have hA : DataW.TrodAll enc Try.prog W 0 (fun _ => true) true Try.f5.params.toList args.toList ds p := hA0
  rw [Try.params5] at hA hval
  obtain ⟨v0, vs0, d0, ds0, p0, q0, hargs, rfl, rfl, h0, r0⟩ := trodAll_cons hA
  obtain ⟨rfl, rfl, rfl⟩ := trodAll_nil r0
  obtain rfl : args = #[v0] := by cases args; simp_all
  obtain ⟨rfl, rfl⟩ := trodVars_none hV
  obtain ⟨a0, len0, cap0, rfl⟩ := okWide_slice Try.underlying22 (hval 0 22 v0 rfl rfl)
  have k0 := h0
  have lt0 : ∀ x ∈ p0, x.block < W.heap.size := by obtain ⟨m, hm⟩ := k0; exact DataW.trod_lt m _ _ _ hm
  obtain ⟨z0, w0⟩ : ∃ zs, IsRow .u8 W a0 len0 cap0 zs := by
    obtain ⟨fuel, hf⟩ := h0
    rcases open_ints Try.underlying22 Try.underlying5 (by kernel_rfl) hf with ⟨hcs, _⟩ | ⟨x, l, c, zs, hcs, _, hl, hm, hz, _, hcell, hwz⟩
    · simp [Value.cells] at hcs
      obtain ⟨rfl, rfl, rfl⟩ := hcs
      exact ⟨[], .inl ⟨rfl, rfl, rfl, rfl⟩⟩
    · simp [Value.cells] at hcs
      obtain ⟨rfl, rfl, rfl⟩ := hcs
      exact ⟨zs, .inr ⟨_, rfl, hl, hm, by simpa using hz, hcell, hwz⟩⟩
  clear hA0 hval0
  refine (walk a0 len0 cap0 z0 W w0).mono fun e W' ⟨he, bel⟩ => ?_
  subst he
  exact ⟨_, rfl, _, _, _, [], _, [], hW', trodAll_mk1 (shut_bool Try.underlying4 _), (trodAll_cons_mk (Below.trod laidOut (by kernel_rfl) (of_decide_eq_true (by kernel_rfl)) k0 bel lt0) trodAll_mk0), rfl, bel.frame _, fun h => by cases h⟩

theorem over : Rows.fnSolvedRow.holds Try.pinned (OpenSpec.ofChange Rows.fnSolvedSpec) :=
  OpenClaim.holds_of_wide 5 Try.f5 rfl rfl rfl rfl rfl rfl rfl ⟨rfl, rfl, rfl, rfl, rfl⟩ rfl rfl rfl rfl rfl (by kernel_rfl) Try.func5 (by kernel_rfl)
    (of_decide_eq_true (by kernel_rfl)) (by unfold Func.isWrapper; first | (rw [if_pos (by decide +kernel)]; kernel_rfl) | (rw [if_neg (by decide +kernel)]; exact ⟨rfl, rfl⟩))
    (fun os started H enc _ => lifted os started H enc)

/-- ████ THE STATEMENT ████ -/
theorem proved : Rows.FnSolvedSaid := over
#print axioms proved
end Go.Proofs.Ytacjaoeghjkhoab.fnSolved
