/- For every slice of bytes the law FnField returns true and leaves its argument as it was; no condition. -/
import Derived.Test.YtigfhhififcllaaRows
import Derived.Test.YtigfhhififcllaaFieldLaw
import Derived.Test.YtigfhhififcllaaDraw2
import Derived.Deep.DeepCutAuto
import Derived.WalkKit
import Derived.ProofKit
import Derived.OpenShut
import Derived.ShutString
import Derived.ChangeOld
import Derived.Below
namespace Go.Proofs.Ytigfhhififcllaa.fnField
open Go.ChangeShapes Go.WideShapes Go.ChangeAt Go.RowKit
open Go.ChangeMaps (open_string shut_string)
set_option linter.unusedVariables false

theorem own : ownKnob Try.prog.godebug = none := by kernel_rfl
theorem laidOut : laidOutB Try.prog = true := by kernel_rfl

/-- WHAT THE WALK IS TOLD OF A SLICE OF INTEGERS THAT CAME IN: it is nil; or it leads to a row of 'cap' cells, the numbers 'zs' (the first 'len' are its elements, the rest its spare room), each fitting its kind. -/
def IsRow (k : IntKind) (w : World) (a : Option Addr) (len cap : Nat) (zs : List Int) : Prop :=
  (a = none ∧ len = 0 ∧ cap = 0 ∧ zs = []) ∨
  ∃ x, a = some x ∧ len ≤ cap ∧ cap ≤ maxLen ∧ zs.length = cap ∧ (∀ i, i < zs.length → w.cell? (x.add i) = some (.int k (zs.getD i 0))) ∧ ∀ n ∈ zs, (Lit.int k n).wf = true

set_option maxHeartbeats 3200000 in
set_option maxRecDepth 100000 in

theorem walk (a0 : Option Addr) (len0 cap0 : Nat) (z0 : List Int) (w : World) (w0 : IsRow .u8 w a0 len0 cap0 z0) :
    Calls Try.prog 4 #[.slice a0 len0 cap0] w fun e w' => e = .returned (.bool true) ∧ Below w.heap.size w w' := by
  obtain ⟨l, hA⟩ : ∃ l, Bytes 0 w.heap.size w a0 len0 l := ⟨_, bytes_of (by unfold IsRow at w0; exact w0)⟩
  have hlen : len0 ≤ 9223372036854775807 := by
    rcases w0 with ⟨_, rfl, _, _⟩ | ⟨x, _, hl, hm, _⟩
    · omega
    · unfold maxLen at hm; omega
  clear w0
  by_cases hbig : 4096 < len0
  · have hb' : decide (4096 < len0) = true := by simpa using hbig
    go_enter Try.func4, Try.ntmps4
    go_wp2_with fail
    refine (big_any a0 len0 cap0 w hlen).mono ?_
    rintro e w1 ⟨rfl, rfl⟩
    go_wp2_with fail
    go_ret
    exact ⟨rfl, Below.refl _ _⟩
  · have hb' : decide (4096 < len0) = false := by simpa using hbig
    have hsmall : len0 ≤ 4096 := by omega
    have HA := hide hA
    clear hA hbig
    go_enter Try.func4, Try.ntmps4
    go_wp2_with fail
    refine (big_any a0 len0 cap0 w hlen).mono ?_
    rintro e w1 ⟨rfl, rfl⟩
    go_wp2_with fail
    refine (drawProduct_any a0 len0 cap0 l w HA.out hsmall).mono ?_
    rintro e w1 ⟨x, y, rfl, b1⟩
    have HB1 := hide b1
    clear b1
    go_wp2_with fail
    refine (drawPower_any a0 len0 cap0 l w1 (HA.out.later HB1.out (Nat.le_refl _)) hsmall).mono ?_
    rintro e w2 ⟨X, N, rfl, hN, b2⟩
    have HB2 := hide (below_here HB1.out b2)
    have HN := hide hN
    clear b2 HB1 hN
    obtain ⟨P, hP⟩ : ∃ P, mulI x y = P := ⟨_, rfl⟩
    have HP := hide hP
    clear hP
    go_wp2_with fail
    refine (prod_to x y P HP.out w2).mono ?_
    rintro e w3 ⟨rfl, b3⟩
    have HB3 := hide (below_here HB2.out b3)
    clear b3 HB2
    go_wp2_with fail
    refine Calls.mono (show Calls Try.prog 31 #[.int .i64 x, .int .i64 y] w3 (fun e w' => e = .returned (.int .i64 P) ∧ w3 = w') from HP.out ▸ specProduct_any x y w3) ?_
    rintro e w4 ⟨rfl, rfl⟩
    go_wp2_with fail
    refine (implSum_any x y w3).mono ?_
    rintro e w4 ⟨rfl, rfl⟩
    go_wp2_with fail
    refine (specSum_any x y w3).mono ?_
    rintro e w4 ⟨rfl, rfl⟩
    go_wp2_with fail
    refine (implOver_any x y w3).mono ?_
    rintro e w4 ⟨rfl, b4⟩
    have HB4 := hide (below_here HB3.out b4)
    clear b4 HB3
    go_wp2_with fail
    refine (specOver_any x y w4).mono ?_
    rintro e w5 ⟨rfl, rfl⟩
    go_wp2_with fail
    refine (implPower_any X N HN.out w4).mono ?_
    rintro e w5 ⟨rfl, b5⟩
    have HB5 := hide (below_here HB4.out b5)
    clear b5 HB4
    go_wp2_with fail
    refine (specPower_any X N HN.out w5).mono ?_
    rintro e w6 ⟨rfl, rfl⟩
    go_wp2_with fail
    refine (implInverse_any X w5).mono ?_
    rintro e w6 ⟨rfl, b6⟩
    have HB6 := hide (below_here HB5.out b6)
    clear b6 HB5
    go_wp2_with fail
    refine (specInverse_any X w6).mono ?_
    rintro e w7 ⟨rfl, rfl⟩
    cases hx : elem x
    · obtain rfl : P = -1 := by rw [← HP.out, mulI_no (.inl hx)]
      by_cases h1 : x < 0
      · go_wp2_with fail
        go_ret
        exact ⟨rfl, HB6.out⟩
      · have h2 : 255 < x := by have := elem_out hx; omega
        go_wp2_with fail
        go_ret
        exact ⟨rfl, HB6.out⟩
    · have hxb := elem_bd hx
      cases hy : elem y
      · obtain rfl : P = -1 := by rw [← HP.out, mulI_no (.inr hy)]
        have h1 : ¬ x < 0 := by omega
        have h2 : ¬ 255 < x := by omega
        clear hxb
        by_cases h3 : y < 0
        · go_wp2_with fail
          go_ret
          exact ⟨rfl, HB6.out⟩
        · have h4 : 255 < y := by have := elem_out hy; omega
          go_wp2_with fail
          go_ret
          exact ⟨rfl, HB6.out⟩
      · have HEx := hide hx
        have HEy := hide hy
        have HEP : Hid (elem P = true) := by have := mulI_elem hx hy; rw [HP.out] at this; exact this
        have hP0 : ¬ P < 0 := by have := elem_bd HEP.out; omega
        clear hx hy hxb
        go_wp2_with fail
        refine (pick_any a0 len0 cap0 l 1 256 w6 (HA.out.later HB6.out (Nat.le_refl _)) hsmall (by omega) (by omega) (by omega) (by omega)).mono ?_
        rintro e w7 ⟨z, rfl, z0, z1, rfl⟩
        have HEz : Hid (elem z = true) := by show elem z = true; simp [elem, inB]; omega
        clear z0 z1
        obtain ⟨R, hR⟩ : ∃ R, mulI x z = R := ⟨_, rfl⟩
        have HR := hide hR
        clear hR
        obtain ⟨U, hU⟩ : ∃ U, mulI y z = U := ⟨_, rfl⟩
        have HU := hide hU
        clear hU
        obtain ⟨S, hS⟩ : ∃ S, sumI y z = S := ⟨_, rfl⟩
        have HS := hide hS
        clear hS
        obtain ⟨V, hV⟩ : ∃ V, sumI x y = V := ⟨_, rfl⟩
        have HV := hide hV
        clear hV
        obtain ⟨Q, hQ⟩ : ∃ Q, mulI x S = Q := ⟨_, rfl⟩
        have HQ := hide hQ
        clear hQ
        obtain ⟨T, hT⟩ : ∃ T, mulI x U = T := ⟨_, rfl⟩
        have HT := hide hT
        clear hT
        obtain ⟨K, hK⟩ : ∃ K, sumI x S = K := ⟨_, rfl⟩
        have HK := hide hK
        clear hK
        obtain ⟨O, hO⟩ : ∃ O, overI x y = O := ⟨_, rfl⟩
        have HO := hide hO
        clear hO
        obtain ⟨I, hI⟩ : ∃ I, invI x = I := ⟨_, rfl⟩
        have HI := hide hI
        clear hI
        go_upto_region 11 with fail
        go_cut [9] (fun c wx => c = .bool true ∧ Below w6.heap.size w6 wx)
        case first =>
          by_cases hx0 : x = 0
          · have hx1 : (x == 0) = true := by simpa using hx0
            clear hx0
            go_wp2_with fail
            go_meet
            exact ⟨rfl, Below.refl _ _⟩
          · have HX := hide hx0
            have hx1 : (x == 0) = false := by simpa using hx0
            clear hx0
            go_wp2_with fail
            refine (inverse_to x I HI.out _).mono ?_
            rintro e u1 ⟨rfl, d1⟩
            go_wp2_with fail
            refine (prod_to x I 1 (by rw [← HI.out]; exact mul_invI HEx.out HX.out) _).mono ?_
            rintro e u2 ⟨rfl, d2⟩
            go_wp2_with fail
            refine (power_to x 255 1 (by omega) (powI_255 HEx.out HX.out) _).mono ?_
            rintro e u3 ⟨rfl, d3⟩
            go_wp2_with fail
            go_meet
            exact ⟨rfl, below_here (below_here d1 d2) d3⟩
        case rest =>
          obtain ⟨rfl, hbc⟩ := hcut
          have HB7 := hide (below_here HB6.out hbc)
          clear hbc HB6
          go_upto_region 12 with fail
          go_cut [10] (fun c wx => c = .bool true ∧ wx = wc)
          case first =>
            by_cases hp0 : P = 0
            · have hp1 : (P != 0) = false := by simp [hp0]
              have hxy : x = 0 ∨ y = 0 := mulI_nought HEx.out HEy.out (by rw [HP.out]; exact hp0)
              clear hp0
              by_cases hx0 : x = 0
              · have hx1 : (x == 0) = true := by simpa using hx0
                clear hx0 hxy
                go_wp2_with fail
                go_meet
                exact ⟨rfl, rfl⟩
              · have hx1 : (x == 0) = false := by simpa using hx0
                have hy1 : (y == 0) = true := by rcases hxy with h | h; exact absurd h hx0; simpa using h
                clear hx0 hxy
                go_wp2_with fail
                go_meet
                exact ⟨rfl, rfl⟩
            · have hp1 : (P != 0) = true := by simpa using hp0
              clear hp0
              go_wp2_with fail
              go_meet
              exact ⟨rfl, rfl⟩
          case rest =>
            obtain ⟨rfl, rfl⟩ := hcut
            go_wp2_with fail
            refine (prod_to y x P (by rw [mulI_comm HEx.out HEy.out]; exact HP.out) _).mono ?_
            rintro e w8 ⟨rfl, b8⟩
            have HB8 := hide (below_here HB7.out b8)
            clear b8 HB7
            go_wp2_with fail
            refine (sum_to x x 0 (sumI_self HEx.out) _).mono ?_
            rintro e wx ⟨rfl, rfl⟩
            go_wp2_with fail
            refine (sum_to y z S HS.out _).mono ?_
            rintro e wx ⟨rfl, rfl⟩
            go_wp2_with fail
            refine (prod_to x S Q HQ.out _).mono ?_
            rintro e w9 ⟨rfl, b9⟩
            have HB9 := hide (below_here HB8.out b9)
            clear b9 HB8
            go_wp2_with fail
            refine (prod_to x z R HR.out _).mono ?_
            rintro e w10 ⟨rfl, b10⟩
            have HB10 := hide (below_here HB9.out b10)
            clear b10 HB9
            go_wp2_with fail
            refine (sum_to P R Q (by rw [← HQ.out, ← HS.out, mulI_sumI HEx.out HEy.out HEz.out, HP.out, HR.out]) _).mono ?_
            rintro e wx ⟨rfl, rfl⟩
            go_wp2_with fail
            refine (prod_to P z T (by rw [← HT.out, ← HU.out, ← mulI_assoc HEx.out HEy.out HEz.out, HP.out]) _).mono ?_
            rintro e w11 ⟨rfl, b11⟩
            have HB11 := hide (below_here HB10.out b11)
            clear b11 HB10
            go_wp2_with fail
            refine (prod_to y z U HU.out _).mono ?_
            rintro e w12 ⟨rfl, b12⟩
            have HB12 := hide (below_here HB11.out b12)
            clear b12 HB11
            go_wp2_with fail
            refine (prod_to x U T HT.out _).mono ?_
            rintro e w13 ⟨rfl, b13⟩
            have HB13 := hide (below_here HB12.out b13)
            clear b13 HB12
            by_cases hy0 : y = 0
            · have hy1 : (y == 0) = true := by simpa using hy0
              clear hy0
              go_wp2_with fail
              refine (sum_to x y V HV.out _).mono ?_
              rintro e wx ⟨rfl, rfl⟩
              go_wp2_with fail
              refine (sum_to V z K (by rw [← HV.out, sumI_assoc HEx.out HEy.out HEz.out, HS.out, HK.out]) _).mono ?_
              rintro e wx ⟨rfl, rfl⟩
              go_wp2_with fail
              refine (sum_to y z S HS.out _).mono ?_
              rintro e wx ⟨rfl, rfl⟩
              go_wp2_with fail
              refine (sum_to x S K HK.out _).mono ?_
              rintro e wx ⟨rfl, rfl⟩
              go_wp2_with fail
              go_ret
              exact ⟨rfl, HB13.out⟩
            · have HY := hide hy0
              have hy1 : (y == 0) = false := by simpa using hy0
              clear hy0
              go_wp2_with fail
              refine (over_to x y O HO.out _).mono ?_
              rintro e w14 ⟨rfl, b14⟩
              have HB14 := hide (below_here HB13.out b14)
              clear b14 HB13
              go_wp2_with fail
              refine (prod_to O y x (by rw [← HO.out]; exact over_mul HEx.out HEy.out HY.out) _).mono ?_
              rintro e w15 ⟨rfl, b15⟩
              have HB15 := hide (below_here HB14.out b15)
              clear b15 HB14
              go_wp2_with fail
              refine (sum_to x y V HV.out _).mono ?_
              rintro e wx ⟨rfl, rfl⟩
              go_wp2_with fail
              refine (sum_to V z K (by rw [← HV.out, sumI_assoc HEx.out HEy.out HEz.out, HS.out, HK.out]) _).mono ?_
              rintro e wx ⟨rfl, rfl⟩
              go_wp2_with fail
              refine (sum_to y z S HS.out _).mono ?_
              rintro e wx ⟨rfl, rfl⟩
              go_wp2_with fail
              refine (sum_to x S K HK.out _).mono ?_
              rintro e wx ⟨rfl, rfl⟩
              go_wp2_with fail
              go_ret
              exact ⟨rfl, HB15.out⟩

/-! ### THE ROW's STEP: WRITTEN OUT: LEAVE IT -/
set_option maxRecDepth 100000 in
theorem lifted (os : Os) (started : os.Started) (H : Type) (enc : TypeId × Value → H) :
    ReturnsInHanded {} Try.checked os 4 .any (Rows.fnFieldSpec.pre6 enc Try.prog Try.f4 Rows.fnFieldRow.domain false) (Rows.fnFieldSpec.post enc Try.prog Try.f4 false true false false) := by
  refine returnsInHanded_of_change (C := Try.checked) own started (by kernel_rfl) Try.func4
    (ChangeSpec.witness6 (enc := enc) (C := Try.checked) false ⟨#[], #[.slice none 0 0], []⟩ 8 (by kernel_rfl) (by kernel_rfl) (by kernel_rfl) (by kernel_rfl)) ?_
  intro W base args ds gs before hval0 hW hcnd _
  have hval : ∀ (j : Nat) t v, Try.f4.params[j]? = some t → args[j]? = some v → Value.okWide Try.prog W .any base t v := hval0
  have hW' := hW
  obtain ⟨p, q, hA0, hV, rfl, hfz, hnd⟩ := hW
  have hA : DataW.TrodAll enc Try.prog W 0 (fun _ => true) true Try.f4.params.toList args.toList ds p := hA0
  rw [Try.params4] at hA hval
  obtain ⟨v0, vs0, d0, ds0, p0, q0, hargs, rfl, rfl, h0, r0⟩ := trodAll_cons hA
  obtain ⟨rfl, rfl, rfl⟩ := trodAll_nil r0
  obtain rfl : args = #[v0] := by cases args; simp_all
  obtain ⟨rfl, rfl⟩ := trodVars_none hV
  obtain ⟨a0, len0, cap0, rfl⟩ := okWide_slice Try.underlying22 (hval 0 22 v0 rfl rfl)
  have k0 := h0
  have lt0 : ∀ x ∈ p0, x.block < W.heap.size := by obtain ⟨m, hm⟩ := k0; exact DataW.trod_lt m _ _ _ hm
  obtain ⟨z0, w0⟩ : ∃ zs, IsRow .u8 W a0 len0 cap0 zs := by
    obtain ⟨fuel, hf⟩ := h0
    rcases open_ints Try.underlying22 Try.underlying5 (by kernel_rfl) hf with ⟨hcs, _⟩ | ⟨x, l, c, zs, hcs, _, hl, hm, hz, _, hcell, hwz⟩
    · simp [Value.cells] at hcs
      obtain ⟨rfl, rfl, rfl⟩ := hcs
      exact ⟨[], .inl ⟨rfl, rfl, rfl, rfl⟩⟩
    · simp [Value.cells] at hcs
      obtain ⟨rfl, rfl, rfl⟩ := hcs
      exact ⟨zs, .inr ⟨_, rfl, hl, hm, by simpa using hz, hcell, hwz⟩⟩
  clear hA0 hval0
  refine (walk a0 len0 cap0 z0 W w0).mono fun e W' ⟨he, bel⟩ => ?_
  subst he
  exact ⟨_, rfl, _, _, _, [], _, [], hW', trodAll_mk1 (shut_bool Try.underlying4 _), (trodAll_cons_mk (Below.trod laidOut (by kernel_rfl) (of_decide_eq_true (by kernel_rfl)) k0 bel lt0) trodAll_mk0), rfl, bel.frame _, fun h => by cases h⟩

theorem over : Rows.fnFieldRow.holds Try.pinned (OpenSpec.ofChange Rows.fnFieldSpec) :=
  OpenClaim.holds_of_wide 4 Try.f4 rfl rfl rfl rfl rfl rfl rfl ⟨rfl, rfl, rfl, rfl, rfl⟩ rfl rfl rfl rfl rfl (by kernel_rfl) Try.func4 (by kernel_rfl)
    (of_decide_eq_true (by kernel_rfl)) (by unfold Func.isWrapper; first | (rw [if_pos (by decide +kernel)]; kernel_rfl) | (rw [if_neg (by decide +kernel)]; exact ⟨rfl, rfl⟩))
    (fun os started H enc _ => lifted os started H enc)

/-- ████ THE STATEMENT ████ -/
theorem proved : Rows.FnFieldSaid := over
#print axioms proved
end Go.Proofs.Ytigfhhififcllaa.fnField
