/- For every slice of bytes the law FnWoven returns true and leaves its argument as it was; no condition. -/
import Derived.Test.YtgofmegjanekhabRows
import Derived.Test.YtgofmegjanekhabWeaveImpl
import Derived.Test.YtgofmegjanekhabWeaveNear
import Derived.Test.YtgofmegjanekhabWeaveSpec2
import Derived.Test.YtgofmegjanekhabWeaveLaw
import Derived.Test.YtgofmegjanekhabDraw5
import Derived.Test.YtgofmegjanekhabLawBase
import Derived.WalkKit
import Derived.ProofKit
import Derived.OpenShut
import Derived.ShutString
import Derived.ChangeOld
import Derived.Below
namespace Go.Proofs.Ytgofmegjanekhab.fnWoven
open Go.ChangeShapes Go.WideShapes Go.ChangeAt Go.RowKit
open Go.ChangeMaps (open_string shut_string)
set_option linter.unusedVariables false

theorem own : ownKnob Try.prog.godebug = none := by kernel_rfl
theorem laidOut : laidOutB Try.prog = true := by kernel_rfl

/-- WHAT THE WALK IS TOLD OF A SLICE OF INTEGERS THAT CAME IN: it is nil; or it leads to a row of 'cap' cells, the numbers 'zs' (the first 'len' are its elements, the rest its spare room), each fitting its kind. -/
def IsRow (k : IntKind) (w : World) (a : Option Addr) (len cap : Nat) (zs : List Int) : Prop :=
  (a = none ∧ len = 0 ∧ cap = 0 ∧ zs = []) ∨
  ∃ x, a = some x ∧ len ≤ cap ∧ cap ≤ maxLen ∧ zs.length = cap ∧ (∀ i, i < zs.length → w.cell? (x.add i) = some (.int k (zs.getD i 0))) ∧ ∀ n ∈ zs, (Lit.int k n).wf = true

theorem text_eqw (s t : ByteArray) : (s.toList == t.toList) = decide (s = t) := by
  rw [ByteArray.toList_eq, ByteArray.toList_eq]
  by_cases h : s = t
  · subst h; simp
  · have : ¬ s.data = t.data := fun e => h (ByteArray.ext e)
    simp [h, this]
theorem text_samew (t : ByteArray) : (t.toList == t.toList) = true := by rw [text_eqw]; simp
theorem implWoven_to (s t : ByteArray) (d : Int) (h : woven s d = t) (w : World) (hs : s.size ≤ 1048576) :
    Calls Try.prog 6 #[.string s, .int .i64 d] w fun e w' => e = .returned (.string t) ∧ Below w.heap.size w w' := by subst h; exact implWoven_any s d w hs
theorem specWoven_to (s t : ByteArray) (d : Int) (h : woven s d = t) (w : World) (hs : s.size ≤ 1048576) :
    Calls Try.prog 10 #[.string s, .int .i64 d] w fun e w' => e = .returned (.string t) ∧ Below w.heap.size w w' := by subst h; exact specWoven_any s d w hs
theorem implUnwoven_to (s t : ByteArray) (d : Int) (h : unwoven s d = t) (w : World) (hs : s.size ≤ 1048576) :
    Calls Try.prog 8 #[.string s, .int .i64 d] w fun e w' => e = .returned (.string t) ∧ Below w.heap.size w w' := by subst h; exact implUnwoven_any s d w hs
theorem specUnwoven_to (s t : ByteArray) (d : Int) (h : unwoven s d = t) (w : World) (hs : s.size ≤ 1048576) :
    Calls Try.prog 11 #[.string s, .int .i64 d] w fun e w' => e = .returned (.string t) ∧ Below w.heap.size w w' := by subst h; exact specUnwoven_any s d w hs
theorem implNearest_to (s : ByteArray) (d a n r : Int) (h : nearI s d a n = r) (w : World) (hs : s.size ≤ 1048576) (ha : a ≤ 9223372036854775807) :
    Calls Try.prog 12 #[.string s, .int .i64 d, .int .i64 a, .int .i64 n] w fun e w' => e = .returned (.int .i64 r) ∧ Below w.heap.size w w' := by subst h; exact implNearest_any s d a n w hs ha
theorem specNearest_to (s : ByteArray) (d a n r : Int) (h : nearI s d a n = r) (w : World) (hs : s.size ≤ 1048576) (hn : -9223372036854775808 ≤ n ∧ n ≤ 9223372036854775807) :
    Calls Try.prog 13 #[.string s, .int .i64 d, .int .i64 a, .int .i64 n] w fun e w' => e = .returned (.int .i64 r) ∧ Below w.heap.size w w' := by subst h; exact specNearest_any s d a n w hs hn
set_option maxHeartbeats 3200000 in
set_option maxRecDepth 100000 in

theorem walk (a0 : Option Addr) (len0 cap0 : Nat) (z0 : List Int) (w : World) (w0 : IsRow .u8 w a0 len0 cap0 z0) :
    Calls Try.prog 3 #[.slice a0 len0 cap0] w fun e w' => e = .returned (.bool true) ∧ Below w.heap.size w w' := by
  obtain ⟨l, hA⟩ : ∃ l, Bytes 0 w.heap.size w a0 len0 l := ⟨_, bytes_of (by unfold IsRow at w0; exact w0)⟩
  have hlen : len0 ≤ 9223372036854775807 := by
    rcases w0 with ⟨_, rfl, _, _⟩ | ⟨x, _, hl, hm, _⟩
    · omega
    · unfold maxLen at hm; omega
  clear w0
  by_cases hbig : 4096 < len0
  · have hb' : decide (4096 < len0) = true := by simpa using hbig
    go_enter Try.func3, Try.ntmps3
    go_wp2_with fail
    refine (big_any a0 len0 cap0 w hlen).mono ?_
    rintro e w1 ⟨rfl, rfl⟩
    go_wp2_with fail
    go_ret
    exact ⟨rfl, Below.refl _ _⟩
  · have hb' : decide (4096 < len0) = false := by simpa using hbig
    have hn : len0 ≤ 4096 := by omega
    clear hbig
    have HA := hide hA
    clear hA
    go_enter Try.func3, Try.ntmps3
    go_wp2_with fail
    refine (big_any a0 len0 cap0 w hlen).mono ?_
    rintro e w1 ⟨rfl, rfl⟩
    go_wp2_with fail
    refine (drawWoven_any a0 len0 cap0 l w HA.out hn).mono ?_
    rintro e w1 ⟨s, d, rfl, hs, hd0, hd1, b1⟩
    have HB1 := hide b1
    obtain ⟨W, hW⟩ : ∃ W, woven s d = W := ⟨_, rfl⟩
    have HW := hide hW
    have hWz : W.size ≤ 601 := by rw [← hW]; exact Nat.le_trans (woven_size s d) hs
    clear b1 hW
    go_wp2_with fail
    refine (implWoven_to s W d HW.out w1 (by omega)).mono ?_
    rintro e w2 ⟨rfl, b2⟩
    have HB2 := hide (below_here HB1.out b2)
    clear b2 HB1
    go_wp2_with fail
    refine (drawUnwoven_any a0 len0 cap0 l w2 (HA.out.later HB2.out (Nat.le_refl _)) hn).mono ?_
    rintro e w3 ⟨u, f, rfl, hu, hf0, hf1, b3⟩
    have HB3 := hide (below_here HB2.out b3)
    obtain ⟨V, hV⟩ : ∃ V, unwoven u f = V := ⟨_, rfl⟩
    have HV := hide hV
    clear b3 HB2 hV
    go_wp2_with fail
    refine (implUnwoven_to u V f HV.out w3 (by omega)).mono ?_
    rintro e w4 ⟨rfl, b4⟩
    have HB4 := hide (below_here HB3.out b4)
    clear b4 HB3
    go_wp2_with fail
    refine (drawNearest_any a0 len0 cap0 l w4 (HA.out.later HB4.out (Nat.le_refl _)) hn).mono ?_
    rintro e w5 ⟨t, g, x, m, rfl, ht, hg0, hg1, hx0, hx1, hm0, hm1, b5⟩
    have HB5 := hide (below_here HB4.out b5)
    obtain ⟨r, hr⟩ : ∃ r, nearI t g x m = r := ⟨_, rfl⟩
    have HR := hide hr
    have hnc := near_cases t g x m
    have hr6 := near_bd t g x m (by omega)
    rw [hr] at hnc hr6
    have HNC := hide hnc
    have HM : Hid (-9223372036854775808 ≤ m ∧ m ≤ 9223372036854775807) := ⟨by omega, by omega⟩
    have HX1 : Hid (x ≤ 9223372036854775807) := by show _ ≤ _; omega
    have tsW := text_samew W
    have tsV := text_samew V
    have tss := text_samew s
    clear b5 HB4 hr hnc
    go_wp2_with fail
    refine (specWoven_to s W d HW.out w5 (by omega)).mono ?_
    rintro e w6 ⟨rfl, b6⟩
    have HB6 := hide (below_here HB5.out b6)
    clear b6 HB5
    go_wp2_with fail
    refine (specUnwoven_to u V f HV.out w6 (by omega)).mono ?_
    rintro e w7 ⟨rfl, b7⟩
    have HB7 := hide (below_here HB6.out b7)
    clear b7 HB6
    go_wp2_with fail
    refine (implNearest_to t g x m r HR.out w7 (by omega) HX1.out).mono ?_
    rintro e w8 ⟨rfl, b8⟩
    have HB8 := hide (below_here HB7.out b8)
    clear b8 HB7
    go_wp2_with fail
    refine (specNearest_to t g x m r HR.out w8 (by omega) HM.out).mono ?_
    rintro e w9 ⟨rfl, b9⟩
    have HB9 := hide (below_here HB8.out b9)
    clear b9 HB8
    by_cases hin : 1 ≤ d ∧ d ≤ 16 ∧ s.size ≤ 600
    · obtain ⟨i1, i2, i3⟩ := hin
      have j1 : decide (d < 1) = false := by simp; omega
      have j2 : decide ((16 : Int) < d) = false := by simp; omega
      have j3 : decide ((600 : Int) < (s.size : Int)) = false := by simp; omega
      have HU1 : Hid (unwoven W d = s) := by show _ = _; rw [← HW.out]; exact unwoven_woven i1 i2 i3
      obtain ⟨X, hX⟩ : ∃ X, unwoven s d = X := ⟨_, rfl⟩
      have hXz : X.size ≤ 600 := by rw [← hX]; exact Nat.le_trans (unwoven_size s d) i3
      have HU2 : Hid (woven X d = s) := by show _ = _; rw [← hX]; exact woven_unwoven i1 i2 i3
      have HX := hide hX
      have HU3 : Hid (woven s 1 = s) := woven_one i3
      clear HW hX
      go_wp2_with fail
      refine (implUnwoven_to W s d HU1.out w9 (by omega)).mono ?_
      rintro e y1 ⟨rfl, d1⟩
      have HD1 := hide (below_here HB9.out d1)
      clear d1 HB9
      go_wp2_with fail
      refine (implUnwoven_to s X d HX.out y1 (by omega)).mono ?_
      rintro e y2 ⟨rfl, d2⟩
      have HD2 := hide (below_here HD1.out d2)
      clear d2 HD1
      go_wp2_with fail
      refine (implWoven_to X s d HU2.out y2 (by omega)).mono ?_
      rintro e y3 ⟨rfl, d3⟩
      have HD3 := hide (below_here HD2.out d3)
      clear d3 HD2
      go_wp2_with fail
      refine (implWoven_to s s 1 HU3.out y3 (by omega)).mono ?_
      rintro e y4 ⟨rfl, d4⟩
      have HD4 := hide (below_here HD3.out d4)
      clear d4 HD3
      go_wp2_with fail
      refine (implNearest_to t g x m r HR.out y4 (by omega) HX1.out).mono ?_
      rintro e y5 ⟨rfl, d5⟩
      have HD5 := hide (below_here HD4.out d5)
      clear d5 HD4 HR
      rcases HNC.out with rfl | ⟨g1, g16, r1, hfar⟩
      · go_wp2_with fail
        go_ret
        exact ⟨rfl, HD5.out⟩
      · have k0 : decide (r < 0) = false := by simp; omega
        have k1 : decide (1 ≤ r) = true := by simp; omega
        have kz : (g == 0) = false := by simp; omega
        have kdiv : (t.size : Int).tdiv g = (t.size : Int) / g := Int.tdiv_eq_ediv_of_nonneg (by omega)
        have kd0 : 0 ≤ (t.size : Int) / g := Int.ediv_nonneg (by omega) (by omega)
        have kd1 : (t.size : Int) / g ≤ 40 := by
          have := Int.ediv_le_self (a := (t.size : Int)) g (by omega)
          omega
        obtain ⟨Z, hZ⟩ : ∃ Z, Z = (t.size : Int) / g := ⟨_, rfl⟩
        rw [← hZ] at kdiv kd0 kd1 hfar
        clear hZ
        by_cases hmz : m ≤ Z
        · have k2 : decide (Z < m) = false := by simp; omega
          have k3 : decide (g - 1 ≤ r) = true := by have := hfar hmz; simp; omega
          clear hfar hmz
          go_wp2_with fail
          go_ret
          exact ⟨rfl, HD5.out⟩
        · have k2 : decide (Z < m) = true := by simp; omega
          clear hfar hmz
          go_wp2_with fail
          go_ret
          exact ⟨rfl, HD5.out⟩
    · have HWE : Hid (W = ⟨#[]⟩) := by show _ = _; rw [← HW.out]; exact woven_no (woveOk_out hin)
      have hWE := HWE.out
      subst hWE
      by_cases h1 : d < 1
      · clear hin
        go_wp2_with fail
        go_ret
        exact ⟨rfl, HB9.out⟩
      · have j1 : decide (d < 1) = false := by simp; omega
        by_cases h2 : 16 < d
        · clear hin h1
          go_wp2_with fail
          go_ret
          exact ⟨rfl, HB9.out⟩
        · have j2 : decide ((16 : Int) < d) = false := by simp; omega
          have j3 : decide ((600 : Int) < (s.size : Int)) = true := by simp; omega
          clear hin h1 h2
          go_wp2_with fail
          go_ret
          exact ⟨rfl, HB9.out⟩

/-! ### THE ROW's STEP: WRITTEN OUT: LEAVE IT -/
set_option maxRecDepth 100000 in
theorem lifted (os : Os) (started : os.Started) (H : Type) (enc : TypeId × Value → H) :
    ReturnsInHanded {} Try.checked os 3 .any (Rows.fnWovenSpec.pre6 enc Try.prog Try.f3 Rows.fnWovenRow.domain false) (Rows.fnWovenSpec.post enc Try.prog Try.f3 false true false false) := by
  refine returnsInHanded_of_change (C := Try.checked) own started (by kernel_rfl) Try.func3
    (ChangeSpec.witness6 (enc := enc) (C := Try.checked) false ⟨#[], #[.slice none 0 0], []⟩ 8 (by kernel_rfl) (by kernel_rfl) (by kernel_rfl) (by kernel_rfl)) ?_
  intro W base args ds gs before hval0 hW hcnd _
  have hval : ∀ (j : Nat) t v, Try.f3.params[j]? = some t → args[j]? = some v → Value.okWide Try.prog W .any base t v := hval0
  have hW' := hW
  obtain ⟨p, q, hA0, hV, rfl, hfz, hnd⟩ := hW
  have hA : DataW.TrodAll enc Try.prog W 0 (fun _ => true) true Try.f3.params.toList args.toList ds p := hA0
  rw [Try.params3] at hA hval
  obtain ⟨v0, vs0, d0, ds0, p0, q0, hargs, rfl, rfl, h0, r0⟩ := trodAll_cons hA
  obtain ⟨rfl, rfl, rfl⟩ := trodAll_nil r0
  obtain rfl : args = #[v0] := by cases args; simp_all
  obtain ⟨rfl, rfl⟩ := trodVars_none hV
  obtain ⟨a0, len0, cap0, rfl⟩ := okWide_slice Try.underlying22 (hval 0 22 v0 rfl rfl)
  have k0 := h0
  have lt0 : ∀ x ∈ p0, x.block < W.heap.size := by obtain ⟨m, hm⟩ := k0; exact DataW.trod_lt m _ _ _ hm
  obtain ⟨z0, w0⟩ : ∃ zs, IsRow .u8 W a0 len0 cap0 zs := by
    obtain ⟨fuel, hf⟩ := h0
    rcases open_ints Try.underlying22 Try.underlying5 (by kernel_rfl) hf with ⟨hcs, _⟩ | ⟨x, l, c, zs, hcs, _, hl, hm, hz, _, hcell, hwz⟩
    · simp [Value.cells] at hcs
      obtain ⟨rfl, rfl, rfl⟩ := hcs
      exact ⟨[], .inl ⟨rfl, rfl, rfl, rfl⟩⟩
    · simp [Value.cells] at hcs
      obtain ⟨rfl, rfl, rfl⟩ := hcs
      exact ⟨zs, .inr ⟨_, rfl, hl, hm, by simpa using hz, hcell, hwz⟩⟩
  clear hA0 hval0
  refine (walk a0 len0 cap0 z0 W w0).mono fun e W' ⟨he, bel⟩ => ?_
  subst he
  exact ⟨_, rfl, _, _, _, [], _, [], hW', trodAll_mk1 (shut_bool Try.underlying4 _), (trodAll_cons_mk (Below.trod laidOut (by kernel_rfl) (of_decide_eq_true (by kernel_rfl)) k0 bel lt0) trodAll_mk0), rfl, bel.frame _, fun h => by cases h⟩

theorem over : Rows.fnWovenRow.holds Try.pinned (OpenSpec.ofChange Rows.fnWovenSpec) :=
  OpenClaim.holds_of_wide 3 Try.f3 rfl rfl rfl rfl rfl rfl rfl ⟨rfl, rfl, rfl, rfl, rfl⟩ rfl rfl rfl rfl rfl (by kernel_rfl) Try.func3 (by kernel_rfl)
    (of_decide_eq_true (by kernel_rfl)) (by unfold Func.isWrapper; first | (rw [if_pos (by decide +kernel)]; kernel_rfl) | (rw [if_neg (by decide +kernel)]; exact ⟨rfl, rfl⟩))
    (fun os started H enc _ => lifted os started H enc)

/-- ████ THE STATEMENT ████ -/
theorem proved : Rows.FnWovenSaid := over
#print axioms proved
end Go.Proofs.Ytgofmegjanekhab.fnWoven
