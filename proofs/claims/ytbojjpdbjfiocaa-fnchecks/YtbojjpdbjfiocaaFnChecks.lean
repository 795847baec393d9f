/- For every slice of bytes the law FnChecks returns true and leaves its argument as it was; no condition. -/
import Derived.Test.YtbojjpdbjfiocaaRows
import Derived.Test.YtbojjpdbjfiocaaCheckImpl
import Derived.Test.YtbojjpdbjfiocaaSmearSpec
import Derived.Test.YtbojjpdbjfiocaaSmearImpl
import Derived.Test.YtbojjpdbjfiocaaSmearLaw
import Derived.Test.YtbojjpdbjfiocaaSumSpec
import Derived.Test.YtbojjpdbjfiocaaWalkXs
import Derived.Test.YtbojjpdbjfiocaaDrawXor
import Derived.Test.YtbojjpdbjfiocaaDraw3
import Derived.Test.YtbojjpdbjfiocaaLawBase
import Derived.Deep.DeepCutAuto
import Derived.WalkKit
import Derived.ProofKit
import Derived.OpenShut
import Derived.ShutString
import Derived.ChangeOld
import Derived.Below
namespace Go.Proofs.Ytbojjpdbjfiocaa.fnChecks
open Go.ChangeShapes Go.WideShapes Go.ChangeAt Go.RowKit
open Go.ChangeMaps (open_string shut_string)
set_option linter.unusedVariables false

theorem own : ownKnob Try.prog.godebug = none := by kernel_rfl
theorem laidOut : laidOutB Try.prog = true := by kernel_rfl

/-- WHAT THE WALK IS TOLD OF A SLICE OF INTEGERS THAT CAME IN: it is nil; or it leads to a row of 'cap' cells, the numbers 'zs' (the first 'len' are its elements, the rest its spare room), each fitting its kind. -/
def IsRow (k : IntKind) (w : World) (a : Option Addr) (len cap : Nat) (zs : List Int) : Prop :=
  (a = none ∧ len = 0 ∧ cap = 0 ∧ zs = []) ∨
  ∃ x, a = some x ∧ len ≤ cap ∧ cap ≤ maxLen ∧ zs.length = cap ∧ (∀ i, i < zs.length → w.cell? (x.add i) = some (.int k (zs.getD i 0))) ∧ ∀ n ∈ zs, (Lit.int k n).wf = true

theorem implCheck_to (s : ByteArray) (c : Nat) (h : checkN s = c) (w : World) (hs : s.size ≤ 1048580) :
    Calls Try.prog 46 #[.string s] w fun e w' => e = .returned (.int .i64 (c : Nat)) ∧ Below w.heap.size w w' := by subst h; exact implCheck_any s w hs
theorem specCheck_to (s : ByteArray) (c : Nat) (h : checkN s = c) (w : World) (hs : s.size ≤ 1048576) :
    Calls Try.prog 47 #[.string s] w fun e w' => e = .returned (.int .i64 (c : Nat)) ∧ Below w.heap.size w w' := by subst h; exact specCheck_any s w hs
theorem implChecked_to (s t : ByteArray) (h : checked s = t) (w : World) (hs : s.size ≤ 1048580) :
    Calls Try.prog 42 #[.string s] w fun e w' => e = .returned (.string t) ∧ Below w.heap.size w w' := by subst h; exact implChecked_any s w hs
theorem specChecked_to (s t : ByteArray) (h : checked s = t) (w : World) (hs : s.size ≤ 1048576) :
    Calls Try.prog 45 #[.string s] w fun e w' => e = .returned (.string t) ∧ Below w.heap.size w w' := by subst h; exact specChecked_any s w hs
theorem implWhole_to (s : ByteArray) (b : Bool) (h : whole s = b) (w : World) (hs : s.size ≤ 1048580) :
    Calls Try.prog 48 #[.string s] w fun e w' => e = .returned (.bool b) ∧ Below w.heap.size w w' := by subst h; exact implWhole_any s w hs
theorem specWhole_to (s : ByteArray) (b : Bool) (h : whole s = b) (w : World) (hs : s.size ≤ 1048576) :
    Calls Try.prog 49 #[.string s] w fun e w' => e = .returned (.bool b) ∧ Below w.heap.size w w' := by subst h; exact specWhole_any s w hs
theorem implSmeared_to (s t : ByteArray) (x y : Int) (h : smeared s x y = t) (w : World) (hs : s.size ≤ 1048580) :
    Calls Try.prog 50 #[.string s, .int .i64 x, .int .i64 y] w fun e w' => e = .returned (.string t) ∧ Below w.heap.size w w' := by subst h; exact implSmeared_any s x y w hs
theorem specSmeared_to (s t : ByteArray) (x y : Int) (h : smeared s x y = t) (w : World) (hs : s.size ≤ 1048576) :
    Calls Try.prog 51 #[.string s, .int .i64 x, .int .i64 y] w fun e w' => e = .returned (.string t) ∧ Below w.heap.size w w' := by subst h; exact specSmeared_any s x y w hs
theorem specXored_to (s t r : ByteArray) (h : xored s t = r) (w : World) (hs : s.size ≤ 1048576) (ht : t.size ≤ 1048576) :
    Calls Try.prog 20 #[.string s, .string t] w fun e w' => e = .returned (.string r) ∧ Below w.heap.size w w' := by subst h; exact specXored_any s t w hs ht
theorem specSum_to (x y : Int) (a b : Nat) (hx : x = (a : Int)) (hy : y = (b : Int)) (ha : a < 256) (hb : b < 256) (w : World) :
    Calls Try.prog 34 #[.int .i64 x, .int .i64 y] w fun e w' => e = .returned (.int .i64 ((a ^^^ b : Nat) : Int)) ∧ w = w' := by
  subst hx hy
  rw [← sumI_nat ha hb]
  exact specSum_any _ _ w
theorem text_same (t : ByteArray) : (t.toList == t.toList) = true := by rw [text_eq]; simp
set_option maxHeartbeats 3200000 in
set_option maxRecDepth 100000 in

theorem walk (a0 : Option Addr) (len0 cap0 : Nat) (z0 : List Int) (w : World) (w0 : IsRow .u8 w a0 len0 cap0 z0) :
    Calls Try.prog 6 #[.slice a0 len0 cap0] w fun e w' => e = .returned (.bool true) ∧ Below w.heap.size w w' := by
  obtain ⟨l, hA⟩ : ∃ l, Bytes 0 w.heap.size w a0 len0 l := ⟨_, bytes_of (by unfold IsRow at w0; exact w0)⟩
  have hlen : len0 ≤ 9223372036854775807 := by
    rcases w0 with ⟨_, rfl, _, _⟩ | ⟨x, _, hl, hm, _⟩
    · omega
    · unfold maxLen at hm; omega
  clear w0
  by_cases hbig : 4096 < len0
  · have hb' : decide (4096 < len0) = true := by simpa using hbig
    go_enter Try.func6, Try.ntmps6
    go_wp2_with fail
    refine (big_any a0 len0 cap0 w hlen).mono ?_
    rintro e w1 ⟨rfl, rfl⟩
    go_wp2_with fail
    go_ret
    exact ⟨rfl, Below.refl _ _⟩
  · have hb' : decide (4096 < len0) = false := by simpa using hbig
    have hn : len0 ≤ 4096 := by omega
    clear hbig
    have HA := hide hA
    clear hA
    go_enter Try.func6, Try.ntmps6
    go_wp2_with fail
    refine (big_any a0 len0 cap0 w hlen).mono ?_
    rintro e w1 ⟨rfl, rfl⟩
    go_wp2_with fail
    refine (drawChecked_any a0 len0 cap0 l w HA.out hn).mono ?_
    rintro e w1 ⟨s, rfl, hs, b1⟩
    have HB1 := hide b1
    have HS := hide hs
    obtain ⟨C, hC⟩ : ∃ C, checked s = C := ⟨_, rfl⟩
    have HC := hide hC
    have hcz : C.size = s.size + 2 := by rw [← hC]; exact checked_size s
    have hc11 : C.size ≤ 11 := by omega
    have hc2 : 2 ≤ C.size := by omega
    clear b1 hC
    go_wp2_with fail
    refine (implChecked_to s C HC.out w1 (by omega)).mono ?_
    rintro e w2 ⟨rfl, b2⟩
    have HB2 := hide (below_here HB1.out b2)
    clear b2 HB1
    go_wp2_with fail
    refine (drawWhole_any a0 len0 cap0 l w2 (HA.out.later HB2.out (Nat.le_refl _)) hn).mono ?_
    rintro e w3 ⟨u, rfl, hu, b3⟩
    have HB3 := hide (below_here HB2.out b3)
    clear b3 HB2
    go_wp2_with fail
    refine (drawSmeared_any a0 len0 cap0 l w3 (HA.out.later HB3.out (Nat.le_refl _)) hn).mono ?_
    rintro e w4 ⟨m, at', mask, rfl, hm, b4⟩
    have HB4 := hide (below_here HB3.out b4)
    clear b4 HB3
    go_wp2_with fail
    refine (drawXored_any a0 len0 cap0 l w4 (HA.out.later HB4.out (Nat.le_refl _)) hn).mono ?_
    rintro e w5 ⟨x, y, rfl, hx, hy, b5⟩
    have HB5 := hide (below_here HB4.out b5)
    clear b5 HB4
    go_wp2_with fail
    refine (specChecked_to s C HC.out w5 (by omega)).mono ?_
    rintro e w6 ⟨rfl, b6⟩
    have HB6 := hide (below_here HB5.out b6)
    have tsC := text_same C
    obtain ⟨K, hK⟩ : ∃ K, checkN s = K := ⟨_, rfl⟩
    have HK := hide hK
    clear b6 HB5 hK
    go_wp2_with fail
    refine (implCheck_to s K HK.out w6 (by omega)).mono ?_
    rintro e w7 ⟨rfl, b7⟩
    have HB7 := hide (below_here HB6.out b7)
    clear b7 HB6
    go_wp2_with fail
    refine (specCheck_to s K HK.out w7 (by omega)).mono ?_
    rintro e w8 ⟨rfl, b8⟩
    have HB8 := hide (below_here HB7.out b8)
    obtain ⟨b, hb⟩ : ∃ b, whole u = b := ⟨_, rfl⟩
    have HW := hide hb
    clear b8 HB7 hb
    go_wp2_with fail
    refine (implWhole_to u b HW.out w8 (by omega)).mono ?_
    rintro e w9 ⟨rfl, b9⟩
    have HB9 := hide (below_here HB8.out b9)
    clear b9 HB8
    go_wp2_with fail
    refine (specWhole_to u b HW.out w9 (by omega)).mono ?_
    rintro e w10 ⟨rfl, b10⟩
    have HB10 := hide (below_here HB9.out b10)
    have hbb : (b != b) = false := by simp
    obtain ⟨v, hv⟩ : ∃ v, smeared m at' mask = v := ⟨_, rfl⟩
    have HV := hide hv
    have tsv := text_same v
    clear b10 HB9 hv
    go_wp2_with fail
    refine (implSmeared_to m v at' mask HV.out w10 (by omega)).mono ?_
    rintro e w11 ⟨rfl, b11⟩
    have HB11 := hide (below_here HB10.out b11)
    clear b11 HB10
    go_wp2_with fail
    refine (specSmeared_to m v at' mask HV.out w11 (by omega)).mono ?_
    rintro e w12 ⟨rfl, b12⟩
    have HB12 := hide (below_here HB11.out b12)
    clear b12 HB11
    go_wp2_with fail
    refine (implWhole_to C true (by rw [← HC.out]; exact whole_checked s) w12 (by omega)).mono ?_
    rintro e w13 ⟨rfl, b13⟩
    have HB13 := hide (below_here HB12.out b13)
    clear b13 HB12
    go_wp2_with fail
    refine (implCheck_to C 0 (by rw [← HC.out]; exact check_checked s) w13 (by omega)).mono ?_
    rintro e w14 ⟨rfl, b14⟩
    have HB14 := hide (below_here HB13.out b14)
    clear b14 HB13
    by_cases hxy : x.size = y.size
    · have hxe : ((x.size : Int) == (y.size : Int)) = true := by simp; omega
      have HXY := hide hxy
      obtain ⟨A, hA⟩ : ∃ A, checkN x = A := ⟨_, rfl⟩
      obtain ⟨D, hD⟩ : ∃ D, checkN y = D := ⟨_, rfl⟩
      obtain ⟨r, hr⟩ : ∃ r, xored x y = r := ⟨_, rfl⟩
      have hA16 : A < 65536 := by rw [← hA]; exact checkN_lt x
      have hD16 : D < 65536 := by rw [← hD]; exact checkN_lt y
      have hrz : r.size ≤ 5 := by
        rw [← hr]; unfold xored; rw [if_pos hxy]
        show (xorL x.data.toList y.data.toList).length ≤ 5
        rw [xorL_length _ _ (by simpa using hxy)]; simpa using hx
      have HR16 : Hid (checkN r = A ^^^ D) := by
        show _ = _
        rw [← hr, check_xored x y hxy, hA, hD]
      have HAA := hide hA
      have HDD := hide hD
      have HRR := hide hr
      have HE : Hid (((A / 256 ^^^ D / 256 : Nat) : Int) * 256 + ((A % 256 ^^^ D % 256 : Nat) : Int) = ((A ^^^ D : Nat) : Int)) := by
        show _ = _
        rw [← xor_bytes A D]
        simp
      have h1 : A / 256 ^^^ D / 256 < 256 := Nat.xor_lt_two_pow (n := 8) (by omega) (by omega)
      have h2 : A % 256 ^^^ D % 256 < 256 := Nat.xor_lt_two_pow (n := 8) (by omega) (by omega)
      obtain ⟨G, hG⟩ : ∃ G, G = A / 256 ^^^ D / 256 := ⟨_, rfl⟩
      obtain ⟨J, hJ⟩ : ∃ J, J = A % 256 ^^^ D % 256 := ⟨_, rfl⟩
      obtain ⟨T, hT⟩ : ∃ T, T = A ^^^ D := ⟨_, rfl⟩
      rw [← hG, ← hJ, ← hT] at HE
      rw [← hG] at h1
      rw [← hJ] at h2
      rw [← hT] at HR16
      have HS1 : ∀ w, Hid (Calls Try.prog 34 #[.int .i64 ((A : Int) / 256), .int .i64 ((D : Int) / 256)] w fun e w' => e = .returned (.int .i64 (G : Int)) ∧ w = w') := fun w => by
        rw [hG]
        exact specSum_to _ _ (A / 256) (D / 256) (by omega) (by omega) (by omega) (by omega) w
      have HS2 : ∀ w, Hid (Calls Try.prog 34 #[.int .i64 ((A : Int) % 256), .int .i64 ((D : Int) % 256)] w fun e w' => e = .returned (.int .i64 (J : Int)) ∧ w = w') := fun w => by
        rw [hJ]
        exact specSum_to _ _ (A % 256) (D % 256) (by omega) (by omega) (by omega) (by omega) w
      have hTE : ((T : Int) != (G : Int) * 256 + (J : Int)) = false := by rw [HE.out]; simp
      clear hG hJ hT hA hD hr hxy HE
      go_wp2_with fail
      refine (implCheck_to x A HAA.out w14 (by omega)).mono ?_
      rintro e x1 ⟨rfl, d1⟩
      have HD1 := hide (below_here HB14.out d1)
      clear d1 HB14
      go_wp2_with fail
      refine (implCheck_to y D HDD.out x1 (by omega)).mono ?_
      rintro e x2 ⟨rfl, d2⟩
      have HD2 := hide (below_here HD1.out d2)
      clear d2 HD1
      go_wp2_with fail
      refine (specXored_to x y r HRR.out x2 (by omega) (by omega)).mono ?_
      rintro e x3 ⟨rfl, d3⟩
      have HD3 := hide (below_here HD2.out d3)
      clear d3 HD2
      go_wp2_with fail
      refine (implCheck_to r T HR16.out x3 (by omega)).mono ?_
      rintro e x4 ⟨rfl, d4⟩
      have HD4 := hide (below_here HD3.out d4)
      clear d4 HD3
      go_wp2_with fail
      refine (HS1 x4).out.mono ?_
      rintro e x5 ⟨rfl, rfl⟩
      go_wp2_with fail
      refine (HS2 x4).out.mono ?_
      rintro e x5 ⟨rfl, rfl⟩
      go_wp2_with fail
      refine (pick_any a0 len0 cap0 l 1 _ x4 (HA.out.later HD4.out (Nat.le_refl _)) hn (by omega) (by omega) (by omega) (by omega)).mono ?_
      rintro e wp ⟨k, rfl, k0, k1, rfl⟩
      go_wp2_with fail
      refine (pick_any a0 len0 cap0 l 2 65535 x4 (HA.out.later HD4.out (Nat.le_refl _)) hn (by omega) (by omega) (by omega) (by omega)).mono ?_
      rintro e wp ⟨z, rfl, z0, z1, rfl⟩
      obtain ⟨q, rfl⟩ := Int.eq_ofNat_of_zero_le k0
      obtain ⟨t, ht⟩ : ∃ t, smeared C (q : Int) (1 + z) = t := ⟨_, rfl⟩
      have hseen : whole t = true → t = C := by
        intro hw
        obtain ⟨M, hM⟩ : ∃ M : Nat, 1 + z = (M : Int) := ⟨(1 + z).toNat, by omega⟩
        rw [hM, ← HC.out] at ht
        rw [← ht] at hw ⊢
        rw [smeared_seen s q M (by rw [checked_size]; omega) (by omega) hw]
        exact HC.out
      have htz : t.size ≤ 11 := by rw [← ht, smeared_size]; exact hc11
      have HT := hide ht
      have HSEEN := hide hseen
      clear ht hseen
      go_wp2_with fail
      refine (implSmeared_to C t (q : Int) (1 + z) HT.out x4 (by omega)).mono ?_
      rintro e y1 ⟨rfl, d1⟩
      have HD1 := hide (below_here HD4.out d1)
      clear d1
      by_cases htc : t = C
      · have hte : (t.toList == C.toList) = true := by rw [text_eq]; simpa using htc
        clear htc
        go_wp2_with fail
        go_ret
        exact ⟨rfl, HD1.out⟩
      · have hte : (t.toList == C.toList) = false := by rw [text_eq]; simpa using htc
        have HTC := hide htc
        clear htc
        go_wp2_with fail
        refine (implWhole_to t false (by
          cases h : whole t
          · rfl
          · exact absurd (HSEEN.out h) HTC.out) y1 (by omega)).mono ?_
        rintro e y2 ⟨rfl, d2⟩
        have HD2 := hide (below_here HD1.out d2)
        clear d2
        go_wp2_with fail
        go_ret
        exact ⟨rfl, HD2.out⟩
    · have hxe : ((x.size : Int) == (y.size : Int)) = false := by simp; omega
      clear hxy
      go_wp2_with fail
      refine (pick_any a0 len0 cap0 l 1 _ w14 (HA.out.later HB14.out (Nat.le_refl _)) hn (by omega) (by omega) (by omega) (by omega)).mono ?_
      rintro e wp ⟨k, rfl, k0, k1, rfl⟩
      go_wp2_with fail
      refine (pick_any a0 len0 cap0 l 2 65535 w14 (HA.out.later HB14.out (Nat.le_refl _)) hn (by omega) (by omega) (by omega) (by omega)).mono ?_
      rintro e wp ⟨z, rfl, z0, z1, rfl⟩
      obtain ⟨q, rfl⟩ := Int.eq_ofNat_of_zero_le k0
      obtain ⟨t, ht⟩ : ∃ t, smeared C (q : Int) (1 + z) = t := ⟨_, rfl⟩
      have hseen : whole t = true → t = C := by
        intro hw
        obtain ⟨M, hM⟩ : ∃ M : Nat, 1 + z = (M : Int) := ⟨(1 + z).toNat, by omega⟩
        rw [hM, ← HC.out] at ht
        rw [← ht] at hw ⊢
        rw [smeared_seen s q M (by rw [checked_size]; omega) (by omega) hw]
        exact HC.out
      have htz : t.size ≤ 11 := by rw [← ht, smeared_size]; exact hc11
      have HT := hide ht
      have HSEEN := hide hseen
      clear ht hseen
      go_wp2_with fail
      refine (implSmeared_to C t (q : Int) (1 + z) HT.out w14 (by omega)).mono ?_
      rintro e y1 ⟨rfl, d1⟩
      have HD1 := hide (below_here HB14.out d1)
      clear d1
      by_cases htc : t = C
      · have hte : (t.toList == C.toList) = true := by rw [text_eq]; simpa using htc
        clear htc
        go_wp2_with fail
        go_ret
        exact ⟨rfl, HD1.out⟩
      · have hte : (t.toList == C.toList) = false := by rw [text_eq]; simpa using htc
        have HTC := hide htc
        clear htc
        go_wp2_with fail
        refine (implWhole_to t false (by
          cases h : whole t
          · rfl
          · exact absurd (HSEEN.out h) HTC.out) y1 (by omega)).mono ?_
        rintro e y2 ⟨rfl, d2⟩
        have HD2 := hide (below_here HD1.out d2)
        clear d2
        go_wp2_with fail
        go_ret
        exact ⟨rfl, HD2.out⟩

/-! ### THE ROW's STEP: WRITTEN OUT: LEAVE IT -/
set_option maxRecDepth 100000 in
theorem lifted (os : Os) (started : os.Started) (H : Type) (enc : TypeId × Value → H) :
    ReturnsInHanded {} Try.checked os 6 .any (Rows.fnChecksSpec.pre6 enc Try.prog Try.f6 Rows.fnChecksRow.domain false) (Rows.fnChecksSpec.post enc Try.prog Try.f6 false true false false) := by
  refine returnsInHanded_of_change (C := Try.checked) own started (by kernel_rfl) Try.func6
    (ChangeSpec.witness6 (enc := enc) (C := Try.checked) false ⟨#[], #[.slice none 0 0], []⟩ 8 (by kernel_rfl) (by kernel_rfl) (by kernel_rfl) (by kernel_rfl)) ?_
  intro W base args ds gs before hval0 hW hcnd _
  have hval : ∀ (j : Nat) t v, Try.f6.params[j]? = some t → args[j]? = some v → Value.okWide Try.prog W .any base t v := hval0
  have hW' := hW
  obtain ⟨p, q, hA0, hV, rfl, hfz, hnd⟩ := hW
  have hA : DataW.TrodAll enc Try.prog W 0 (fun _ => true) true Try.f6.params.toList args.toList ds p := hA0
  rw [Try.params6] at hA hval
  obtain ⟨v0, vs0, d0, ds0, p0, q0, hargs, rfl, rfl, h0, r0⟩ := trodAll_cons hA
  obtain ⟨rfl, rfl, rfl⟩ := trodAll_nil r0
  obtain rfl : args = #[v0] := by cases args; simp_all
  obtain ⟨rfl, rfl⟩ := trodVars_none hV
  obtain ⟨a0, len0, cap0, rfl⟩ := okWide_slice Try.underlying22 (hval 0 22 v0 rfl rfl)
  have k0 := h0
  have lt0 : ∀ x ∈ p0, x.block < W.heap.size := by obtain ⟨m, hm⟩ := k0; exact DataW.trod_lt m _ _ _ hm
  obtain ⟨z0, w0⟩ : ∃ zs, IsRow .u8 W a0 len0 cap0 zs := by
    obtain ⟨fuel, hf⟩ := h0
    rcases open_ints Try.underlying22 Try.underlying5 (by kernel_rfl) hf with ⟨hcs, _⟩ | ⟨x, l, c, zs, hcs, _, hl, hm, hz, _, hcell, hwz⟩
    · simp [Value.cells] at hcs
      obtain ⟨rfl, rfl, rfl⟩ := hcs
      exact ⟨[], .inl ⟨rfl, rfl, rfl, rfl⟩⟩
    · simp [Value.cells] at hcs
      obtain ⟨rfl, rfl, rfl⟩ := hcs
      exact ⟨zs, .inr ⟨_, rfl, hl, hm, by simpa using hz, hcell, hwz⟩⟩
  clear hA0 hval0
  refine (walk a0 len0 cap0 z0 W w0).mono fun e W' ⟨he, bel⟩ => ?_
  subst he
  exact ⟨_, rfl, _, _, _, [], _, [], hW', trodAll_mk1 (shut_bool Try.underlying4 _), (trodAll_cons_mk (Below.trod laidOut (by kernel_rfl) (of_decide_eq_true (by kernel_rfl)) k0 bel lt0) trodAll_mk0), rfl, bel.frame _, fun h => by cases h⟩

theorem over : Rows.fnChecksRow.holds Try.pinned (OpenSpec.ofChange Rows.fnChecksSpec) :=
  OpenClaim.holds_of_wide 6 Try.f6 rfl rfl rfl rfl rfl rfl rfl ⟨rfl, rfl, rfl, rfl, rfl⟩ rfl rfl rfl rfl rfl (by kernel_rfl) Try.func6 (by kernel_rfl)
    (of_decide_eq_true (by kernel_rfl)) (by unfold Func.isWrapper; first | (rw [if_pos (by decide +kernel)]; kernel_rfl) | (rw [if_neg (by decide +kernel)]; exact ⟨rfl, rfl⟩))
    (fun os started H enc _ => lifted os started H enc)

/-- ████ THE STATEMENT ████ -/
theorem proved : Rows.FnChecksSaid := over
#print axioms proved
end Go.Proofs.Ytbojjpdbjfiocaa.fnChecks
