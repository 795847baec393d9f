/- For every slice of bytes the law FnHamming returns true and leaves its argument as it was; the program's table dataPlaces holds what its initialiser lays (the tied card), no other condition. -/
import Derived.Test.YtldcgjilafibkaaDoorRows
import Derived.Test.YtldcgjilafibkaaDoorHamImpl2
import Derived.Test.YtldcgjilafibkaaDoorHamSpec2
import Derived.Test.YtldcgjilafibkaaDoorDraw4
import Derived.Test.YtldcgjilafibkaaDoorLawBase
import Derived.Deep.DeepCutAuto
import Derived.Test.YtldcgjilafibkaaDoorLaidTab
import Derived.WalkKit
import Derived.ProofKit
import Derived.OpenShut
import Derived.ShutString
import Derived.ChangeOld
import Derived.Below
namespace Go.Proofs.YtldcgjilafibkaaDoor.fnHamming
open Go.ChangeShapes Go.WideShapes Go.ChangeAt Go.RowKit
open Go.ChangeMaps (open_string shut_string)
set_option linter.unusedVariables false

theorem own : ownKnob Tryd.prog.godebug = none := by kernel_rfl
theorem laidOut : laidOutB Tryd.prog = true := by kernel_rfl

/-- WHAT THE WALK IS TOLD OF A SLICE OF INTEGERS THAT CAME IN: it is nil; or it leads to a row of 'cap' cells, the numbers 'zs' (the first 'len' are its elements, the rest its spare room), each fitting its kind. -/
def IsRow (k : IntKind) (w : World) (a : Option Addr) (len cap : Nat) (zs : List Int) : Prop :=
  (a = none ∧ len = 0 ∧ cap = 0 ∧ zs = []) ∨
  ∃ x, a = some x ∧ len ≤ cap ∧ cap ≤ maxLen ∧ zs.length = cap ∧ (∀ i, i < zs.length → w.cell? (x.add i) = some (.int k (zs.getD i 0))) ∧ ∀ n ∈ zs, (Lit.int k n).wf = true

theorem implSpread_to (b r : Int) (h : spreadI b = r) (w : World) (hT : Tab w) :
    Calls Tryd.prog 6 #[.int .i64 b] w fun e w' => e = .returned (.int .i64 r) ∧ Below w.heap.size w w' := by subst h; exact implSpread_any b w hT
theorem specSpread_to (b r : Int) (h : spreadI b = r) (w : World) :
    Calls Tryd.prog 10 #[.int .i64 b] w fun e w' => e = .returned (.int .i64 r) ∧ Below w.heap.size w w' := by subst h; exact specSpread_any b w
theorem implOdd_to (x r : Int) (h : oddI x = r) (w : World) :
    Calls Tryd.prog 11 #[.int .i64 x] w fun e w' => e = .returned (.int .i64 r) ∧ Below w.heap.size w w' := by subst h; exact implOdd_any x w
theorem specOdd_to (x r : Int) (h : oddI x = r) (w : World) :
    Calls Tryd.prog 12 #[.int .i64 x] w fun e w' => e = .returned (.int .i64 r) ∧ Below w.heap.size w w' := by subst h; exact specOdd_any x w
theorem implHealed_to (x a b : Int) (h : healedI x = (a, b)) (w : World) (hT : Tab w) :
    Calls Tryd.prog 8 #[.int .i64 x] w fun e w' => e = .returned (.tuple #[.int .i64 a, .int .i64 b]) ∧ Below w.heap.size w w' := by
  have := implHealed_any x w hT
  rw [h] at this
  exact this
theorem specHealed_to (x a b : Int) (h : healedI x = (a, b)) (w : World) :
    Calls Tryd.prog 9 #[.int .i64 x] w fun e w' => e = .returned (.tuple #[.int .i64 a, .int .i64 b]) ∧ Below w.heap.size w w' := by
  have := specHealed_any x w
  rw [h] at this
  exact this
theorem spread_turned (b i : Nat) (hb : b < 256) (hi : i < 13) : bits .xor .i64 (Ham.spread b : Int) (wrap64 (2 ^ i)) = ((Ham.spread b ^^^ 2 ^ i : Nat) : Int) := xor_shl _ i (Ham.spread_lt hb) hi
set_option maxHeartbeats 3200000 in
set_option maxRecDepth 100000 in

theorem walk (a0 : Option Addr) (len0 cap0 : Nat) (z0 : List Int) (w : World) (w0 : IsRow .u8 w a0 len0 cap0 z0) (hT : Tab w) :
    Calls Tryd.prog 3 #[.slice a0 len0 cap0] w fun e w' => e = .returned (.bool true) ∧ Below w.heap.size w w' := by
  have HTAB := hide hT
  clear hT
  obtain ⟨l, hA⟩ : ∃ l, Bytes 0 w.heap.size w a0 len0 l := ⟨_, bytes_of (by unfold IsRow at w0; exact w0)⟩
  have hlen : len0 ≤ 9223372036854775807 := by
    rcases w0 with ⟨_, rfl, _, _⟩ | ⟨x, _, hl, hm, _⟩
    · omega
    · unfold maxLen at hm; omega
  clear w0
  by_cases hbig : 4096 < len0
  · have hb' : decide (4096 < len0) = true := by simpa using hbig
    go_enter Tryd.func3, Tryd.ntmps3
    go_wp2_with fail
    refine (big_any a0 len0 cap0 w hlen).mono ?_
    rintro e w1 ⟨rfl, rfl⟩
    go_wp2_with fail
    go_ret
    exact ⟨rfl, Below.refl _ _⟩
  · have hb' : decide (4096 < len0) = false := by simpa using hbig
    have hn : len0 ≤ 4096 := by omega
    clear hbig
    have HA := hide hA
    clear hA
    go_enter Tryd.func3, Tryd.ntmps3
    go_wp2_with fail
    refine (big_any a0 len0 cap0 w hlen).mono ?_
    rintro e w1 ⟨rfl, rfl⟩
    go_wp2_with fail
    refine (drawSpread_any a0 len0 cap0 l w HA.out hn).mono ?_
    rintro e w1 ⟨b, rfl, b1⟩
    have HB1 := hide b1
    obtain ⟨W, hW⟩ : ∃ W, spreadI b = W := ⟨_, rfl⟩
    have HW := hide hW
    clear b1 hW
    go_wp2_with fail
    refine (implSpread_to b W HW.out w1 (HTAB.out.here HB1.out)).mono ?_
    rintro e w2 ⟨rfl, b2⟩
    have HB2 := hide (below_here HB1.out b2)
    clear b2 HB1
    go_wp2_with fail
    refine (drawHealed_any a0 len0 cap0 l w2 (HA.out.later HB2.out (Nat.le_refl _)) hn).mono ?_
    rintro e w3 ⟨d, rfl, b3⟩
    have HB3 := hide (below_here HB2.out b3)
    obtain ⟨x, y, hxy⟩ : ∃ x y, healedI d = (x, y) := ⟨_, _, rfl⟩
    have HXY := hide hxy
    obtain ⟨o, ho⟩ : ∃ o, oddI d = o := ⟨_, rfl⟩
    have HO := hide ho
    clear b3 HB2 hxy ho
    go_wp2_with fail
    refine (implHealed_to d x y HXY.out w3 (HTAB.out.here HB3.out)).mono ?_
    rintro e w4 ⟨rfl, b4⟩
    have HB4 := hide (below_here HB3.out b4)
    clear b4 HB3
    go_wp2_with fail
    refine (specHealed_to d x y HXY.out w4).mono ?_
    rintro e w5 ⟨rfl, b5⟩
    have HB5 := hide (below_here HB4.out b5)
    clear b5 HB4
    go_wp2_with fail
    refine (specSpread_to b W HW.out w5).mono ?_
    rintro e w6 ⟨rfl, b6⟩
    have HB6 := hide (below_here HB5.out b6)
    clear b6 HB5
    go_wp2_with fail
    refine (implOdd_to d o HO.out w6).mono ?_
    rintro e w7 ⟨rfl, b7⟩
    have HB7 := hide (below_here HB6.out b7)
    clear b7 HB6
    go_wp2_with fail
    refine (specOdd_to d o HO.out w7).mono ?_
    rintro e w8 ⟨rfl, b8⟩
    have HB8 := hide (below_here HB7.out b8)
    clear b8 HB7
    cases hb : elem b
    · have hW1 : W = -1 := by rw [← HW.out]; exact spreadI_no hb
      subst hW1
      have hout := elem_out hb
      by_cases h0 : b < 0
      · go_wp2_with fail
        go_ret
        exact ⟨rfl, HB8.out⟩
      · have h255 : (255 : Int) < b := by omega
        go_wp2_with fail
        go_ret
        exact ⟨rfl, HB8.out⟩
    · obtain ⟨n, rfl, hn8⟩ := elem_nat hb
      obtain ⟨S, hS⟩ : ∃ S, S = Ham.spread n := ⟨_, rfl⟩
      have hWS : W = (S : Int) := by rw [← HW.out, hS]; exact spreadI_nat hn8
      subst hWS
      have hS13 : S < 8192 := by rw [hS]; exact Ham.spread_lt hn8
      have HS := hide hS
      have h0 : decide ((S : Int) < 0) = false := by simp
      clear hS hb HW
      have HN := hide hn8
      go_wp2_with fail
      refine (pick_any a0 len0 cap0 l 1 256 w8 (HA.out.later HB8.out (Nat.le_refl _)) hn (by omega) (by omega) (by omega) (by omega)).mono ?_
      rintro e wp ⟨z, rfl, z0, z1, rfl⟩
      obtain ⟨m, rfl⟩ := Int.eq_ofNat_of_zero_le z0
      by_cases hmn : m = n
      · have hne : ((m : Int) != (n : Int)) = false := by simp [hmn]
        clear hmn
        go_wp2_with fail
        refine (implHealed_to (S : Int) (n : Int) 0 (by rw [healedI_nat hS13, HS.out]; exact Ham.healed_clean HN.out) w8 (HTAB.out.here HB8.out)).mono ?_
        rintro e y1 ⟨rfl, d1⟩
        have HD1 := hide (below_here HB8.out d1)
        clear d1 HB8
        go_wp2_with fail
        refine (implOdd_to (S : Int) 0 (by rw [oddI_nat hS13, HS.out, Ham.spread_odd HN.out]; rfl) y1).mono ?_
        rintro e y2 ⟨rfl, d2⟩
        have HD2 := hide (below_here HD1.out d2)
        clear d2 HD1
        go_wp2_with fail
        go_loopw [16] (fun i wr => ∃ k : Nat, k ≤ 13 ∧ i = .int .i64 (k : Int) ∧ Below w.heap.size w wr) (fun i _ => 13 - (intOf i).toNat)
        case atStart => exact ⟨0, by omega, rfl, HD2.out⟩
        case round =>
          obtain ⟨k, hk, rfl, hbel⟩ := hrel
          have HB := hide hbel
          clear hbel HD2
          by_cases hlt : k < 13
          · obtain ⟨T, hT⟩ : ∃ T, T = S ^^^ 2 ^ k := ⟨_, rfl⟩
            have hx := xor_shl S k hS13 hlt
            rw [← hT] at hx
            have hT13 : T < 8192 := by rw [hT]; exact Ham.turned_lt hS13 hlt
            have HT := hide hT
            clear hT
            go_wp2_with fail
            refine (implHealed_to (T : Int) (n : Int) 1 (by rw [healedI_nat hT13, HT.out, HS.out]; exact Ham.healed_one HN.out hlt) wr (HTAB.out.here HB.out)).mono ?_
            rintro e y3 ⟨rfl, d3⟩
            have HD3 := hide (below_here HB.out d3)
            clear d3 HB
            go_wp2_with fail
            refine (implOdd_to (T : Int) (k : Int) (by rw [oddI_nat hT13, HT.out, HS.out, Ham.odd_one HN.out hlt]) y3).mono ?_
            rintro e y4 ⟨rfl, d4⟩
            have HD4 := hide (below_here HD3.out d4)
            clear d4 HD3
            go_wp2_with fail
            go_loopw [19] (fun i wr => ∃ q : Nat, q ≤ k ∧ i = .int .i64 (q : Int) ∧ Below w.heap.size w wr) (fun i _ => k - (intOf i).toNat)
            case atStart => exact ⟨0, by omega, rfl, HD4.out⟩
            case round =>
              obtain ⟨q, hq, rfl, hbel⟩ := hrel
              have HB := hide hbel
              clear hbel HD4
              by_cases hqk : q < k
              · obtain ⟨U, hU⟩ : ∃ U, U = T ^^^ 2 ^ q := ⟨_, rfl⟩
                have hx2 := xor_shl T q hT13 (by omega)
                rw [← hU] at hx2
                have hU13 : U < 8192 := by rw [hU]; exact Ham.turned_lt hT13 (by omega)
                have HU := hide hU
                clear hU
                go_wp2_with fail
                refine (implHealed_to (U : Int) (-1) 2 (by rw [healedI_nat hU13, HU.out, HT.out, HS.out]; exact Ham.healed_two HN.out hlt hqk) wr (HTAB.out.here HB.out)).mono ?_
                rintro e y5 ⟨rfl, d5⟩
                have HD5 := hide (below_here HB.out d5)
                clear d5 HB
                go_wp2_with fail
                go_roundw
                case rel => exact ⟨q + 1, by omega, by go_num, HD5.out⟩
                case measure => simp [intOf]; omega
              · go_wp2_with fail
                go_roundw
                case rel => exact ⟨k + 1, by omega, by go_num, HB.out⟩
                case measure => simp [intOf]; omega
          · go_wp2_with fail
            go_ret
            exact ⟨rfl, HB.out⟩
      · have hne : ((m : Int) != (n : Int)) = true := by simp; omega
        obtain ⟨V, hV⟩ : ∃ V, V = Ham.spread m := ⟨_, rfl⟩
        have hm8 : m < 256 := by omega
        have hV13 : V < 8192 := by rw [hV]; exact Ham.spread_lt hm8
        obtain ⟨Y, hY⟩ : ∃ Y, Y = S ^^^ V := ⟨_, rfl⟩
        have hY4 : 4 ≤ Ham.wt Y := by rw [hY, HS.out, hV]; exact Ham.spread_far HN.out hm8 (fun e => hmn e.symm)
        have hYx : bits .xor .i64 (S : Int) (V : Int) = (Y : Int) := by rw [hY]; exact i64_xor_nat S V (by omega) (by omega)
        have HV := hide hV
        have HY4 := hide hY4
        have hY13 : Y < 8192 := by rw [hY]; exact Nat.xor_lt_two_pow (n := 13) hS13 hV13
        clear hV hY hY4 hmn
        go_wp2_with fail
        refine (implSpread_to (m : Int) (V : Int) (by rw [spreadI_nat hm8, HV.out]) w8 (HTAB.out.here HB8.out)).mono ?_
        rintro e w9 ⟨rfl, b9⟩
        have HB9 := hide (below_here HB8.out b9)
        clear b9 HB8
        go_wp2_with fail
        go_loop [12, 13] (fun t i => ∃ k : Nat, k ≤ 13 ∧ i = .int .i64 (k : Int) ∧ t = .int .i64 (Ham.wtTo Y k : Int)) (fun _ i => 13 - (intOf i).toNat)
        case atStart => exact ⟨0, by omega, rfl, rfl⟩
        case round =>
          obtain ⟨k, hk, rfl, rfl⟩ := hrel
          by_cases hlt : k < 13
          · have hsh := shr_bitN Y k
            have hb2 := Ham.bitN_lt Y k
            have hn2 := Ham.wtTo_le Y k
            have HST : Hid (Ham.wtTo Y (k + 1) = Ham.wtTo Y k + Ham.bitN Y k) := rfl
            obtain ⟨t, ht⟩ : ∃ t, t = Ham.wtTo Y k := ⟨_, rfl⟩
            obtain ⟨c, hcc⟩ : ∃ c, c = Ham.bitN Y k := ⟨_, rfl⟩
            rw [← ht, ← hcc] at HST
            rw [← ht] at hn2 ⊢
            rw [← hcc] at hsh hb2
            clear ht hcc
            go_wp2_with fail
            go_round
            case rel => exact ⟨k + 1, by omega, by go_num, by rw [HST.out]; go_num⟩
            case measure => simp [intOf]; omega
          · obtain ⟨t, ht⟩ : ∃ t, t = Ham.wtTo Y k := ⟨_, rfl⟩
            have ht4 : 4 ≤ t := by rw [ht, show k = 13 by omega]; exact HY4.out
            rw [← ht]
            have hd4 : decide ((t : Int) < 4) = false := decide_eq_false (by omega)
            clear ht ht4
            go_wp2_with fail
            refine (implHealed_to (S : Int) (n : Int) 0 (by rw [healedI_nat hS13, HS.out]; exact Ham.healed_clean HN.out) w9 (HTAB.out.here HB9.out)).mono ?_
            rintro e y1 ⟨rfl, d1⟩
            have HD1 := hide (below_here HB9.out d1)
            clear d1 HB9
            go_wp2_with fail
            refine (implOdd_to (S : Int) 0 (by rw [oddI_nat hS13, HS.out, Ham.spread_odd HN.out]; rfl) y1).mono ?_
            rintro e y2 ⟨rfl, d2⟩
            have HD2 := hide (below_here HD1.out d2)
            clear d2 HD1
            go_wp2_with fail
            go_loopw [16] (fun i wr => ∃ k : Nat, k ≤ 13 ∧ i = .int .i64 (k : Int) ∧ Below w.heap.size w wr) (fun i _ => 13 - (intOf i).toNat)
            case atStart => exact ⟨0, by omega, rfl, HD2.out⟩
            case round =>
              obtain ⟨k, hk, rfl, hbel⟩ := hrel
              have HB := hide hbel
              clear hbel HD2
              by_cases hlt : k < 13
              · obtain ⟨T, hT⟩ : ∃ T, T = S ^^^ 2 ^ k := ⟨_, rfl⟩
                have hx := xor_shl S k hS13 hlt
                rw [← hT] at hx
                have hT13 : T < 8192 := by rw [hT]; exact Ham.turned_lt hS13 hlt
                have HT := hide hT
                clear hT
                go_wp2_with fail
                refine (implHealed_to (T : Int) (n : Int) 1 (by rw [healedI_nat hT13, HT.out, HS.out]; exact Ham.healed_one HN.out hlt) wr (HTAB.out.here HB.out)).mono ?_
                rintro e y3 ⟨rfl, d3⟩
                have HD3 := hide (below_here HB.out d3)
                clear d3 HB
                go_wp2_with fail
                refine (implOdd_to (T : Int) (k : Int) (by rw [oddI_nat hT13, HT.out, HS.out, Ham.odd_one HN.out hlt]) y3).mono ?_
                rintro e y4 ⟨rfl, d4⟩
                have HD4 := hide (below_here HD3.out d4)
                clear d4 HD3
                go_wp2_with fail
                go_loopw [19] (fun i wr => ∃ q : Nat, q ≤ k ∧ i = .int .i64 (q : Int) ∧ Below w.heap.size w wr) (fun i _ => k - (intOf i).toNat)
                case atStart => exact ⟨0, by omega, rfl, HD4.out⟩
                case round =>
                  obtain ⟨q, hq, rfl, hbel⟩ := hrel
                  have HB := hide hbel
                  clear hbel HD4
                  by_cases hqk : q < k
                  · obtain ⟨U, hU⟩ : ∃ U, U = T ^^^ 2 ^ q := ⟨_, rfl⟩
                    have hx2 := xor_shl T q hT13 (by omega)
                    rw [← hU] at hx2
                    have hU13 : U < 8192 := by rw [hU]; exact Ham.turned_lt hT13 (by omega)
                    have HU := hide hU
                    clear hU
                    go_wp2_with fail
                    refine (implHealed_to (U : Int) (-1) 2 (by rw [healedI_nat hU13, HU.out, HT.out, HS.out]; exact Ham.healed_two HN.out hlt hqk) wr (HTAB.out.here HB.out)).mono ?_
                    rintro e y5 ⟨rfl, d5⟩
                    have HD5 := hide (below_here HB.out d5)
                    clear d5 HB
                    go_wp2_with fail
                    go_roundw
                    case rel => exact ⟨q + 1, by omega, by go_num, HD5.out⟩
                    case measure => simp [intOf]; omega
                  · go_wp2_with fail
                    go_roundw
                    case rel => exact ⟨k + 1, by omega, by go_num, HB.out⟩
                    case measure => simp [intOf]; omega
              · go_wp2_with fail
                go_ret
                exact ⟨rfl, HB.out⟩

/-! ### THE ROW's STEP: WRITTEN OUT: LEAVE IT -/
theorem laid_met (os : Os) : laidMet Tryd.prog Rows.fnHammingRow.laid ((laidWorld os).forCall (fun _ _ => 0) ⟨#[], #[.slice none 0 0], []⟩).memory :=
  laidMet_of_run' 8 (by kernel_rfl) (by kernel_rfl)
theorem reads (os : Os) {H : Type} (enc : TypeId × Value → H) : ∃ places, DataW.whole enc Tryd.prog ((laidWorld os).forCall (fun _ _ => 0) ⟨#[], #[.slice none 0 0], []⟩).memory Tryd.f3.params.toList Rows.fnHammingSpec.vars false (#[.slice none 0 0] : Array Value).toList 8 = some ([.nil], [placesD], places) :=
  ⟨MemPlace.row ⟨0, 0, none⟩ 8, by kernel_rfl⟩

set_option maxRecDepth 100000 in
theorem lifted (os : Os) (started : os.Started) (H : Type) (enc : TypeId × Value → H) (F : Stop.Interp) :
    ReturnsInHanded {} Tryd.checked os 3 .any ((OpenSpec.ofChange Rows.fnHammingSpec).preRow enc Tryd.prog Tryd.f3 Rows.fnHammingRow.domain false Rows.fnHammingRow.laid) (((OpenSpec.ofChange Rows.fnHammingSpec).at F).post enc Tryd.prog Tryd.f3 false true false false) := by
  obtain ⟨places, hx⟩ := reads os enc
  refine returnsInHanded_of_row (C := Tryd.checked) (s := OpenSpec.ofChange Rows.fnHammingSpec) own started (by kernel_rfl) Tryd.func3
    (witness_row_at (enc := enc) (C := Tryd.checked) false (laidWorld os) #[.slice none 0 0] rfl (by kernel_rfl) (by kernel_rfl) (by kernel_rfl)
      (OpenSpec.preRow_of_cond 8 hx (by kernel_rfl) (fun k hk => by cases hk) (by kernel_rfl) (laid_met os))) ?_
  intro W base args ds gs before hval0 hW _ _ _ hL _ _
  have hval : ∀ (j : Nat) t v, Tryd.f3.params[j]? = some t → args[j]? = some v → Value.okWide Tryd.prog W .any base t v := hval0
  have hW' := hW
  obtain ⟨p, q, hA0, hV0, rfl, hfz, hnd⟩ := hW
  have hV : DataW.TrodVars enc Tryd.prog W (fun _ => true) ["loop.example/g00223/impl.dataPlaces"] gs q := hV0
  have hA : DataW.TrodAll enc Tryd.prog W 0 (fun _ => true) true Tryd.f3.params.toList args.toList ds p := hA0
  rw [Tryd.params3] at hA hval
  obtain ⟨v0, vs0, d0, ds0, p0, q0, hargs, rfl, rfl, h0, r0⟩ := trodAll_cons hA
  obtain ⟨rfl, rfl, rfl⟩ := trodAll_nil r0
  obtain rfl : args = #[v0] := by cases args; simp_all
  obtain ⟨g, tg, cs, fuel, dg, pg, rfl, hg0, htg, hvar, hdg, rfl⟩ := trodVars_one hV
  obtain rfl := Option.some.inj (placesNamed.symm.trans hg0)
  obtain rfl := Option.some.inj (placesType.symm.trans htg)
  obtain rfl : cs = placesA := Option.some.inj (hvar.symm.trans (placesVar hL))
  obtain ⟨rfl, rfl⟩ := DataW.Trod.unique (v := .agg placesA) ⟨fuel, hdg⟩ ⟨3, placesRead enc W _⟩
  obtain ⟨a0, len0, cap0, rfl⟩ := okWide_slice Tryd.underlying22 (hval 0 22 v0 rfl rfl)
  have k0 := h0
  have lt0 : ∀ x ∈ p0, x.block < W.heap.size := by obtain ⟨m, hm⟩ := k0; exact DataW.trod_lt m _ _ _ hm
  obtain ⟨z0, w0⟩ : ∃ zs, IsRow .u8 W a0 len0 cap0 zs := by
    obtain ⟨fuel, hf⟩ := h0
    rcases open_ints Tryd.underlying22 Tryd.underlying5 (by kernel_rfl) hf with ⟨hcs, _⟩ | ⟨x, l, c, zs, hcs, _, hl, hm, hz, _, hcell, hwz⟩
    · simp [Value.cells] at hcs
      obtain ⟨rfl, rfl, rfl⟩ := hcs
      exact ⟨[], .inl ⟨rfl, rfl, rfl, rfl⟩⟩
    · simp [Value.cells] at hcs
      obtain ⟨rfl, rfl, rfl⟩ := hcs
      exact ⟨zs, .inr ⟨_, rfl, hl, hm, by simpa using hz, hcell, hwz⟩⟩
  clear hA0 hval0 hV0
  refine (walk a0 len0 cap0 z0 W w0 (tab_of_var hvar)).mono fun e W' ⟨he, bel⟩ => ?_
  subst he
  exact ⟨_, rfl, _, _, _, [], _, _, hW', trodAll_mk1 (shut_bool Tryd.underlying4 _), (trodAll_cons_mk (Below.trod laidOut (by kernel_rfl) (of_decide_eq_true (by kernel_rfl)) k0 bel lt0) trodAll_mk0), placesVars enc _ (var_later placesNamed hvar bel), bel.frame _, fun h => by cases h⟩


theorem over : Rows.FnHammingSaid :=
  OpenClaim.holds_of_cond 3 Tryd.f3 rfl rfl rfl rfl rfl rfl rfl ⟨rfl, rfl, rfl, rfl, rfl⟩ rfl rfl rfl rfl rfl (by kernel_rfl) Tryd.func3 (by kernel_rfl)
    (of_decide_eq_true (by kernel_rfl)) (by unfold Func.isWrapper; first | (rw [if_pos (by decide +kernel)]; kernel_rfl) | (rw [if_neg (by decide +kernel)]; exact ⟨rfl, rfl⟩))
    (fun os started H enc _ F => by rw [OpenClaim.pre_eq_preRow]; exact lifted os started H enc F)
theorem plain (f : FuncId) (fn : Func) (hf : Tryd.pinned.checked.prog.funcNamed "loop.example/g00223/laws.FnHamming" = some f) (hfn : Tryd.pinned.checked.prog.funcs[f]? = some fn) :
    false = Tryd.pinned.checked.prog.looks [] ∧ ∀ (j : Nat) t, fn.params[j]? = some t → Tryd.pinned.checked.prog.wantsStandIn t = false := by
  obtain rfl : f = 3 := Option.some.inj ((show Tryd.prog.funcNamed "loop.example/g00223/laws.FnHamming" = some 3 by kernel_rfl).symm.trans hf) |>.symm
  obtain rfl : fn = Tryd.f3 := (Option.some.inj (Tryd.func3.symm.trans hfn)).symm
  refine ⟨by kernel_rfl, fun j t ht => ?_⟩
  have hall : (Tryd.f3.params.toList.all fun u => !Tryd.prog.wantsStandIn u) = true := by kernel_rfl
  have hm : t ∈ Tryd.f3.params.toList := by simpa using Array.mem_of_getElem? ht
  exact (show Tryd.prog.wantsStandIn t = false by simpa using List.all_eq_true.1 hall t hm)

/-- ████ THE CARD ████ -/
theorem proved : Rows.FnHammingCardSaid :=
  Claim7.holds_tied_plain_at .later [] _ _ _ _ over (fun _ h => by cases h) (by kernel_rfl) (fun _ h => by cases h) fnHamming_row_tie rfl ⟨rfl, rfl⟩ (by kernel_rfl) rfl plain (by kernel_rfl)
#print axioms proved
end Go.Proofs.YtldcgjilafibkaaDoor.fnHamming
