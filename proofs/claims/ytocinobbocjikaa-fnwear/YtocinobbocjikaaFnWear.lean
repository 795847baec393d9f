/- For every slice of bytes the law FnWear returns true and leaves its argument as it was; no condition. -/
import Derived.Test.YtocinobbocjikaaRows
import Derived.Test.YtocinobbocjikaaJChipCopyS
import Derived.Test.YtocinobbocjikaaDraw9b
import Derived.Test.YtocinobbocjikaaJDraw8g
import Derived.Test.YtocinobbocjikaaJLawBase
import Derived.Test.YtocinobbocjikaaJWearSpecC
import Derived.Test.YtocinobbocjikaaWearImplE
import Derived.Deep.RegionHeld3
import Derived.Deep.DeepCutAuto
import Derived.BigRegion
import Derived.Deep.QuietTactic
import Derived.BigQuiet
import Derived.WalkKit
import Derived.ProofKit
import Derived.OpenShut
import Derived.ShutString
import Derived.ChangeOld
import Derived.Below
namespace Go.Proofs.Ytocinobbocjikaa.fnWear
open Go.ChangeShapes Go.WideShapes Go.ChangeAt Go.RowKit
open Go.ChangeMaps (open_string shut_string)
set_option linter.unusedVariables false

theorem own : ownKnob Try.prog.godebug = none := by kernel_rfl
theorem laidOut : laidOutB Try.prog = true := by kernel_rfl

/-- WHAT THE WALK IS TOLD OF A SLICE OF INTEGERS THAT CAME IN: it is nil; or it leads to a row of 'cap' cells, the numbers 'zs' (the first 'len' are its elements, the rest its spare room), each fitting its kind. -/
def IsRow (k : IntKind) (w : World) (a : Option Addr) (len cap : Nat) (zs : List Int) : Prop :=
  (a = none ∧ len = 0 ∧ cap = 0 ∧ zs = []) ∨
  ∃ x, a = some x ∧ len ≤ cap ∧ cap ≤ maxLen ∧ zs.length = cap ∧ (∀ i, i < zs.length → w.cell? (x.add i) = some (.int k (zs.getD i 0))) ∧ ∀ n ∈ zs, (Lit.int k n).wf = true

/-- The three chips' boxes, as they were. -/
abbrev Box3 (w7 : World) (b3 b7 b9 : Nat) (z3 : Int) (a3 : Option Addr) (n3 c3 : Nat) (z7 : Int) (a7 : Option Addr) (n7 c7 : Nat) (z9 : Int) (a9 : Option Addr) (n9 c9 : Nat) (w' : World) : Prop :=
  (w'.cell? ⟨b3, 0, none⟩ = some (.int .i64 z3) ∧ w'.cell? ⟨b3, 1, none⟩ = some (.slice a3 n3 c3)) ∧ (w'.cell? ⟨b7, 0, none⟩ = some (.int .i64 z7) ∧ w'.cell? ⟨b7, 1, none⟩ = some (.slice a7 n7 c7)) ∧ (w'.cell? ⟨b9, 0, none⟩ = some (.int .i64 z9) ∧ w'.cell? ⟨b9, 1, none⟩ = some (.slice a9 n9 c9)) ∧ Below w7.heap.size w7 w'
theorem Box3.keep {w7 w' w8 : World} {b3 b7 b9 : Nat} {z3 : Int} {a3 : Option Addr} {n3 c3 : Nat} {z7 : Int} {a7 : Option Addr} {n7 c7 : Nat} {z9 : Int} {a9 : Option Addr} {n9 c9 : Nat} (h : Box3 w7 b3 b7 b9 z3 a3 n3 c3 z7 a7 n7 c7 z9 a9 n9 c9 w') (hb : Below w'.heap.size w' w8) : Box3 w7 b3 b7 b9 z3 a3 n3 c3 z7 a7 n7 c7 z9 a9 n9 c9 w8 := by
  have hc : ∀ {a : Addr} {v : Value}, w'.cell? a = some v → w8.cell? a = some v := fun {a v} h9 => (hb.cell (World.block_lt_of_cell? _ _ h9)).trans h9
  exact ⟨⟨hc h.1.1, hc h.1.2⟩, ⟨hc h.2.1.1, hc h.2.1.2⟩, ⟨hc h.2.2.1.1, hc h.2.2.1.2⟩, below_here h.2.2.2 hb⟩
set_option maxHeartbeats 32000000 in
set_option maxRecDepth 100000 in

theorem walk (a0 : Option Addr) (len0 cap0 : Nat) (z0 : List Int) (w : World) (w0 : IsRow .u8 w a0 len0 cap0 z0) :
    Calls Try.prog 3 #[.slice a0 len0 cap0] w fun e w' => e = .returned (.bool true) ∧ Below w.heap.size w w' := by
  obtain ⟨l, hA⟩ : ∃ l, Bytes 0 w.heap.size w a0 len0 l := ⟨_, bytes_of (by unfold IsRow at w0; exact w0)⟩
  have hlen : len0 ≤ 9223372036854775807 := by
    rcases w0 with ⟨_, rfl, _, _⟩ | ⟨x, _, hl, hm, _⟩
    · omega
    · unfold maxLen at hm; omega
  clear w0
  by_cases hbig : 4096 < len0
  · have hb' : decide (4096 < len0) = true := by simpa using hbig
    go_enter Try.func3, Try.ntmps3
    go_wp2_with fail
    refine (big_any a0 len0 cap0 w hlen).mono ?_
    rintro e w1 ⟨rfl, rfl⟩
    go_wp2_with fail
    go_ret
    exact ⟨rfl, Below.refl _ _⟩
  · have hb' : decide (4096 < len0) = false := by simpa using hbig
    have hn : len0 ≤ 4096 := by omega
    have hd : JobDraws := jobDraws
    clear hbig
    have HA := hide hA
    clear hA
    go_enter Try.func3, Try.ntmps3
    go_wp2_with fail
    refine (big_any a0 len0 cap0 w hlen).mono ?_
    rintro e w1 ⟨rfl, rfl⟩
    go_wp2_with fail
    refine (drawVictim_any hd a0 len0 cap0 l w HA.out (Nat.le_refl _) hn).mono ?_
    rintro e w1 ⟨z3, a3, n3, c3, q3, am, m, cm, ps, x, rfl, hD, b1⟩
    obtain ⟨wX, hwX⟩ : ∃ wX, wX = w1.alloc (.cells #[.int .i64 z3, .slice a3 n3 c3] 26) := ⟨_, rfl⟩
    have hzX : wX.heap.size = w1.heap.size + 1 := by rw [hwX]; simp
    have HBX : Hid (Below w1.heap.size w1 wX) := by rw [hwX]; exact (Below.refl _ _).alloc (Nat.le_refl _) _
    have HK3 : Hid (wX.heap[w1.heap.size]? = some (.cells #[.int .i64 z3, .slice a3 n3 c3] 26)) := by rw [hwX]; exact heap_new _ _
    have HD3 := hide (hD.later HBX.out)
    have HB1 := hide (below_here b1 HBX.out)
    have hs1 := b1.size
    have hn3 := hD.n13
    have hm3 := hD.m200
    clear hD b1 HBX
    obtain ⟨k0, k1⟩ := two_cells HK3.out
    rw [hwX] at k0 k1
    go_wp2_with fail
    rw [← hwX]
    clear hwX k0 k1
    obtain ⟨v, hv⟩ : ∃ v, v = victim z3 q3 ps x := ⟨_, rfl⟩
    have HV := hide hv
    refine (implVictim_any z3 a3 n3 c3 q3 am m cm ps x wX HD3.out.sq (Nat.le_refl _) (by omega) HD3.out.fits HD3.out.pl (Nat.le_refl _) (by omega) HD3.out.mc).mono ?_
    rintro e w2 ⟨rfl, b2⟩
    rw [← hv]
    have HK32 := hide (block_on HK3.out b2)
    have HD32 := hide (HD3.out.later b2)
    have HB2 := hide (below_here HB1.out b2)
    have hs2 := b2.size
    clear b2 HK3 HD3 HB1 hv
    go_wp2_with fail
    refine (drawEmpty_any hd a0 len0 cap0 l w2 (HA.out.later HB2.out (Nat.le_refl _)) (by have := HB2.out.size; omega) hn).mono ?_
    rintro e w3 ⟨z7, a7, n7, c7, q7, rfl, hn7, hc7, hf7, hl7, hsq7, b3⟩
    obtain ⟨wY, hwY⟩ : ∃ wY, wY = w3.alloc (.cells #[.int .i64 z7, .slice a7 n7 c7] 26) := ⟨_, rfl⟩
    have hzY : wY.heap.size = w3.heap.size + 1 := by rw [hwY]; simp
    have HBY : Hid (Below w3.heap.size w3 wY) := by rw [hwY]; exact (Below.refl _ _).alloc (Nat.le_refl _) _
    have HK7 : Hid (wY.heap[w3.heap.size]? = some (.cells #[.int .i64 z7, .slice a7 n7 c7] 26)) := by rw [hwY]; exact heap_new _ _
    have HS7 := hide (hsq7.later HBY.out (Nat.le_refl _))
    have HF7 := hide hf7
    have HK33 := hide (block_on (block_on HK32.out b3) HBY.out)
    have HD33 := hide ((HD32.out.later b3).later HBY.out)
    have HB3 := hide (below_here (below_here HB2.out b3) HBY.out)
    have hs3 := b3.size
    clear b3 HBY hsq7 hf7 hl7 HK32 HD32 HB2
    obtain ⟨k0, k1⟩ := two_cells HK7.out
    rw [hwY] at k0 k1
    go_wp2_with fail
    rw [← hwY]
    clear hwY k0 k1
    obtain ⟨L, hL⟩ : ∃ L, L = emptyL z7 q7 := ⟨_, rfl⟩
    have HLL := hide hL
    refine (implEmpty_any z7 a7 n7 c7 q7 wY HS7.out (by omega) (by omega) HF7.out).mono ?_
    rintro e w4 ⟨p4, m4, k4, rfl, hk4, hm4, o4, b4⟩
    rw [← hL] at o4
    have HE4 := hide o4
    have HK74 := hide (block_on HK7.out b4)
    have HS74 := hide (HS7.out.later b4 (by omega))
    have HK34 := hide (block_on HK33.out b4)
    have HD34 := hide (HD33.out.later b4)
    have HB4 := hide (below_here HB3.out b4)
    have hs4 := b4.size
    clear b4 o4 hL HK7 HS7 HK33 HD33 HB3
    go_wp2_with fail
    refine (drawLive_any hd a0 len0 cap0 l w4 (HA.out.later HB4.out (Nat.le_refl _)) (by have := HB4.out.size; omega) hn).mono ?_
    rintro e w5 ⟨z9, a9, n9, c9, q9, an, mn, cn, pn, xn, rfl, hD, b5⟩
    obtain ⟨wZ, hwZ⟩ : ∃ wZ, wZ = w5.alloc (.cells #[.int .i64 z9, .slice a9 n9 c9] 26) := ⟨_, rfl⟩
    have hzZ : wZ.heap.size = w5.heap.size + 1 := by rw [hwZ]; simp
    have HBZ : Hid (Below w5.heap.size w5 wZ) := by rw [hwZ]; exact (Below.refl _ _).alloc (Nat.le_refl _) _
    have HK9 : Hid (wZ.heap[w5.heap.size]? = some (.cells #[.int .i64 z9, .slice a9 n9 c9] 26)) := by rw [hwZ]; exact heap_new _ _
    have HD9 := hide (hD.later HBZ.out)
    have HE5 := hide ((HE4.out.later b5 (Nat.le_refl _)).later HBZ.out b5.size)
    have HK75 := hide (block_on (block_on HK74.out b5) HBZ.out)
    have HS75 := hide ((HS74.out.later b5 (by omega)).later HBZ.out (by have := b5.size; omega))
    have HK35 := hide (block_on (block_on HK34.out b5) HBZ.out)
    have HD35 := hide ((HD34.out.later b5).later HBZ.out)
    have HB5 := hide (below_here (below_here HB4.out b5) HBZ.out)
    have hs5 := b5.size
    have hn9 := hD.n13
    have hm9 := hD.m200
    clear hD b5 HBZ HE4 HK74 HS74 HK34 HD34 HB4
    obtain ⟨k0, k1⟩ := two_cells HK75.out
    rw [hwZ] at k0 k1
    go_wp2_with fail
    rw [← hwZ]
    clear hwZ k0 k1
    obtain ⟨la, hla⟩ : ∃ la, la = (worn z7 q7).1 := ⟨_, rfl⟩
    obtain ⟨lb, hlb⟩ : ∃ lb, lb = (worn z7 q7).2 := ⟨_, rfl⟩
    have HLA := hide hla
    have HLB := hide hlb
    refine (implWorn_any z7 a7 n7 c7 q7 wZ HS75.out (by omega) (by omega) HF7.out).mono ?_
    rintro e w6 ⟨rfl, b6⟩
    rw [← hla, ← hlb]
    have HK76 := hide (block_on HK75.out b6)
    have HS76 := hide (HS75.out.later b6 (by omega))
    have HE6 := hide (HE5.out.later b6 (by omega))
    have HK96 := hide (block_on HK9.out b6)
    have HD96 := hide (HD9.out.later b6)
    have HK36 := hide (block_on HK35.out b6)
    have HD36 := hide (HD35.out.later b6)
    have HB6 := hide (below_here HB5.out b6)
    have hs6 := b6.size
    clear b6 HK75 HS75 HE5 HK9 HD9 HK35 HD35 HB5
    obtain ⟨k0, k1⟩ := two_cells HK76.out
    go_wp2_with fail
    refine (specWorn_any z7 a7 n7 c7 q7 w6 HS76.out (by omega) (by omega) HF7.out).mono ?_
    rintro e w7 ⟨rfl, b7⟩
    rw [← hla, ← hlb]
    have HK77 := hide (block_on HK76.out b7)
    have HS77 := hide (HS76.out.later b7 (by omega))
    have HE7 := hide (HE6.out.later b7 (by omega))
    have HK97 := hide (block_on HK96.out b7)
    have HD97 := hide (HD96.out.later b7)
    have HK37 := hide (block_on HK36.out b7)
    have HD37 := hide (HD36.out.later b7)
    have HB7 := hide (below_here HB6.out b7)
    have hs7 := b7.size
    clear b7 HK76 HS76 HE6 HK96 HD96 HK36 HD36 HB6 k0 k1 hla hlb
    have HS0 : Hid (Box3 w7 w1.heap.size w3.heap.size w5.heap.size z3 a3 n3 c3 z7 a7 n7 c7 z9 a9 n9 c9 w7) := ⟨two_cells HK37.out, two_cells HK77.out, two_cells HK97.out, Below.refl _ _⟩
    have HS0d : Hid (Box3 w7 w1.heap.size w3.heap.size w5.heap.size z3 a3 n3 c3 z7 a7 n7 c7 z9 a9 n9 c9 w7.drew) := ⟨HS0.out.1, HS0.out.2.1, HS0.out.2.2.1, (Below.refl _ _).drew⟩
    have cV : ∀ W, Box3 w7 w1.heap.size w3.heap.size w5.heap.size z3 a3 n3 c3 z7 a7 n7 c7 z9 a9 n9 c9 W → Hid (Calls Try.prog 13 #[.agg #[.int .i64 z3, .slice a3 n3 c3], .slice am m cm, .int .i64 x] W fun e w' => e = .returned (.int .i64 v) ∧ Box3 w7 w1.heap.size w3.heap.size w5.heap.size z3 a3 n3 c3 z7 a7 n7 c7 z9 a9 n9 c9 w') := fun W h => by
      have hd := HD37.out.later h.2.2.2
      exact (specVictim_any z3 a3 n3 c3 q3 am m cm ps x W hd.sq (Nat.le_refl _) (by omega) hd.fits hd.pl (Nat.le_refl _) (by omega)).mono (fun e w' hh => ⟨by rw [hh.1, HV.out], h.keep hh.2⟩)
    have cE : ∀ W, Box3 w7 w1.heap.size w3.heap.size w5.heap.size z3 a3 n3 c3 z7 a7 n7 c7 z9 a9 n9 c9 W → Hid (Calls Try.prog 15 #[.agg #[.int .i64 z7, .slice a7 n7 c7]] W fun e w' => ∃ a' n' cap', e = .returned (.slice a' n' cap') ∧ n' ≤ 12 ∧ Ints W.heap.size w'.heap.size w' a' n' L ∧ Box3 w7 w1.heap.size w3.heap.size w5.heap.size z3 a3 n3 c3 z7 a7 n7 c7 z9 a9 n9 c9 w') := fun W h => by
      have hd := HS77.out.later h.2.2.2 (by omega)
      exact (specEmpty_any z7 a7 n7 c7 q7 W hd (by have := h.2.2.2.size; omega) (by omega) HF7.out).mono (fun e w' ⟨a', n', cap', h1, h2, h3, h4, h5⟩ => ⟨a', n', cap', h1, h3, by rw [HLL.out]; exact h4.ints, h.keep h5⟩)
    have cL : ∀ W a' n' cap' lo' hi', Box3 w7 w1.heap.size w3.heap.size w5.heap.size z3 a3 n3 c3 z7 a7 n7 c7 z9 a9 n9 c9 W → Ints lo' hi' W a' n' L → n' ≤ 12 → Hid (Calls Try.prog 14 #[.slice p4 m4 k4, .slice a' n' cap'] W fun e w' => e = .returned (.bool true) ∧ Box3 w7 w1.heap.size w3.heap.size w5.heap.size z3 a3 n3 c3 z7 a7 n7 c7 z9 a9 n9 c9 w') := fun W a' n' cap' lo' hi' h hi hn' => by
      have hd := HE7.out.later h.2.2.2 (by omega)
      exact (likeTwo_any p4 m4 k4 L a' n' cap' L W hd.ints hi (by omega) (by omega)).mono (fun e w' hh => ⟨by rw [hh.1]; simp, h.keep hh.2⟩)
    obtain ⟨lv, hlv⟩ : ∃ lv, lv = live z9 q9 pn xn := ⟨_, rfl⟩
    have HLV := hide hlv
    have cI : ∀ W, Box3 w7 w1.heap.size w3.heap.size w5.heap.size z3 a3 n3 c3 z7 a7 n7 c7 z9 a9 n9 c9 W → Hid (Calls Try.prog 16 #[.agg #[.int .i64 z9, .slice a9 n9 c9], .slice an mn cn, .int .i64 xn] W fun e w' => e = .returned (.int .i64 lv) ∧ Box3 w7 w1.heap.size w3.heap.size w5.heap.size z3 a3 n3 c3 z7 a7 n7 c7 z9 a9 n9 c9 w') := fun W h => by
      have hd := HD97.out.later h.2.2.2
      exact (implLive_any z9 a9 n9 c9 q9 an mn cn pn xn W hd.sq (Nat.le_refl _) (by omega) hd.fits hd.pl (Nat.le_refl _) (by omega) hd.mc).mono (fun e w' hh => ⟨by rw [hh.1, HLV.out], h.keep hh.2⟩)
    have cJ : ∀ W, Box3 w7 w1.heap.size w3.heap.size w5.heap.size z3 a3 n3 c3 z7 a7 n7 c7 z9 a9 n9 c9 W → Hid (Calls Try.prog 17 #[.agg #[.int .i64 z9, .slice a9 n9 c9], .slice an mn cn, .int .i64 xn] W fun e w' => e = .returned (.int .i64 lv) ∧ Box3 w7 w1.heap.size w3.heap.size w5.heap.size z3 a3 n3 c3 z7 a7 n7 c7 z9 a9 n9 c9 w') := fun W h => by
      have hd := HD97.out.later h.2.2.2
      exact (specLive_any z9 a9 n9 c9 q9 an mn cn pn xn W hd.sq (Nat.le_refl _) (by omega) hd.fits hd.pl (Nat.le_refl _) (by omega)).mono (fun e w' hh => ⟨by rw [hh.1, HLV.out], h.keep hh.2⟩)
    obtain ⟨mk, hmk⟩ : ∃ mk, mk = mapOk z3 q3 ps := ⟨_, rfl⟩
    have HMK := hide hmk
    have cM : ∀ W, Box3 w7 w1.heap.size w3.heap.size w5.heap.size z3 a3 n3 c3 z7 a7 n7 c7 z9 a9 n9 c9 W → Hid (Calls Try.prog 18 #[.agg #[.int .i64 z3, .slice a3 n3 c3], .slice am m cm] W fun e w' => e = .returned (.bool mk) ∧ Box3 w7 w1.heap.size w3.heap.size w5.heap.size z3 a3 n3 c3 z7 a7 n7 c7 z9 a9 n9 c9 w') := fun W h => by
      have hd := HD37.out.later h.2.2.2
      exact (implMapOk_any z3 a3 n3 c3 q3 am m cm ps W hd.sq (Nat.le_refl _) (by omega) hd.fits hd.pl (Nat.le_refl _) (by omega) hd.mc).mono (fun e w' hh => ⟨by rw [hh.1, HMK.out], h.keep hh.2⟩)
    have cN : ∀ W, Box3 w7 w1.heap.size w3.heap.size w5.heap.size z3 a3 n3 c3 z7 a7 n7 c7 z9 a9 n9 c9 W → Hid (Calls Try.prog 19 #[.agg #[.int .i64 z3, .slice a3 n3 c3], .slice am m cm] W fun e w' => e = .returned (.bool mk) ∧ Box3 w7 w1.heap.size w3.heap.size w5.heap.size z3 a3 n3 c3 z7 a7 n7 c7 z9 a9 n9 c9 w') := fun W h => by
      have hd := HD37.out.later h.2.2.2
      exact (specMapOk_any z3 a3 n3 c3 q3 am m cm ps W hd.sq (Nat.le_refl _) (by omega) hd.fits hd.pl (Nat.le_refl _) (by omega)).mono (fun e w' hh => ⟨by rw [hh.1, HMK.out], h.keep hh.2⟩)
    clear hlv hmk
    go_upto_region 10 with fail
    go_cut [94] (fun c wx => c = .bool false ∧ Below w7.heap.size w7 wx)
    case first =>
      as_aux_lemma =>
        go_region_held3 (fun w' => Box3 w7 w1.heap.size w3.heap.size w5.heap.size z3 a3 n3 c3 z7 a7 n7 c7 z9 a9 n9 c9 w') (first | assumption | exact HS0d.out)
          (first
            | (go_at_call 13; refine (cV _ (by assumption)).out.mono ?_; rintro e w8 ⟨rfl, h8⟩)
            | (go_at_call 15; refine (cE _ (by assumption)).out.mono ?_; rintro e w8 ⟨a8, n8, c8, rfl, hn8, hI8, h8⟩)
            | (go_at_call 14; refine (cL _ _ _ _ _ _ (by assumption) hI8 hn8).out.mono ?_; rintro e w9 ⟨rfl, h9⟩)
            | (go_at_call 16; refine (cI _ (by assumption)).out.mono ?_; rintro e w10 ⟨rfl, h10⟩)
            | (go_at_call 17; refine (cJ _ (by assumption)).out.mono ?_; rintro e w11 ⟨rfl, h11⟩)
            | (go_at_call 18; refine (cM _ (by assumption)).out.mono ?_; rintro e w12 ⟨rfl, h12⟩)
            | (go_at_call 19; refine (cN _ (by assumption)).out.mono ?_; rintro e w13 ⟨rfl, h13⟩)
            | fail)
        all_goals
          have HB13 := hide h13.2.2.2
          go_wp2_with fail
          go_meet
          exact ⟨rfl, HB13.out⟩
    case rest =>
      obtain ⟨rfl, hb8⟩ := hcut
      obtain ⟨w8, hw8⟩ : ∃ w8, w8 = wc := ⟨_, rfl⟩
      subst hw8
      have HK78 := hide (block_on HK77.out hb8)
      have HS78 := hide (HS77.out.later hb8 (by omega))
      have HE8 := hide (HE7.out.later hb8 (by omega))
      have HK38 := hide (block_on HK37.out hb8)
      have HD38 := hide (HD37.out.later hb8)
      have HB8 := hide (below_here HB7.out hb8)
      have hs8 := hb8.size
      have hmL : L.length = m4 := HE8.out.1
      have hq7 : q7.length = n7 := HS78.out.1
      have hq3 : q3.length = n3 := HD38.out.sq.1
      clear hb8 HK77 HS77 HE7 HK37 HD37 HB7 HK97 HD97 HS0 HS0d cV cE cL cI cJ cM cN
      go_wp2_with fail
      go_loopw [16] (fun i wr => ∃ k : Nat, k ≤ m4 ∧ i = .int .i64 (k : Int) ∧ Below w8.heap.size w8 wr) (fun i _ => m4 - (intOf i).toNat)
      case atStart => exact ⟨0, Nat.zero_le _, rfl, Below.refl _ _⟩
      case round =>
        as_aux_lemma =>
          obtain ⟨k, hk, rfl, hbel⟩ := hrel
          have HBB := hide hbel
          by_cases hlt : k < m4
          · have hkL : k < (emptyL z7 q7).length := by rw [← HLL.out, hmL]; exact hlt
            obtain ⟨e, he1, he2, he3, he4, he5, he6, he7⟩ := empty_at hkL
            rw [← HLL.out] at he1 he7
            rw [← HLA.out] at he5
            rw [← HLB.out] at he6
            have HSRT := hide he7
            have HLK := hide he1
            clear he7
            obtain ⟨_, A, C, hx, ht⟩ := HS78.out
            obtain ⟨b, off, rfl, _, hb, hc⟩ := hx.2 (by omega)
            have HC := hide hc
            obtain ⟨y0, y1, y2⟩ := sq_cells hc hbel (show b < w8.heap.size by omega) (show e < n7 by omega)
            obtain ⟨g4, off4, rfl, _, hg4, hl4⟩ := HE8.out.2.2 (by omega)
            have HL4 := hide hl4
            have l0 : wr.cell? ⟨g4, off4 + k, none⟩ = some (.int .i64 (e : Int)) := by
              rw [hbel.cell (p := ⟨g4, off4 + k, none⟩) (show g4 < w8.heap.size by omega), (hl4 k hlt).1]
              unfold cellI
              rw [he1]
            obtain ⟨k0, k1⟩ := two_cells (block_on HK78.out hbel)
            have ekn : (k : Int) < (m4 : Int) := by omega
            have een : (e : Int) < (n7 : Int) := by omega
            have HRE : Hid ((sqAt q7 e).1.length = 0 ∧ (sqAt q7 e).2.2 = false) := ⟨he3, he4⟩
            rw [he3] at y0
            rw [he4] at y2
            obtain ⟨we, hwe⟩ : ∃ we, we = (sqAt q7 e).2.1 := ⟨_, rfl⟩
            rw [← hwe] at y1 he5 he6
            have HWE := hide hwe
            have g5 : decide (we < la) = false := by simp; omega
            have g6 : decide (we > lb) = false := by simp; omega
            have hr8 := hbel.size
            have hg4w : g4 < wr.heap.size := by omega
            have hbw : b < wr.heap.size := by omega
            have h3w : w3.heap.size < wr.heap.size := (Array.getElem?_eq_some_iff.1 (block_on HK78.out hbel)).1
            clear hc hl4 hx ht he1 he3 he4 hwe
            obtain ⟨wV, hwV⟩ : ∃ wV, wV = (wr.alloc (.cells #[.slice (A e) 0 (C e), .int .i64 we, .bool false] 40)).drew := ⟨_, rfl⟩
            have HBV : Hid (Below w8.heap.size w8 wV) := by rw [hwV]; exact (HBB.out.alloc hr8 _).drew
            have HVV : Hid (wV.heap[wr.heap.size]? = some (.cells #[.slice (A e) 0 (C e), .int .i64 we, .bool false] 40)) := by rw [hwV]; exact heap_new _ _
            go_wp2_with fail
            go_region
            go_upto_region 16 with fail
            rw [← hwV]
            clear hwV y0 y1 y2 l0 k0 k1
            obtain ⟨v0, v1, v2⟩ := three_cells HVV.out
            obtain ⟨k0, k1⟩ := two_cells (block_on HK78.out HBV.out)
            have l1 : wV.cell? ⟨g4, off4 + k, none⟩ = some (.int .i64 (e : Int)) := by
              rw [HBV.out.cell (p := ⟨g4, off4 + k, none⟩) (show g4 < w8.heap.size by omega), (HL4.out k hlt).1]
              unfold cellI
              rw [HLK.out]
            go_cut [162] (fun c wx => c = .bool false ∧ Below wV.heap.size wV wx)
            case first =>
              as_aux_lemma =>
                cases k with
                | zero =>
                  simp only [show ((0 : Nat) : Int) = 0 from rfl]
                  go_quiet (fail)
                  go_wp2_with fail
                  go_meet
                  exact ⟨by first | rfl | rw [i4], ⟨rfl, rfl, rfl, Nat.le_refl _, fun _ _ => rfl⟩⟩
                | succ j =>
                  obtain ⟨d, hd1, hd2, hd3⟩ := HSRT.out j rfl
                  have l2 : wV.cell? ⟨g4, off4 + j, none⟩ = some (.int .i64 (d : Int)) := by
                    rw [HBV.out.cell (p := ⟨g4, off4 + j, none⟩) (show g4 < w8.heap.size by omega), (HL4.out j (by omega)).1]
                    unfold cellI
                    rw [hd1]
                  obtain ⟨_, x1, _⟩ := sq_cells HC.out HBV.out (show b < w8.heap.size by omega) (show d < n7 by omega)
                  have edn : (d : Int) < (n7 : Int) := by omega
                  have ejn : (j : Int) < (m4 : Int) := by omega
                  rw [← HWE.out] at hd3
                  generalize (sqAt q7 d).2.1 = wd at *
                  have i0 : decide ((j : Int) + 1 > 0) = true := by simp <;> omega
                  have i1 : decide (wd > we) = false := by simp; omega
                  by_cases hq : wd = we
                  · have i2 : (wd == we) = true := by simpa using hq
                    have i3 : decide ((d : Int) ≥ (e : Int)) = false := by simp; omega
                    have i4 : decide (e ≤ d) = false := by simp; omega
                    have HQ := hide hq
                    clear hq hd1 hd2 hd3
                    go_quiet (fail)
                    go_wp2_with fail
                    go_meet
                    exact ⟨by first | rfl | rw [i4], ⟨rfl, rfl, rfl, Nat.le_refl _, fun _ _ => rfl⟩⟩
                  · have i2 : (wd == we) = false := by simpa using hq
                    clear hd1 hd2 hd3
                    go_quiet (fail)
                    go_wp2_with fail
                    go_meet
                    exact ⟨by first | rfl | rw [i4], ⟨rfl, rfl, rfl, Nat.le_refl _, fun _ _ => rfl⟩⟩
            case rest =>
              obtain ⟨rfl, hbw⟩ := hcut
              obtain ⟨wU, hwU⟩ : ∃ wU, wU = wc := ⟨_, rfl⟩
              subst hwU
              clear v0 v1 v2 k0 k1 l1
              obtain ⟨v0, v1, v2⟩ := three_cells (block_on HVV.out hbw)
              have HBU := hide (below_here HBV.out hbw)
              clear hbw
              go_wp2_with fail
              exact ⟨⟨k + 1, by omega, by go_num, HBU.out⟩, by simp [intOf]; omega⟩
          · obtain rfl : k = m4 := by omega
            have hr8 := hbel.size
            clear hbel
            by_cases hv0 : 0 ≤ v
            · have hvv := hv0
              rw [HV.out] at hvv
              obtain ⟨b, hb1, hb2, hb3, hb4, hb5, hb6, hb7, hb8⟩ := victim_at hvv
              rw [← HV.out] at hb1
              subst hb1
              have g0 : decide ((b : Int) < 0) = false := by simp
              obtain ⟨lb9, hlb9⟩ : ∃ lb9, lb9 = liveN ps (b : Int) := ⟨_, rfl⟩
              have HLB9 := hide hlb9
              have HLIVE : Hid (∀ i : Nat, i < n3 → live z3 q3 ps (i : Int) = (liveN ps (i : Int) : Int)) := fun i hi => by
                unfold live
                rw [hb2]
                have : inB (i : Int) 0 ((q3.length : Int) - 1) = true := by unfold inB; simp; omega
                rw [this]
                rfl
              have HMIN := hide hb8
              have HD39 := hide (HD38.out.later HBB.out)
              have HK39 := hide (block_on HK38.out HBB.out)
              have HB9 := hide (below_here HB8.out HBB.out)
              have HB5 := hide hb5
              have HB6 := hide hb6
              have HB7 := hide hb7
              clear hvv hb5 hb6 hb7 hb8 hlb9
              obtain ⟨k0, k1⟩ := two_cells HK39.out
              go_wp2_with fail
              refine (specLive_any z3 a3 n3 c3 q3 am m cm ps (b : Int) wr HD39.out.sq (Nat.le_refl _) (by omega) HD39.out.fits HD39.out.pl (Nat.le_refl _) (by omega)).mono ?_
              rintro e w9 ⟨rfl, b9⟩
              rw [HLIVE.out b (by omega), ← HLB9.out]
              have HD3A := hide (HD39.out.later b9)
              have HK3A := hide (block_on HK39.out b9)
              have HBA := hide (below_here HB9.out b9)
              clear b9 HD39 HK39 HB9 k0 k1
              go_wp2_with fail
              go_loopw [19] (fun i wr => ∃ k : Nat, k ≤ n3 ∧ i = .int .i64 (k : Int) ∧ Below w9.heap.size w9 wr) (fun i _ => n3 - (intOf i).toNat)
              case atStart => exact ⟨0, Nat.zero_le _, rfl, Below.refl _ _⟩
              case round =>
                as_aux_lemma =>
                  obtain ⟨k, hk9, rfl, hbl⟩ := hrel
                  have HBL := hide hbl
                  have HDk := hide (HD3A.out.later hbl)
                  obtain ⟨k0, k1⟩ := two_cells (block_on HK3A.out hbl)
                  obtain ⟨_, A, C, hx, ht⟩ := HDk.out.sq
                  obtain ⟨b3, off, rfl, _, hb3', hc⟩ := hx.2 (by omega)
                  by_cases hlt9 : k < n3
                  · obtain ⟨y0, y1, y2⟩ := sq_cells hc (Below.refl wr.heap.size wr) (show b3 < wr.heap.size by have := hx.1; omega) hlt9
                    have ekn : (k : Int) < (n3 : Int) := by omega
                    have hl9 := (sq_fits HDk.out.fits (show k < q3.length by omega)).2.1
                    unfold maxLen at hl9
                    have HMK' := hide (HMIN.out k (by omega))
                    have HLK := hide (HLIVE.out k hlt9)
                    clear hc hx ht hbl
                    by_cases hop : (k : Int) = x
                    · subst hop
                      go_wp2_with fail
                      exact ⟨⟨k + 1, by omega, by go_num, HBL.out⟩, by simp [intOf]; omega⟩
                    · have HMV : Hid (0 < (sqAt q3 k).1.length → (sqAt q3 k).2.2 = false → lb9 ≤ liveN ps (k : Int)) := fun h1 h2 => by rw [HLB9.out]; exact HMK'.out hop h1 h2
                      have hop2 : ((k : Int) == x) = false := by simpa using hop
                      clear HMK'
                      generalize sqAt q3 k = y at *
                      obtain ⟨ts, zw, bd⟩ := y
                      dsimp only at y0 y1 y2 hl9 HMV
                      by_cases h0 : ts.length = 0
                      · rw [h0] at y0
                        go_wp2_with fail
                        exact ⟨⟨k + 1, by omega, by go_num, HBL.out⟩, by simp [intOf]; omega⟩
                      · have g1 : decide ((ts.length : Int) > 0) = true := by simp; omega
                        cases bd with
                        | true =>
                          go_wp2_with fail
                          exact ⟨⟨k + 1, by omega, by go_num, HBL.out⟩, by simp [intOf]; omega⟩
                        | false =>
                          have hge := HMV.out (by omega) rfl
                          have g2 : decide ((liveN ps (k : Int) : Int) < (lb9 : Int)) = false := by simp; omega
                          go_wp2_with fail
                          refine (specLive_any z3 (some ⟨b3, off, none⟩) n3 c3 q3 am m cm ps (k : Int) wr HDk.out.sq (Nat.le_refl _) (by omega) HDk.out.fits HDk.out.pl (Nat.le_refl _) (by omega)).mono ?_
                          rintro e wQ ⟨rfl, bQ⟩
                          rw [HLK.out]
                          have HBQ := hide (below_here HBL.out bQ)
                          clear bQ
                          generalize liveN ps (k : Int) = lk at *
                          go_wp2_with fail
                          exact ⟨⟨k + 1, by omega, by go_num, HBQ.out⟩, by simp [intOf]; omega⟩
                  · obtain rfl : k = n3 := by omega
                    obtain ⟨y0, y1, y2⟩ := sq_cells hc (Below.refl wr.heap.size wr) (show b3 < wr.heap.size by have := hx.1; omega) (show b < k by omega)
                    have ebn : (b : Int) < (k : Int) := by omega
                    have hl9 := (sq_fits HDk.out.fits (show b < q3.length by omega)).2.1
                    unfold maxLen at hl9
                    have h5 := HB5.out
                    rw [← HLB9.out] at h5
                    have h6 := HB6.out
                    have h7 := HB7.out
                    have hbx : ((b : Int) == x) = false := by simpa using hb4
                    have g1 : decide ((lb9 : Int) < z3) = true := by simpa using h5
                    rw [h7] at y2
                    have g2 : decide (((sqAt q3 b).1.length : Int) > 0) = true := by simp; omega
                    generalize (sqAt q3 b).1.length = tl at *
                    clear hc hx ht hbl h5 h7
                    go_wp2_with fail
                    go_ret
                    refine ⟨?_, below_here HBA.out HBL.out⟩
                    show Ending.returned (Value.bool ((b : Int) != x)) = _
                    rw [bne, hbx]
                    rfl
            · have g0 : decide (v < 0) = true := by simp; omega
              go_wp2_with fail
              go_ret
              exact ⟨rfl, below_here HB8.out HBB.out⟩

/-! ### THE ROW's STEP: WRITTEN OUT: LEAVE IT -/
set_option maxRecDepth 100000 in
theorem lifted (os : Os) (started : os.Started) (H : Type) (enc : TypeId × Value → H) :
    ReturnsInHanded {} Try.checked os 3 .any (Rows.fnWearSpec.pre6 enc Try.prog Try.f3 Rows.fnWearRow.domain false) (Rows.fnWearSpec.post enc Try.prog Try.f3 false true false false) := by
  refine returnsInHanded_of_change (C := Try.checked) own started (by kernel_rfl) Try.func3
    (ChangeSpec.witness6 (enc := enc) (C := Try.checked) false ⟨#[], #[.slice none 0 0], []⟩ 8 (by kernel_rfl) (by kernel_rfl) (by kernel_rfl) (by kernel_rfl)) ?_
  intro W base args ds gs before hval0 hW hcnd _
  have hval : ∀ (j : Nat) t v, Try.f3.params[j]? = some t → args[j]? = some v → Value.okWide Try.prog W .any base t v := hval0
  have hW' := hW
  obtain ⟨p, q, hA0, hV, rfl, hfz, hnd⟩ := hW
  have hA : DataW.TrodAll enc Try.prog W 0 (fun _ => true) true Try.f3.params.toList args.toList ds p := hA0
  rw [Try.params3] at hA hval
  obtain ⟨v0, vs0, d0, ds0, p0, q0, hargs, rfl, rfl, h0, r0⟩ := trodAll_cons hA
  obtain ⟨rfl, rfl, rfl⟩ := trodAll_nil r0
  obtain rfl : args = #[v0] := by cases args; simp_all
  obtain ⟨rfl, rfl⟩ := trodVars_none hV
  obtain ⟨a0, len0, cap0, rfl⟩ := okWide_slice Try.underlying22 (hval 0 22 v0 rfl rfl)
  have k0 := h0
  have lt0 : ∀ x ∈ p0, x.block < W.heap.size := by obtain ⟨m, hm⟩ := k0; exact DataW.trod_lt m _ _ _ hm
  obtain ⟨z0, w0⟩ : ∃ zs, IsRow .u8 W a0 len0 cap0 zs := by
    obtain ⟨fuel, hf⟩ := h0
    rcases open_ints Try.underlying22 Try.underlying5 (by kernel_rfl) hf with ⟨hcs, _⟩ | ⟨x, l, c, zs, hcs, _, hl, hm, hz, _, hcell, hwz⟩
    · simp [Value.cells] at hcs
      obtain ⟨rfl, rfl, rfl⟩ := hcs
      exact ⟨[], .inl ⟨rfl, rfl, rfl, rfl⟩⟩
    · simp [Value.cells] at hcs
      obtain ⟨rfl, rfl, rfl⟩ := hcs
      exact ⟨zs, .inr ⟨_, rfl, hl, hm, by simpa using hz, hcell, hwz⟩⟩
  clear hA0 hval0
  refine (walk a0 len0 cap0 z0 W w0).mono fun e W' ⟨he, bel⟩ => ?_
  subst he
  exact ⟨_, rfl, _, _, _, [], _, [], hW', trodAll_mk1 (shut_bool Try.underlying4 _), (trodAll_cons_mk (Below.trod laidOut (by kernel_rfl) (of_decide_eq_true (by kernel_rfl)) k0 bel lt0) trodAll_mk0), rfl, bel.frame _, fun h => by cases h⟩

theorem over : Rows.fnWearRow.holds Try.pinned (OpenSpec.ofChange Rows.fnWearSpec) :=
  OpenClaim.holds_of_wide 3 Try.f3 rfl rfl rfl rfl rfl rfl rfl ⟨rfl, rfl, rfl, rfl, rfl⟩ rfl rfl rfl rfl rfl (by kernel_rfl) Try.func3 (by kernel_rfl)
    (of_decide_eq_true (by kernel_rfl)) (by unfold Func.isWrapper; first | (rw [if_pos (by decide +kernel)]; kernel_rfl) | (rw [if_neg (by decide +kernel)]; exact ⟨rfl, rfl⟩))
    (fun os started H enc _ => lifted os started H enc)

/-- ████ THE STATEMENT ████ -/
theorem proved : Rows.FnWearSaid := over
#print axioms proved
end Go.Proofs.Ytocinobbocjikaa.fnWear
