/- For every slice of bytes the law FnHealed returns true and leaves its argument as it was; the program's table dataPlaces holds what its initialiser lays (the tied card), no other condition. -/
import Derived.Test.YtldcgjilafibkabDoorRows
import Derived.Test.YtldcgjilafibkabDoorHamImpl4
import Derived.Test.YtldcgjilafibkabDoorHamSpec4
import Derived.Test.YtldcgjilafibkabDoorHealLaw
import Derived.Test.YtldcgjilafibkabDoorDraw4
import Derived.Test.YtldcgjilafibkabDoorLawBase
import Derived.Test.YtldcgjilafibkabDoorLaidTab
import Derived.WalkKit
import Derived.ProofKit
import Derived.OpenShut
import Derived.ShutString
import Derived.ChangeOld
import Derived.Below
namespace Go.Proofs.YtldcgjilafibkabDoor.fnHealed
open Go.ChangeShapes Go.WideShapes Go.ChangeAt Go.RowKit
open Go.ChangeMaps (open_string shut_string)
set_option linter.unusedVariables false

theorem own : ownKnob Tryd.prog.godebug = none := by kernel_rfl
theorem laidOut : laidOutB Tryd.prog = true := by kernel_rfl

/-- WHAT THE WALK IS TOLD OF A SLICE OF INTEGERS THAT CAME IN: it is nil; or it leads to a row of 'cap' cells, the numbers 'zs' (the first 'len' are its elements, the rest its spare room), each fitting its kind. -/
def IsRow (k : IntKind) (w : World) (a : Option Addr) (len cap : Nat) (zs : List Int) : Prop :=
  (a = none ∧ len = 0 ∧ cap = 0 ∧ zs = []) ∨
  ∃ x, a = some x ∧ len ≤ cap ∧ cap ≤ maxLen ∧ zs.length = cap ∧ (∀ i, i < zs.length → w.cell? (x.add i) = some (.int k (zs.getD i 0))) ∧ ∀ n ∈ zs, (Lit.int k n).wf = true

theorem implSpreadAll_to (s t : ByteArray) (h : spreadAll s = t) (w : World) (hT : Tab w) (hs : s.size ≤ 1048576) :
    Calls Tryd.prog 6 #[.string s] w fun e w' => e = .returned (.string t) ∧ Below w.heap.size w w' := by subst h; exact implSpreadAll_any s w hT hs
theorem specSpreadAll_to (s t : ByteArray) (h : spreadAll s = t) (w : World) (hs : s.size ≤ 1048576) :
    Calls Tryd.prog 10 #[.string s] w fun e w' => e = .returned (.string t) ∧ Below w.heap.size w w' := by subst h; exact specSpreadAll_any s w hs
theorem implHealedAll_to (s t : ByteArray) (n : Int) (b : Bool) (h : healedAll s = (t, n, b)) (w : World) (hT : Tab w) (hs : s.size ≤ 1048576) :
    Calls Tryd.prog 8 #[.string s] w fun e w' => e = .returned (.tuple #[.string t, .int .i64 n, .bool b]) ∧ Below w.heap.size w w' := by
  have := implHealedAll_any s w hT hs
  rw [h] at this
  exact this
theorem specHealedAll_to (s t : ByteArray) (n : Int) (b : Bool) (h : healedAll s = (t, n, b)) (w : World) (hs : s.size ≤ 1048576) :
    Calls Tryd.prog 9 #[.string s] w fun e w' => e = .returned (.tuple #[.string t, .int .i64 n, .bool b]) ∧ Below w.heap.size w w' := by
  have := specHealedAll_any s w hs
  rw [h] at this
  exact this
theorem text_eqh (s t : ByteArray) : (s.toList == t.toList) = decide (s = t) := by
  rw [ByteArray.toList_eq, ByteArray.toList_eq]
  by_cases h : s = t
  · subst h; simp
  · have : ¬ s.data = t.data := fun e => h (ByteArray.ext e)
    simp [h, this]
theorem text_sameh (t : ByteArray) : (t.toList == t.toList) = true := by rw [text_eqh]; simp
theorem xor_bit8 (c i : Nat) (hc : c < 256) (hi : i < 8) : bits .xor .u8 (c : Int) (2 ^ i % 256) = ((c ^^^ 2 ^ i : Nat) : Int) := by
  have hlt : 2 ^ i < 2 ^ 8 := Nat.pow_lt_pow_right (by omega) hi
  have hp : ((2 : Int) ^ i % 256) = ((2 ^ i : Nat) : Int) := by
    have h1 : (2 : Int) ^ i = ((2 ^ i : Nat) : Int) := by simp
    rw [h1]
    generalize 2 ^ i = q at *
    omega
  have hx := xor_byte (UInt8.ofNat c) (UInt8.ofNat (2 ^ i))
  rw [UInt8.toNat_xor, UInt8.toNat_ofNat', UInt8.toNat_ofNat', Nat.mod_eq_of_lt (show c < 2 ^ 8 by omega), Nat.mod_eq_of_lt hlt] at hx
  rw [hp, hx]
set_option maxHeartbeats 3200000 in
set_option maxRecDepth 100000 in

theorem walk (a0 : Option Addr) (len0 cap0 : Nat) (z0 : List Int) (w : World) (w0 : IsRow .u8 w a0 len0 cap0 z0) (hT : Tab w) :
    Calls Tryd.prog 3 #[.slice a0 len0 cap0] w fun e w' => e = .returned (.bool true) ∧ Below w.heap.size w w' := by
  have HTAB := hide hT
  clear hT
  obtain ⟨l, hA⟩ : ∃ l, Bytes 0 w.heap.size w a0 len0 l := ⟨_, bytes_of (by unfold IsRow at w0; exact w0)⟩
  have hlen : len0 ≤ 9223372036854775807 := by
    rcases w0 with ⟨_, rfl, _, _⟩ | ⟨x, _, hl, hm, _⟩
    · omega
    · unfold maxLen at hm; omega
  clear w0
  by_cases hbig : 4096 < len0
  · have hb' : decide (4096 < len0) = true := by simpa using hbig
    go_enter Tryd.func3, Tryd.ntmps3
    go_wp2_with fail
    refine (big_any a0 len0 cap0 w hlen).mono ?_
    rintro e w1 ⟨rfl, rfl⟩
    go_wp2_with fail
    go_ret
    exact ⟨rfl, Below.refl _ _⟩
  · have hb' : decide (4096 < len0) = false := by simpa using hbig
    have hn : len0 ≤ 4096 := by omega
    clear hbig
    have HA := hide hA
    clear hA
    go_enter Tryd.func3, Tryd.ntmps3
    go_wp2_with fail
    refine (big_any a0 len0 cap0 w hlen).mono ?_
    rintro e w1 ⟨rfl, rfl⟩
    go_wp2_with fail
    refine (drawSpreadAll_any a0 len0 cap0 l w HA.out hn).mono ?_
    rintro e w1 ⟨s, rfl, hs, b1⟩
    have HB1 := hide b1
    obtain ⟨T, hT⟩ : ∃ T, spreadAll s = T := ⟨_, rfl⟩
    have hTz : T.size ≤ 600 := by rw [← hT]; exact spreadAll_size s
    have HT := hide hT
    have tsT := text_sameh T
    clear b1 hT
    go_wp2_with fail
    refine (implSpreadAll_to s T HT.out w1 (HTAB.out.here HB1.out) (by omega)).mono ?_
    rintro e w2 ⟨rfl, b2⟩
    have HB2 := hide (below_here HB1.out b2)
    clear b2 HB1
    go_wp2_with fail
    refine (drawHealedAll_any a0 len0 cap0 l w2 (HA.out.later HB2.out (Nat.le_refl _)) hn HB2.out.size).mono ?_
    rintro e w3 ⟨d, rfl, hd, b3⟩
    have HB3 := hide (below_here HB2.out b3)
    obtain ⟨x, n, b, hx⟩ : ∃ x n b, healedAll d = (x, n, b) := ⟨_, _, _, rfl⟩
    have hno : b = false → x = ⟨#[]⟩ ∧ n = 0 := by
      intro hb
      by_cases h : d.size % 2 = 0 ∧ d.size ≤ 600 ∧ goodTo d (d.size / 2)
      · rw [healedAll_yes h] at hx
        simp only [Prod.mk.injEq] at hx
        rw [hb] at hx
        simp at hx
      · rw [healedAll_no h] at hx
        simp only [Prod.mk.injEq] at hx
        exact ⟨hx.1.symm, hx.2.1.symm⟩
    have HNO := hide hno
    have HX := hide hx
    have tsx := text_sameh x
    have hbb : (b != b) = false := by simp
    clear b3 HB2 hx hno
    go_wp2_with fail
    refine (implHealedAll_to d x n b HX.out w3 (HTAB.out.here HB3.out) (by omega)).mono ?_
    rintro e w4 ⟨rfl, b4⟩
    have HB4 := hide (below_here HB3.out b4)
    clear b4 HB3
    go_wp2_with fail
    refine (specHealedAll_to d x n b HX.out w4 (by omega)).mono ?_
    rintro e w5 ⟨rfl, b5⟩
    have HB5 := hide (below_here HB4.out b5)
    clear b5 HB4
    go_wp2_with fail
    refine (specSpreadAll_to s T HT.out w5 (by omega)).mono ?_
    rintro e w6 ⟨rfl, b6⟩
    have HB6 := hide (below_here HB5.out b6)
    clear b6 HB5
    by_cases h300 : s.size ≤ 300
    · have hd3 : decide ((300 : Int) < (s.size : Int)) = false := decide_eq_false (by omega)
      obtain ⟨N, hN⟩ : ∃ N, N = s.size := ⟨_, rfl⟩
      have hTs : T = str (rowL (firstF s) N) := by rw [← HT.out, hN, ← spreadL_row]; exact if_pos h300
      have hTN : T.size = 2 * N := by rw [hTs]; exact rowL_length _ _
      have hN3 : N ≤ 300 := by omega
      have HN := hide hN
      have HTS := hide hTs
      have hcv := run_bytes_of_string (P := Tryd.prog) w6 9 22 5 T Tryd.underlying9 Tryd.underlying22 Tryd.underlying5
      obtain ⟨cap, hcap⟩ : ∃ c, c = grownCap w6 T.size 0 5 := ⟨_, rfl⟩
      rw [← hcap] at hcv
      have HM := bytes_made w6 T 5 cap ((bytesRow T cap).size + 1)
      obtain ⟨C, hC⟩ : ∃ C, C = Obj.cells (bytesRow T cap) 5 ((bytesRow T cap).size, (bytesRow T cap).size + 1) := ⟨_, rfl⟩
      rw [← hC] at hcv HM
      have HM' : Hid (Owned w6.heap.size (w6.heap.size + 1) (w6.alloc C).drew (some ⟨w6.heap.size, 0, none⟩) (2 * N) (fun q => .int .u8 (rowN (firstF s) q : Int))) := by
        have h1 : Owned w6.heap.size (w6.heap.size + 1) (w6.alloc C).drew (some ⟨w6.heap.size, 0, none⟩) T.size (cellB T.data.toList) := HM
        rw [hTN] at h1
        refine h1.congr (fun q hq => ?_)
        rw [hTs]
        exact rowL_cell hq (Ham.spread_lt (byteAt_lt s _))
      have HB7 : Hid (Below w.heap.size w (w6.alloc C).drew) := (HB6.out.alloc HB6.out.size C).drew
      have hsz := HB6.out.size
      clear HM hC hcap hN hTs
      go_wp2_with fail
      go_loopw [13, 14] (fun t i wr => ∃ (k : Nat) (f : Nat → Nat × Nat), k ≤ N ∧ i = .int .i64 ((2 * k : Nat) : Int) ∧ t = .int .i64 (sumTo f k : Int) ∧ (∀ j, j < k → Turn (byteAt s j) (f j).1 (f j).2) ∧ (∀ j, k ≤ j → f j = firstF s j) ∧ Owned w6.heap.size (w6.heap.size + 1) wr (some ⟨w6.heap.size, 0, none⟩) (2 * N) (fun q => .int .u8 (rowN f q : Int)) ∧ Below w.heap.size w wr) (fun _ i _ => 2 * N - (intOf i).toNat)
      case atStart => exact ⟨0, firstF s, Nat.zero_le _, rfl, rfl, fun j hj => by omega, fun _ _ => rfl, HM'.out, HB7.out⟩
      case round =>
        obtain ⟨k, f, hk, rfl, rfl, hf1, hf2, how, hbel⟩ := hrel
        have HF1 := hide hf1
        have HF2 := hide hf2
        have HOW := hide how
        have HB := hide hbel
        have htl := sumTo_le f k (fun j hj => (hf1 j hj).le)
        obtain ⟨t, ht⟩ : ∃ t, t = sumTo f k := ⟨_, rfl⟩
        rw [← ht] at htl ⊢
        have HTT := hide ht
        have ht3 : t ≤ 300 := by omega
        clear hf1 hf2 how hbel HM' HB7 ht hcv
        obtain ⟨I, hI⟩ : ∃ I, I = 2 * k := ⟨_, rfl⟩
        rw [← hI]
        by_cases hlt : k < N
        · have hlt2 : I + 1 < 2 * N := by omega
          have HI := hide hI
          have HKN := hide hlt
          clear hI hlt hk
          go_wp2_with fail
          refine (pick_any a0 len0 cap0 l _ 14 wr (HA.out.later HB.out (Nat.le_refl _)) hn (by omega) (by omega) (by omega) (by omega)).mono ?_
          rintro e wp ⟨z, rfl, z0, z1, rfl⟩
          obtain ⟨i, rfl⟩ := Int.eq_ofNat_of_zero_le z0
          by_cases h13 : i = 13
          · subst h13
            simp only [show ((13 : Nat) : Int) = 13 from rfl]
            go_wp2_with fail
            go_roundw
            case rel =>
              have hIk := HI.out
              have hkn := HKN.out
              refine ⟨k + 1, f, by omega, by go_num, ?_, fun j hj => ?_, fun j hj => HF2.out j (by omega), HOW.out, HB.out⟩
              · rw [sumTo_succ, HF2.out k (Nat.le_refl _), HTT.out]; rfl
              · rcases Nat.lt_or_ge j k with h | h
                · exact HF1.out j h
                · obtain rfl : j = k := by omega
                  rw [HF2.out j (Nat.le_refl _)]
                  exact .inl ⟨rfl, rfl⟩
            case measure => have hIk := HI.out; have hkn := HKN.out; simp [intOf]; omega
          · have hne13 : ((i : Int) == 13) = false := by simp; omega
            have hi13 : i < 13 := by omega
            have HIK := hide (HI.out)
            have hfk := HF2.out k (Nat.le_refl _)
            have HFN : Hid ((∀ j, j < k + 1 → Turn (byteAt s j) (turnAt f k i j).1 (turnAt f k i j).2) ∧ (∀ j, k + 1 ≤ j → turnAt f k i j = firstF s j) ∧ sumTo (turnAt f k i) (k + 1) = t + 1) := by
              refine ⟨fun j hj => ?_, fun j hj => ?_, ?_⟩
              · rcases Nat.lt_or_ge j k with h | h
                · have : turnAt f k i j = f j := if_neg (by omega)
                  rw [this]; exact HF1.out j h
                · obtain rfl : j = k := by omega
                  exact turnAt_turn hi13 hfk
              · have : turnAt f k i j = f j := if_neg (by omega)
                rw [this]; exact HF2.out j (by omega)
              · rw [sumTo_succ, HTT.out]
                have h1 : sumTo (turnAt f k i) k = sumTo f k := sumTo_congr (fun j hj => if_neg (by omega))
                have h2 : (turnAt f k i k).2 = 1 := by unfold turnAt; rw [if_pos rfl]
                rw [h1, h2]
            have hx8 : (f k).1 < 8192 := by rw [hfk]; exact Ham.spread_lt (byteAt_lt s k)
            clear hfk
            by_cases h8 : i < 8
            · have hd8 : decide ((i : Int) < 8) = true := decide_eq_true (by omega)
              obtain ⟨hco, hfo, _, _⟩ := HOW.out.at0 (i := I + 1) hlt2
              obtain ⟨c, hc⟩ : ∃ c, c = rowN f (I + 1) := ⟨_, rfl⟩
              rw [← hc] at hco
              have hc8 : c < 256 := by
                rw [hc]; apply rowN_lt
                rw [HIK.out, show (2 * k + 1) / 2 = k by omega]; exact hx8
              have HC := hide hc
              clear hc hx8
              have HXB := hide (xor_bit8 c i hc8 h8)
              go_wp2_with fail
              go_roundw
              case rel =>
                have hIk := HIK.out
                have hkn := HKN.out
                refine ⟨k + 1, turnAt f k i, by omega, by go_num, by rw [HFN.out.2.2]; go_num, HFN.out.1, HFN.out.2.1, (HOW.out.set0 hlt2 _).congr (fun q _ => ?_), HB.out.setCell (p := ⟨w6.heap.size, I + 1, none⟩) hsz _⟩
                rw [← row_low h8 q]
                rw [HXB.out, HC.out, hIk]
                by_cases e : q = 2 * k + 1
                · rw [if_pos e, if_pos e]
                · rw [if_neg e, if_neg e]
              case measure => have hIk := HIK.out; have hkn := HKN.out; simp [intOf]; omega
            · have hd8 : decide ((i : Int) < 8) = false := decide_eq_false (by omega)
              have hlt1 : I < 2 * N := by omega
              obtain ⟨hco, hfo, _, _⟩ := HOW.out.at0 (i := I) hlt1
              obtain ⟨c, hc⟩ : ∃ c, c = rowN f I := ⟨_, rfl⟩
              rw [← hc] at hco
              have hc8 : c < 256 := by
                rw [hc]; apply rowN_lt
                rw [HIK.out, show (2 * k) / 2 = k by omega]; exact hx8
              have HC := hide hc
              obtain ⟨m, hm⟩ : ∃ m, m = i - 8 := ⟨_, rfl⟩
              have hm8 : m < 8 := by omega
              have him : (i : Int) - 8 = (m : Int) := by omega
              have HXB := hide (xor_bit8 c m hc8 hm8)
              have HM8 := hide hm
              have H8 : Hid (8 ≤ i) := by show 8 ≤ i; omega
              clear hc hx8 hm
              go_wp2_with fail
              go_roundw
              case rel =>
                have hIk := HIK.out
                have hkn := HKN.out
                refine ⟨k + 1, turnAt f k i, by omega, by go_num, by rw [HFN.out.2.2]; go_num, HFN.out.1, HFN.out.2.1, (HOW.out.set0 hlt1 _).congr (fun q _ => ?_), HB.out.setCell (p := ⟨w6.heap.size, I, none⟩) hsz _⟩
                rw [← row_high H8.out q]
                rw [HXB.out, HC.out, hIk, HM8.out]
                by_cases e : q = 2 * k
                · rw [if_pos e, if_pos e]
                · rw [if_neg e, if_neg e]
              case measure => have hIk := HIK.out; have hkn := HKN.out; simp [intOf]; omega
        · have hkN : k = N := by omega
          have h9 : ¬ (I + 1 < 2 * N) := by omega
          have h10 : I ≤ 600 := by omega
          have hfl : ∀ j, j < N → (f j).1 < 8192 := fun j hj => (HF1.out j (by omega)).lt (byteAt_lt s j)
          have hBy : Bytes w6.heap.size (w6.heap.size + 1) wr (some ⟨w6.heap.size, 0, none⟩) (2 * N) (rowL f N) :=
            ⟨rowL_length _ _, (HOW.out.congr (fun q hq => (rowL_cell hq (hfl _ (by omega))).symm)).reads⟩
          have hst := fun cap => string_of (P := Tryd.prog) hBy 22 9 5 cap Tryd.underlying22 Tryd.underlying5 Tryd.underlying9
          obtain ⟨u, hu⟩ : ∃ u : ByteArray, u = ⟨(rowL f N).toArray⟩ := ⟨_, rfl⟩
          rw [← hu] at hst
          have huz : u.size = 2 * N := by rw [hu]; exact rowL_length f N
          have HHA : Hid (healedAll u = (s, (t : Int), true)) := by
            have := healedAll_turned s u N HN.out.symm huz hN3 f (fun j hj => HF1.out j (by omega)) (fun j hj => by rw [hu]; exact rowL_word hj (hfl j hj))
            rw [HTT.out, hkN]; exact this
          have tss := text_sameh s
          clear hBy hfl hu HF1 HF2 HOW HTT hkN hI hlt hk
          go_wp2_with fail
          refine (implHealedAll_to u s (t : Int) true HHA.out wr (HTAB.out.here HB.out) (by omega)).mono ?_
          rintro e w7 ⟨rfl, b7⟩
          have HB8 := hide (below_here HB.out b7)
          clear b7 HB
          cases b
          · obtain ⟨hx0, hn0⟩ := HNO.out rfl
            have hxe : x.toList.isEmpty = true := by rw [hx0, ByteArray.toList_eq]; rfl
            subst hn0
            clear hx0
            go_wp2_with fail
            go_ret
            exact ⟨rfl, HB8.out⟩
          · go_wp2_with fail
            go_ret
            exact ⟨rfl, HB8.out⟩
    · have hd3 : decide ((300 : Int) < (s.size : Int)) = true := decide_eq_true (by omega)
      have hTe : T = ⟨#[]⟩ := by rw [← HT.out]; exact if_neg h300
      have hte : T.toList.isEmpty = true := by rw [hTe, ByteArray.toList_eq]; rfl
      clear hTe h300
      go_wp2_with fail
      go_ret
      exact ⟨rfl, HB6.out⟩

/-! ### THE ROW's STEP: WRITTEN OUT: LEAVE IT -/
theorem laid_met (os : Os) : laidMet Tryd.prog Rows.fnHealedRow.laid ((laidWorld os).forCall (fun _ _ => 0) ⟨#[], #[.slice none 0 0], []⟩).memory :=
  laidMet_of_run' 8 (by kernel_rfl) (by kernel_rfl)
theorem reads (os : Os) {H : Type} (enc : TypeId × Value → H) : ∃ places, DataW.whole enc Tryd.prog ((laidWorld os).forCall (fun _ _ => 0) ⟨#[], #[.slice none 0 0], []⟩).memory Tryd.f3.params.toList Rows.fnHealedSpec.vars false (#[.slice none 0 0] : Array Value).toList 8 = some ([.nil], [placesD], places) :=
  ⟨MemPlace.row ⟨0, 0, none⟩ 8, by kernel_rfl⟩

set_option maxRecDepth 100000 in
theorem lifted (os : Os) (started : os.Started) (H : Type) (enc : TypeId × Value → H) (F : Stop.Interp) :
    ReturnsInHanded {} Tryd.checked os 3 .any ((OpenSpec.ofChange Rows.fnHealedSpec).preRow enc Tryd.prog Tryd.f3 Rows.fnHealedRow.domain false Rows.fnHealedRow.laid) (((OpenSpec.ofChange Rows.fnHealedSpec).at F).post enc Tryd.prog Tryd.f3 false true false false) := by
  obtain ⟨places, hx⟩ := reads os enc
  refine returnsInHanded_of_row (C := Tryd.checked) (s := OpenSpec.ofChange Rows.fnHealedSpec) own started (by kernel_rfl) Tryd.func3
    (witness_row_at (enc := enc) (C := Tryd.checked) false (laidWorld os) #[.slice none 0 0] rfl (by kernel_rfl) (by kernel_rfl) (by kernel_rfl)
      (OpenSpec.preRow_of_cond 8 hx (by kernel_rfl) (fun k hk => by cases hk) (by kernel_rfl) (laid_met os))) ?_
  intro W base args ds gs before hval0 hW _ _ _ hL _ _
  have hval : ∀ (j : Nat) t v, Tryd.f3.params[j]? = some t → args[j]? = some v → Value.okWide Tryd.prog W .any base t v := hval0
  have hW' := hW
  obtain ⟨p, q, hA0, hV0, rfl, hfz, hnd⟩ := hW
  have hV : DataW.TrodVars enc Tryd.prog W (fun _ => true) ["loop.example/g00223/impl.dataPlaces"] gs q := hV0
  have hA : DataW.TrodAll enc Tryd.prog W 0 (fun _ => true) true Tryd.f3.params.toList args.toList ds p := hA0
  rw [Tryd.params3] at hA hval
  obtain ⟨v0, vs0, d0, ds0, p0, q0, hargs, rfl, rfl, h0, r0⟩ := trodAll_cons hA
  obtain ⟨rfl, rfl, rfl⟩ := trodAll_nil r0
  obtain rfl : args = #[v0] := by cases args; simp_all
  obtain ⟨g, tg, cs, fuel, dg, pg, rfl, hg0, htg, hvar, hdg, rfl⟩ := trodVars_one hV
  obtain rfl := Option.some.inj (placesNamed.symm.trans hg0)
  obtain rfl := Option.some.inj (placesType.symm.trans htg)
  obtain rfl : cs = placesA := Option.some.inj (hvar.symm.trans (placesVar hL))
  obtain ⟨rfl, rfl⟩ := DataW.Trod.unique (v := .agg placesA) ⟨fuel, hdg⟩ ⟨3, placesRead enc W _⟩
  obtain ⟨a0, len0, cap0, rfl⟩ := okWide_slice Tryd.underlying22 (hval 0 22 v0 rfl rfl)
  have k0 := h0
  have lt0 : ∀ x ∈ p0, x.block < W.heap.size := by obtain ⟨m, hm⟩ := k0; exact DataW.trod_lt m _ _ _ hm
  obtain ⟨z0, w0⟩ : ∃ zs, IsRow .u8 W a0 len0 cap0 zs := by
    obtain ⟨fuel, hf⟩ := h0
    rcases open_ints Tryd.underlying22 Tryd.underlying5 (by kernel_rfl) hf with ⟨hcs, _⟩ | ⟨x, l, c, zs, hcs, _, hl, hm, hz, _, hcell, hwz⟩
    · simp [Value.cells] at hcs
      obtain ⟨rfl, rfl, rfl⟩ := hcs
      exact ⟨[], .inl ⟨rfl, rfl, rfl, rfl⟩⟩
    · simp [Value.cells] at hcs
      obtain ⟨rfl, rfl, rfl⟩ := hcs
      exact ⟨zs, .inr ⟨_, rfl, hl, hm, by simpa using hz, hcell, hwz⟩⟩
  clear hA0 hval0 hV0
  refine (walk a0 len0 cap0 z0 W w0 (tab_of_var hvar)).mono fun e W' ⟨he, bel⟩ => ?_
  subst he
  exact ⟨_, rfl, _, _, _, [], _, _, hW', trodAll_mk1 (shut_bool Tryd.underlying4 _), (trodAll_cons_mk (Below.trod laidOut (by kernel_rfl) (of_decide_eq_true (by kernel_rfl)) k0 bel lt0) trodAll_mk0), placesVars enc _ (var_later placesNamed hvar bel), bel.frame _, fun h => by cases h⟩


theorem over : Rows.FnHealedSaid :=
  OpenClaim.holds_of_cond 3 Tryd.f3 rfl rfl rfl rfl rfl rfl rfl ⟨rfl, rfl, rfl, rfl, rfl⟩ rfl rfl rfl rfl rfl (by kernel_rfl) Tryd.func3 (by kernel_rfl)
    (of_decide_eq_true (by kernel_rfl)) (by unfold Func.isWrapper; first | (rw [if_pos (by decide +kernel)]; kernel_rfl) | (rw [if_neg (by decide +kernel)]; exact ⟨rfl, rfl⟩))
    (fun os started H enc _ F => by rw [OpenClaim.pre_eq_preRow]; exact lifted os started H enc F)
theorem plain (f : FuncId) (fn : Func) (hf : Tryd.pinned.checked.prog.funcNamed "loop.example/g00223/laws.FnHealed" = some f) (hfn : Tryd.pinned.checked.prog.funcs[f]? = some fn) :
    false = Tryd.pinned.checked.prog.looks [] ∧ ∀ (j : Nat) t, fn.params[j]? = some t → Tryd.pinned.checked.prog.wantsStandIn t = false := by
  obtain rfl : f = 3 := Option.some.inj ((show Tryd.prog.funcNamed "loop.example/g00223/laws.FnHealed" = some 3 by kernel_rfl).symm.trans hf) |>.symm
  obtain rfl : fn = Tryd.f3 := (Option.some.inj (Tryd.func3.symm.trans hfn)).symm
  refine ⟨by kernel_rfl, fun j t ht => ?_⟩
  have hall : (Tryd.f3.params.toList.all fun u => !Tryd.prog.wantsStandIn u) = true := by kernel_rfl
  have hm : t ∈ Tryd.f3.params.toList := by simpa using Array.mem_of_getElem? ht
  exact (show Tryd.prog.wantsStandIn t = false by simpa using List.all_eq_true.1 hall t hm)

/-- ████ THE CARD ████ -/
theorem proved : Rows.FnHealedCardSaid :=
  Claim7.holds_tied_plain_at .later [] _ _ _ _ over (fun _ h => by cases h) (by kernel_rfl) (fun _ h => by cases h) fnHealed_row_tie rfl ⟨rfl, rfl⟩ (by kernel_rfl) rfl plain (by kernel_rfl)
#print axioms proved
end Go.Proofs.YtldcgjilafibkabDoor.fnHealed
