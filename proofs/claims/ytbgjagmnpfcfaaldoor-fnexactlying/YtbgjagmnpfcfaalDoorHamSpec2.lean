/- The walks of chapter 4's model: Spread, Odd, Healed. -/
import Derived.Test.YtbgjagmnpfcfaalDoorHamSpec
namespace Go.Proofs.YtbgjagmnpfcfaalDoor
open Go.RowKit
set_option linter.unusedVariables false
set_option maxRecDepth 20000

def spreadI (b : Int) : Int := if elem b = true then (Ham.spread b.toNat : Int) else -1
theorem spreadI_nat {b : Nat} (h : b < 256) : spreadI (b : Int) = (Ham.spread b : Int) := by simp [spreadI, nat_elem h]
theorem spreadI_no {b : Int} (h : elem b = false) : spreadI b = -1 := by simp [spreadI, h]
def word (x : Int) : Bool := inB x 0 8191
theorem word_nat {x : Int} (h : word x = true) : ∃ n : Nat, x = (n : Int) ∧ n < 8192 := by
  simp [word, inB] at h
  exact ⟨x.toNat, by omega, by omega⟩
theorem nat_word {n : Nat} (h : n < 8192) : word (n : Int) = true := by simp [word, inB]; omega
def oddI (x : Int) : Int := if word x = true then (Ham.odd x.toNat : Int) else -1
theorem oddI_nat {n : Nat} (h : n < 8192) : oddI (n : Int) = (Ham.odd n : Int) := by simp [oddI, nat_word h]
theorem oddI_no {x : Int} (h : word x = false) : oddI x = -1 := by simp [oddI, h]
def healedI (x : Int) : Int × Int := if word x = true then Ham.healed x.toNat else (-1, 2)
theorem healedI_nat {n : Nat} (h : n < 8192) : healedI (n : Int) = Ham.healed n := by simp [healedI, nat_word h]
theorem healedI_no {x : Int} (h : word x = false) : healedI x = (-1, 2) := by simp [healedI, h]
/-- A pair of numbers, as a call answers it. -/
def pairV (p : Int × Int) : Value := .tuple #[.int .i64 p.1, .int .i64 p.2]


set_option maxHeartbeats 400000 in
theorem l4Word_any (x : Int) (w : World) :
    Calls Tryd.prog 27 #[.int .i64 x] w fun e w' => e = .returned (.bool (word x)) ∧ w = w' := by
  go_enter Tryd.func27, Tryd.ntmps27
  go_wp2_with fail
  refine (l1In_any _ _ _ _).mono ?_
  rintro e w1 ⟨rfl, rfl⟩
  go_wp2_with fail
  go_ret
  exact ⟨rfl, rfl⟩


theorem or_shl8 (n d q : Nat) (hn : n < 256) (hd : d < 2) (hq : q < 8) : bits .or .i64 (n : Int) (wrap64 ((d : Int) * 2 ^ q)) = ((n ||| d * 2 ^ q : Nat) : Int) := or_shl n d q (by omega) hd (by omega)
set_option maxHeartbeats 800000 in
theorem l4Byte_any (x : Nat) (w : World) (hx : x < 8192) :
    Calls Tryd.prog 30 #[.int .i64 (x : Int)] w fun e w' => e = .returned (.int .i64 (Ham.byteOf x : Int)) ∧ Below w.heap.size w w' := by
  go_enter Tryd.func30, Tryd.ntmps30
  go_wp2_with fail
  refine (l4Places_any w).mono ?_
  rintro e w1 ⟨rfl, hpl, b1⟩
  have HPL := hide hpl
  have HB := hide b1
  clear hpl b1
  go_wp2_with fail
  go_loop [3, 5] (fun n i => ∃ k : Nat, k ≤ 8 ∧ i = .int .i64 (k : Int) ∧ n = .int .i64 (Ham.byteTo x k : Int)) (fun _ i => 8 - (intOf i).toNat)
  case atStart => exact ⟨0, by omega, rfl, rfl⟩
  case round =>
    obtain ⟨k, hk, rfl, rfl⟩ := hrel
    by_cases hlt : k < 8
    · have hc := HPL.out k hlt
      obtain ⟨n, hn⟩ : ∃ n, n = Ham.byteTo x k := ⟨_, rfl⟩
      obtain ⟨q, hq⟩ : ∃ q, q = Ham.place k := ⟨_, rfl⟩
      have hb2 := Ham.bitN_lt x q
      obtain ⟨d, hd⟩ : ∃ d, d = Ham.bitN x q := ⟨_, rfl⟩
      rw [← hn]
      rw [← hd] at hb2
      rw [← hq] at hc
      have hq13 : q < 13 := by rw [hq]; exact Ham.place_lt k
      have HOR := hide (or_shl8 n d k (by rw [hn]; exact Ham.byteTo_lt x k (by omega)) hb2 hlt)
      have HS : Hid (Ham.byteTo x (k + 1) = n ||| d * 2 ^ k) := by rw [hn, hd, hq]; rfl
      clear hn hq
      go_wp2_with fail
      refine (l4Bit_any x q w1 (by omega) (by omega)).mono ?_
      rw [← hd]
      clear hd
      rintro e w2 ⟨rfl, rfl⟩
      go_wp2_with fail
      go_round
      case rel => exact ⟨k + 1, by omega, by go_num, by rw [HOR.out, HS.out]⟩
      case measure => simp [intOf]; omega
    · go_wp2_with fail
      go_ret
      exact ⟨ret_i64 (by rw [show k = 8 by omega]; rfl), HB.out⟩
theorem l4Byte_to (v : Int) (x : Nat) (h : v = (x : Int)) (w : World) (hx : x < 8192) :
    Calls Tryd.prog 30 #[.int .i64 v] w fun e w' => e = .returned (.int .i64 (Ham.byteOf x : Int)) ∧ Below w.heap.size w w' := by subst h; exact l4Byte_any x w hx
theorem xor_shl (x o : Nat) (hx : x < 8192) (ho : o < 13) : bits .xor .i64 (x : Int) (wrap64 (2 ^ o)) = ((x ^^^ 2 ^ o : Nat) : Int) := by
  have h := Ham.two_lt ho
  have hp : wrap64 ((2 : Int) ^ o) = ((2 ^ o : Nat) : Int) := by
    have := shl_bit 1 o (by omega) ho
    simpa using this
  rw [hp, i64_xor_nat _ _ (by omega) (by omega)]

set_option maxHeartbeats 1600000 in
theorem specHealed_any (v : Int) (w : World) :
    Calls Tryd.prog 14 #[.int .i64 v] w fun e w' => e = .returned (pairV (healedI v)) ∧ Below w.heap.size w w' := by
  cases hb : word v
  · have HE := hide (healedI_no hb)
    go_enter Tryd.func14, Tryd.ntmps14
    go_wp2_with fail
    refine (l4Word_any _ _).mono ?_
    rw [hb]
    rintro e w1 ⟨rfl, rfl⟩
    go_wp2_with fail
    go_ret2
    exact ⟨by rw [HE.out]; rfl, Below.refl _ _⟩
  · have HB := hide hb
    obtain ⟨x, rfl, hx⟩ := word_nat hb
    have HE := hide (healedI_nat hx)
    clear hb
    obtain ⟨o, ho⟩ : ∃ o, o = Ham.odd x := ⟨_, rfl⟩
    obtain ⟨t, ht⟩ : ∃ t, t = Ham.wt x := ⟨_, rfl⟩
    have ho16 : o < 16 := by rw [ho]; exact Ham.odd_lt x
    have ht13 : t ≤ 13 := by rw [ht]; exact Ham.wt_le x
    have cO : ∀ w, Calls Tryd.prog 28 #[.int .i64 (x : Int)] w fun e w' => e = .returned (.int .i64 (o : Int)) ∧ w = w' := fun w => by rw [ho]; exact l4Odd_any x w (by omega)
    have cW : ∀ w, Calls Tryd.prog 29 #[.int .i64 (x : Int)] w fun e w' => e = .returned (.int .i64 (t : Int)) ∧ w = w' := fun w => by rw [ht]; exact l4Weight_any x w (by omega)
    have HO := hide cO
    have HW := hide cW
    have HH : Hid (Ham.healed x = if t % 2 = 1 ∧ o ≤ 12 then ((Ham.byteOf (x ^^^ 2 ^ o) : Int), 1) else if t % 2 = 0 ∧ o = 0 then ((Ham.byteOf x : Int), 0) else (-1, 2)) := by rw [ht, ho]; rfl
    clear cO cW ht ho
    by_cases h1 : t % 2 = 1
    · have hm : (t : Int).tmod 2 = 1 := by rw [Int.tmod_eq_emod_of_nonneg (by omega)]; omega
      have H1 := hide h1
      clear h1
      by_cases h2 : o ≤ 12
      · have hd : decide ((o : Int) ≤ 12) = true := by simp; omega
        have HX := hide (xor_shl x o hx (by omega))
        have HT := hide (Ham.turned_lt hx (show o < 13 by omega))
        have H2 := hide h2
        go_enter Tryd.func14, Tryd.ntmps14
        go_wp2_with fail
        refine (l4Word_any _ _).mono ?_
        rw [HB.out]
        rintro e w1 ⟨rfl, rfl⟩
        go_wp2_with fail
        refine (HO.out w).mono ?_
        rintro e w1 ⟨rfl, rfl⟩
        go_wp2_with fail
        refine (HW.out w).mono ?_
        rintro e w1 ⟨rfl, rfl⟩
        go_wp2_with fail
        refine (l4Byte_to _ (x ^^^ 2 ^ o) HX.out w HT.out).mono ?_
        rintro e w1 ⟨rfl, b1⟩
        go_wp2_with fail
        go_ret2
        exact ⟨by rw [HE.out, HH.out, if_pos ⟨H1.out, H2.out⟩]; rfl, b1⟩
      · have hd : decide ((o : Int) ≤ 12) = false := by simp; omega
        have H2 := hide h2
        clear h2
        go_enter Tryd.func14, Tryd.ntmps14
        go_wp2_with fail
        refine (l4Word_any _ _).mono ?_
        rw [HB.out]
        rintro e w1 ⟨rfl, rfl⟩
        go_wp2_with fail
        refine (HO.out w).mono ?_
        rintro e w1 ⟨rfl, rfl⟩
        go_wp2_with fail
        refine (HW.out w).mono ?_
        rintro e w1 ⟨rfl, rfl⟩
        go_wp2_with fail
        refine (HW.out w).mono ?_
        rintro e w1 ⟨rfl, rfl⟩
        go_wp2_with fail
        go_ret2
        exact ⟨by rw [HE.out, HH.out, if_neg (fun h => H2.out h.2), if_neg (fun h => by have := H1.out; omega)]; rfl, Below.refl _ _⟩
    · have hm : (t : Int).tmod 2 = 0 := by rw [Int.tmod_eq_emod_of_nonneg (by omega)]; omega
      have H1 := hide h1
      clear h1
      by_cases h2 : o = 0
      · subst h2
        go_enter Tryd.func14, Tryd.ntmps14
        go_wp2_with fail
        refine (l4Word_any _ _).mono ?_
        rw [HB.out]
        rintro e w1 ⟨rfl, rfl⟩
        go_wp2_with fail
        refine (HO.out w).mono ?_
        simp only [show ((0 : Nat) : Int) = 0 from rfl]
        rintro e w1 ⟨rfl, rfl⟩
        go_wp2_with fail
        refine (HW.out w).mono ?_
        rintro e w1 ⟨rfl, rfl⟩
        go_wp2_with fail
        refine (HW.out w).mono ?_
        rintro e w1 ⟨rfl, rfl⟩
        go_wp2_with fail
        refine (l4Byte_any x w hx).mono ?_
        rintro e w1 ⟨rfl, b1⟩
        go_wp2_with fail
        go_ret2
        exact ⟨by rw [HE.out, HH.out, if_neg (fun h => H1.out h.1), if_pos ⟨by have := H1.out; omega, by trivial⟩]; rfl, b1⟩
      · have h0 : ((o : Int) == 0) = false := by simp; omega
        have H2 := hide h2
        clear h2
        go_enter Tryd.func14, Tryd.ntmps14
        go_wp2_with fail
        refine (l4Word_any _ _).mono ?_
        rw [HB.out]
        rintro e w1 ⟨rfl, rfl⟩
        go_wp2_with fail
        refine (HO.out w).mono ?_
        rintro e w1 ⟨rfl, rfl⟩
        go_wp2_with fail
        refine (HW.out w).mono ?_
        rintro e w1 ⟨rfl, rfl⟩
        go_wp2_with fail
        refine (HW.out w).mono ?_
        rintro e w1 ⟨rfl, rfl⟩
        go_wp2_with fail
        go_ret2
        exact ⟨by rw [HE.out, HH.out, if_neg (fun h => H1.out h.1), if_neg (fun h => H2.out h.2)]; rfl, Below.refl _ _⟩
end Go.Proofs.YtbgjagmnpfcfaalDoor
