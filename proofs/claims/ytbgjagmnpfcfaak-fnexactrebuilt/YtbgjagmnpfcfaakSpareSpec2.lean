/- The walks of chapter 6's model: a spare, Spares. -/
import Derived.Test.YtbgjagmnpfcfaakSpareSpec
import Derived.Test.YtbgjagmnpfcfaakFieldSpec
import Derived.Test.YtbgjagmnpfcfaakCopyBase
namespace Go.Proofs.Ytbgjagmnpfcfaak
open Go.RowKit
set_option linter.unusedVariables false
set_option linter.unusedSimpArgs false
set_option maxRecDepth 20000

theorem Try.infoU8s : (Try.prog.info? 5).map (fun i => (i.zero, i.size, i.bytes)) = some (some (.int .u8 0), 1, 1) := by kernel_rfl
/-- What a column's byte counts in a spare. -/
def factor (i j : Nat) : Nat := Field.inv (i ^^^ (16 + j))
theorem xor_small {i j : Nat} (hi : i < 16) (hj : j < 16) : i ^^^ (16 + j) < 256 ∧ i ^^^ (16 + j) ≠ 0 := by
  refine ⟨Field.xor_lt (by omega) (by omega), fun e => ?_⟩
  have := congrArg (· ^^^ (16 + j)) e
  simp [Nat.xor_assoc] at this
  omega
theorem factor_lt {i j : Nat} (hi : i < 16) (hj : j < 16) : factor i j < 256 := Field.inv_lt (xor_small hi hj).1
theorem invI_of {a : Nat} (ha : a < 256) (h0 : a ≠ 0) : invI (a : Int) = (Field.inv a : Int) := invI_nat ha h0

set_option maxHeartbeats 400000 in
theorem l6Factor_any (i j : Nat) (w : World) (hi : i < 16) (hj : j < 16) :
    Calls Try.prog 53 #[.int .i64 (i : Int), .int .i64 (j : Int)] w fun e w' => e = .returned (.int .i64 (factor i j : Int)) ∧ w = w' := by
  have hx : bits .xor .i64 (i : Int) (16 + (j : Int)) = ((i ^^^ (16 + j) : Nat) : Int) := by
    have := i64_xor_nat i (16 + j) (by omega) (by omega)
    rw [← this]; congr 1
  have hs := xor_small hi hj
  have HI : Hid (invI ((i ^^^ (16 + j) : Nat) : Int) = (factor i j : Int)) := invI_nat hs.1 hs.2
  generalize i ^^^ (16 + j) = q at *
  clear hs
  go_enter Try.func53, Try.ntmps53
  go_wp2_with fail
  refine (specInverse_any _ _).mono ?_
  rintro e w1 ⟨rfl, rfl⟩
  rw [HI.out]
  go_wp2_with fail
  go_ret
  exact ⟨rfl, rfl⟩

theorem index_atT {P : Program} (t : TypeId) (ht : P.underlying t = some .string) (s : ByteArray) (k : Nat) (h : k < s.size) (A : Nat) (hA : A = (s.data.toList.getD k 0).toNat) :
    ∀ w, (Instr.index t (.string s) (.int .i64 (k : Int))).run P w = .ok (.int .u8 (A : Int)) w := by
  intro w
  rw [byte_at s k h] at hA
  subst hA
  rw [run_index_string (P := P) w t s .i64 (k : Int) ht]
  simp [h]
/-- A byte as a number. -/
def byteN (s : ByteArray) (k : Nat) : Nat := (s.data.toList.getD k 0).toNat
theorem byteN_lt (s : ByteArray) (k : Nat) : byteN s k < 256 := UInt8.toNat_lt _
/-- What the first i columns give to spare j at place k. -/
def spareN (ts : List ByteArray) (j : Nat) : Nat → Nat → Nat
  | 0, _ => 0
  | i + 1, k => spareN ts j i k ^^^ Field.mul (factor i j) (byteN (ts.getD i ByteArray.empty) k)
theorem spareN_lt (ts : List ByteArray) {j : Nat} (hj : j < 16) : ∀ i k, i ≤ 16 → spareN ts j i k < 256
  | 0, _, _ => by simp [spareN]
  | i + 1, k, h => Field.xor_lt (spareN_lt ts hj i k (by omega)) (Field.mul_lt (factor_lt (by omega) hj))
def spareT (ts : List ByteArray) (j : Nat) : ByteArray := str ((List.range (ts.getD 0 ByteArray.empty).size).map fun k => UInt8.ofNat (spareN ts j ts.length k))
theorem u8_xor (a b : Nat) (ha : a < 256) (hb : b < 256) : bits .xor .u8 (a : Int) (b : Int) = ((a ^^^ b : Nat) : Int) := by
  have h := xor_byte (UInt8.ofNat a) (UInt8.ofNat b)
  rw [UInt8.toNat_ofNat', UInt8.toNat_ofNat', Nat.mod_eq_of_lt ha, Nat.mod_eq_of_lt hb] at h
  rw [h, UInt8.toNat_xor, UInt8.toNat_ofNat', UInt8.toNat_ofNat', Nat.mod_eq_of_lt ha, Nat.mod_eq_of_lt hb]
theorem columnsOk_iff {ts : List ByteArray} : columnsOk ts = true ↔ (1 ≤ ts.length ∧ ts.length ≤ 8) ∧ alikeB ts = true := by simp [columnsOk]

set_option maxHeartbeats 1600000 in
theorem l6Spare_any (a : Option Addr) (n cap : Nat) (ts : List ByteArray) (j : Nat) (w : World) {lo hi : Nat} (h : Texts lo hi w a n ts) (hok : columnsOk ts = true) (hj : j < 4) :
    Calls Try.prog 38 #[.slice a n cap, .int .i64 (j : Int)] w fun e w' => e = .returned (.string (spareT ts j)) ∧ Below w.heap.size w w' := by
  obtain ⟨⟨h1, h8⟩, hal⟩ := columnsOk_iff.1 hok
  have hsame := alikeB_iff.1 hal
  obtain ⟨hl, hsz, hx⟩ := h
  obtain ⟨b, off, rfl, _, hb, hc⟩ := hx (by omega)
  have HL := hide hl
  rw [hl] at h1 h8 hsame
  have HS := hide hsame
  have hL3 := (hsame 0 (by omega)).2
  have HC := hide hc
  obtain ⟨L, hLe⟩ : ∃ L, L = (ts.getD 0 ByteArray.empty).size := ⟨_, rfl⟩
  have hc0 : w.cell? ⟨b, off, none⟩ = some (.string (ts.getD 0 ByteArray.empty)) := hc 0 (by omega)
  rw [← hLe] at hL3
  have hlen0 : (ts.getD 0 ByteArray.empty).size = L := hLe.symm
  have HLE := hide hLe
  clear hal hsame hl hx hc hok hLe
  generalize ts.getD 0 ByteArray.empty = z0 at hc0 hlen0
  have hmk := run_make_row' (P := Try.prog) 67 5 (.int .u8 0) 1 Try.underlying67 Try.infoU8s rfl .i64 .i64 L (by omega) (by omega)
  go_enter Try.func38, Try.ntmps38
  go_wp2_with fail
  go_loopw [6] (fun i wr => ∃ m : Nat, m ≤ n ∧ i = .int .i64 (m : Int) ∧ Owned w.heap.size (w.heap.size + 1) wr (some ⟨w.heap.size, 0, none⟩) L (fun q => .int .u8 (spareN ts j m q : Int)) ∧ Below w.heap.size w wr) (fun i _ => n - (intOf i).toNat)
  case atStart => exact ⟨0, Nat.zero_le _, rfl, owned_of_row ((World.rowIs_made w (.int .u8 0) L 5).congr (fun _ _ => by simp [spareN])) (Nat.le_refl _) (Nat.lt_succ_self _) (by simp), (Below.refl _ _).alloc (Nat.le_refl _) _⟩
  case round =>
    obtain ⟨m, hm, rfl, hrow, hbel⟩ := hrel
    clear hc0 hlen0 hmk
    by_cases hlt : m < n
    · have HR := hide hrow
      have HB := hide hbel
      have hzm := (HS.out m hlt).1
      have hck0 := HC.out m hlt
      obtain ⟨z, hz⟩ : ∃ z, z = ts.getD m ByteArray.empty := ⟨_, rfl⟩
      have hck : w.cell? ⟨b, off + m, none⟩ = some (.string z) := by rw [hz]; exact hck0
      have hzL : z.size = L := by rw [HLE.out, hz]; exact hzm
      have HZ := hide hz
      have HCK := hide hck
      clear hrow hbel hzm hck hck0 hz
      go_wp2_with fail
      refine (l6Factor_any m j wr (by omega) (by omega)).mono ?_
      rintro e w1 ⟨rfl, rfl⟩
      obtain ⟨f, hf⟩ : ∃ f, f = factor m j := ⟨_, rfl⟩
      have hf8 : f < 256 := by rw [hf]; exact factor_lt (by omega) (by omega)
      rw [← hf]
      have HF := hide hf
      clear hf
      go_wp2_with fail
      go_loopw [8] (fun i wr' => ∃ k : Nat, k ≤ L ∧ i = .int .i64 (k : Int) ∧ Owned w.heap.size (w.heap.size + 1) wr' (some ⟨w.heap.size, 0, none⟩) L (fun q => .int .u8 ((if q < k then spareN ts j (m + 1) q else spareN ts j m q : Nat) : Int)) ∧ Below w.heap.size w wr') (fun i _ => L - (intOf i).toNat)
      case atStart => exact ⟨0, Nat.zero_le _, rfl, HR.out.congr (fun _ _ => by simp), HB.out⟩
      case round =>
        obtain ⟨k, hkL, rfl, hrow, hbel⟩ := hrel
        clear HR HB
        by_cases hl2 : k < L
        · obtain ⟨hco, hfo, _, _⟩ := hrow.at0 hl2
          simp only [Nat.lt_irrefl, if_false] at hco
          have hck : wr.cell? ⟨b, off + m, none⟩ = some (.string z) := (hbel.cell (p := ⟨b, off + m, none⟩) (by show b < _; omega)).trans HCK.out
          obtain ⟨y, hy⟩ : ∃ y, y = byteN z k := ⟨_, rfl⟩
          have hy8 : y < 256 := by rw [hy]; exact byteN_lt z k
          have hxi := index_atT (P := Try.prog) 9 Try.underlying9 z k (by omega) y hy
          obtain ⟨v, hv⟩ : ∃ v, v = spareN ts j m k := ⟨_, rfl⟩
          have hv8 : v < 256 := by rw [hv]; exact spareN_lt ts (by omega) m k (by omega)
          rw [← hv] at hco
          obtain ⟨p, hp⟩ : ∃ p, p = Field.mul f y := ⟨_, rfl⟩
          have hp8 : p < 256 := by rw [hp]; exact Field.mul_lt hf8
          have hxr := u8_xor v p hv8 hp8
          have HP : ∀ w, Hid (Calls Try.prog 48 #[.int .i64 (f : Int), .int .i64 (y : Int)] w fun e w' => e = .returned (.int .i64 (p : Int)) ∧ w = w') := fun w => by rw [hp]; exact l2Product_any f y hf8 hy8 w
          have HN : Hid (v ^^^ p = spareN ts j (m + 1) k) := by
            show _ = _
            rw [hv, hp, HF.out, hy, HZ.out]; rfl
          have HRR : Hid (Owned w.heap.size (w.heap.size + 1) (wr.setCell ⟨w.heap.size, k, none⟩ (.int .u8 ((v ^^^ p : Nat) : Int))) (some ⟨w.heap.size, 0, none⟩) L (fun q => .int .u8 ((if q < k + 1 then spareN ts j (m + 1) q else spareN ts j m q : Nat) : Int))) := by
            refine (hrow.set0 hl2 _).congr fun q _ => ?_
            rw [HN.out]
            by_cases e1 : q = k
            · subst e1; simp
            · by_cases e2 : q < k
              · simp [e1, e2, show q < k + 1 by omega]
              · simp [e1, e2, show ¬ q < k + 1 by omega]
          have HBB := hide (hbel.setCell (p := ⟨w.heap.size, k, none⟩) (Nat.le_refl _) (.int .u8 ((v ^^^ p : Nat) : Int)))
          have hq8 : v ^^^ p < 256 := Field.xor_lt hv8 hp8
          generalize v ^^^ p = q at *
          have j1 : IntKind.i64.wrap (y : Int) = (y : Int) := by rw [IntKind.wrap_i64]; omega
          have j2 : IntKind.u8.wrap (p : Int) = (p : Int) := by rw [IntKind.wrap_u8]; omega
          clear hrow hbel hy hv hp HN HC HS HL HLE HZ HF HCK
          go_wp2_with fail
          go_region_with (go_at_call 48; refine (HP _).out.mono ?_; rintro e w1 ⟨rfl, rfl⟩)
          all_goals go_wp2_with fail
          all_goals exact ⟨⟨k + 1, by omega, by go_num, HRR.out.drew, HBB.out.drew⟩, by simp [intOf]; omega⟩
        · obtain rfl : k = L := by omega
          go_wp2_with fail
          exact ⟨⟨m + 1, by omega, by go_num, hrow.congr (fun q hq => by rw [if_pos hq]), hbel⟩, by simp [intOf]; omega⟩
    · obtain rfl : m = n := by omega
      have hB2 : Bytes w.heap.size (w.heap.size + 1) wr (some ⟨w.heap.size, 0, none⟩) L ((List.range L).map fun k => UInt8.ofNat (spareN ts j m k)) :=
        ⟨by simp, (hrow.congr (fun q hq => by
          unfold cellB
          rw [List.getD_eq_getElem?_getD, List.getElem?_map, List.getElem?_range hq]
          simp only [Option.map_some, Option.getD_some]
          rw [UInt8.toNat_ofNat', Nat.mod_eq_of_lt (spareN_lt ts (by omega) m q (by omega))])).reads⟩
      have hst := string_of (P := Try.prog) hB2 67 9 5 L Try.underlying67 Try.underlying5 Try.underlying9
      have HB := hide hbel
      clear hB2 hrow hbel
      go_wp2_with fail
      go_ret
      exact ⟨ret_str (by unfold spareT; rw [HL.out, ← HLE.out]; rfl), HB.out⟩

end Go.Proofs.Ytbgjagmnpfcfaak
