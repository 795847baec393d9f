/- The walks of chapter 6's program: a text as elements and back, a column's share, a multiple that is added. -/
import Derived.Test.YtbgjagmnpfcfaakSpareImplA
import Derived.Test.YtbgjagmnpfcfaakSpareSpec2
import Derived.Test.YtbgjagmnpfcfaakFieldImpl
import Derived.Test.YtbgjagmnpfcfaakRowBase
import Derived.Deep.RegionWith
namespace Go.Proofs.Ytbgjagmnpfcfaak
open Go.RowKit
set_option linter.unusedVariables false
set_option linter.unusedSimpArgs false
set_option maxRecDepth 20000

set_option maxHeartbeats 800000 in
theorem elementsOf_any (s : ByteArray) (hs : s.size ≤ 1048576) (w : World) :
    Calls Try.prog 42 #[.string s] w fun e w' => e = .returned (.slice (some ⟨w.heap.size, 0, none⟩) s.size s.size) ∧ w'.rowIs w.heap.size 2 s.size (fun k => .int .i64 (byteN s k : Int)) ∧ Below w.heap.size w w' := by
  obtain ⟨L, hL⟩ : ∃ L, L = s.size := ⟨_, rfl⟩
  have hmk := run_make_row' (P := Try.prog) 29 2 (.int .i64 0) 8 Try.underlying29 Try.infoI64 rfl .i64 .i64 L (by omega) (by omega)
  have hlen : s.size = L := hL.symm
  rw [← hL]
  clear hL
  go_enter Try.func42, Try.ntmps42
  go_wp2_with fail
  go_loopw [10, 4] (fun i _ wr => ∃ k : Nat, k ≤ L ∧ i = .int .i64 (k : Int) ∧ wr.rowIs w.heap.size 2 L (fun q => .int .i64 ((if q < k then byteN s q else 0 : Nat) : Int)) ∧ Below w.heap.size w wr) (fun i _ _ => L - (intOf i).toNat)
  case atStart => exact ⟨0, Nat.zero_le _, rfl, (World.rowIs_made w (.int .i64 0) L 2).congr (fun _ _ => by simp), (Below.refl _ _).alloc (Nat.le_refl _) _⟩
  case round =>
    obtain ⟨k, hk, rfl, hrow, hbel⟩ := hrel
    by_cases hlt : k < L
    · obtain ⟨y, hy⟩ : ∃ y, y = byteN s k := ⟨_, rfl⟩
      have hy8 : y < 256 := by rw [hy]; exact byteN_lt s k
      have hxi := index_atT (P := Try.prog) 9 Try.underlying9 s k (by omega) y hy
      have hco := hrow.cell hlt
      have hfo := hrow.frozen k
      have HR : Hid ((wr.setCell ⟨w.heap.size, k, none⟩ (.int .i64 (y : Int))).rowIs w.heap.size 2 L (fun q => .int .i64 ((if q < k + 1 then byteN s q else 0 : Nat) : Int))) := by
        refine (hrow.set k _).congr fun q _ => ?_
        by_cases e1 : q = k
        · subst e1; simp [hy]
        · by_cases e2 : q < k
          · simp [e1, e2, show q < k + 1 by omega]
          · simp [e1, e2, show ¬ q < k + 1 by omega]
      have HB := hide (hbel.setCell (p := ⟨w.heap.size, k, none⟩) (Nat.le_refl _) (.int .i64 (y : Int)))
      have j1 : IntKind.i64.wrap (y : Int) = (y : Int) := by rw [IntKind.wrap_i64]; omega
      clear hrow hbel hy
      go_wp2_with fail
      exact ⟨⟨k + 1, by omega, by go_num, HR.out, HB.out⟩, by simp [intOf]; omega⟩
    · obtain rfl : k = L := by omega
      have HR := hide (hrow.congr (g := fun q => .int .i64 (byteN s q : Int)) (fun q hq => by simp [hq]))
      have HB := hide hbel
      clear hrow hbel
      go_wp2_with fail
      go_ret
      exact ⟨rfl, HR.out, HB.out⟩

theorem text_bytes {lo hi n : Nat} {w : World} {a : Option Addr} {x : Nat → Nat} (hx : ∀ k, k < n → x k < 256) (h : Reads lo hi w a n (fun k => .int .u8 (x k : Int))) : Bytes lo hi w a n ((List.range n).map fun k => UInt8.ofNat (x k)) :=
  ⟨by simp, h.congr (fun q hq => by
    unfold cellB
    rw [List.getD_eq_getElem?_getD, List.getElem?_map, List.getElem?_range hq]
    simp only [Option.map_some, Option.getD_some]
    rw [UInt8.toNat_ofNat', Nat.mod_eq_of_lt (hx q hq)])⟩
def textN (n : Nat) (x : Nat → Nat) : ByteArray := str ((List.range n).map fun k => UInt8.ofNat (x k))
set_option maxHeartbeats 800000 in
theorem textOf_any (a : Option Addr) (n cap : Nat) (x : Nat → Nat) (hn : n ≤ 1048576) (hx : ∀ k, k < n → x k < 256) (w : World) {lo hi : Nat} (h : Reads lo hi w a n (fun k => .int .i64 (x k : Int))) :
    Calls Try.prog 43 #[.slice a n cap] w fun e w' => e = .returned (.string (textN n x)) ∧ Below w.heap.size w w' := by
  have hmk := run_make_row' (P := Try.prog) 67 5 (.int .u8 0) 1 Try.underlying67 Try.infoU8s rfl .i64 .i64 n (by omega) (by omega)
  have HH := hide h
  have HX := hide hx
  have hhi := h.1
  clear h hx
  go_enter Try.func43, Try.ntmps43
  go_wp2_with fail
  go_loopw [11, 4, 5] (fun i _ _ wr => ∃ k : Nat, k ≤ n ∧ i = .int .i64 (k : Int) ∧ wr.rowIs w.heap.size 5 n (fun q => .int .u8 ((if q < k then x q else 0 : Nat) : Int)) ∧ Below w.heap.size w wr) (fun i _ _ _ => n - (intOf i).toNat)
  case atStart => exact ⟨0, Nat.zero_le _, rfl, (World.rowIs_made w (.int .u8 0) n 5).congr (fun _ _ => by simp), (Below.refl _ _).alloc (Nat.le_refl _) _⟩
  case round =>
    obtain ⟨k, hk, rfl, hrow, hbel⟩ := hrel
    by_cases hlt : k < n
    · obtain ⟨b, off, rfl, _, hb, hc⟩ := (HH.out.later hbel hhi).2 (by omega)
      have hck : wr.cell? ⟨b, off + k, none⟩ = some (.int .i64 (x k : Int)) := hc k hlt
      have hx8 := HX.out k hlt
      have hco := hrow.cell hlt
      have hfo := hrow.frozen k
      have HR : Hid ((wr.setCell ⟨w.heap.size, k, none⟩ (.int .u8 (x k : Int))).rowIs w.heap.size 5 n (fun q => .int .u8 ((if q < k + 1 then x q else 0 : Nat) : Int))) := by
        refine (hrow.set k _).congr fun q _ => ?_
        by_cases e1 : q = k
        · subst e1; simp
        · by_cases e2 : q < k
          · simp [e1, e2, show q < k + 1 by omega]
          · simp [e1, e2, show ¬ q < k + 1 by omega]
      have HB := hide (hbel.setCell (p := ⟨w.heap.size, k, none⟩) (Nat.le_refl _) (.int .u8 (x k : Int)))
      clear hrow hbel hc
      generalize x k = y at *
      have j2 : IntKind.u8.wrap (y : Int) = (y : Int) := by rw [IntKind.wrap_u8]; omega
      go_wp2_with fail
      exact ⟨⟨k + 1, by omega, by go_num, HR.out, HB.out⟩, by simp [intOf]; omega⟩
    · obtain rfl : k = n := by omega
      have hB2 := text_bytes HX.out (owned_of_row (lo := w.heap.size) (hi := w.heap.size + 1) (hrow.congr (g := fun q => .int .u8 (x q : Int)) (fun q hq => by simp [hq])) (Nat.le_refl _) (Nat.lt_succ_self _) hrow.lt).reads
      have hst := string_of (P := Try.prog) hB2 67 9 5 k Try.underlying67 Try.underlying5 Try.underlying9
      have HB := hide hbel
      clear hB2 hrow hbel
      go_wp2_with fail
      go_ret
      exact ⟨ret_str rfl, HB.out⟩

set_option maxHeartbeats 400000 in
theorem share_any (i j : Nat) (w : World) (hi : i < 16) (hj : j < 16) :
    Calls Try.prog 41 #[.int .i64 (i : Int), .int .i64 (j : Int)] w fun e w' => e = .returned (.int .i64 (factor i j : Int)) ∧ Below w.heap.size w w' := by
  have hx : sumI (i : Int) (16 + (j : Int)) = ((i ^^^ (16 + j) : Nat) : Int) := by
    have := sumI_nat (a := i) (b := 16 + j) (by omega) (by omega)
    rw [← this]; congr 1
  have hs := xor_small hi hj
  have HI : Hid (invI ((i ^^^ (16 + j) : Nat) : Int) = (factor i j : Int)) := invI_nat hs.1 hs.2
  have HX := hide hx
  clear hx
  generalize i ^^^ (16 + j) = q at *
  clear hs
  go_enter Try.func41, Try.ntmps41
  go_wp2_with fail
  refine (implSum_any _ _ _).mono ?_
  rintro e w1 ⟨rfl, rfl⟩
  rw [HX.out]
  go_wp2_with fail
  refine (implInverse_any _ _).mono ?_
  rintro e w1 ⟨rfl, h1⟩
  rw [HI.out]
  have H1 := hide h1
  clear h1
  go_wp2_with fail
  go_ret
  exact ⟨rfl, H1.out⟩
end Go.Proofs.Ytbgjagmnpfcfaak
namespace Go.Proofs.Ytbgjagmnpfcfaak
open Go.RowKit
set_option linter.unusedVariables false
set_option linter.unusedSimpArgs false
set_option maxRecDepth 20000

theorem Multi.aside {w w' : World} {b a l r : Nat} (h : Multi w b a) (hb : Aside l r w w') (hB : b + 1 ≤ l ∨ r ≤ b) : Multi w' b a := by
  rcases h with h | h
  · exact .inl (Owned.aside h hb hB)
  · exact .inr (Owned.aside h hb hB)
/-- A row of N cells of which those from o on are added to, k of them so far. -/
def addF (o k a : Nat) (F : Nat → Value) (x y : Nat → Nat) : Nat → Value := fun q => if o ≤ q ∧ q < o + k then .int .i64 ((x (q - o) ^^^ Field.mul a (y (q - o)) : Nat) : Int) else F q
set_option maxHeartbeats 1600000 in
theorem addMultiple_any (g o n cap N a : Nat) (F : Nat → Value) (x y : Nat → Nat) (la : Option Addr) (ln lcap lo hi : Nat) (w : World) (ha : a < 256) (hn : n ≤ 1048576) (hon : o + n ≤ N) (hrow : w.rowIs g 2 N F) (hF : ∀ k, k < n → F (o + k) = .int .i64 (x k : Int)) (hx : ∀ k, k < n → x k < 256) (hy : ∀ k, k < n → y k < 256)
    (hln : n ≤ ln) (hln2 : ln ≤ 1048576) (hl : Reads lo hi w la ln (fun k => .int .i64 (y k : Int))) (hdis : hi ≤ g ∨ g < lo) :
    Calls Try.prog 40 #[.slice (some ⟨g, o, none⟩) n cap, .int .i64 (a : Int), .slice la ln lcap] w fun e w' => e = .returned (.tuple #[]) ∧ w'.rowIs g 2 N (addF o n a F x y) ∧ Aside g (g + 1) w w' := by
  have hg := hrow.lt
  have hhi := hl.1
  have HROW := hide hrow
  have HF := hide hF
  have HX := hide hx
  have HY := hide hy
  have HL := hide hl
  clear hrow hF hx hy hl
  go_enter Try.func40, Try.ntmps40
  go_wp2_with fail
  refine (multiplesOf_any a ha _).mono ?_
  rintro e w1 ⟨rfl, h1, b1, s1⟩
  have H1 := hide h1
  have B1 := hide b1
  clear h1 b1
  go_wp2_with fail
  go_loopw [12, 7] (fun i _ wr => ∃ k : Nat, k ≤ n ∧ i = .int .i64 (k : Int) ∧ wr.rowIs g 2 N (addF o k a F x y) ∧ Multi wr w.heap.size a ∧ Aside g (g + 1) w wr ∧ w.heap.size < wr.heap.size) (fun i _ _ => n - (intOf i).toNat)
  case atStart => exact ⟨0, Nat.zero_le _, rfl, (row_below HROW.out B1.out hg).congr (fun q _ => by unfold addF; rw [if_neg (by omega)]), .inl H1.out, Aside.ofBelow B1.out, by omega⟩
  case round =>
    obtain ⟨k, hk, rfl, hrow, hmul, has, hs⟩ := hrel
    clear H1 B1 s1
    by_cases hlt : k < n
    · obtain ⟨b, off, rfl, hb1, hb2, hc⟩ := (HL.out.aside has (by omega)).2 (by omega)
      have hck : wr.cell? ⟨b, off + k, none⟩ = some (.int .i64 (y k : Int)) := hc k (by omega)
      have hco : wr.cell? ⟨g, o + k, none⟩ = some (.int .i64 (x k : Int)) := by
        rw [hrow.cell (by omega)]
        unfold addF
        rw [if_neg (by omega), HF.out k hlt]
      have hfo := hrow.frozen (o + k)
      have hx8 := HX.out k hlt
      have hy8 := HY.out k hlt
      have hp8 : Field.mul a (y k) < 256 := Field.mul_lt ha
      have hxr := i64_xor_nat (x k) (Field.mul a (y k)) (by omega) (by omega)
      have HR := hide hrow
      have HA := hide has
      have HM := hide hmul
      have HCT : ∀ w3, Multi w3 w.heap.size a → Hid (Calls Try.prog 62 #[.pointer (some ⟨w.heap.size, 0, none⟩), .int .i64 (y k : Int)] w3 fun e w' => e = .returned (.int .i64 (Field.mul a (y k) : Nat)) ∧ Multi w' w.heap.size a ∧ Aside w.heap.size (w.heap.size + 1) w3 w' ∧ w'.heap.size = w3.heap.size) := fun w3 h3 => times_any _ a (y k) ha hy8 _ h3
      have HNX : Hid (∀ w3, Aside w.heap.size (w.heap.size + 1) wr w3 → Multi w3 w.heap.size a → w3.heap.size = wr.heap.size → (w3.setCell ⟨g, o + k, none⟩ (.int .i64 ((x k ^^^ Field.mul a (y k) : Nat) : Int))).rowIs g 2 N (addF o (k + 1) a F x y) ∧ Multi (w3.setCell ⟨g, o + k, none⟩ (.int .i64 ((x k ^^^ Field.mul a (y k) : Nat) : Int))) w.heap.size a ∧ Aside g (g + 1) w (w3.setCell ⟨g, o + k, none⟩ (.int .i64 ((x k ^^^ Field.mul a (y k) : Nat) : Int))) ∧ w.heap.size < (w3.setCell ⟨g, o + k, none⟩ (.int .i64 ((x k ^^^ Field.mul a (y k) : Nat) : Int))).heap.size) := by
        intro w3 h3 m3 s3
        refine ⟨((row_aside HR.out h3 (by omega)).set (o + k) _).congr (fun q hq => ?_), m3.aside ((Aside.refl g (g + 1) w3).setCell (p := ⟨g, o + k, none⟩) (Nat.le_refl _) (Nat.lt_succ_self _) _) (by omega), (HA.out.thenNew h3 (Nat.le_refl _)).setCell (p := ⟨g, o + k, none⟩) (Nat.le_refl _) (Nat.lt_succ_self _) _, by rw [Go.Deep.nblk_setCell, s3]; exact hs⟩
        unfold addF
        by_cases e1 : q = o + k
        · subst e1
          rw [if_pos rfl, if_pos (by omega), Nat.add_sub_cancel_left]
        · rw [if_neg e1]
          by_cases e2 : o ≤ q ∧ q < o + k
          · rw [if_pos e2, if_pos (by omega)]
          · rw [if_neg e2, if_neg (by omega)]
      have HK : Hid (∀ w3, Aside w.heap.size (w.heap.size + 1) wr w3 → w3.cell? ⟨b, off + k, none⟩ = some (.int .i64 (y k : Int)) ∧ w3.cell? ⟨g, o + k, none⟩ = some (.int .i64 (x k : Int)) ∧ w3.frozen? ⟨g, o + k, none⟩ = false) := by
        intro w3 h3
        have hr3 := row_aside HR.out h3 (by omega)
        refine ⟨(World.cell?_of_block (w := wr) (a := ⟨b, off + k, none⟩) (h3.block b (by omega) (by omega))).trans hck, ?_, hr3.frozen _⟩
        rw [← hco, hr3.cell (by omega), HR.out.cell (by omega)]
      clear hc hrow hmul has HF HX HY HROW HL
      generalize (x k ^^^ Field.mul a (y k)) = z at *
      generalize Field.mul a (y k) = p at *
      generalize x k = u at *
      generalize y k = v at *
      have hbw : Aside w.heap.size (w.heap.size + 1) wr wr.drew := ⟨rfl, rfl, rfl, Nat.le_refl _, fun _ _ _ => rfl⟩
      go_wp2_with fail
      go_region_with (go_at_call 62; refine (HCT wr.drew HM.out).out.mono ?_; rintro e w3 ⟨rfl, m3, a3, s3⟩; obtain ⟨c1, c2, c3⟩ := HK.out w3 (hbw.trans a3))
      all_goals
        have HN := hide (HNX.out w3 (hbw.trans a3) m3 s3)
        clear m3 a3 s3 c1 c2 c3
        go_wp2_with fail
        exact ⟨⟨k + 1, by omega, by go_num, HN.out⟩, by simp [intOf]; omega⟩
    · obtain rfl : k = n := by omega
      have HE : Hid (wr.rowIs g 2 N (addF o k a F x y) ∧ Aside g (g + 1) w wr) := ⟨hrow, has⟩
      clear hrow hmul has
      go_wp2_with fail
      go_end0
      exact ⟨rfl, HE.out⟩
end Go.Proofs.Ytbgjagmnpfcfaak
