/- The walk of chapter 6's program: a multiple of a row is added to another. -/
import Derived.Test.YtacjaoeghjkhoabSpareImplB1
import Derived.Deep.RegionWith
namespace Go.Proofs.Ytacjaoeghjkhoab
open Go.RowKit
set_option linter.unusedVariables false
set_option linter.unusedSimpArgs false
set_option maxRecDepth 20000

theorem Multi.aside {w w' : World} {b a l r : Nat} (h : Multi w b a) (hb : Aside l r w w') (hB : b + 1 ≤ l ∨ r ≤ b) : Multi w' b a := by
  rcases h with h | h
  · exact .inl (Owned.aside h hb hB)
  · exact .inr (Owned.aside h hb hB)
/-- A row of N cells of which those from o on are added to, k of them so far. -/
def addF (o k a : Nat) (F : Nat → Value) (x y : Nat → Nat) : Nat → Value := fun q => if o ≤ q ∧ q < o + k then .int .i64 ((x (q - o) ^^^ Field.mul a (y (q - o)) : Nat) : Int) else F q
set_option maxHeartbeats 1600000 in
theorem addMultiple_any (g o n cap N a : Nat) (F : Nat → Value) (x y : Nat → Nat) (la : Option Addr) (ln lcap lo hi : Nat) (w : World) (ha : a < 256) (hn : n ≤ 1048576) (hon : o + n ≤ N) (hrow : w.rowIs g 2 N F) (hF : ∀ k, k < n → F (o + k) = .int .i64 (x k : Int)) (hx : ∀ k, k < n → x k < 256) (hy : ∀ k, k < n → y k < 256)
    (hln : n ≤ ln) (hln2 : ln ≤ 1048576) (hl : Reads lo hi w la ln (fun k => .int .i64 (y k : Int))) (hdis : hi ≤ g ∨ g < lo) :
    Calls Try.prog 48 #[.slice (some ⟨g, o, none⟩) n cap, .int .i64 (a : Int), .slice la ln lcap] w fun e w' => e = .returned (.tuple #[]) ∧ w'.rowIs g 2 N (addF o n a F x y) ∧ Aside g (g + 1) w w' := by
  have hg := hrow.lt
  have hhi := hl.1
  have HROW := hide hrow
  have HF := hide hF
  have HX := hide hx
  have HY := hide hy
  have HL := hide hl
  clear hrow hF hx hy hl
  go_enter Try.func48, Try.ntmps48
  go_wp2_with fail
  refine (multiplesOf_any a ha _).mono ?_
  rintro e w1 ⟨rfl, h1, b1, s1⟩
  have H1 := hide h1
  have B1 := hide b1
  clear h1 b1
  go_wp2_with fail
  go_loopw [12, 7] (fun i _ wr => ∃ k : Nat, k ≤ n ∧ i = .int .i64 (k : Int) ∧ wr.rowIs g 2 N (addF o k a F x y) ∧ Multi wr w.heap.size a ∧ Aside g (g + 1) w wr ∧ w.heap.size < wr.heap.size) (fun i _ _ => n - (intOf i).toNat)
  case atStart => exact ⟨0, Nat.zero_le _, rfl, (row_below HROW.out B1.out hg).congr (fun q _ => by unfold addF; rw [if_neg (by omega)]), .inl H1.out, Aside.ofBelow B1.out, by omega⟩
  case round =>
    obtain ⟨k, hk, rfl, hrow, hmul, has, hs⟩ := hrel
    clear H1 B1 s1
    by_cases hlt : k < n
    · obtain ⟨b, off, rfl, hb1, hb2, hc⟩ := (HL.out.aside has (by omega)).2 (by omega)
      have hck : wr.cell? ⟨b, off + k, none⟩ = some (.int .i64 (y k : Int)) := hc k (by omega)
      have hco : wr.cell? ⟨g, o + k, none⟩ = some (.int .i64 (x k : Int)) := by
        rw [hrow.cell (by omega)]
        unfold addF
        rw [if_neg (by omega), HF.out k hlt]
      have hfo := hrow.frozen (o + k)
      have hx8 := HX.out k hlt
      have hy8 := HY.out k hlt
      have hp8 : Field.mul a (y k) < 256 := Field.mul_lt ha
      have hxr := i64_xor_nat (x k) (Field.mul a (y k)) (by omega) (by omega)
      have HR := hide hrow
      have HA := hide has
      have HM := hide hmul
      have HCT : ∀ w3, Multi w3 w.heap.size a → Hid (Calls Try.prog 74 #[.pointer (some ⟨w.heap.size, 0, none⟩), .int .i64 (y k : Int)] w3 fun e w' => e = .returned (.int .i64 (Field.mul a (y k) : Nat)) ∧ Multi w' w.heap.size a ∧ Aside w.heap.size (w.heap.size + 1) w3 w' ∧ w'.heap.size = w3.heap.size) := fun w3 h3 => times_any _ a (y k) ha hy8 _ h3
      have HNX : Hid (∀ w3, Aside w.heap.size (w.heap.size + 1) wr w3 → Multi w3 w.heap.size a → w3.heap.size = wr.heap.size → (w3.setCell ⟨g, o + k, none⟩ (.int .i64 ((x k ^^^ Field.mul a (y k) : Nat) : Int))).rowIs g 2 N (addF o (k + 1) a F x y) ∧ Multi (w3.setCell ⟨g, o + k, none⟩ (.int .i64 ((x k ^^^ Field.mul a (y k) : Nat) : Int))) w.heap.size a ∧ Aside g (g + 1) w (w3.setCell ⟨g, o + k, none⟩ (.int .i64 ((x k ^^^ Field.mul a (y k) : Nat) : Int))) ∧ w.heap.size < (w3.setCell ⟨g, o + k, none⟩ (.int .i64 ((x k ^^^ Field.mul a (y k) : Nat) : Int))).heap.size) := by
        intro w3 h3 m3 s3
        refine ⟨((row_aside HR.out h3 (by omega)).set (o + k) _).congr (fun q hq => ?_), m3.aside ((Aside.refl g (g + 1) w3).setCell (p := ⟨g, o + k, none⟩) (Nat.le_refl _) (Nat.lt_succ_self _) _) (by omega), (HA.out.thenNew h3 (Nat.le_refl _)).setCell (p := ⟨g, o + k, none⟩) (Nat.le_refl _) (Nat.lt_succ_self _) _, by rw [Go.Deep.nblk_setCell, s3]; exact hs⟩
        unfold addF
        by_cases e1 : q = o + k
        · subst e1
          rw [if_pos rfl, if_pos (by omega), Nat.add_sub_cancel_left]
        · rw [if_neg e1]
          by_cases e2 : o ≤ q ∧ q < o + k
          · rw [if_pos e2, if_pos (by omega)]
          · rw [if_neg e2, if_neg (by omega)]
      have HK : Hid (∀ w3, Aside w.heap.size (w.heap.size + 1) wr w3 → w3.cell? ⟨b, off + k, none⟩ = some (.int .i64 (y k : Int)) ∧ w3.cell? ⟨g, o + k, none⟩ = some (.int .i64 (x k : Int)) ∧ w3.frozen? ⟨g, o + k, none⟩ = false) := by
        intro w3 h3
        have hr3 := row_aside HR.out h3 (by omega)
        refine ⟨(World.cell?_of_block (w := wr) (a := ⟨b, off + k, none⟩) (h3.block b (by omega) (by omega))).trans hck, ?_, hr3.frozen _⟩
        rw [← hco, hr3.cell (by omega), HR.out.cell (by omega)]
      clear hc hrow hmul has HF HX HY HROW HL
      generalize (x k ^^^ Field.mul a (y k)) = z at *
      generalize Field.mul a (y k) = p at *
      generalize x k = u at *
      generalize y k = v at *
      have hbw : Aside w.heap.size (w.heap.size + 1) wr wr.drew := ⟨rfl, rfl, rfl, Nat.le_refl _, fun _ _ _ => rfl⟩
      go_wp2_with fail
      go_region_with (go_at_call 74; refine (HCT wr.drew HM.out).out.mono ?_; rintro e w3 ⟨rfl, m3, a3, s3⟩; obtain ⟨c1, c2, c3⟩ := HK.out w3 (hbw.trans a3))
      all_goals
        have HN := hide (HNX.out w3 (hbw.trans a3) m3 s3)
        clear m3 a3 s3 c1 c2 c3
        go_wp2_with fail
        exact ⟨⟨k + 1, by omega, by go_num, HN.out⟩, by simp [intOf]; omega⟩
    · obtain rfl : k = n := by omega
      have HE : Hid (wr.rowIs g 2 N (addF o k a F x y) ∧ Aside g (g + 1) w wr) := ⟨hrow, has⟩
      clear hrow hmul has
      go_wp2_with fail
      go_end0
      exact ⟨rfl, HE.out⟩
end Go.Proofs.Ytacjaoeghjkhoab
