/- The program's copyOfTexts: texts of one's own. -/
import Derived.Test.YtckkcimkfhhacaaLTextWalk
import Derived.Test.YtckkcimkfhhacaaLCloneW
namespace Go.Proofs.Ytckkcimkfhhacaa
open Go.RowKit
set_option linter.unusedVariables false
set_option linter.unusedSimpArgs false
set_option maxRecDepth 20000

set_option maxHeartbeats 800000 in
theorem copyOfTexts_any (a : Option Addr) (n cap : Nat) (xs : List ByteArray) (w : World) {lo hi : Nat} (h : Texts lo hi w a n xs) (hn : n ≤ 1048576) (hts : ∀ s ∈ xs, s.size ≤ 1048576) :
    Calls Try.prog 48 #[.slice a n cap] w fun e w' => ∃ a', e = .returned (.slice a' n n) ∧ OwnTexts w.heap.size w'.heap.size w' a' n xs ∧ Below w.heap.size w w' := by
  obtain ⟨hl, hsz, hx⟩ := h
  have HL : Hid (xs.length = n) := hl
  have HTS := hide hts
  clear hl hts
  have hmk := run_make_row' (P := Try.prog) 48 9 (.string ByteArray.empty) 16 Try.underlying48 Try.infoStr rfl .i64 .i64 n (by omega) (by omega)
  go_enter Try.func48, Try.ntmps48
  go_wp2
  go_loopw [11] (fun i wr => ∃ k : Nat, k ≤ n ∧ i = .int .i64 k ∧ wr.rowIs w.heap.size 9 n (fun i => if i < k then cellT xs i else .string ByteArray.empty) ∧ Below w.heap.size w wr) (fun i _ => n - (intOf i).toNat)
  case atStart => exact ⟨0, Nat.zero_le _, rfl, (World.rowIs_made w (.string ByteArray.empty) n 9).congr (fun _ _ => by simp), (Below.refl _ _).alloc (Nat.le_refl _) _⟩
  case round =>
    obtain ⟨k, hk, rfl, hrow, hbel⟩ := hrel
    by_cases hlt : k < n
    · obtain ⟨b, off, rfl, _, hb, hc⟩ := hx (by omega)
      have hck : wr.cell? ⟨b, off + k, none⟩ = some (.string (xs.getD k ByteArray.empty)) := (hbel.cell (p := ⟨b, off + k, none⟩) (by show b < _; omega)).trans (hc k hlt)
      clear hc hx
      obtain ⟨z, hz⟩ : ∃ z, z = xs.getD k ByteArray.empty := ⟨_, rfl⟩
      have hzs : z.size ≤ 1048576 := HTS.out _ (by
        rw [hz, List.getD_eq_getElem?_getD, List.getElem?_eq_getElem (by rw [HL.out]; exact hlt)]
        exact List.getElem_mem _)
      rw [← hz] at hck
      have HZ : Hid (z = xs.getD k ByteArray.empty) := hz
      have HRW := hide hrow
      have HBL := hide hbel
      clear hz hrow hbel
      go_wp2_with fail
      refine (cloneT_any z wr hzs).mono ?_
      rintro e w2 ⟨rfl, b2⟩
      have hrow := HRW.out.of_block (b2.block _ HRW.out.lt)
      have hbel := below_here HBL.out b2
      have hco := hrow.cell hlt
      have hfo := hrow.frozen k
      have hR := (hrow.set k (.string z)).congr (g := fun i => if i < k + 1 then cellT xs i else .string ByteArray.empty) (fun j hj => rowT_step xs k j _ (by rw [HZ.out]; rfl))
      have hB := hbel.setCell (p := ⟨w.heap.size, k, none⟩) (Nat.le_refl _) (.string z)
      have HR := hide (hR)
      have HB := hide (hB)
      clear hR hB hrow hbel b2 HRW HBL hck
      go_wp2
      go_roundw
      case rel => exact ⟨k + 1, by omega, by go_num, HR.out, HB.out⟩
      case measure => simp [intOf]; omega
    · go_wp2
      go_ret
      have hs := hrow.lt
      exact ⟨_, rfl, ⟨HL.out, owned_of_row (hrow.congr (fun i hi => if_pos (by omega))) (Nat.le_refl _) hs (Nat.le_refl _)⟩, hbel⟩
end Go.Proofs.Ytckkcimkfhhacaa
