/- Several texts in one: LawBase, LikeTwo. -/
import Derived.Test.YtocinobbocjikaaDrawBase
import Derived.OpenShut
import Derived.Test.YtocinobbocjikaaJInfo
section
namespace Go.Proofs.Ytocinobbocjikaa
open Go.RowKit
set_option linter.unusedVariables false
set_option maxRecDepth 20000

theorem bytes_of {w : World} {a : Option Addr} {len cap : Nat} {zs : List Int} (h : (a = none ∧ len = 0 ∧ cap = 0 ∧ zs = []) ∨ ∃ x, a = some x ∧ len ≤ cap ∧ cap ≤ maxLen ∧ zs.length = cap ∧ (∀ i, i < zs.length → w.cell? (x.add i) = some (.int .u8 (zs.getD i 0))) ∧ ∀ n ∈ zs, (Lit.int .u8 n).wf = true) : Bytes 0 w.heap.size w a len ((zs.take len).map fun z => UInt8.ofNat z.toNat) := by
  rcases h with ⟨rfl, rfl, rfl, rfl⟩ | ⟨x, rfl, hl, hm, hz, hc, hw⟩
  · exact ⟨rfl, Nat.le_refl _, fun h => absurd h (Nat.lt_irrefl _)⟩
  · refine ⟨by rw [List.length_map, List.length_take]; omega, Nat.le_refl _, fun hn => ?_⟩
    obtain ⟨b, off, spot⟩ := x
    have h0 := hc 0 (by omega)
    have hs : spot = none := by simpa [Addr.add] using World.cell?_spot h0
    subst hs
    refine ⟨b, off, rfl, Nat.zero_le _, World.block_lt_of_cell? _ _ h0, fun i hi => ?_⟩
    have hi' : w.cell? ⟨b, off + i, none⟩ = some (.int .u8 (zs.getD i 0)) := by
      have hi'' := hc i (by omega)
      simp only [Addr.add] at hi''
      split at hi''
      · rename_i e; subst e; exact hi''
      · exact hi''
    have hil : i < zs.length := by omega
    have hwf := bounds_u8 (hw (zs.getD i 0) (by rw [List.getD_eq_getElem?_getD, List.getElem?_eq_getElem hil]; exact List.getElem_mem hil))
    have e : ((zs.take len).map fun z => UInt8.ofNat z.toNat).getD i 0 = UInt8.ofNat (zs.getD i 0).toNat := by
      rw [List.getD_eq_getElem?_getD, List.getElem?_map, List.getElem?_take, if_pos hi, List.getD_eq_getElem?_getD, List.getElem?_eq_getElem hil]; rfl
    rw [hi', cellB, e, UInt8.toNat_ofNat']
    congr 2
    omega

set_option maxHeartbeats 400000 in
theorem big_any (a : Option Addr) (n cap : Nat) (w : World) (hn : n ≤ 9223372036854775807) :
    Calls Try.prog 5 #[.slice a n cap] w fun e w' => e = .returned (.bool (decide (4096 < n))) ∧ w = w' := by
  by_cases h : 4096 < n
  · go_enter Try.func5, Try.ntmps5
    go_wp2
    go_ret
    exact ⟨by simp [h]; omega, rfl⟩
  · go_enter Try.func5, Try.ntmps5
    go_wp2
    go_ret
    exact ⟨by simp [h]; omega, rfl⟩

end Go.Proofs.Ytocinobbocjikaa
end

section
namespace Go.Proofs.Ytocinobbocjikaa
open Go.RowKit
set_option linter.unusedVariables false
set_option maxRecDepth 20000

set_option maxHeartbeats 400000 in
theorem likeTwo_any (a : Option Addr) (n cap : Nat) (xs : List Int) (a' : Option Addr) (n' cap' : Nat) (ys : List Int) (w : World) {lo hi lo' hi' : Nat} (h : Ints lo hi w a n xs) (h' : Ints lo' hi' w a' n' ys) (hn : n ≤ 1048576) (hn' : n' ≤ 1048576) :
    Calls Try.prog 14 #[.slice a n cap, .slice a' n' cap'] w fun e w' => e = .returned (.bool (decide (xs = ys))) ∧ Below w.heap.size w w' := by
  obtain ⟨hl, hsz, hx⟩ := h
  obtain ⟨hl', hsz', hx'⟩ := h'
  have HL : Hid (xs.length = n) := hl
  have HL' : Hid (ys.length = n') := hl'
  clear hl hl'
  by_cases he : n = n'
  · subst he
    go_enter Try.func14, Try.ntmps14
    go_wp2
    go_loopw [5] (fun i wr => ∃ k : Nat, k ≤ n ∧ i = .int .i64 k ∧ xs.take k = ys.take k ∧ Below w.heap.size w wr) (fun i _ => n - (intOf i).toNat)
    case atStart => exact ⟨0, Nat.zero_le _, rfl, rfl, Below.refl _ _⟩
    case round =>
      obtain ⟨k, hk, rfl, hall, hbel⟩ := hrel
      have HA : Hid (xs.take k = ys.take k) := hall
      clear hall
      by_cases hlt : k < n
      · obtain ⟨b, off, rfl, _, hb, hc⟩ := hx (by omega)
        obtain ⟨b', off', rfl, _, hb', hc'⟩ := hx' (by omega)
        have hck : wr.cell? ⟨b, off + k, none⟩ = some (.int .i64 (xs.getD k 0)) := (hbel.cell (p := ⟨b, off + k, none⟩) (by show b < _; omega)).trans (hc k hlt)
        have hck' : wr.cell? ⟨b', off' + k, none⟩ = some (.int .i64 (ys.getD k 0)) := (hbel.cell (p := ⟨b', off' + k, none⟩) (by show b' < _; omega)).trans (hc' k hlt)
        clear hc hx hc' hx'
        obtain ⟨z, hz⟩ : ∃ z, z = xs.getD k 0 := ⟨_, rfl⟩
        rw [← hz] at hck
        have HZ : Hid (z = xs.getD k 0) := hz
        clear hz
        obtain ⟨y, hy⟩ : ∃ z, z = ys.getD k 0 := ⟨_, rfl⟩
        rw [← hy] at hck'
        have HY : Hid (y = ys.getD k 0) := hy
        clear hy
        by_cases h0 : z = y
        · subst h0
          go_wp2
          go_quiet (fail)
          go_wp2
          go_roundw
          case rel => exact ⟨k + 1, by omega, by go_num, take_step HL.out HL'.out hlt HA.out (HZ.out.symm.trans HY.out), below_drewN hbel _⟩
          case measure => simp [intOf]; omega
        · have e0 : (z == y) = false := by simpa using h0
          have e1 : (z != y) = true := by simpa using h0
          go_wp2
          go_quiet (fail)
          go_wp2
          go_ret
          exact ⟨ret_bool (take_fall (k := k) (by rw [← HZ.out, ← HY.out]; exact h0)).symm, below_drewN hbel _⟩
      · go_wp2
        go_ret
        exact ⟨ret_bool (take_whole HL.out HL'.out (by omega) HA.out).symm, hbel⟩
  · have e0 : ((n : Int) == (n' : Int)) = false := by simp; omega
    have e1 : ((n : Int) != (n' : Int)) = true := by simp; omega
    go_enter Try.func14, Try.ntmps14
    go_wp2
    go_ret
    exact ⟨ret_bool (by simp; intro e; subst e; exact he (HL.out.symm.trans HL'.out)), Below.refl _ _⟩


end Go.Proofs.Ytocinobbocjikaa
end

