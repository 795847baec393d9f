/- The walks of sync.Once over a row of products: the lock is taken, the row is made, the mark is stored, the lock is let go; and 'times', the first time and again. -/
import Derived.Test.YtbgjagmnpfcfaakFieldLock
namespace Go.Proofs.Ytbgjagmnpfcfaak
open Go.RowKit
set_option linter.unusedVariables false
set_option maxRecDepth 20000

set_option maxRecDepth 100000 in
set_option maxHeartbeats 1600000 in
theorem doSlow_any (b a : Nat) (ha : a < 256) (w : World) (h : Row w b a 0 0 0) :
    Calls Try.prog 76 #[.pointer (some ⟨b, 1, none⟩), .func (.func 72) #[.pointer (some ⟨b, 0, none⟩)] #[]] w fun e w' => e = .returned (.tuple #[]) ∧ Row w' b a 1 0 256 ∧ Aside b (b + 1) w w' ∧ w'.heap.size = w.heap.size := by
  have H1 := hide (h.turn 1)
  have HA := hide ((Aside.refl b (b + 1) w).setCell (p := ⟨b, 2, none⟩) (Nat.le_refl _) (Nat.lt_succ_self _) (.int .i32 1))
  have h2 := h.lock
  have f2 := h.free (j := 2) (by omega)
  have hnot : ∀ (x : Bool) (w : World), (Op.unary .not (.bool x)).run Try.prog w = .ok (.bool (!x)) w := fun _ _ => rfl
  go_enter_defers Try.func76, Try.ntmps76
  go_wp2_with fail
  refine (lock_free ⟨b, 2, none⟩ _ (by go_simp) (by go_simp)).mono ?_
  rintro e w1 ⟨rfl, rfl⟩
  go_wp2_with fail
  refine (load_any ⟨b, 1, none⟩ 0 _ H1.out.done).mono ?_
  rintro e w1 ⟨rfl, rfl⟩
  go_wp2_with fail
  refine (fill_any b a ha 0 1 _ H1.out).mono ?_
  rintro e w3 ⟨rfl, h3⟩
  have H3 := hide h3
  clear h3
  go_wp2_with fail
  show Leaves _ _ _ _ _ _ _
  refine leaves_cons (f := 82) (args := #[.pointer (some ⟨b, 1, none⟩), .bool true]) (by simp) (by simp [go_sem]) ?_
  refine (store_deferred ⟨b, 1, none⟩ _ .returning _ H3.out.1.done (H3.out.1.free (by omega))).mono ?_
  rintro e u' w'' ⟨rfl, rfl, rfl⟩
  have H4 := hide (H3.out.1.drew.mark 1)
  refine leaves_cons (f := 81) (args := #[.pointer (some ⟨b, 2, none⟩)]) (by simp [settle]) (by simp [go_sem]) ?_
  refine (unlock_deferred ⟨b, 2, none⟩ _ _ H4.out.lock (H4.out.free (by omega))).mono ?_
  rintro e u' w'' ⟨rfl, rfl, rfl⟩
  have H5 := hide (H4.out.turn 0)
  have HA5 : Hid (Aside b (b + 1) w ((w3.drew.setCell ⟨b, 1, none⟩ (.int .u32 1)).setCell ⟨b, 2, none⟩ (.int .i32 0))) := by
    have h1 := HA.out.trans H3.out.2.1
    have h2 : Aside b (b + 1) w w3.drew := ⟨h1.os, h1.tape, h1.output, h1.size, h1.block⟩
    exact (h2.setCell (p := ⟨b, 1, none⟩) (Nat.le_refl _) (Nat.lt_succ_self _) _).setCell (p := ⟨b, 2, none⟩) (Nat.le_refl _) (Nat.lt_succ_self _) _
  have HS : Hid (((w3.drew.setCell ⟨b, 1, none⟩ (.int .u32 1)).setCell ⟨b, 2, none⟩ (.int .i32 0)).heap.size = w.heap.size) := by
    show _ = _
    rw [Go.Deep.nblk_setCell, Go.Deep.nblk_setCell]
    show w3.heap.size = _
    rw [H3.out.2.2, Go.Deep.nblk_setCell]
  have hend : Row ((w3.drew.setCell ⟨b, 1, none⟩ (.int .u32 1)).setCell ⟨b, 2, none⟩ (.int .i32 0)) b a 1 0 256 ∧ Aside b (b + 1) w ((w3.drew.setCell ⟨b, 1, none⟩ (.int .u32 1)).setCell ⟨b, 2, none⟩ (.int .i32 0)) ∧ ((w3.drew.setCell ⟨b, 1, none⟩ (.int .u32 1)).setCell ⟨b, 2, none⟩ (.int .i32 0)).heap.size = w.heap.size := ⟨H5.out, HA5.out, HS.out⟩
  simp only [Leaves, settle, results, Try.results76]
  refine ⟨.tuple #[], by simp, rfl, hend⟩

set_option maxRecDepth 100000 in
set_option maxHeartbeats 1600000 in
theorem do_first (b a : Nat) (ha : a < 256) (w : World) (h : Row w b a 0 0 0) :
    Calls Try.prog 71 #[.pointer (some ⟨b, 1, none⟩), .func (.func 72) #[.pointer (some ⟨b, 0, none⟩)] #[]] w fun e w' => e = .returned (.tuple #[]) ∧ Row w' b a 1 0 256 ∧ Aside b (b + 1) w w' ∧ w'.heap.size = w.heap.size := by
  have hnot : ∀ (x : Bool) (w : World), (Op.unary .not (.bool x)).run Try.prog w = .ok (.bool (!x)) w := fun _ _ => rfl
  have H := hide h
  clear h
  go_enter Try.func71, Try.ntmps71
  go_wp2_with fail
  refine (load_any ⟨b, 1, none⟩ 0 _ H.out.done).mono ?_
  rintro e w1 ⟨rfl, rfl⟩
  go_wp2_with fail
  refine (doSlow_any b a ha _ H.out).mono ?_
  rintro e w3 ⟨rfl, h3⟩
  go_wp2_with fail
  go_end0
  exact ⟨rfl, h3⟩
set_option maxRecDepth 100000 in
set_option maxHeartbeats 1600000 in
theorem do_done (b a : Nat) (f : Value) (w : World) (h : Row w b a 1 0 256) :
    Calls Try.prog 71 #[.pointer (some ⟨b, 1, none⟩), f] w fun e w' => e = .returned (.tuple #[]) ∧ w = w' := by
  have hnot : ∀ (x : Bool) (w : World), (Op.unary .not (.bool x)).run Try.prog w = .ok (.bool (!x)) w := fun _ _ => rfl
  have H := hide h
  clear h
  go_enter Try.func71, Try.ntmps71
  go_wp2_with fail
  refine (load_any ⟨b, 1, none⟩ 1 _ H.out.done).mono ?_
  rintro e w1 ⟨rfl, rfl⟩
  go_wp2_with fail
  go_end0
  exact ⟨rfl, rfl⟩

/-- A row: not made yet, or made. -/
def Multi (w : World) (b a : Nat) : Prop := Row w b a 0 0 0 ∨ Row w b a 1 0 256
set_option maxRecDepth 100000 in
set_option maxHeartbeats 1600000 in
theorem times_any (b a c : Nat) (ha : a < 256) (hc : c < 256) (w : World) (h : Multi w b a) :
    Calls Try.prog 62 #[.pointer (some ⟨b, 0, none⟩), .int .i64 (c : Int)] w fun e w' => e = .returned (.int .i64 (Field.mul a c : Nat)) ∧ Multi w' b a ∧ Aside b (b + 1) w w' ∧ w'.heap.size = w.heap.size := by
  have hmf : ∀ (fn : Fn) (first cap : Array Value) (w : World), (Instr.makeFunc fn first cap).run Try.prog w = .ok (.func fn first cap) w := fun _ _ _ _ => rfl
  rcases h with h | h
  · have H := hide h
    clear h
    go_enter Try.func62, Try.ntmps62
    go_wp2_with fail
    refine (do_first b a ha _ H.out).mono ?_
    rintro e w3 ⟨rfl, h3⟩
    have hcell := h3.1.at (j := c) hc (Nat.le_refl _)
    have H3 := hide h3
    clear h3
    go_wp2_with fail
    go_ret
    exact ⟨rfl, .inr H3.out.1, H3.out.2⟩
  · have hcell := h.at (j := c) hc (Nat.le_refl _)
    have H := hide h
    clear h
    go_enter Try.func62, Try.ntmps62
    go_wp2_with fail
    refine (do_done b a _ _ H.out).mono ?_
    rintro e w3 ⟨rfl, rfl⟩
    go_wp2_with fail
    go_ret
    exact ⟨rfl, .inr H.out, Aside.refl _ _ _, rfl⟩
end Go.Proofs.Ytbgjagmnpfcfaak
