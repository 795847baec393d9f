/- Several texts in one: ChipCutS, WearImplC. -/
import Derived.Test.YtfogmdnkpkofiaaRChipGrow
import Derived.Test.YtfogmdnkpkofiaaRQuietTail
import Derived.Test.YtfogmdnkpkofiaaRChipOwn2
section
namespace Go.Proofs.Ytfogmdnkpkofiaa
open Go.RowKit
set_option linter.unusedVariables false
set_option maxRecDepth 20000
set_option maxHeartbeats 400000 in
theorem l1Max_any (x y : Int) (w : World) : Calls Try.prog 28 #[.int .i64 x,.int .i64 y] w fun e w' => e = .returned (.int .i64 (if y < x then x else y)) ∧ w = w' := by
 by_cases h : y < x
 ·rw [if_pos h]
  have g : decide (x > y) = true := by simpa using h
  go_enter Try.func28,Try.ntmps28
  go_wp2_with fail
  go_ret
  exact ⟨rfl,rfl⟩
 ·rw [if_neg h]
  have g : decide (x > y) = false := by simpa using h
  go_enter Try.func28,Try.ntmps28
  go_wp2_with fail
  go_ret
  exact ⟨rfl,rfl⟩
end Go.Proofs.Ytfogmdnkpkofiaa
end

section
namespace Go.Proofs.Ytfogmdnkpkofiaa
open Go.RowKit
set_option linter.unusedVariables false
set_option maxRecDepth 20000
set_option maxHeartbeats 1600000 in
theorem implFree_any (z : Int) (a : Option Addr) (n cap : Nat) (qs : List Sq) (w : World) {lo hi : Nat} (h : Squares lo hi w a n qs) (hhi : hi <= w.heap.size) (hn : n <= 1048576) (hf : ∀ x ∈ qs,sqFits x) :
  Calls Try.prog 8 #[.agg #[.int .i64 z,.slice a n cap]] w fun e w' => e = .returned (.int .i64 (free z qs)) ∧ Below w.heap.size w w' := by
 obtain ⟨wA,hwA⟩ : ∃ wA,wA = w.alloc (.cells #[.int .i64 z,.slice a n cap] 26) := ⟨_,rfl⟩
 have hzA : wA.heap.size = w.heap.size + 1 := by rw [hwA]; simp
 have HBA : Hid (Below w.heap.size w wA) := by rw [hwA]; exact (Below.refl _ _).alloc (Nat.le_refl _) _
 have H1 : Hid (wA.heap[w.heap.size]? = some (.cells #[.int .i64 z,.slice a n cap] 26)) := by rw [hwA]; exact heap_new _ _
 have HSQ := hide (h.later HBA.out hhi)
 have HL := hide h.1
 have HF := hide hf
 clear h hf
 obtain ⟨a0,a1⟩ := two_cells H1.out
 go_enter Try.func8,Try.ntmps8
 go_wp2_with fail
 rw [<- hwA]
 clear hwA
 refine (implChipOk_any z a n cap qs wA HSQ.out (by omega) hn HF.out).mono ?_
 rintro e w1 ⟨rfl,b1⟩
 have K1 := hide (block_on H1.out b1)
 have HS1 := hide (HSQ.out.later b1 (by omega))
 have HB1 := hide (below_here HBA.out b1)
 have hs1 := b1.size
 clear b1 H1 HSQ HBA a0 a1
 obtain ⟨a0,a1⟩ := two_cells K1.out
 cases hok : chipOk z qs with
 | false =>
  have HE : Hid (free z qs = -1) := by show _ = _; unfold free; rw [hok]; rfl
  go_wp2_with fail
  go_ret
  exact ⟨by rw [HE.out]; rfl,HB1.out⟩
 | true =>
  have HE : Hid (free z qs = freeK z qs qs.length) := by show _ = _; unfold free; rw [hok]; rfl
  have HFB := hide (freeK_bound hok)
  have HOK := hide hok
  have hz8 := (chipOk_parts hok).2.1
  have hz1 := (chipOk_parts hok).1
  have hn12 : n <= 12 := by have := (chipOk_parts hok).2.2.2.1; rw [HL.out] at this; exact this
  clear hok
  go_wp2_with fail
  go_loopw [3,12] (fun t i wr => ∃ k : Nat,k <= n ∧ i = .int .i64 (k : Int) ∧ t = .int .i64 (freeK z qs k) ∧ Below w1.heap.size w1 wr) (fun _ i _ => n - (intOf i).toNat)
  case atStart => exact ⟨0,Nat.zero_le _,rfl,by simp [freeK],Below.refl _ _⟩
  case round =>
   obtain ⟨k,hk,rfl,rfl,hbel⟩ := hrel
   obtain ⟨a0,a1⟩ := two_cells (block_on K1.out hbel)
   have HBB := hide hbel
   by_cases hlt : k < n
   ·have hql : k < qs.length := by rw [HL.out]; exact hlt
    obtain ⟨_,A,C,hx,ht⟩ := HS1.out
    obtain ⟨b,off,rfl,_,hb,hc⟩ := hx.2 (by omega)
    obtain ⟨c0,c1,c2⟩ := sq_cells hc hbel (show b < w1.heap.size by omega) hlt
    have HST := hide (freeK_step (z := z) hql)
    have hfb := HFB.out k (by omega)
    have hl8 : (sqAt qs k).1.length <= 8 := by have := (sqOk_parts (chipOk_at HOK.out hql)).1; omega
    have HBA : Hid (∀ o,Below w1.heap.size w1 (wr.alloc o)) := fun o => hbel.alloc hbel.size o
    have a0' : ∀ o,(wr.alloc o).cell? ⟨w.heap.size,0,none⟩ = some (.int .i64 z) := fun o => (two_cells (heap_old (o := o) (block_on K1.out hbel))).1
    clear hc hx ht hbel
    generalize freeK z qs k = q at *
    generalize sqAt qs k = y at *
    obtain ⟨ts,zw,bd⟩ := y
    dsimp only at c0 c1 c2 hl8 HST
    cases bd with
    | true =>
     go_wp2_with fail
     exact ⟨⟨k + 1,by omega,by go_num,by rw [HST.out]; simp,HBA.out _⟩,by simp [intOf]; omega⟩
    | false =>
     have HST2 : Hid (freeK z qs (k + 1) = q + (z - (ts.length : Int))) := by show _ = _; rw [HST.out]; simp
     go_wp2_with fail
     exact ⟨⟨k + 1,by omega,by go_num,by rw [HST2.out],HBA.out _⟩,by simp [intOf]; omega⟩
   ·obtain rfl : k = n := by omega
    have HE2 : Hid (free z qs = freeK z qs k) := by show _ = _; rw [HE.out,HL.out]
    generalize freeK z qs k = q at *
    go_wp2_with fail
    go_ret
    exact ⟨by rw [HE2.out]; rfl,below_here HB1.out HBB.out⟩
end Go.Proofs.Ytfogmdnkpkofiaa
end

