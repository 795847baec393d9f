/- . -/
import Derived.Test.YtfogmdnkpkofiaaRDrawBase
import Derived.Test.YtfogmdnkpkofiaaRPageMath
import Derived.Test.YtfogmdnkpkofiaaRChipSz
import Derived.RegionTactic
import Derived.Deep.RegionWith
import Derived.Deep.RegionHeld3
namespace Go.Proofs.Ytfogmdnkpkofiaa
open Go.RowKit
set_option linter.unusedVariables false
set_option linter.unusedSimpArgs false
set_option maxRecDepth 20000
theorem aside_block {w w' : World} {l r g : Nat} {o : Obj} (h : Aside l r w w') (hb : w.heap[g]? = some o) (hg : g < l ∨ r <= g) : w'.heap[g]? = some o := by
 have hlt : g < w.heap.size := by
  rcases Nat.lt_or_ge g w.heap.size with h' | h'
  ·exact h'
  ·rw [Array.getElem?_eq_none h'] at hb; simp at hb
 exact (h.block g hlt hg).trans hb
set_option maxHeartbeats 1600000 in
theorem l7Draw_any (p : Nat) (w : World) (hc : Cur w p) :
  Calls Try.prog 53 #[.pointer (some ⟨p,0,none⟩)] w fun e w' => ∃ (k a s : Int) (x : ByteArray),e = .returned (.agg #[.int .i64 k,.int .i64 a,.int .i64 s,.string x]) ∧ Cur w' p ∧ Aside p (p + 1) w w' := by
 have hpl := hc.lt
 obtain ⟨wA,hwA⟩ : ∃ wA,wA = w.alloc (.cells #[.int .i64 0,.int .i64 0,.int .i64 0,.string ⟨#[]⟩] 82) := ⟨_,rfl⟩
 have HC := hide (hc.alloc (.cells #[.int .i64 0,.int .i64 0,.int .i64 0,.string ⟨#[]⟩] 82))
 have HA := hide ((Aside.refl p (p + 1) w).alloc (.cells #[.int .i64 0,.int .i64 0,.int .i64 0,.string ⟨#[]⟩] 82))
 have H1 := hide (heap_new w (.cells #[.int .i64 0,.int .i64 0,.int .i64 0,.string ⟨#[]⟩] 82))
 rw [<- hwA] at HC HA H1
 clear hc
 go_enter Try.func53,Try.ntmps53
 go_wp2_with fail
 rw [<- hwA]
 clear hwA
 refine (l1Below_any p 8 wA HC.out (by omega)).mono ?_
 rintro e w1 ⟨x,rfl,x0,x1,c1,s1⟩
 have h1 := aside_block s1 H1.out (by omega)
 have HA1 := hide (HA.out.trans s1)
 clear s1 HC HA H1
 go_wp2_with fail
 refine (l1Below_any p 1000 w1 c1 (by omega)).mono ?_
 rintro e w2 ⟨y,rfl,y0,y1,c2,s2⟩
 have h2 := aside_block s2 h1 (by omega)
 have HA2 := hide (HA1.out.trans s2)
 clear s2 c1 HA1 h1
 go_wp2_with fail
 refine (drawText_any p 4 w2 c2 (by omega) (by omega)).mono ?_
 rintro e w3 ⟨t,rfl,ht,c3,s3⟩
 have h3 := aside_block s3 h2 (by omega)
 have hs3 := (HA2.out.trans s3).size
 obtain ⟨wB,hwB⟩ : ∃ wB,wB = w3.alloc (.cells #[.int .i64 1,.int .i64 x,.int .i64 (1 + y),.string t] 82) := ⟨_,rfl⟩
 have HAB := hide ((HA2.out.trans s3).alloc (.cells #[.int .i64 1,.int .i64 x,.int .i64 (1 + y),.string t] 82))
 have HCB := hide (c3.alloc (.cells #[.int .i64 1,.int .i64 x,.int .i64 (1 + y),.string t] 82))
 have H3 := hide (heap_old (o := .cells #[.int .i64 1,.int .i64 x,.int .i64 (1 + y),.string t] 82) h3)
 have HP := hide (heap_new w3 (.cells #[.int .i64 1,.int .i64 x,.int .i64 (1 + y),.string t] 82))
 have hp3 := c3.lt
 have hr3 : w.heap.size < w3.heap.size := by
  rcases Nat.lt_or_ge w.heap.size w3.heap.size with h' | h'
  ·exact h'
  ·rw [Array.getElem?_eq_none h'] at h3; simp at h3
 rw [<- hwB] at HAB HCB H3 HP
 clear s3 c2 HA2 h2 c3 h3
 go_wp2_with fail
 rw [<- hwB]
 clear hwB
 refine (l1Once_any p 5 wB HCB.out (by omega)).mono ?_
 rintro e w4 ⟨b,rfl,c4,s4⟩
 have HR4 := hide (aside_block s4 H3.out (by omega))
 have HP4 := hide (aside_block s4 HP.out (by omega))
 have HA4 := hide (HAB.out.trans s4)
 have HC4 := hide c4
 clear HAB HCB H3 HP c4 s4
 obtain ⟨r0,r1,r2,r3⟩ := four_cells HP4.out
 obtain ⟨z0,z1,z2,z3⟩ := four_cells HR4.out
 have f0 := four_frozen HR4.out 0
 have f1 := four_frozen HR4.out 1
 have f2 := four_frozen HR4.out 2
 have f3 := four_frozen HR4.out 3
 have q0 := four_frozen HP4.out 0
 have q3 := four_frozen HP4.out 3
 cases b with
 | false =>
  go_wp2_with fail
  refine bodyPost_ret (results_cell rfl rfl (run_loadVar_row _ _ _ _ _ _ _ (four_set HR4.out _ _ _ _) Try.underlying82 rfl (by kernel_rfl))) rfl ⟨_,_,_,_,rfl,?_,?_⟩
  ·exact (((HC4.out.set_new hpl _).set_new hpl _).set_new hpl _).set_new hpl _
  ·exact (((HA4.out.set_new (Nat.le_refl _) _).set_new (Nat.le_refl _) _).set_new (Nat.le_refl _) _).set_new (Nat.le_refl _) _
 | true =>
  have HR5 : Hid (((w4.setCell ⟨w3.heap.size,0,none⟩ (.int .i64 2)).setCell ⟨w3.heap.size,3,none⟩ (.string ⟨#[]⟩)).heap[w.heap.size]? = some (.cells #[.int .i64 0,.int .i64 0,.int .i64 0,.string ⟨#[]⟩] 82)) := set_other (set_other HR4.out (by omega) _) (by omega) _
  have HC5 := hide ((HC4.out.set_new hp3 (q := 0) (.int .i64 2)).set_new hp3 (q := 3) (.string ⟨#[]⟩))
  have HA5 := hide ((HA4.out.set_new (g := w3.heap.size) (q := 0) (by omega) (.int .i64 2)).set_new (g := w3.heap.size) (q := 3) (by omega) (.string ⟨#[]⟩))
  go_wp2_with fail
  refine bodyPost_ret (results_cell rfl rfl (run_loadVar_row _ _ _ _ _ _ _ (four_set HR5.out _ _ _ _) Try.underlying82 rfl (by kernel_rfl))) rfl ⟨_,_,_,_,rfl,?_,?_⟩
  ·exact (((HC5.out.set_new hpl _).set_new hpl _).set_new hpl _).set_new hpl _
  ·exact (((HA5.out.set_new (Nat.le_refl _) _).set_new (Nat.le_refl _) _).set_new (Nat.le_refl _) _).set_new (Nat.le_refl _) _
end Go.Proofs.Ytfogmdnkpkofiaa
