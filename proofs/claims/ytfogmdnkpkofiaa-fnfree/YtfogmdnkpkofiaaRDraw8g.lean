/- Several texts in one: Draw8g, Draw9, Draw8h, Draw9b. -/
import Derived.Test.YtfogmdnkpkofiaaRDraw7
import Derived.Test.YtfogmdnkpkofiaaRChipGrow
import Derived.Test.YtfogmdnkpkofiaaRChipOwn2
import Derived.Lib.QuietBelow
import Derived.Deep.RegionWith
import Derived.Deep.DeepCutAuto
import Derived.Laws.StructEq
import Derived.Test.YtfogmdnkpkofiaaRWalkB1
import Derived.Deep.RegionHeld3
section
namespace Go.Proofs.Ytfogmdnkpkofiaa
open Go.RowKit
set_option linter.unusedVariables false
set_option linter.unusedSimpArgs false
set_option maxRecDepth 20000
theorem grow_new {B g n : Nat} {w : World} (h : Owned g (g + 1) w (some ⟨g,0,none⟩) (3 * n) zero3) (hB : B <= g) : GrowSqs B w n (List.replicate n ([],0,false)) g (fun _ => none) (fun _ => 0) :=
 ⟨by simp,h.congr (fun j _ => cellQ_new n j),⟨fun i _ => by rw [sqAt_new]; exact ⟨rfl,.inl ⟨rfl,rfl⟩⟩,fun i j m _ _ _ h' => by simp [oB] at h'⟩,hB,fun i _ => by simp [oB]⟩
theorem chipOk_new {n : Nat} {z : Int} (h1 : 1 <= n) (h2 : n <= 12) (hz : inB z 1 8 = true) : chipOk z (List.replicate n ([],0,false)) = true := by
 unfold chipOk
 rw [hz,List.length_replicate]
 have h3 : (List.replicate n (([],0,false) : Sq)).all (sqOk z) = true := by
  rw [List.all_eq_true]
  intro x hx
  rw [(List.mem_replicate.1 hx).2]
  have hz' : 1 <= z := by
   unfold inB at hz; simp at hz; omega
  simp [sqOk,inB]
  try omega
 rw [h3]
 simp [h1,h2]
set_option maxHeartbeats 1600000 in
theorem specNewChip_grow (n : Nat) (z : Int) (w : World) (h1 : 1 <= n) (h2 : n <= 12) (hz : inB z 1 8 = true) :
  Calls Try.prog 66 #[.int .i64 (n : Int),.int .i64 z] w fun e w' => ∃ g,e = .returned (.tuple #[.agg #[.int .i64 z,.slice (some ⟨g,0,none⟩) n n],.bool true]) ∧ GrowSqs w.heap.size w' n (List.replicate n ([],0,false)) g (fun _ => none) (fun _ => 0) ∧ Below w.heap.size w w' := by
 obtain ⟨wA,hwA⟩ : ∃ wA,wA = w.alloc (.cells #[.int .i64 0,.slice none 0 0] 26) := ⟨_,rfl⟩
 have hzA : wA.heap.size = w.heap.size + 1 := by rw [hwA]; simp
 have HBA : Hid (Below w.heap.size w wA) := by rw [hwA]; exact (Below.refl _ _).alloc (Nat.le_refl _) _
 have H1 : Hid (wA.heap[w.heap.size]? = some (.cells #[.int .i64 0,.slice none 0 0] 26)) := by rw [hwA]; exact heap_new _ _
 have hi : inB (n : Int) 1 12 = true := by unfold inB; simp; omega
 have hmk := make3 (P := Try.prog) 24 37 (.slice none 0 0) (.int .i64 0) (.bool false) 40 Try.underlying24 Try.infoSq n (by omega) (by omega) wA
 go_enter Try.func66,Try.ntmps66
 go_wp2_with fail
 rw [<- hwA]
 clear hwA
 refine (l1In_any (n : Int) 1 12 wA).mono ?_
 rintro e w1 ⟨rfl,rfl⟩
 rw [hi]
 go_wp2_with fail
 refine (l1In_any z 1 8 wA).mono ?_
 rintro e w1 ⟨rfl,rfl⟩
 rw [hz]
 obtain ⟨a0,a1⟩ := two_cells H1.out
 have f0 := four_frozen H1.out 0
 have f1 := four_frozen H1.out 1
 go_wp2_with fail
 have HRS := hide (two_set H1.out (.int .i64 z) (.slice (some ⟨w.heap.size + 1,0,none⟩) n n))
 have HAS := hide (two_aside (b := w.heap.size) (Aside.refl w.heap.size (w.heap.size + 1) wA) (Nat.le_refl _) (Nat.lt_succ_self _) (.int .i64 z) (.slice (some ⟨w.heap.size + 1,0,none⟩) n n))
 have hsW : ((wA.setCell ⟨w.heap.size,0,none⟩ (.int .i64 z)).setCell ⟨w.heap.size,1,none⟩ (.slice (some ⟨w.heap.size + 1,0,none⟩) n n)).heap.size = w.heap.size + 1 := by rw [Go.Deep.nblk_setCell,Go.Deep.nblk_setCell,hzA]
 have HBW := hide (HBA.out.trans (HAS.out.below (Nat.le_refl _) (by omega)))
 have HOW := hide (made3 ((wA.setCell ⟨w.heap.size,0,none⟩ (.int .i64 z)).setCell ⟨w.heap.size,1,none⟩ (.slice (some ⟨w.heap.size + 1,0,none⟩) n n)) n 37)
 rw [hsW] at HOW
 refine bodyPost_ret (results_ct rfl rfl (run_loadVar_row _ _ _ _ _ _ _ (heap_old HRS.out) Try.underlying26 rfl (by kernel_rfl))) rfl ⟨_,rfl,grow_new HOW.out (by omega),HBW.out.alloc (by omega) _⟩
theorem Aside.trans_below {l r B : Nat} {a w w' : World} (h : Aside l r a w) (hb : Below B w w') (hB : a.heap.size <= B) : Aside l r a w' :=
 ⟨hb.os.trans h.os,hb.tape.trans h.tape,hb.output.trans h.output,Nat.le_trans h.size hb.size,fun k hk hk' => (hb.block k (by omega)).trans (h.block k hk hk')⟩
def JobDraws : Prop := ∀ (p : Nat) (q : Int) (w : World),Cur w p -> q <= 4294967296 ->
  Calls Try.prog 27 #[.pointer (some ⟨p,0,none⟩),.int .i64 q] w fun e w' => ∃ (kd sq : Int) (tx : ByteArray),e = .returned (.agg #[.int .i64 kd,.int .i64 sq,.string tx]) ∧ tx.size <= maxLen ∧ Cur w' p ∧ Aside p (p + 1) w w'
set_option maxHeartbeats 1600000 in
theorem l8Draw_any (hd : JobDraws) (p : Nat) (w : World) (hc : Cur w p) :
  Calls Try.prog 49 #[.pointer (some ⟨p,0,none⟩)] w fun e w' => ∃ (z : Int) (g n : Nat) (qs : List Sq) (A : Nat -> Option Addr) (C : Nat -> Nat),e = .returned (.agg #[.int .i64 z,.slice (some ⟨g,0,none⟩) n n]) ∧ chipOk z qs = true ∧ GrowSqs w.heap.size w' n qs g A C ∧ Cur w' p ∧ Aside p (p + 1) w w' := by
 have hpl := hc.lt
 have HD := hide hd
 clear hd
 obtain ⟨wA,hwA⟩ : ∃ wA,wA = w.alloc (.cells #[.int .i64 0,.slice none 0 0] 26) := ⟨_,rfl⟩
 have HC := hide (hc.alloc (.cells #[.int .i64 0,.slice none 0 0] 26))
 have HA := hide ((Aside.refl p (p + 1) w).alloc (.cells #[.int .i64 0,.slice none 0 0] 26))
 have H1 := hide (heap_new w (.cells #[.int .i64 0,.slice none 0 0] 26))
 rw [<- hwA] at HC HA H1
 clear hc
 go_enter Try.func49,Try.ntmps49
 go_wp2_with fail
 rw [<- hwA]
 clear hwA
 refine (l1Below_any p 5 wA HC.out (by omega)).mono ?_
 rintro e w1 ⟨x,rfl,x0,x1,c1,s1⟩
 have h1 := aside_block s1 H1.out (by omega)
 have HA1 := hide (HA.out.trans s1)
 clear s1 HC HA H1
 go_wp2_with fail
 refine (l1Below_any p 4 w1 c1 (by omega)).mono ?_
 rintro e w2 ⟨y,rfl,y0,y1,c2,s2⟩
 have h2 := aside_block s2 h1 (by omega)
 have HA2 := hide (HA1.out.trans s2)
 clear s2 c1 HA1 h1
 obtain ⟨n,hn⟩ : ∃ n : Nat,1 + x = (n : Int) := ⟨(1 + x).toNat,by omega⟩
 have hn1 : 1 <= n := by omega
 have hn5 : n <= 5 := by omega
 obtain ⟨z,hz⟩ : ∃ z : Int,1 + y = z := ⟨_,rfl⟩
 have hzi : inB z 1 8 = true := by unfold inB; simp; omega
 have hw2 : w.heap.size < w2.heap.size := by
  rcases Nat.lt_or_ge w.heap.size w2.heap.size with h' | h'
  ·exact h'
  ·rw [Array.getElem?_eq_none h'] at h2; simp at h2
 go_wp2_with fail
 refine (specNewChip_grow n z w2 hn1 (by omega) hzi).mono ?_
 rintro e w3 ⟨g,rfl,hG,b3⟩
 have hok := chipOk_new hn1 (show n <= 12 by omega) hzi
 have hs3 := b3.size
 have hg2 := hG.atG
 obtain ⟨B,hB⟩ : ∃ B,B = w2.heap.size := ⟨_,rfl⟩
 rw [<- hB] at hG hg2 hw2 hs3
 have hgl : g < w3.heap.size := by have := hG.row.1; omega
 obtain ⟨wB,hwB⟩ : ∃ wB,wB = w3.alloc (.cells #[.int .i64 z,.slice (some ⟨g,0,none⟩) n n] 26) := ⟨_,rfl⟩
 have HGB : Hid (GrowSqs B wB n (List.replicate n ([],0,false)) g (fun _ => none) (fun _ => 0)) := by rw [hwB]; exact hG.later ((Below.refl _ _).alloc (Nat.le_refl _) _)
 have HKB : Hid (wB.heap[w3.heap.size]? = some (.cells #[.int .i64 z,.slice (some ⟨g,0,none⟩) n n] 26)) := by rw [hwB]; exact heap_new _ _
 have HRB : Hid (wB.heap[w.heap.size]? = some (.cells #[.int .i64 0,.slice none 0 0] 26)) := by rw [hwB]; exact heap_old (block_on h2 b3)
 have HCB : Hid (Cur wB p) := by rw [hwB]; exact (c2.below b3 c2.lt).alloc _
 have HAB : Hid (Aside p (p + 1) w wB) := by rw [hwB]; exact (HA2.out.trans (aside_of_below b3)).alloc _
 have HOK := hide hok
 have hzB : wB.heap.size = w3.heap.size + 1 := by rw [hwB]; simp
 have HZB := hide hzB
 clear hG b3 c2 HA2 h2 hok hzB hn hz x0 x1 y0 y1
 go_wp2_with fail
 rw [<- hwB]
 clear hwB hB
 refine (l1Below_any p 14 wB HCB.out (by omega)).mono ?_
 rintro e w4 ⟨m,rfl,m0,m1,c4,s4⟩
 have hp3 : p < w3.heap.size := by omega
 have HG4 := hide (HGB.out.aside s4 (.inl (by omega)))
 have HK4 := hide (aside_block s4 HKB.out (by omega))
 have HR4 := hide (aside_block s4 HRB.out (by omega))
 have HA4 := hide (HAB.out.trans s4)
 have hs4 : w3.heap.size + 1 <= w4.heap.size := by rw [<- HZB.out]; exact s4.size
 have HC4 := hide c4
 clear HGB HKB HRB HAB HCB c4 s4 HZB
 obtain ⟨M,rfl⟩ : ∃ M : Nat,m = (M : Int) := ⟨m.toNat,by omega⟩
 have hM : M <= 13 := by omega
 clear m0 m1
 go_wp2_with fail
 go_loopw [5] (fun i wr => ∃ (k : Nat) (qs : List Sq) (A : Nat -> Option Addr) (C : Nat -> Nat),k <= 13 ∧ i = .int .i64 (k : Int) ∧ chipOk z qs = true ∧ GrowSqs B wr n qs g A C ∧ wr.heap[w3.heap.size]? = some (.cells #[.int .i64 z,.slice (some ⟨g,0,none⟩) n n] 26) ∧ wr.heap[w.heap.size]? = some (.cells #[.int .i64 0,.slice none 0 0] 26) ∧ Cur wr p ∧ Aside p (p + 1) w wr ∧ w3.heap.size + 1 <= wr.heap.size) (fun i _ => (intOf i).toNat)
 case atStart => exact ⟨M,_,_,_,hM,rfl,HOK.out,HG4.out,HK4.out,HR4.out,HC4.out,HA4.out,hs4⟩
 case round =>
  obtain ⟨k,qs,A,C,hk,rfl,hok,hG,hK,hR,hC,hA,hs⟩ := hrel
  have HOK2 := hide hok
  have HG := hide hG
  have HK := hide hK
  have HR := hide hR
  have HA := hide hA
  clear HG4 HK4 HR4 HA4 HC4 HOK hok hG hA
  by_cases h0 : 0 < k
  ·obtain ⟨a0,a1⟩ := two_cells hK
   clear hK hR
   go_wp2_with fail
   refine (HD.out p (n : Int) wr hC (by omega)).mono ?_
   rintro e w5 ⟨kd,sq,tx,rfl,htx,c5,s5⟩
   have hs5 := s5.size
   have HG5 := hide (HG.out.aside s5 (.inl (by omega)))
   have HK5 := hide (aside_block s5 HK.out (by omega))
   have HR5 := hide (aside_block s5 HR.out (by omega))
   have HA5 := hide (HA.out.trans s5)
   have HC5 := hide c5
   clear HG HK HR HA hC s5 c5 a0 a1
   go_wp2_with fail
   refine (l8Do_any w3.heap.size n B z n qs g A C kd sq tx w5 HG5.out (by omega) HK5.out (by omega) HOK2.out htx).mono ?_
   rintro e w6 ⟨rfl,A6,C6,hG6,hO6⟩
   have HG6 := hide hG6
   have HK6 := hide (hO6.other _ _ _ _ (show w3.heap.size ≠ g by omega) (by decide) HK5.out)
   have HR6 := hide (hO6.other _ _ _ _ (show w.heap.size ≠ g by omega) (by decide) HR5.out)
   have HC6 := hide (HC5.out.below hO6.below (by omega))
   have HA6 : Hid (Aside p (p + 1) w w6) := HA5.out.trans_below hO6.below (by omega)
   have hs6 : w3.heap.size + 1 <= w6.heap.size := by have := hO6.below.size; omega
   have HOK6 := hide (doJ_ok (j := (kd,sq,tx)) HOK2.out)
   clear hG6 hO6 HG5 HK5 HR5 HA5 HC5 HOK2
   go_wp2_with fail
   exact ⟨⟨k - 1,_,A6,C6,by omega,by go_num,HOK6.out,HG6.out,HK6.out,HR6.out,HC6.out,HA6.out,hs6⟩,by simp [intOf]; omega⟩
  ·obtain rfl : k = 0 := by omega
   obtain ⟨a0,a1⟩ := two_cells hK
   obtain ⟨z0,z1⟩ := two_cells hR
   have f0 := four_frozen hR 0
   have f1 := four_frozen hR 1
   have HCC := hide hC
   clear hK hR hC
   go_wp2_with fail
   refine bodyPost_ret (results_cell rfl rfl (run_loadVar_row _ _ _ _ _ _ _ (two_set HR.out _ _) Try.underlying26 rfl (by kernel_rfl))) rfl ⟨z,g,n,qs,A,C,rfl,HOK2.out,?_,?_,?_⟩
   ·exact (HG.out.aside (two_aside (Aside.refl w.heap.size (w.heap.size + 1) wr) (Nat.le_refl _) (Nat.lt_succ_self _) _ _) (.inl (by omega))).mono (by omega)
   ·exact (HCC.out.set_new hpl _).set_new hpl _
   ·exact (HA.out.set_new (Nat.le_refl _) _).set_new (Nat.le_refl _) _
end Go.Proofs.Ytfogmdnkpkofiaa
end

section
namespace Go.Proofs.Ytfogmdnkpkofiaa
open Go.RowKit
set_option linter.unusedVariables false
set_option linter.unusedSimpArgs false
set_option maxRecDepth 20000
end Go.Proofs.Ytfogmdnkpkofiaa
end

section
namespace Go.Proofs.Ytfogmdnkpkofiaa
open Go.RowKit
set_option linter.unusedVariables false
set_option linter.unusedSimpArgs false
set_option maxRecDepth 20000
theorem four_at (k : Nat) (h : k < 4) : ∃ v : Int,(#[.int .i64 0,.int .i64 1,.int .i64 8,.int .i64 9] : Array Value)[k]? = some (.int .i64 v) := by
 rcases (show k = 0 ∨ k = 1 ∨ k = 2 ∨ k = 3 by omega) with rfl | rfl | rfl | rfl <;> exact ⟨_,rfl⟩
def ChipDrawn (w : World) (p : Nat) (e : Ending) (w' : World) : Prop := ∃ (z : Int) (a : Option Addr) (n c : Nat) (qs : List Sq),e = .returned (.agg #[.int .i64 z,.slice a n c]) ∧ n <= 13 ∧ n <= c ∧ (∀ x ∈ qs,sqFits x) ∧ (∀ x ∈ qs,x.1.length <= 9) ∧ Squares w.heap.size w'.heap.size w' a n qs ∧ Cur w' p ∧ Aside p (p + 1) w w'
theorem three_at (x0 x1 x2 : Int) (k : Nat) (h : k < 3) : ∃ v : Int,(v = x0 ∨ v = x1 ∨ v = x2) ∧ (#[.int .i64 x0,.int .i64 x1,.int .i64 x2] : Array Value)[k]? = some (.int .i64 v) := by
 rcases (show k = 0 ∨ k = 1 ∨ k = 2 by omega) with rfl | rfl | rfl
 ·exact ⟨_,.inl rfl,rfl⟩
 ·exact ⟨_,.inr (.inl rfl),rfl⟩
 ·exact ⟨_,.inr (.inr rfl),rfl⟩
theorem two_at (k : Nat) (h : k < 2) : ∃ tx : ByteArray,tx.size <= 4 ∧ (#[.string ⟨#[]⟩,.string ⟨#[106,117,110,107]⟩] : Array Value)[k]? = some (.string tx) := by
 rcases (show k = 0 ∨ k = 1 by omega) with rfl | rfl
 ·exact ⟨_,by decide,rfl⟩
 ·exact ⟨_,by decide,rfl⟩
theorem cell_aside {w w' : World} {l r g q : Nat} (h : Aside l r w w') (hg : g < w.heap.size) (hr : r <= g) : w'.cell? ⟨g,q,none⟩ = w.cell? ⟨g,q,none⟩ := World.cell?_of_block (a := ⟨g,q,none⟩) (h.block g hg (.inr hr))
theorem array_cell_new (w : World) {cs : Array Value} {t : TypeId} {J : Nat} {v : Value} (hv : cs[J]? = some v) : (w.alloc (.cells cs t)).cell? ⟨w.heap.size,J,none⟩ = some v := by rw [World.cell?_alloc_new]; exact hv
theorem grow_cell {B n g : Nat} {w : World} {qs : List Sq} {A : Nat -> Option Addr} {C : Nat -> Nat} (h : GrowSqs B w n qs g A C) (hn : 0 < n) : w.cell? ⟨g,0,none⟩ = some (.slice (A 0) (sqAt qs 0).1.length (C 0)) := by
 have h1 := (h.cells (i := 0) hn).1
 rw [Nat.zero_mul] at h1
 exact h1
theorem chip_len {z : Int} {qs : List Sq} (h : chipOk z qs = true) {k : Nat} (hk : k < qs.length) : (sqAt qs k).1.length <= 8 := by
 have h1 := chipOk_parts h
 have h2 : sqOk z (sqAt qs k) = true := by
  unfold chipOk at h
  simp only [Bool.and_eq_true] at h
  have h3 := List.all_eq_true.1 h.2.2.2
  refine h3 _ ?_
  unfold sqAt
  rw [List.getD_eq_getElem?_getD,List.getElem?_eq_getElem hk]
  exact List.getElem_mem hk
 unfold sqOk at h2
 simp only [Bool.and_eq_true,decide_eq_true_eq] at h2
 have h4 := h1.2.1
 have h5 := h2.1
 omega
theorem chip_lens {z : Int} {qs : List Sq} (h : chipOk z qs = true) : ∀ x ∈ qs,x.1.length <= 9 := by
 intro x hx
 obtain ⟨k,hk,rfl⟩ := List.getElem_of_mem hx
 have := chip_len h hk
 unfold sqAt at this
 rw [List.getD_eq_getElem?_getD,List.getElem?_eq_getElem hk] at this
 simp at this
 omega
theorem chip_both {z : Int} {qs : List Sq} (h : chipOk z qs = true) : (∀ x ∈ qs,sqFits x) ∧ ∀ x ∈ qs,x.1.length <= 9 := ⟨chipOk_fits h,chip_lens h⟩
theorem drawn_end {w wL : World} {p lo hi : Nat} {z : Int} {a : Option Addr} {n c : Nat} {qs : List Sq} (hS : OwnSquares lo hi wL a n qs) (hlo : w.heap.size + 1 <= lo) (hhi : hi <= wL.heap.size) (hC : Cur wL p) (hpl : p < w.heap.size) (hA : Aside p (p + 1) w wL) (hn : n <= 13) (hc : n <= c) (hf : (∀ x ∈ qs,sqFits x) ∧ ∀ x ∈ qs,x.1.length <= 9) (u v : Value) :
  ChipDrawn w p (.returned (.agg #[.int .i64 z,.slice a n c])) ((wL.setCell ⟨w.heap.size,0,none⟩ u).setCell ⟨w.heap.size,1,none⟩ v) := by
 have h1 := hS.aside (two_aside (Aside.refl w.heap.size (w.heap.size + 1) wL) (Nat.le_refl _) (Nat.lt_succ_self _) u v) (.inl hlo)
 have h2 : ((wL.setCell ⟨w.heap.size,0,none⟩ u).setCell ⟨w.heap.size,1,none⟩ v).heap.size = wL.heap.size := by rw [Go.Deep.nblk_setCell,Go.Deep.nblk_setCell]
 exact ⟨z,a,n,c,qs,rfl,hn,hc,hf.1,hf.2,(h1.wide (by omega) (by omega) (Nat.le_refl _)).squares,(hC.set_new hpl _).set_new hpl _,(hA.set_new (Nat.le_refl _) _).set_new (Nat.le_refl _) _⟩
set_option maxHeartbeats 3200000 in
theorem l8DrawAny_any (hd : JobDraws) (p : Nat) (w : World) (hc : Cur w p) :
  Calls Try.prog 26 #[.pointer (some ⟨p,0,none⟩)] w (ChipDrawn w p) := by
 have hpl := hc.lt
 obtain ⟨wA,hwA⟩ : ∃ wA,wA = w.alloc (.cells #[.int .i64 0,.slice none 0 0] 26) := ⟨_,rfl⟩
 have HC := hide (hc.alloc (.cells #[.int .i64 0,.slice none 0 0] 26))
 have HA := hide ((Aside.refl p (p + 1) w).alloc (.cells #[.int .i64 0,.slice none 0 0] 26))
 have H1 := hide (heap_new w (.cells #[.int .i64 0,.slice none 0 0] 26))
 have hzA : wA.heap.size = w.heap.size + 1 := by rw [hwA]; simp
 rw [<- hwA] at HC HA H1
 clear hc
 go_enter Try.func26,Try.ntmps26
 go_wp2_with fail
 rw [<- hwA]
 clear hwA
 refine (l8Draw_any hd p wA HC.out).mono ?_
 rintro e w3 ⟨z,g,n,qs,A,C,rfl,hok,hG,hC3,hA3⟩
 have HOK := hide hok
 have hs3 := hA3.size
 have hgB := hG.atG
 have hgl : g < w3.heap.size := by have := hG.row.1; omega
 have hn1 : 1 <= n := by have := (chipOk_parts hok).2.2.1; rw [hG.len] at this; exact this
 have hn12 : n <= 12 := by have := (chipOk_parts hok).2.2.2.1; rw [hG.len] at this; exact this
 obtain ⟨wB,hwB⟩ : ∃ wB,wB = w3.alloc (.cells #[.int .i64 z,.slice (some ⟨g,0,none⟩) n n] 26) := ⟨_,rfl⟩
 have HGB : Hid (GrowSqs wA.heap.size wB n qs g A C) := by rw [hwB]; exact hG.later ((Below.refl _ _).alloc (Nat.le_refl _) _)
 have HSB : Hid (OwnSquares wA.heap.size w3.heap.size wB (some ⟨g,0,none⟩) n qs) := by rw [hwB]; exact hG.ownS.later ((Below.refl _ _).alloc (Nat.le_refl _) _) (Nat.le_refl _)
 have HKB : Hid (wB.heap[w3.heap.size]? = some (.cells #[.int .i64 z,.slice (some ⟨g,0,none⟩) n n] 26)) := by rw [hwB]; exact heap_new _ _
 have HRB : Hid (wB.heap[w.heap.size]? = some (.cells #[.int .i64 0,.slice none 0 0] 26)) := by rw [hwB]; exact heap_old (aside_block hA3 H1.out (by omega))
 have HCB : Hid (Cur wB p) := by rw [hwB]; exact hC3.alloc _
 have HAB : Hid (Aside p (p + 1) w wB) := by rw [hwB]; exact (HA.out.trans hA3).alloc _
 have hzB : wB.heap.size = w3.heap.size + 1 := by rw [hwB]; simp
 have HZB := hide hzB
 clear hok hG hC3 hA3 HC HA H1 hzB
 go_wp2_with fail
 rw [<- hwB]
 clear hwB
 refine (l1Once_any p 12 wB HCB.out (by omega)).mono ?_
 rintro e w4 ⟨b,rfl,c4,s4⟩
 have hp3 : p < w3.heap.size := by omega
 have HG4 := hide (HGB.out.aside s4 (.inl (by omega)))
 have HS4 := hide (HSB.out.aside s4 (.inl (by omega)))
 have HK4 := hide (aside_block s4 HKB.out (by omega))
 have HR4 := hide (aside_block s4 HRB.out (by omega))
 have HA4 := hide (HAB.out.trans s4)
 have hs4 : w3.heap.size + 1 <= w4.heap.size := by rw [<- HZB.out]; exact s4.size
 have HC4 := hide c4
 clear HSB HGB HKB HRB HAB HCB c4 s4 HZB
 cases b with
 | false =>
  obtain ⟨a0,a1⟩ := two_cells HK4.out
  obtain ⟨z0,z1⟩ := two_cells HR4.out
  have f0 := four_frozen HR4.out 0
  have f1 := four_frozen HR4.out 1
  go_wp2_with fail
  refine bodyPost_ret (results_cell rfl rfl (run_loadVar_row _ _ _ _ _ _ _ (two_set HR4.out _ _) Try.underlying26 rfl (by kernel_rfl))) rfl ?_
  exact drawn_end HG4.out.ownS (by omega) (Nat.le_refl _) HC4.out hpl HA4.out (by omega) (Nat.le_refl _) (chip_both HOK.out) _ _
 | true =>
  obtain ⟨a0,a1⟩ := two_cells HK4.out
  go_wp2_with fail
  refine (l1Below_any p 4 w4 HC4.out (by omega)).mono ?_
  rintro e w7 ⟨y,rfl,y0,y1,c7,s7⟩
  have HG7 := hide (HG4.out.aside s7 (.inl (by omega)))
  have HS7 := hide (HS4.out.aside s7 (.inl (by omega)))
  have HK7 := hide (aside_block s7 HK4.out (by omega))
  have HR7 := hide (aside_block s7 HR4.out (by omega))
  have HA7 := hide (HA4.out.trans s7)
  have hs7 : w3.heap.size + 1 <= w7.heap.size := by have := s7.size; omega
  have HC7 := hide c7
  clear HS4 HG4 HK4 HR4 HA4 HC4 a0 a1 s7 c7
  obtain ⟨a0,a1⟩ := two_cells HK7.out
  rcases (show y = 0 ∨ y = 1 ∨ y = 2 ∨ y = 3 by omega) with rfl | rfl | rfl | rfl
  ·have HC8 := hide (HC7.out.alloc (.cells #[.int .i64 0,.int .i64 1,.int .i64 8,.int .i64 9] 2))
   go_wp2_with fail
   refine (l1Below_any p 4 _ HC8.out (by omega)).mono ?_
   rintro e w8 ⟨j,rfl,j0,j1,c8,s8⟩
   obtain ⟨J,rfl⟩ : ∃ J : Nat,j = (J : Int) := ⟨j.toNat,by omega⟩
   have hJ : J < 4 := by omega
   obtain ⟨v,hv⟩ := four_at J hJ
   have hcell : w8.cell? ⟨w7.heap.size,J,none⟩ = some (.int .i64 v) := by
    rw [World.cell?_of_block (a := ⟨w7.heap.size,J,none⟩) (s8.block w7.heap.size (by simp) (.inr (by omega))),World.cell?_alloc_new]; exact hv
   have HS8 := hide ((HS7.out.later ((Below.refl w7.heap.size w7).alloc (Nat.le_refl _) (.cells #[.int .i64 0,.int .i64 1,.int .i64 8,.int .i64 9] 2)) (by omega)).aside s8 (.inl (by omega)))
   have HK8 := hide (aside_block s8 (heap_old HK7.out) (by omega))
   have HR8 := hide (aside_block s8 (heap_old HR7.out) (by omega))
   have HA8 := hide ((HA7.out.alloc (.cells #[.int .i64 0,.int .i64 1,.int .i64 8,.int .i64 9] 2)).trans s8)
   have hs8 : w3.heap.size + 1 <= w8.heap.size := by have := s8.size; simp at this; omega
   have HCC := hide c8
   clear HG7 HS7 HK7 HR7 HA7 HC7 HC8 a0 a1 s8 c8 j0 j1 hv
   have HK9 := hide (set_block HK8.out 0 (.int .i64 v) (by simp))
   have HS9 := hide (HS8.out.aside ((Aside.refl w3.heap.size (w3.heap.size + 1) w8).setCell (p := ⟨w3.heap.size,0,none⟩) (Nat.le_refl _) (Nat.lt_succ_self _) (.int .i64 v)) (.inr (Nat.le_refl _)))
   have HR9 := hide (set_other (o := 0) HR8.out (show w3.heap.size ≠ w.heap.size by omega) (.int .i64 v))
   have HC9 := hide (HCC.out.set_new hp3 (q := 0) (.int .i64 v))
   have HA9 := hide (HA8.out.set_new (g := w3.heap.size) (q := 0) (by omega) (.int .i64 v))
   obtain ⟨a0,a1⟩ := two_cells HK8.out
   have g0 := four_frozen HK8.out 0
   obtain ⟨z0,z1⟩ := two_cells HR8.out
   have f0 := four_frozen HR8.out 0
   have f1 := four_frozen HR8.out 1
   go_wp2_with fail
   refine bodyPost_ret (results_cell rfl rfl (run_loadVar_row _ _ _ _ _ _ _ (two_set HR9.out _ _) Try.underlying26 rfl (by kernel_rfl))) rfl ?_
   exact drawn_end HS9.out (by omega) (by rw [Go.Deep.nblk_setCell]; omega) HC9.out hpl HA9.out (by omega) (Nat.le_refl _) (chip_both HOK.out) _ _
  ·have HC8 := hide (HC7.out.alloc (.cells #[.int .i64 (-1),.int .i64 1000000,.int .i64 1000001] 2))
   go_wp2_with fail
   refine (l1Below_any p 3 _ HC8.out (by omega)).mono ?_
   rintro e w8 ⟨j,rfl,j0,j1,c8,s8⟩
   obtain ⟨J,rfl⟩ : ∃ J : Nat,j = (J : Int) := ⟨j.toNat,by omega⟩
   have hJ : J < 3 := by omega
   obtain ⟨v,hv3,hv⟩ := three_at (-1) 1000000 1000001 J hJ
   have hcell : w8.cell? ⟨w7.heap.size,J,none⟩ = some (.int .i64 v) := by
    rw [World.cell?_of_block (a := ⟨w7.heap.size,J,none⟩) (s8.block w7.heap.size (by simp) (.inr (by omega))),World.cell?_alloc_new]; exact hv
   have HS8 := hide ((HS7.out.later ((Below.refl w7.heap.size w7).alloc (Nat.le_refl _) (.cells #[.int .i64 (-1),.int .i64 1000000,.int .i64 1000001] 2)) (by omega)).aside s8 (.inl (by omega)))
   have HG8 := hide ((HG7.out.later ((Below.refl w7.heap.size w7).alloc (Nat.le_refl _) (.cells #[.int .i64 (-1),.int .i64 1000000,.int .i64 1000001] 2))).aside s8 (.inl (by omega)))
   have HK8 := hide (aside_block s8 (heap_old HK7.out) (by omega))
   have HR8 := hide (aside_block s8 (heap_old HR7.out) (by omega))
   have HA8 := hide ((HA7.out.alloc (.cells #[.int .i64 (-1),.int .i64 1000000,.int .i64 1000001] 2)).trans s8)
   have hs8 : w3.heap.size + 1 <= w8.heap.size := by have := s8.size; simp at this; omega
   have HCC := hide c8
   clear HG7 HS7 HK7 HR7 HA7 HC7 HC8 a0 a1 s8 c8 j0 j1 hv
   obtain ⟨a0,a1⟩ := two_cells HK8.out
   obtain ⟨z0,z1⟩ := two_cells HR8.out
   have f0 := four_frozen HR8.out 0
   have f1 := four_frozen HR8.out 1
   have HG9 := hide (HG8.out.setWipes (i := 0) (by omega) v)
   have HK9 := hide (set_other (o := 0 * 3 + 1) HK8.out (show g ≠ w3.heap.size by omega) (.int .i64 v))
   have HR9 := hide (set_other (o := 0 * 3 + 1) HR8.out (show g ≠ w.heap.size by omega) (.int .i64 v))
   have HC9 := hide (HCC.out.set_new (show p < g by omega) (q := 0 * 3 + 1) (.int .i64 v))
   have HA9 := hide (HA8.out.set_new (g := g) (q := 0 * 3 + 1) (by omega) (.int .i64 v))
   obtain ⟨y0,y1,y2⟩ := HG8.out.cells (i := 0) (by omega)
   have g1 := HG8.out.open_ (j := 1) (by omega)
   rw [Nat.zero_mul,Nat.zero_add] at HK9 HR9 HC9 HA9 HG9
   obtain ⟨b0,b1⟩ := two_cells HK9.out
   have HLX : Hid (∀ x ∈ qs.set 0 ((sqAt qs 0).1,v,(sqAt qs 0).2.2),x.1.length <= 9) := by
    intro x hx
    rcases List.mem_or_eq_of_mem_set hx with h' | h'
    ·exact chip_lens HOK.out x h'
    ·rw [h']
     have h9 := chip_len HOK.out (k := 0) (by rw [HG8.out.len]; omega)
     show (sqAt qs 0).1.length <= 9
     omega
   have HFX : Hid (∀ x ∈ qs.set 0 ((sqAt qs 0).1,v,(sqAt qs 0).2.2),sqFits x) := by
    intro x hx
    rcases List.mem_or_eq_of_mem_set hx with h' | h'
    ·exact chipOk_fits HOK.out x h'
    ·rw [h']
     have h9 := sq_fits (chipOk_fits HOK.out) (k := 0) (by rw [HG8.out.len]; omega)
     refine ⟨h9.1,h9.2.1,?_⟩
     show (Lit.int .i64 v).wf = true
     rcases hv3 with rfl | rfl | rfl <;> rfl
   go_wp2_with fail
   refine bodyPost_ret (results_cell rfl rfl (run_loadVar_row _ _ _ _ _ _ _ (two_set HR9.out _ _) Try.underlying26 rfl (by kernel_rfl))) rfl ?_
   exact drawn_end HG9.out.ownS (by omega) (Nat.le_refl _) HC9.out hpl HA9.out (by omega) (Nat.le_refl _) ⟨HFX.out,HLX.out⟩ _ _
  ·obtain ⟨i0,hi0,hzz0,hzz1,hzz2⟩ := info_parts Try.infoStrC
   have hqz : 0 < qs.length := by rw [HG7.out.len]; omega
   have hL8 : (sqAt qs 0).1.length <= 8 := chip_len HOK.out hqz
   obtain ⟨X,hX⟩ : ∃ X,X = (Obj.cells #[.string ⟨#[]⟩,.string ⟨#[106,117,110,107]⟩] 9) := ⟨_,rfl⟩
   have HAX := hide ((Aside.refl p (p + 1) w7).alloc X)
   have HCX := hide (HC7.out.alloc X)
   have hzX : (w7.alloc X).heap.size = w7.heap.size + 1 := by simp
   obtain ⟨c0,c1,c2⟩ := HG7.out.cells (i := 0) (by omega)
   have f0 := HG7.out.open_ (j := 0) (by omega)
   rw [Nat.zero_mul] at c0
   have cX := (((Below.refl w7.heap.size w7).alloc (Nat.le_refl _) X).cell (p := ⟨g,0,none⟩) (show g < w7.heap.size by omega)).trans c0
   have HXC := hide hX
   rw [hX] at cX
   go_wp2_with fail
   have hn0 : 0 < n := by omega
   have HNE : Hid (some g ≠ (Value.slice (A 0) (sqAt qs 0).1.length (C 0)).ownBlock) := by show _ ≠ _; rw [ownBlock_slice]; exact fun e => HG7.out.apartG 0 hn0 e.symm
   go_region_law (first
    | (refine step_append_lies _ (by rfl) _ _ _ (by rfl) wA.heap.size 9 i0 (.string ByteArray.empty) 1 16 Try.underlying35 hi0 hzz0 hzz1 hzz2 rfl (by decide) (.slice (A 0) (sqAt qs 0).1.length (C 0)) (sqAt qs 0).1.length (pgV (sqAt qs 0).1) (by rfl) (HGa.out.pages.own 0 hn0) ⟨w8.heap.size,0,none⟩ 1 1 [.string tx] (by rfl) rfl (cell_one_new _ _ _) (by simp [Value.oneCell']) (by omega) (by unfold maxLen; omega) (by omega) (by simp; omega) (w8.heap.size + 1) (by simp) ?_; intro g' c' w5 hown5 hgr5 hat5 hlt5; have c5 := (hgr5.cell_far ⟨g,0,none⟩ (by simp; omega) HNE.out).trans (grow_cell HGa.out hn0); have f5 := (hgr5.frozen_far ⟨g,0,none⟩ (by simp; omega) HNE.out).trans (HGa.out.open_ (j := 0) (by omega)); have HO5 := hide hown5; have HR5 := hide hgr5; have HA5 := hide hat5; have HGP := HGa; have HKP := HKa; have HRP := HRa; have HCP := HCa; have HAP := HAa; clear hown5 hgr5 hat5)
    | (refine step_append_lies _ (by rfl) _ _ _ (by rfl) wA.heap.size 9 i0 (.string ByteArray.empty) 1 16 Try.underlying35 hi0 hzz0 hzz1 hzz2 rfl (by decide) (.slice (A 0) (sqAt qs 0).1.length (C 0)) (sqAt qs 0).1.length (pgV (sqAt qs 0).1) (by rfl) (HGb.out.pages.own 0 hn0) ⟨w8.heap.size + 1,0,none⟩ 1 1 [.string tx] (by rfl) rfl (by have h9 := cell_one_new (w8.alloc (Obj.cells #[.string ⟨#[]⟩,.string ⟨#[106,117,110,107]⟩] 9)) (.string tx) 9; rw [show (w8.alloc (Obj.cells #[.string ⟨#[]⟩,.string ⟨#[106,117,110,107]⟩] 9)).heap.size = w8.heap.size + 1 by simp] at h9; exact h9) (by simp [Value.oneCell']) (by omega) (by unfold maxLen; omega) (by omega) (by simp; omega) (w8.heap.size + 1 + 1) (by simp) ?_; intro g' c' w5 hown5 hgr5 hat5 hlt5; have c5 := (hgr5.cell_far ⟨g,0,none⟩ (by simp; omega) HNE.out).trans (grow_cell HGb.out hn0); have f5 := (hgr5.frozen_far ⟨g,0,none⟩ (by simp; omega) HNE.out).trans (HGb.out.open_ (j := 0) (by omega)); have HO5 := hide hown5; have HR5 := hide hgr5; have HA5 := hide hat5; have HGP := HGb; have HKP := HKb; have HRP := HRb; have HCP := HCb; have HAP := HAb; clear hown5 hgr5 hat5)
    | (go_simp; go_at_call 51; refine (l1Below_any p 2 _ (by first | exact HC7.out | (rw [<- HXC.out]; exact HCX.out)) (by omega)).mono ?_; rintro e w8 ⟨j,rfl,j0,j1,c8,s8⟩; dsimp only; obtain ⟨J,rfl⟩ : ∃ J : Nat,j = (J : Int) := ⟨j.toNat,by omega⟩; have hJ : (J : Int) < 2 := (by omega); obtain ⟨tx,htx,hv⟩ := two_at J (by omega); have s9 : Aside p (p + 1) w7 w8 := (by first | exact ⟨s8.os,s8.tape,s8.output,s8.size,s8.block⟩ | exact HAX.out.trans (by rw [HXC.out]; exact ⟨s8.os,s8.tape,s8.output,s8.size,s8.block⟩)); have e0 := (cell_aside s9 (show g < w7.heap.size by omega) (show p + 1 <= g by omega)).trans c0; (first | (have e1 : w8.cell? ⟨w7.heap.size,J,none⟩ = some (.string tx) := (World.cell?_of_block (a := ⟨w7.heap.size,J,none⟩) (s8.block w7.heap.size (by simp) (.inr (by omega)))).trans (array_cell_new w7 hv)) | skip); have e2 := array_cell_new w8 (t := 9) hv; have hs8 := s9.size; have HG8 := hide (HG7.out.aside s9 (.inl (by omega))); have HGa := hide (HG8.out.later ((Below.refl w8.heap.size w8).alloc (Nat.le_refl _) (.cells #[.string tx] 9))); have HGx := hide (HG8.out.later ((Below.refl w8.heap.size w8).alloc (Nat.le_refl _) (Obj.cells #[.string ⟨#[]⟩,.string ⟨#[106,117,110,107]⟩] 9))); have HGb := hide (HGx.out.later ((Below.refl _ _).alloc (Nat.le_refl _) (.cells #[.string tx] 9))); have e3 := grow_cell HGa.out hn0; have e4 := grow_cell HGx.out hn0; have e5 := grow_cell HGb.out hn0; have HKa := hide (heap_old (o := .cells #[.string tx] 9) (aside_block s9 HK7.out (by omega))); have HKb := hide (heap_old (o := .cells #[.string tx] 9) (heap_old (o := (Obj.cells #[.string ⟨#[]⟩,.string ⟨#[106,117,110,107]⟩] 9)) (aside_block s9 HK7.out (by omega)))); have HRa := hide (heap_old (o := .cells #[.string tx] 9) (aside_block s9 HR7.out (by omega))); have HRb := hide (heap_old (o := .cells #[.string tx] 9) (heap_old (o := (Obj.cells #[.string ⟨#[]⟩,.string ⟨#[106,117,110,107]⟩] 9)) (aside_block s9 HR7.out (by omega)))); have HCa := hide (c8.alloc (.cells #[.string tx] 9)); have HCb := hide ((c8.alloc (Obj.cells #[.string ⟨#[]⟩,.string ⟨#[106,117,110,107]⟩] 9)).alloc (.cells #[.string tx] 9)); have HAa := hide ((HA7.out.trans s9).alloc (.cells #[.string tx] 9)); have HAb := hide (((HA7.out.trans s9).alloc (Obj.cells #[.string ⟨#[]⟩,.string ⟨#[106,117,110,107]⟩] 9)).alloc (.cells #[.string tx] 9)); clear s9 c8 s8 j0 j1))
   all_goals
    have HR6 := HR5.out
    rw [ownBlock_slice] at HR6
    have HGF := hide (HGP.out.wrote hn0 HR6 HO5.out (HA5.out.imp (fun e => by rw [ownBlock_slice] at e; exact e) (fun e => by simp; omega)))
    rw [Nat.zero_mul] at HGF
    have hO := ((Only.refl wA.heap.size g _).grown (HGP.out.pages.own 0 hn0) HR6 (by simp; omega)).set HGP.out.atG 0 (.slice (some ⟨g',0,none⟩) ((sqAt qs 0).1.length + 1) c')
    have HK9 := hide (hO.other _ _ _ _ (show w3.heap.size ≠ g by omega) (by decide) HKP.out)
    have HR9 := hide (hO.other _ _ _ _ (show w.heap.size ≠ g by omega) (by decide) HRP.out)
    have HC9 := hide (HCP.out.below hO.below (by omega))
    have HA9 := hide (HAP.out.trans_below hO.below (by omega))
    clear hO HR6
    obtain ⟨b0,b1⟩ := two_cells HK9.out
    obtain ⟨z0,z1⟩ := two_cells HR9.out
    have l0 := four_frozen HR9.out 0
    have l1 := four_frozen HR9.out 1
    have HLX : Hid (∀ x ∈ qs.set 0 ((sqAt qs 0).1 ++ [tx],(sqAt qs 0).2.1,(sqAt qs 0).2.2),x.1.length <= 9) := by
     intro x hx
     rcases List.mem_or_eq_of_mem_set hx with h' | h'
     ·exact chip_lens HOK.out x h'
     ·rw [h']
      show ((sqAt qs 0).1 ++ [tx]).length <= 9
      rw [List.length_append]
      simp
      omega
    have HFX : Hid (∀ x ∈ qs.set 0 ((sqAt qs 0).1 ++ [tx],(sqAt qs 0).2.1,(sqAt qs 0).2.2),sqFits x) := by
     intro x hx
     rcases List.mem_or_eq_of_mem_set hx with h' | h'
     ·exact chipOk_fits HOK.out x h'
     ·rw [h']
      have h9 := sq_fits (chipOk_fits HOK.out) (k := 0) hqz
      refine ⟨fun s hs => ?_,by show ((sqAt qs 0).1 ++ [tx]).length <= maxLen; rw [List.length_append]; unfold maxLen; simp; omega,h9.2.2⟩
      rcases List.mem_append.1 hs with h8 | h8
      ·exact h9.1 s h8
      ·rw [List.mem_singleton.1 h8]; unfold maxLen; omega
    clear HK9 HKP HRP HCP HAP HGP HO5 HR5 HA5
    go_wp2_with fail
    refine bodyPost_ret (results_cell rfl rfl (run_loadVar_row _ _ _ _ _ _ _ (two_set HR9.out _ _) Try.underlying26 rfl (by kernel_rfl))) rfl ?_
    exact drawn_end HGF.out.ownS (by omega) (Nat.le_refl _) HC9.out hpl HA9.out (by omega) (Nat.le_refl _) ⟨HFX.out,HLX.out⟩ _ _
  ·have HC8 := hide (HC7.out.alloc (.cells #[.int .i64 0,.int .i64 12,.int .i64 13] 2))
   go_wp2_with fail
   refine (l1Below_any p 3 _ HC8.out (by omega)).mono ?_
   rintro e w8 ⟨j,rfl,j0,j1,c8,s8⟩
   obtain ⟨J,rfl⟩ : ∃ J : Nat,j = (J : Int) := ⟨j.toNat,by omega⟩
   have hJ : J < 3 := by omega
   obtain ⟨v,hv3,hv⟩ := three_at 0 12 13 J hJ
   have hcell : w8.cell? ⟨w7.heap.size,J,none⟩ = some (.int .i64 v) := by
    rw [World.cell?_of_block (a := ⟨w7.heap.size,J,none⟩) (s8.block w7.heap.size (by simp) (.inr (by omega))),World.cell?_alloc_new]; exact hv
   have HS8 := hide ((HS7.out.later ((Below.refl w7.heap.size w7).alloc (Nat.le_refl _) (.cells #[.int .i64 0,.int .i64 12,.int .i64 13] 2)) (by omega)).aside s8 (.inl (by omega)))
   have HG8 := hide ((HG7.out.later ((Below.refl w7.heap.size w7).alloc (Nat.le_refl _) (.cells #[.int .i64 0,.int .i64 12,.int .i64 13] 2))).aside s8 (.inl (by omega)))
   have HK8 := hide (aside_block s8 (heap_old HK7.out) (by omega))
   have HR8 := hide (aside_block s8 (heap_old HR7.out) (by omega))
   have HA8 := hide ((HA7.out.alloc (.cells #[.int .i64 0,.int .i64 12,.int .i64 13] 2)).trans s8)
   have hs8 : w3.heap.size + 1 <= w8.heap.size := by have := s8.size; simp at this; omega
   have HCC := hide c8
   clear HG7 HS7 HK7 HR7 HA7 HC7 HC8 a0 a1 s8 c8 j0 j1 hv
   obtain ⟨a0,a1⟩ := two_cells HK8.out
   obtain ⟨z0,z1⟩ := two_cells HR8.out
   have f0 := four_frozen HR8.out 0
   have f1 := four_frozen HR8.out 1
   obtain ⟨V,rfl⟩ : ∃ V : Nat,v = (V : Int) := ⟨v.toNat,by omega⟩
   have hV : V <= 13 := by omega
   have hmk := make3 (P := Try.prog) 24 37 (.slice none 0 0) (.int .i64 0) (.bool false) 40 Try.underlying24 Try.infoSq V (by omega) (by omega) w8
   obtain ⟨ob,hob⟩ : ∃ ob,ob = Obj.cells (madeCells #[.slice none 0 0,.int .i64 0,.bool false] (V * 3)) 37 := ⟨_,rfl⟩
   have HOM := hide (made3 w8 V 37)
   rw [<- hob] at hmk HOM
   have HKM := hide (heap_old (o := ob) HK8.out)
   have HRM := hide (heap_old (o := ob) HR8.out)
   have HK9 := hide (set_block HKM.out 1 (.slice (some ⟨w8.heap.size,0,none⟩) V V) (by simp))
   have HR9 := hide (set_other (o := 1) HRM.out (show w3.heap.size ≠ w.heap.size by omega) (.slice (some ⟨w8.heap.size,0,none⟩) V V))
   have HC9 := hide ((HCC.out.alloc ob).set_new hp3 (q := 1) (.slice (some ⟨w8.heap.size,0,none⟩) V V))
   have HA9 := hide ((HA8.out.alloc ob).set_new (g := w3.heap.size) (q := 1) (by omega) (.slice (some ⟨w8.heap.size,0,none⟩) V V))
   have HSM := hide (squares_new (lo := w8.heap.size) HOM.out (Nat.le_refl _))
   have HS9 := hide (HSM.out.aside ((Aside.refl w3.heap.size (w3.heap.size + 1) (w8.alloc ob)).setCell (p := ⟨w3.heap.size,1,none⟩) (Nat.le_refl _) (Nat.lt_succ_self _) (.slice (some ⟨w8.heap.size,0,none⟩) V V)) (.inl (by omega)))
   clear a0 a1 z0 z1 f0 f1 hob
   obtain ⟨a0,a1⟩ := two_cells HKM.out
   have g1 := four_frozen HKM.out 1
   obtain ⟨z0,z1⟩ := two_cells HRM.out
   have f0 := four_frozen HRM.out 0
   have f1 := four_frozen HRM.out 1
   have HLX : Hid (∀ x ∈ List.replicate V (([],0,false) : Sq),x.1.length <= 9) := by
    intro x hx
    rw [(List.mem_replicate.1 hx).2]
    exact Nat.zero_le _
   have HFX : Hid (∀ x ∈ List.replicate V (([],0,false) : Sq),sqFits x) := by
    intro x hx
    rw [(List.mem_replicate.1 hx).2]
    exact ⟨fun s hs => by simp at hs,Nat.zero_le _,rfl⟩
   go_wp2_with fail
   refine bodyPost_ret (results_cell rfl rfl (run_loadVar_row _ _ _ _ _ _ _ (two_set HR9.out _ _) Try.underlying26 rfl (by kernel_rfl))) rfl ?_
   exact drawn_end HS9.out (by omega) (by rw [Go.Deep.nblk_setCell]; exact Nat.le_refl _) HC9.out hpl HA9.out (by omega) (Nat.le_refl _) ⟨HFX.out,HLX.out⟩ _ _
end Go.Proofs.Ytfogmdnkpkofiaa
end

section
namespace Go.Proofs.Ytfogmdnkpkofiaa
open Go.RowKit
set_option linter.unusedVariables false
set_option linter.unusedSimpArgs false
set_option maxRecDepth 20000
def ChipOf (w : World) (e : Ending) (w' : World) : Prop := ∃ (z : Int) (a : Option Addr) (n c : Nat) (qs : List Sq),e = .returned (.agg #[.int .i64 z,.slice a n c]) ∧ n <= 13 ∧ n <= c ∧ (∀ x ∈ qs,sqFits x) ∧ (∀ x ∈ qs,x.1.length <= 9) ∧ Squares w.heap.size w'.heap.size w' a n qs ∧ Below w.heap.size w w'
theorem Squares.wideLo {lo lo' hi n : Nat} {w : World} {a : Option Addr} {qs : List Sq} (h : Squares lo hi w a n qs) (h1 : lo' <= lo) (h2 : hi <= w.heap.size) : Squares lo' w.heap.size w a n qs := by
 obtain ⟨hl,A,C,hx,ht⟩ := h
 exact ⟨hl,A,C,reads_wide hx h1 h2 (Nat.le_refl _),fun i hi => ⟨(ht i hi).1,reads_wide (ht i hi).2 h1 h2 (Nat.le_refl _)⟩⟩
set_option maxHeartbeats 1600000 in
theorem drawChipOk_any (hd : JobDraws) (a : Option Addr) (n cap : Nat) (l : List UInt8) (w : World) {lo hi : Nat} (hB : Bytes lo hi w a n l) (hhi : hi <= w.heap.size) (hn : n <= 4096) :
  Calls Try.prog 22 #[.slice a n cap] w (ChipOf w) := by
 obtain ⟨wA,hwA⟩ : ∃ wA,wA = w.alloc (.cells #[.int .i64 0,.slice none 0 0] 26) := ⟨_,rfl⟩
 have hzA : wA.heap.size = w.heap.size + 1 := by rw [hwA]; simp
 have HBA : Hid (Below w.heap.size w wA) := by rw [hwA]; exact (Below.refl _ _).alloc (Nat.le_refl _) _
 have H1 : Hid (wA.heap[w.heap.size]? = some (.cells #[.int .i64 0,.slice none 0 0] 26)) := by rw [hwA]; exact heap_new _ _
 have HB := hide (hB.later HBA.out hhi)
 clear hB
 go_enter Try.func22,Try.ntmps22
 go_wp2_with fail
 rw [<- hwA]
 clear hwA
 refine (l1New_any a n cap l wA HB.out hn).mono ?_
 rintro e w1 ⟨p,rfl,hp,c1,b1⟩
 have h1 := hide (block_on H1.out b1)
 have HB1 := hide (below_here HBA.out b1)
 have hs1 := b1.size
 have hpl := c1.lt
 clear b1 H1 HBA HB
 go_wp2_with fail
 refine (l8DrawAny_any hd p w1 c1).mono ?_
 rintro e w2 ⟨z,a2,n2,c2,qs,rfl,hn2,hc2,hf,hl,hsq,hcu,has⟩
 have h2 := hide (has.block w.heap.size (by omega) (.inl (by omega)) |>.trans h1.out)
 have HSQ := hide hsq
 have HB2 := hide (HB1.out.trans (has.below (B := w.heap.size) (by omega) (by omega)))
 have hs2 := has.size
 clear has hcu hsq h1 HB1
 obtain ⟨k0,k1⟩ := two_cells h2.out
 have f0 := four_frozen h2.out 0
 have f1 := four_frozen h2.out 1
 have HS3 := hide (two_set h2.out (.int .i64 z) (.slice a2 n2 c2))
 have HA3 := hide (two_aside (b := w.heap.size) (Aside.refl w.heap.size (w.heap.size + 1) w2) (Nat.le_refl _) (Nat.lt_succ_self _) (.int .i64 z) (.slice a2 n2 c2))
 go_wp2_with fail
 refine bodyPost_ret (results_cell rfl rfl (run_loadVar_row _ _ _ _ _ _ _ HS3.out Try.underlying26 rfl (by kernel_rfl))) rfl ⟨z,a2,n2,c2,qs,rfl,hn2,hc2,hf,hl,?_,HB2.out.trans (HA3.out.below (Nat.le_refl _) (by omega))⟩
 have hz3 : ((w2.setCell ⟨w.heap.size,0,none⟩ (.int .i64 z)).setCell ⟨w.heap.size,1,none⟩ (.slice a2 n2 c2)).heap.size = w2.heap.size := by rw [Go.Deep.nblk_setCell,Go.Deep.nblk_setCell]
 exact (HSQ.out.aside HA3.out (.inr (by omega))).wideLo (by omega) (by rw [hz3]; exact Nat.le_refl _)
structure Drawn9 (B : Nat) (w : World) (a : Option Addr) (n c : Nat) (qs : List Sq) (am : Option Addr) (m cm : Nat) (ps : List Pl) : Prop where
 n13 : n <= 13
 nc : n <= c
 fits : ∀ x ∈ qs,sqFits x
 len9 : ∀ x ∈ qs,x.1.length <= 9
 sq : Squares B w.heap.size w a n qs
 m200 : m <= 200
 mc : m <= cm
 pl : Places B w.heap.size w am m ps
theorem Places.asideP {lo hi n : Nat} {w w' : World} {a : Option Addr} {ps : List Pl} (h : Places lo hi w a n ps) {l r : Nat} (hb : Aside l r w w') (hB : hi <= l ∨ r <= lo) : Places lo hi w' a n ps := ⟨h.1,h.2.aside hb hB⟩
theorem Places.wide2 {lo lo' hi n : Nat} {w : World} {a : Option Addr} {ps : List Pl} (h : Places lo hi w a n ps) (h1 : lo' <= lo) (h2 : hi <= w.heap.size) : Places lo' w.heap.size w a n ps := ⟨h.1,reads_wide h.2 h1 h2 (Nat.le_refl _)⟩
theorem Drawn9.set {B : Nat} {w w' : World} {a : Option Addr} {n c : Nat} {qs : List Sq} {am : Option Addr} {m cm : Nat} {ps : List Pl} (h : Drawn9 B w a n c qs am m cm ps) {l r B' : Nat} (hb : Aside l r w w') (hr : r <= B) (h1 : B' <= B) : Drawn9 B' w' a n c qs am m cm ps :=
 ⟨h.n13,h.nc,h.fits,h.len9,(h.sq.aside hb (.inr hr)).wideLo h1 hb.size,h.m200,h.mc,(h.pl.asideP hb (.inr hr)).wide2 h1 hb.size⟩
theorem Drawn9.later {B : Nat} {w w' : World} {a : Option Addr} {n c : Nat} {qs : List Sq} {am : Option Addr} {m cm : Nat} {ps : List Pl} (h : Drawn9 B w a n c qs am m cm ps) (hb : Below w.heap.size w w') : Drawn9 B w' a n c qs am m cm ps :=
 ⟨h.n13,h.nc,h.fits,h.len9,(h.sq.later hb (Nat.le_refl _)).wideLo (Nat.le_refl _) hb.size,h.m200,h.mc,(h.pl.later hb (Nat.le_refl _)).wide2 (Nat.le_refl _) hb.size⟩
end Go.Proofs.Ytfogmdnkpkofiaa
end

