/- . -/
import Derived.Test.YtfogmdnkpkofiaaRDraw8g
import Derived.Deep.RegionLaw
import Derived.Deep.DeepCutAuto
namespace Go.Proofs.Ytfogmdnkpkofiaa
open Go.RowKit
set_option linter.unusedVariables false
set_option linter.unusedSimpArgs false
set_option maxRecDepth 20000
theorem laid_size (k a s : Int) (x : ByteArray) : (laid k a s x).size <= 600 := by
 unfold laid
 split
 ·rename_i h
  rw [pageOk_iff] at h
  have h1 : x.size <= 24 := (of_decide_eq_true h).2.2.2.1
  unfold laidB
  rw [ByteArray.size_append,spread_len]
  have h2 := woven_size_le (str (spreadL (bodyB k.toNat a.toNat s.toNat x).data.toList)) 2
  rw [spread_len] at h2
  have h3 := bodyB_size k.toNat a.toNat s.toNat x
  have h4 : (bodyB k.toNat a.toNat s.toNat x).data.toList.length = (bodyB k.toNat a.toNat s.toNat x).size := rfl
  rw [h4,h3] at h2
  have h5 : [UInt8.ofNat (x.size + 8)].length = 1 := rfl
  rw [h5]
  omega
 ·exact Nat.zero_le _
def JobAt (w0 : World) (p r j : Nat) (w : World) : Prop := ∃ (kd sq : Int) (tx : ByteArray),tx.size <= maxLen ∧ w.heap[r]? = some (.cells #[.int .i64 0,.int .i64 0,.string ⟨#[]⟩] 30) ∧ w.heap[j]? = some (.cells #[.int .i64 kd,.int .i64 sq,.string tx] 30) ∧ Cur w p ∧ Aside p (p + 1) w0 w
theorem JobAt.aside {w0 w w' : World} {p r j : Nat} (h : JobAt w0 p r j w) (hr : p < r) (hj : p < j) (hc : Cur w' p) (hs : Aside p (p + 1) w w') : JobAt w0 p r j w' := by
 obtain ⟨kd,sq,tx,h1,h2,h3,h4,h5⟩ := h
 exact ⟨kd,sq,tx,h1,aside_block hs h2 (by omega),aside_block hs h3 (by omega),hc,h5.trans hs⟩
theorem JobAt.alloc {w0 w : World} {p r j : Nat} (h : JobAt w0 p r j w) (o : Obj) : JobAt w0 p r j (w.alloc o) := by
 obtain ⟨kd,sq,tx,h1,h2,h3,h4,h5⟩ := h
 exact ⟨kd,sq,tx,h1,heap_old h2,heap_old h3,h4.alloc _,h5.alloc _⟩
theorem JobAt.set0 {w0 w : World} {p r j : Nat} (h : JobAt w0 p r j w) (hrj : j ≠ r) (hj : p < j) (h0 : w0.heap.size <= j) (k : Int) : JobAt w0 p r j (w.setCell ⟨j,0,none⟩ (.int .i64 k)) := by
 obtain ⟨kd,sq,tx,h1,h2,h3,h4,h5⟩ := h
 exact ⟨k,sq,tx,h1,set_other h2 hrj _,set_block h3 0 _ (by simp),h4.set_new hj _,h5.set_new h0 _⟩
theorem JobAt.set1 {w0 w : World} {p r j : Nat} (h : JobAt w0 p r j w) (hrj : j ≠ r) (hj : p < j) (h0 : w0.heap.size <= j) (k : Int) : JobAt w0 p r j (w.setCell ⟨j,1,none⟩ (.int .i64 k)) := by
 obtain ⟨kd,sq,tx,h1,h2,h3,h4,h5⟩ := h
 exact ⟨kd,k,tx,h1,set_other h2 hrj _,set_block h3 1 _ (by simp),h4.set_new hj _,h5.set_new h0 _⟩
theorem JobAt.set2 {w0 w : World} {p r j : Nat} (h : JobAt w0 p r j w) (hrj : j ≠ r) (hj : p < j) (h0 : w0.heap.size <= j) {t : ByteArray} (ht : t.size <= maxLen) : JobAt w0 p r j (w.setCell ⟨j,2,none⟩ (.string t)) := by
 obtain ⟨kd,sq,tx,h1,h2,h3,h4,h5⟩ := h
 exact ⟨kd,sq,t,ht,set_other h2 hrj _,set_block h3 2 _ (by simp),h4.set_new hj _,h5.set_new h0 _⟩
theorem three_ints (x0 x1 x2 : Int) (k : Nat) (h : k < 3) : ∃ v : Int,(#[.int .i64 x0,.int .i64 x1,.int .i64 x2] : Array Value)[k]? = some (.int .i64 v) := by
 rcases (show k = 0 ∨ k = 1 ∨ k = 2 by omega) with rfl | rfl | rfl <;> exact ⟨_,rfl⟩
theorem Try.infoU8j : (Try.prog.info? 5).map (fun i => (i.zero,i.size,i.bytes)) = some (some (.int .u8 0),1,1) := by kernel_rfl
theorem text_made (N : Nat) (hN : N <= 4096) : ∃ (O : Obj) (s : ByteArray),s.size <= 4096 ∧ (∀ W : World,(Instr.makeSlice 22 (.int .i64 (N : Int)) (.int .i64 (N : Int))).run Try.prog W = .ok (.slice (some ⟨W.heap.size,0,none⟩) N N) (W.alloc O)) ∧ ∀ (W : World) (G : Nat),W.heap[G]? = some O -> (convert 22 9 (.slice (some ⟨G,0,none⟩) N N)).run Try.prog W = .ok (.string s) W := by
 refine ⟨.cells (madeCells #[.int .u8 0] N) 5,⟨(List.replicate N 0).toArray⟩,?_,fun W => ?_,fun W G h => ?_⟩
 ·show (List.replicate N (0 : UInt8)).toArray.size <= 4096
  simp; exact hN
 ·exact make_row (P := Try.prog) 22 5 (.int .u8 0) 1 Try.underlying22 Try.infoU8j rfl (N : Int) (N : Int) N N rfl rfl (Nat.le_refl _) (by omega) (by omega) W
 ·refine string_of (P := Try.prog) (lo := G) (hi := G + 1) (l := List.replicate N 0) ⟨by simp,?_,fun _ => ⟨G,0,rfl,Nat.le_refl _,Nat.lt_succ_self _,fun i hi => ?_⟩⟩ 22 9 5 N Try.underlying22 Try.underlying5 Try.underlying9
  ·have := (Array.getElem?_eq_some_iff.1 h).1; omega
  ·have hm : (madeCells #[(Value.int .u8 0)] N)[i]? = some (.int .u8 0) := by
    rw [<- Array.getElem?_toList,toList_madeCells_one,List.getElem?_replicate,if_pos hi]
   rw [Nat.zero_add]
   simp only [World.cell?,h,hm]
   unfold cellB
   rw [List.getD_eq_getElem?_getD,List.getElem?_replicate,if_pos hi]
   rfl
theorem three_texts (a b c : ByteArray) (k : Nat) (h : k < 3) (ha : a.size <= 4096) (hb : b.size <= 4096) (hc : c.size <= 4096) : ∃ tx : ByteArray,tx.size <= maxLen ∧ (#[.string a,.string b,.string c] : Array Value)[k]? = some (.string tx) := by
 unfold maxLen
 rcases (show k = 0 ∨ k = 1 ∨ k = 2 by omega) with rfl | rfl | rfl
 ·exact ⟨a,by omega,rfl⟩
 ·exact ⟨b,by omega,rfl⟩
 ·exact ⟨c,by omega,rfl⟩
theorem new_at0 (W : World) (o : Obj) : (W.alloc o).heap[W.heap.size]? = some o := heap_new _ _
theorem new_at1 (W : World) (o o' : Obj) : ((W.alloc o).alloc o').heap[W.heap.size]? = some o := heap_old (heap_new _ _)
theorem new_at2 (W : World) (o o' : Obj) : ((W.alloc o).alloc o').heap[W.heap.size + 1]? = some o' := heap_at (by simp)
theorem new_cell (W : World) {cs : Array Value} {t : TypeId} {J g : Nat} {v : Value} (hg : g = W.heap.size) (hv : cs[J]? = some v) : (W.alloc (.cells cs t)).cell? ⟨g,J,none⟩ = some v := by subst hg; rw [World.cell?_alloc_new]; exact hv
theorem old_cell {W : World} {a : Addr} {v : Value} (h : W.cell? a = some v) (o : Obj) : (W.alloc o).cell? a = some v := (World.cell?_of_block (w := W) (a := a) (Go.Deep.blk_alloc_lt _ _ _ (World.block_lt_of_cell? _ _ h))).trans h
theorem old_frozen {W : World} {g i : Nat} (h : W.frozen? ⟨g,i,none⟩ = false) (hg : g < W.heap.size) (o : Obj) : (W.alloc o).frozen? ⟨g,i,none⟩ = false := (World.frozen?_of_block (w := W) (a := ⟨g,i,none⟩) (Go.Deep.blk_alloc_lt _ _ _ hg)).trans h
theorem below_job {w W : World} {p r j : Nat} (h : JobAt w p r j W) (hr : p < r) (hj : p < j) (hrj : r < W.heap.size) :
  Calls Try.prog 51 #[.pointer (some ⟨p,0,none⟩),.int .i64 3] W.drew fun e w8 => ∃ J : Nat,e = .returned (.int .i64 (J : Int)) ∧ J < 3 ∧ JobAt w p r j w8 ∧ W.heap.size <= w8.heap.size ∧ ∀ k,p < k -> k < W.heap.size -> w8.heap[k]? = W.heap[k]? := by
 obtain ⟨_,_,_,_,_,_,hc,_⟩ := id h
 have hc' : Cur W.drew p := hc
 refine (l1Below_any p 3 W.drew hc' (by omega)).mono ?_
 rintro e w8 ⟨x,rfl,x0,x1,c8,s8⟩
 have s9 : Aside p (p + 1) W w8 := ⟨s8.os,s8.tape,s8.output,s8.size,s8.block⟩
 exact ⟨x.toNat,by rw [show ((x.toNat : Nat) : Int) = x by omega],by omega,h.aside hr hj c8 s9,s9.size,fun k h1 h2 => s9.block k h2 (.inr (by omega))⟩
theorem job_cell {w w8 : World} {p r j : Nat} (h : JobAt w p r j w8) : ∃ tx : ByteArray,w8.cell? ⟨j,2,none⟩ = some (.string tx) ∧ (∀ o,(w8.alloc o).cell? ⟨j,2,none⟩ = some (.string tx)) ∧ (∀ o o',((w8.alloc o).alloc o').cell? ⟨j,2,none⟩ = some (.string tx)) ∧ (∀ o o' o'',(((w8.alloc o).alloc o').alloc o'').cell? ⟨j,2,none⟩ = some (.string tx)) ∧
  w8.frozen? ⟨j,2,none⟩ = false ∧ (∀ o,(w8.alloc o).frozen? ⟨j,2,none⟩ = false) ∧ (∀ o o',((w8.alloc o).alloc o').frozen? ⟨j,2,none⟩ = false) ∧ ∀ o o' o'',(((w8.alloc o).alloc o').alloc o'').frozen? ⟨j,2,none⟩ = false := by
 obtain ⟨kd,sq,tx0,hz,hR,hP,hC,hA⟩ := h
 have hw8 : j < w8.heap.size := (Array.getElem?_eq_some_iff.1 hP).1
 obtain ⟨_,_,r2⟩ := three_cells hP
 have q2 := four_frozen hP 2
 exact ⟨tx0,r2,fun o => old_cell r2 o,fun o o' => old_cell (old_cell r2 o) o',fun o o' o'' => old_cell (old_cell (old_cell r2 o) o') o'',q2,fun o => old_frozen q2 hw8 o,fun o o' => old_frozen (old_frozen q2 hw8 o) (by simp; omega) o',fun o o' o'' => old_frozen (old_frozen (old_frozen q2 hw8 o) (by simp; omega) o') (by simp; omega) o''⟩
theorem text_cell {w8 : World} {a b c tx : ByteArray} {J : Nat} (hv : (#[.string a,.string b,.string c] : Array Value)[J]? = some (.string tx)) : (w8.alloc (.cells #[.string a,.string b,.string c] 9)).cell? ⟨w8.heap.size,J,none⟩ = some (.string tx) ∧ (∀ o,((w8.alloc o).alloc (.cells #[.string a,.string b,.string c] 9)).cell? ⟨w8.heap.size + 1,J,none⟩ = some (.string tx)) ∧ ∀ o o',(((w8.alloc o).alloc o').alloc (.cells #[.string a,.string b,.string c] 9)).cell? ⟨w8.heap.size + 2,J,none⟩ = some (.string tx) :=
 ⟨new_cell _ rfl hv,fun o => new_cell _ (by simp) hv,fun o o' => new_cell _ (by simp) hv⟩
set_option maxHeartbeats 16000000 in
theorem l8DrawJob_any (p : Nat) (q : Int) (w : World) (hc : Cur w p) (hq : q <= 4294967296) :
  Calls Try.prog 27 #[.pointer (some ⟨p,0,none⟩),.int .i64 q] w fun e w' => ∃ (kd sq : Int) (tx : ByteArray),e = .returned (.agg #[.int .i64 kd,.int .i64 sq,.string tx]) ∧ tx.size <= maxLen ∧ Cur w' p ∧ Aside p (p + 1) w w' := by
 have hpl := hc.lt
 obtain ⟨wA,hwA⟩ : ∃ wA,wA = w.alloc (.cells #[.int .i64 0,.int .i64 0,.string ⟨#[]⟩] 30) := ⟨_,rfl⟩
 have HC := hide (hc.alloc (.cells #[.int .i64 0,.int .i64 0,.string ⟨#[]⟩] 30))
 have HA := hide ((Aside.refl p (p + 1) w).alloc (.cells #[.int .i64 0,.int .i64 0,.string ⟨#[]⟩] 30))
 have H1 := hide (heap_new w (.cells #[.int .i64 0,.int .i64 0,.string ⟨#[]⟩] 30))
 rw [<- hwA] at HC HA H1
 clear hc
 go_enter Try.func27,Try.ntmps27
 go_wp2_with fail
 rw [<- hwA]
 clear hwA
 refine (l1Below_any p q wA HC.out hq).mono ?_
 rintro e w1 ⟨x,rfl,x0,x1,c1,s1⟩
 have h1 := aside_block s1 H1.out (by omega)
 have HA1 := hide (HA.out.trans s1)
 clear s1 HC HA H1
 go_wp2_with fail
 refine (l7Draw_any p w1 c1).mono ?_
 rintro e w2 ⟨yk,ya,ys,yx,rfl,c2,s2⟩
 have h2 := aside_block s2 h1 (by omega)
 have HA2 := hide (HA1.out.trans s2)
 clear s2 c1 HA1 h1
 go_wp2_with fail
 refine (specLaid_any yk ya ys yx w2).mono ?_
 rintro e w3 ⟨rfl,b3⟩
 have hlz := laid_size yk ya ys yx
 generalize laid yk ya ys yx = t at *
 have h3 := block_on h2 b3
 have hs3 := (HA2.out.trans (aside_of_below b3)).size
 have hp3 : p < w3.heap.size := by omega
 have hr3 : w.heap.size < w3.heap.size := by
  rcases Nat.lt_or_ge w.heap.size w3.heap.size with h' | h'
  ·exact h'
  ·rw [Array.getElem?_eq_none h'] at h3; simp at h3
 obtain ⟨wB,hwB⟩ : ∃ wB,wB = w3.alloc (.cells #[.int .i64 1,.int .i64 x,.string t] 30) := ⟨_,rfl⟩
 have HJ : Hid (JobAt w p w.heap.size w3.heap.size wB) := by
  rw [hwB]
  exact ⟨1,x,t,by unfold maxLen; omega,heap_old h3,heap_new _ _,(c2.below b3 c2.lt).alloc _,(HA2.out.trans (aside_of_below b3)).alloc _⟩
 clear b3 c2 HA2 h2 h3
 go_wp2_with fail
 rw [<- hwB]
 clear hwB
 obtain ⟨_,_,_,_,_,_,hcB,_⟩ := HJ.out
 refine (l1Once_any p 6 wB hcB (by omega)).mono ?_
 rintro e w4 ⟨b,rfl,c4,s4⟩
 have HJ4 := hide (HJ.out.aside hpl hp3 c4 s4)
 clear HJ c4 s4 hcB
 go_upto_if 14 with fail
 go_cut [14] (fun _ wx => JobAt w p w.heap.size w3.heap.size wx)
 case first =>
  obtain ⟨kd,sq,tx,hz,hR,hP,hC,hA⟩ := HJ4.out
  obtain ⟨r0,r1,r2⟩ := three_cells hP
  have q0 := four_frozen hP 0
  clear hR hP hC hA hz
  cases b with
  | false =>
   go_wp2_with fail
   go_meet
   exact HJ4.out
  | true =>
   have HJX := hide (HJ4.out.set0 (by omega) hp3 (by omega) 2)
   go_wp2_with fail
   go_meet
   exact HJX.out
 case rest =>
  obtain ⟨wX,hwX⟩ : ∃ wX,wX = wc := ⟨_,rfl⟩
  subst hwX
  have HJX := hide hcut
  clear hcut HJ4
  obtain ⟨_,_,_,_,_,_,hcX,_⟩ := HJX.out
  go_wp2_with fail
  refine (l1Once_any p 14 wX hcX (by omega)).mono ?_
  rintro e w5 ⟨b',rfl,c5,s5⟩
  have HJ5 := hide (HJX.out.aside hpl hp3 c5 s5)
  clear HJX c5 s5 hcX
  go_upto_if 17 with fail
  go_cut [17] (fun _ wx => JobAt w p w.heap.size w3.heap.size wx)
  case first =>
   obtain ⟨kd,sq,tx,hz,hR,hP,hC,hA⟩ := HJ5.out
   obtain ⟨r0,r1,r2⟩ := three_cells hP
   have q0 := four_frozen hP 0
   clear hR hP hC hA hz
   cases b' with
   | false =>
    go_wp2_with fail
    go_meet
    exact HJ5.out
   | true =>
    have HJY := hide (HJ5.out.set0 (by omega) hp3 (by omega) 3)
    go_wp2_with fail
    go_meet
    exact HJY.out
  case rest =>
   obtain ⟨wY,hwY⟩ : ∃ wY,wY = wc := ⟨_,rfl⟩
   subst hwY
   have HJY := hide hcut
   clear hcut HJ5
   obtain ⟨_,_,_,_,_,_,hcY,_⟩ := HJY.out
   go_wp2_with fail
   refine (l1Once_any p 20 wY hcY (by omega)).mono ?_
   rintro e w6 ⟨b6,rfl,c6,s6⟩
   have HJ6 := hide (HJY.out.aside hpl hp3 c6 s6)
   clear HJY s6 hcY
   go_upto_if 20 with fail
   go_cut [20] (fun _ wx => JobAt w p w.heap.size w3.heap.size wx)
   case first =>
    cases b6 with
    | false =>
     go_wp2_with fail
     go_meet
     exact HJ6.out
    | true =>
     go_wp2_with fail
     refine (l1Below_any p 3 w6 c6 (by omega)).mono ?_
     rintro e w7 ⟨y,rfl,y0,y1,c7,s7⟩
     have HJ7 := hide (HJ6.out.aside hpl hp3 c7 s7)
     have hs7 := s7.size
     clear HJ6 s7 c6
     obtain ⟨_,_,_,_,_,hK7,_,hA7⟩ := HJ7.out
     have hr7 : w3.heap.size < w7.heap.size := (Array.getElem?_eq_some_iff.1 hK7).1
     clear hK7 hA7
     rcases (show y = 0 ∨ y = 1 ∨ y = 2 by omega) with rfl | rfl | rfl
     ·have HC8 := hide (c7.alloc (.cells #[.int .i64 0,.int .i64 4,.int .i64 (-1)] 2))
      have HJA := hide (HJ7.out.alloc (.cells #[.int .i64 0,.int .i64 4,.int .i64 (-1)] 2))
      go_wp2_with fail
      refine (l1Below_any p 3 _ HC8.out (by omega)).mono ?_
      rintro e w8 ⟨j,rfl,j0,j1,c8,s8⟩
      obtain ⟨J,rfl⟩ : ∃ J : Nat,j = (J : Int) := ⟨j.toNat,by omega⟩
      have hJ : J < 3 := by omega
      have hJ2 : (J : Int) < 3 := by omega
      obtain ⟨v,hv⟩ := three_ints 0 4 (-1) J hJ
      have hcell : w8.cell? ⟨w7.heap.size,J,none⟩ = some (.int .i64 v) := by
       rw [World.cell?_of_block (a := ⟨w7.heap.size,J,none⟩) (s8.block w7.heap.size (by simp) (.inr (by omega))),World.cell?_alloc_new]; exact hv
      have HJ8 := hide (HJA.out.aside hpl hp3 c8 s8)
      have HJ9 := hide (HJ8.out.set0 (by omega) hp3 (by omega) v)
      clear s8 c8 hv
      obtain ⟨kd,sq,tx,hz,hR,hP,hC,hA⟩ := HJ8.out
      obtain ⟨r0,r1,r2⟩ := three_cells hP
      have q0 := four_frozen hP 0
      clear hR hP hC hA hz
      go_wp2_with fail
      go_meet
      exact HJ9.out
     ·have HC8 := hide (c7.alloc (.cells #[.int .i64 (-1),.int .i64 q,.int .i64 4611686018427387904] 2))
      have HJA := hide (HJ7.out.alloc (.cells #[.int .i64 (-1),.int .i64 q,.int .i64 4611686018427387904] 2))
      go_wp2_with fail
      refine (l1Below_any p 3 _ HC8.out (by omega)).mono ?_
      rintro e w8 ⟨j,rfl,j0,j1,c8,s8⟩
      obtain ⟨J,rfl⟩ : ∃ J : Nat,j = (J : Int) := ⟨j.toNat,by omega⟩
      have hJ : J < 3 := by omega
      have hJ2 : (J : Int) < 3 := by omega
      obtain ⟨v,hv⟩ := three_ints (-1) q 4611686018427387904 J hJ
      have hcell : w8.cell? ⟨w7.heap.size,J,none⟩ = some (.int .i64 v) := by
       rw [World.cell?_of_block (a := ⟨w7.heap.size,J,none⟩) (s8.block w7.heap.size (by simp) (.inr (by omega))),World.cell?_alloc_new]; exact hv
      have HJ8 := hide (HJA.out.aside hpl hp3 c8 s8)
      have HJ9 := hide (HJ8.out.set1 (by omega) hp3 (by omega) v)
      clear s8 c8 hv
      obtain ⟨kd,sq,tx,hz,hR,hP,hC,hA⟩ := HJ8.out
      obtain ⟨r0,r1,r2⟩ := three_cells hP
      have q1 := four_frozen hP 1
      clear hR hP hC hA hz
      go_wp2_with fail
      go_meet
      exact HJ9.out
     ·obtain ⟨O1,S1,hS1,hmk1,hcv1⟩ := text_made 200 (by omega)
      obtain ⟨O2,S2,hS2,hmk2,hcv2⟩ := text_made 201 (by omega)
      have hm1 : ∀ W : World,(Instr.makeSlice 22 (.int .i64 200) (.int .i64 200)).run Try.prog W = .ok (.slice (some ⟨W.heap.size,0,none⟩) 200 200) (W.alloc O1) := hmk1
      have hm2 : ∀ W : World,(Instr.makeSlice 22 (.int .i64 201) (.int .i64 201)).run Try.prog W = .ok (.slice (some ⟨W.heap.size,0,none⟩) 201 201) (W.alloc O2) := hmk2
      clear hmk1 hmk2
      have a1 : ∀ W : World,(convert 22 9 (.slice (some ⟨W.heap.size,0,none⟩) 200 200)).run Try.prog (W.alloc O1).drew = .ok (.string S1) (W.alloc O1).drew := fun W => hcv1 _ _ (new_at0 W O1)
      have a2 : ∀ W : World,(convert 22 9 (.slice (some ⟨W.heap.size,0,none⟩) 200 200)).run Try.prog ((W.alloc O1).alloc O2).drew = .ok (.string S1) ((W.alloc O1).alloc O2).drew := fun W => hcv1 _ _ (new_at1 W O1 O2)
      have a3 : ∀ W : World,(convert 22 9 (.slice (some ⟨W.heap.size + 1,0,none⟩) 200 200)).run Try.prog ((W.alloc O2).alloc O1).drew = .ok (.string S1) ((W.alloc O2).alloc O1).drew := fun W => hcv1 _ _ (new_at2 W O2 O1)
      have a4 : ∀ W : World,(convert 22 9 (.slice (some ⟨W.heap.size,0,none⟩) 200 200)).run Try.prog (W.alloc O1) = .ok (.string S1) (W.alloc O1) := fun W => hcv1 _ _ (new_at0 W O1)
      have a5 : ∀ W : World,(convert 22 9 (.slice (some ⟨W.heap.size,0,none⟩) 200 200)).run Try.prog ((W.alloc O1).alloc O2) = .ok (.string S1) ((W.alloc O1).alloc O2) := fun W => hcv1 _ _ (new_at1 W O1 O2)
      have a6 : ∀ W : World,(convert 22 9 (.slice (some ⟨W.heap.size + 1,0,none⟩) 200 200)).run Try.prog ((W.alloc O2).alloc O1) = .ok (.string S1) ((W.alloc O2).alloc O1) := fun W => hcv1 _ _ (new_at2 W O2 O1)
      have b1 : ∀ W : World,(convert 22 9 (.slice (some ⟨W.heap.size,0,none⟩) 201 201)).run Try.prog (W.alloc O2).drew = .ok (.string S2) (W.alloc O2).drew := fun W => hcv2 _ _ (new_at0 W O2)
      have b2 : ∀ W : World,(convert 22 9 (.slice (some ⟨W.heap.size,0,none⟩) 201 201)).run Try.prog ((W.alloc O2).alloc O1).drew = .ok (.string S2) ((W.alloc O2).alloc O1).drew := fun W => hcv2 _ _ (new_at1 W O2 O1)
      have b3 : ∀ W : World,(convert 22 9 (.slice (some ⟨W.heap.size + 1,0,none⟩) 201 201)).run Try.prog ((W.alloc O1).alloc O2).drew = .ok (.string S2) ((W.alloc O1).alloc O2).drew := fun W => hcv2 _ _ (new_at2 W O1 O2)
      have b4 : ∀ W : World,(convert 22 9 (.slice (some ⟨W.heap.size,0,none⟩) 201 201)).run Try.prog (W.alloc O2) = .ok (.string S2) (W.alloc O2) := fun W => hcv2 _ _ (new_at0 W O2)
      have b5 : ∀ W : World,(convert 22 9 (.slice (some ⟨W.heap.size,0,none⟩) 201 201)).run Try.prog ((W.alloc O2).alloc O1) = .ok (.string S2) ((W.alloc O2).alloc O1) := fun W => hcv2 _ _ (new_at1 W O2 O1)
      have b6 : ∀ W : World,(convert 22 9 (.slice (some ⟨W.heap.size + 1,0,none⟩) 201 201)).run Try.prog ((W.alloc O1).alloc O2) = .ok (.string S2) ((W.alloc O1).alloc O2) := fun W => hcv2 _ _ (new_at2 W O1 O2)
      have HV1 := hide hcv1
      have HV2 := hide hcv2
      clear hcv1 hcv2
      clear c7
      have hwr : w.heap.size < w7.heap.size := by omega
      have HJa := hide (HJ7.out.alloc O1)
      have HJb := hide (HJ7.out.alloc O2)
      have HJc := hide (HJa.out.alloc O2)
      have HJd := hide (HJb.out.alloc O1)
      go_upto_region 13 with fail
      go_region_law (first
       | (go_simp; go_at_call 51; refine (below_job (W := w7) HJ7.out hpl hp3 (by first | omega | (simp <;> omega))).mono ?_; rintro e w8 ⟨J,rfl,hJ,hj8,hs8,hb8⟩; dsimp only; have hJ2 : (J : Int) < 3 := (by omega); have HJ8 := hide hj8; clear hj8; obtain ⟨tx,htx,hv⟩ := three_texts ⟨#[]⟩ S1 S2 J hJ (by decide) hS1 hS2; obtain ⟨tx0,r2,r3,r4,r5,q2,q3,q4,q5⟩ := job_cell HJ8.out; obtain ⟨e2,e3,e4⟩ := text_cell (w8 := w8) hv; clear hb8 hv)
       | (go_simp; go_at_call 51; refine (below_job (W := w7.alloc O1) HJa.out hpl hp3 (by first | omega | (simp <;> omega))).mono ?_; rintro e w8 ⟨J,rfl,hJ,hj8,hs8,hb8⟩; dsimp only; have hJ2 : (J : Int) < 3 := (by omega); have HJ8 := hide hj8; clear hj8; obtain ⟨tx,htx,hv⟩ := three_texts ⟨#[]⟩ S1 S2 J hJ (by decide) hS1 hS2; obtain ⟨tx0,r2,r3,r4,r5,q2,q3,q4,q5⟩ := job_cell HJ8.out; obtain ⟨e2,e3,e4⟩ := text_cell (w8 := w8) hv; have k1 := (hb8 w7.heap.size (by omega) (by simp)).trans (new_at0 w7 O1); have d1 := HV1.out w8 _ k1; have d2 := HV1.out (w8.alloc O2) _ (heap_old k1); clear k1; clear hb8 hv)
       | (go_simp; go_at_call 51; refine (below_job (W := w7.alloc O2) HJb.out hpl hp3 (by first | omega | (simp <;> omega))).mono ?_; rintro e w8 ⟨J,rfl,hJ,hj8,hs8,hb8⟩; dsimp only; have hJ2 : (J : Int) < 3 := (by omega); have HJ8 := hide hj8; clear hj8; obtain ⟨tx,htx,hv⟩ := three_texts ⟨#[]⟩ S1 S2 J hJ (by decide) hS1 hS2; obtain ⟨tx0,r2,r3,r4,r5,q2,q3,q4,q5⟩ := job_cell HJ8.out; obtain ⟨e2,e3,e4⟩ := text_cell (w8 := w8) hv; have k1 := (hb8 w7.heap.size (by omega) (by simp)).trans (new_at0 w7 O2); have d1 := HV2.out w8 _ k1; have d2 := HV2.out (w8.alloc O1) _ (heap_old k1); clear k1; clear hb8 hv)
       | (go_simp; go_at_call 51; refine (below_job (W := (w7.alloc O1).alloc O2) HJc.out hpl hp3 (by first | omega | (simp <;> omega))).mono ?_; rintro e w8 ⟨J,rfl,hJ,hj8,hs8,hb8⟩; dsimp only; have hJ2 : (J : Int) < 3 := (by omega); have HJ8 := hide hj8; clear hj8; obtain ⟨tx,htx,hv⟩ := three_texts ⟨#[]⟩ S1 S2 J hJ (by decide) hS1 hS2; obtain ⟨tx0,r2,r3,r4,r5,q2,q3,q4,q5⟩ := job_cell HJ8.out; obtain ⟨e2,e3,e4⟩ := text_cell (w8 := w8) hv; have k1 := (hb8 w7.heap.size (by omega) (by simp <;> omega)).trans (new_at1 w7 O1 O2); have k3 := (hb8 (w7.heap.size + 1) (by omega) (by simp)).trans (new_at2 w7 O1 O2); have d1 := HV1.out w8 _ k1; have d3 := HV2.out w8 _ k3; clear k1 k3; clear hb8 hv)
       | (go_simp; go_at_call 51; refine (below_job (W := (w7.alloc O2).alloc O1) HJd.out hpl hp3 (by first | omega | (simp <;> omega))).mono ?_; rintro e w8 ⟨J,rfl,hJ,hj8,hs8,hb8⟩; dsimp only; have hJ2 : (J : Int) < 3 := (by omega); have HJ8 := hide hj8; clear hj8; obtain ⟨tx,htx,hv⟩ := three_texts ⟨#[]⟩ S1 S2 J hJ (by decide) hS1 hS2; obtain ⟨tx0,r2,r3,r4,r5,q2,q3,q4,q5⟩ := job_cell HJ8.out; obtain ⟨e2,e3,e4⟩ := text_cell (w8 := w8) hv; have k1 := (hb8 w7.heap.size (by omega) (by simp <;> omega)).trans (new_at1 w7 O2 O1); have k3 := (hb8 (w7.heap.size + 1) (by omega) (by simp)).trans (new_at2 w7 O2 O1); have d1 := HV2.out w8 _ k1; have d3 := HV1.out w8 _ k3; clear k1 k3; clear hb8 hv)
       | (go_simp; go_at_call 51; refine (below_job (W := ((w7.alloc O1).alloc O2).alloc (.cells #[.string ⟨#[]⟩,.string S1,.string S2] 9)) (HJc.out.alloc (.cells #[.string ⟨#[]⟩,.string S1,.string S2] 9)) hpl hp3 (by first | omega | (simp <;> omega))).mono ?_; rintro e w8 ⟨J,rfl,hJ,hj8,hs8,hb8⟩; dsimp only; have hJ2 : (J : Int) < 3 := (by omega); have HJ8 := hide hj8; clear hj8; obtain ⟨tx,htx,hv⟩ := three_texts ⟨#[]⟩ S1 S2 J hJ (by decide) hS1 hS2; obtain ⟨tx0,r2,r3,r4,r5,q2,q3,q4,q5⟩ := job_cell HJ8.out; have e1 := (World.cell?_of_block (a := ⟨w7.heap.size + 2,J,none⟩) (hb8 (w7.heap.size + 2) (by omega) (by simp))).trans (new_cell (t := 9) ((w7.alloc O1).alloc O2) (by simp) hv); clear hb8 hv)
       | (go_simp; go_at_call 51; refine (below_job (W := ((w7.alloc O2).alloc O1).alloc (.cells #[.string ⟨#[]⟩,.string S1,.string S2] 9)) (HJd.out.alloc (.cells #[.string ⟨#[]⟩,.string S1,.string S2] 9)) hpl hp3 (by first | omega | (simp <;> omega))).mono ?_; rintro e w8 ⟨J,rfl,hJ,hj8,hs8,hb8⟩; dsimp only; have hJ2 : (J : Int) < 3 := (by omega); have HJ8 := hide hj8; clear hj8; obtain ⟨tx,htx,hv⟩ := three_texts ⟨#[]⟩ S1 S2 J hJ (by decide) hS1 hS2; obtain ⟨tx0,r2,r3,r4,r5,q2,q3,q4,q5⟩ := job_cell HJ8.out; have e1 := (World.cell?_of_block (a := ⟨w7.heap.size + 2,J,none⟩) (hb8 (w7.heap.size + 2) (by omega) (by simp))).trans (new_cell (t := 9) ((w7.alloc O2).alloc O1) (by simp) hv); clear hb8 hv)
       | fail)
      all_goals
       clear HV1 HV2 HJa HJb HJc HJd a1 a2 a3 a4 a5 a6 b1 b2 b3 b4 b5 b6 hm1 hm2
       go_wp2_with fail
       go_meet
       first
       | exact HJ8.out.set2 (by omega) hp3 (by omega) htx
       | exact (HJ8.out.alloc _).set2 (by omega) hp3 (by omega) htx
       | exact ((HJ8.out.alloc _).alloc _).set2 (by omega) hp3 (by omega) htx
       | exact (((HJ8.out.alloc _).alloc _).alloc _).set2 (by omega) hp3 (by omega) htx
   case rest =>
    obtain ⟨w8,hw8⟩ : ∃ w8,w8 = wc := ⟨_,rfl⟩
    subst hw8
    obtain ⟨kd,sq,tx,hz,hR,hP,hC,hA⟩ := hcut
    obtain ⟨r0,r1,r2⟩ := three_cells hP
    obtain ⟨z0,z1,z2⟩ := three_cells hR
    have q0 := four_frozen hR 0
    have q1 := four_frozen hR 1
    have q2 := four_frozen hR 2
    have HR := hide hR
    have HC := hide hC
    have HA := hide hA
    clear hR hP hC hA
    go_wp2_with fail
    refine bodyPost_ret (results_cell rfl rfl (run_loadVar_row _ _ _ _ _ _ _ (three_set HR.out _ _ _) Try.underlying30 rfl (by kernel_rfl))) rfl ⟨_,_,_,rfl,hz,?_,?_⟩
    ·exact ((HC.out.set_new hpl _).set_new hpl _).set_new hpl _
    ·exact ((HA.out.set_new (Nat.le_refl _) _).set_new (Nat.le_refl _) _).set_new (Nat.le_refl _) _
theorem jobDraws : JobDraws := fun p q w hc hq => l8DrawJob_any p q w hc hq
end Go.Proofs.Ytfogmdnkpkofiaa
