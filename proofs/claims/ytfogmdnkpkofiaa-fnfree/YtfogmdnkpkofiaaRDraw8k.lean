/- . -/
import Derived.Test.YtfogmdnkpkofiaaRDraw8g
import Derived.Test.YtfogmdnkpkofiaaRChipAns
import Derived.Test.YtfogmdnkpkofiaaRChipOwn2
import Derived.Test.YtfogmdnkpkofiaaRChipCutS
namespace Go.Proofs.Ytfogmdnkpkofiaa
open Go.RowKit
set_option linter.unusedVariables false
set_option linter.unusedSimpArgs false
set_option maxRecDepth 20000
theorem free_at {z : Int} {qs : List Sq} (h : chipOk z qs = true) : free z qs = freeK z qs qs.length := by unfold free; rw [h]; rfl
theorem freeK_nonneg {z : Int} {qs : List Sq} (h : chipOk z qs = true) : ∀ k,k <= qs.length -> 0 <= freeK z qs k := by
 intro k
 induction k with
 | zero => intro _; simp [freeK]
 | succ k ih =>
  intro hk
  rw [freeK_step (show k < qs.length by omega)]
  have h1 := ih (by omega)
  have h2 : ((sqAt qs k).1.length : Int) <= z := by
   unfold chipOk at h
   simp only [Bool.and_eq_true,List.all_eq_true] at h
   have h3 := h.2.2.2 (sqAt qs k) (by unfold sqAt; rw [List.getD_eq_getElem?_getD,List.getElem?_eq_getElem (show k < qs.length by omega)]; exact List.getElem_mem _)
   unfold sqOk at h3
   simp only [Bool.and_eq_true,decide_eq_true_eq] at h3
   exact h3.1
  split <;> omega
theorem freeK_le {z : Int} {qs : List Sq} (hz : 0 <= z) (hz8 : z <= 8) : ∀ k : Nat,k <= qs.length -> freeK z qs k <= 8 * (k : Int) := by
 intro k
 induction k with
 | zero => intro _; simp [freeK]
 | succ k ih =>
  intro hk
  rw [freeK_step (show k < qs.length by omega)]
  have h1 := ih (by omega)
  split <;> omega
theorem free_in {z : Int} {qs : List Sq} (h : chipOk z qs = true) : 0 <= free z qs ∧ free z qs <= 1000 ∧ 1 <= z ∧ z <= 8 := by
 have h9 := h
 unfold chipOk inB at h
 simp only [Bool.and_eq_true,decide_eq_true_eq] at h
 rw [free_at h9]
 have h1 := freeK_nonneg h9 qs.length (Nat.le_refl _)
 have h2 := freeK_le (qs := qs) (show 0 <= z by omega) h.1.2 qs.length (Nat.le_refl _)
 have h3 := h.2.2.1
 omega
theorem sqAt_setF (qs : List Sq) (i k : Nat) (q : Sq) (hi : i < qs.length) : sqAt (qs.set i q) k = if k = i then q else sqAt qs k := by
 unfold sqAt
 rw [List.getD_eq_getElem?_getD,List.getD_eq_getElem?_getD,List.getElem?_set]
 by_cases h : i = k
 ·subst h; simp [hi]
 ·simp [h,Ne.symm h]
def roomOf (z : Int) (q : Sq) : Int := if q.2.2 then 0 else z - (q.1.length : Int)
theorem freeK_set {z : Int} {qs : List Sq} {i : Nat} {q : Sq} (hi : i < qs.length) : ∀ k,k <= qs.length -> freeK z (qs.set i q) k = freeK z qs k + (if i < k then roomOf z q - roomOf z (sqAt qs i) else 0) := by
 intro k
 induction k with
 | zero => intro _; simp [freeK]
 | succ k ih =>
  intro hk
  rw [freeK_step (show k < (qs.set i q).length by simp; omega),freeK_step (show k < qs.length by omega),ih (by omega),sqAt_setF qs i k q hi]
  by_cases h1 : k = i
  ·subst h1
   rw [if_pos rfl,if_neg (show ¬ k < k by omega),if_pos (show k < k + 1 by omega)]
   simp only [roomOf]
   omega
  ·rw [if_neg h1]
   by_cases h2 : i < k
   ·rw [if_pos h2,if_pos (show i < k + 1 by omega)]; omega
   ·rw [if_neg h2,if_neg (show ¬ i < k + 1 by omega)]; omega
theorem free_did {z : Int} {qs : List Sq} {j : Jb} (h : didB z qs j = true) (hok : chipOk z (doJ z qs j) = true) : ∃ i : Nat,j.2.1 = (i : Int) ∧ i < qs.length ∧ (j.1 = 1 ∨ j.1 = 2 ∨ j.1 = 3) ∧
  (j.1 = 1 -> free z (doJ z qs j) = free z qs - 1) ∧ (j.1 = 2 -> free z (doJ z qs j) = free z qs + ((sqAt qs i).1.length : Int)) ∧ (j.1 = 3 -> free z (doJ z qs j) = free z qs - z + ((sqAt qs i).1.length : Int)) := by
 unfold didB at h
 simp only [Bool.and_eq_true] at h
 obtain ⟨i,e,hi,hb,hk⟩ := canJ_parts h.2
 have hd : doJ z qs j = qs.set i (sqDo (sqAt qs i) j.1 j.2.2) := by
  unfold doJ
  rw [if_pos h.2,e]
  rfl
 have hf : free z (doJ z qs j) = free z qs + (roomOf z (sqDo (sqAt qs i) j.1 j.2.2) - roomOf z (sqAt qs i)) := by
  rw [free_at hok,free_at h.1,hd,show (qs.set i (sqDo (sqAt qs i) j.1 j.2.2)).length = qs.length by simp,freeK_set hi _ (Nat.le_refl _),if_pos hi]
 have hr : roomOf z (sqAt qs i) = z - ((sqAt qs i).1.length : Int) := by unfold roomOf; rw [hb]; rfl
 refine ⟨i,e,hi,?_,fun h1 => ?_,fun h1 => ?_,fun h1 => ?_⟩
 ·rcases canK_kind hk with ⟨h1,_⟩ | ⟨h1,_⟩ | h1 <;> omega
 ·rw [hf,hr,h1]
  simp [sqDo,roomOf,hb]
  omega
 ·rw [hf,hr,h1]
  simp [sqDo,roomOf,hb]
  omega
 ·rw [hf,hr,h1]
  simp [sqDo,roomOf]
  omega
theorem results_ccD {fn : Func} {P : Program} {w : World} {t u : Tmp} {ty tz : TypeId} {tmps : Array Value} {a b : Addr} {v x : Value} (h : fn.results = #[.cell t ty,.cell u tz]) (ht : tmps.getD t undef = .pointer (some a)) (hu : tmps.getD u undef = .pointer (some b)) (hl : (loadVar ty a).run P w = .ok v w) (hx : (loadVar tz b).run P w = .ok x w) :
  (results fn tmps).run P w = .ok (.tuple #[v,x]) w := by
 have ht' : tmps[t]?.getD undef = .pointer (some a) := by simpa using ht
 have hu' : tmps[u]?.getD undef = .pointer (some b) := by simpa using hu
 simp [results,h,ht',hu',asAddr,hl,hx]
set_option maxHeartbeats 1600000 in
theorem drawFree_any (hd : JobDraws) (a : Option Addr) (n cap : Nat) (l : List UInt8) (w : World) {lo hi : Nat} (hB : Bytes lo hi w a n l) (hhi : hi <= w.heap.size) (hn : n <= 4096) :
  Calls Try.prog 7 #[.slice a n cap] w (ChipOf w) := by
 obtain ⟨wA,hwA⟩ : ∃ wA,wA = w.alloc (.cells #[.int .i64 0,.slice none 0 0] 26) := ⟨_,rfl⟩
 have hzA : wA.heap.size = w.heap.size + 1 := by rw [hwA]; simp
 have HBA : Hid (Below w.heap.size w wA) := by rw [hwA]; exact (Below.refl _ _).alloc (Nat.le_refl _) _
 have H1 : Hid (wA.heap[w.heap.size]? = some (.cells #[.int .i64 0,.slice none 0 0] 26)) := by rw [hwA]; exact heap_new _ _
 have HB := hide (hB.later HBA.out hhi)
 clear hB
 go_enter Try.func7,Try.ntmps7
 go_wp2_with fail
 rw [<- hwA]
 clear hwA
 refine (drawChipOk_any hd a n cap l wA HB.out (by omega) hn).mono ?_
 rintro e w2 ⟨z,a2,n2,c2,qs,rfl,hn2,hc2,hf,hl,hsq,hb⟩
 have h2 := hide (block_on H1.out hb)
 have HSQ := hide hsq
 have HB2 := hide (below_here HBA.out hb)
 have hs2 := hb.size
 clear hb hsq
 obtain ⟨k0,k1⟩ := two_cells h2.out
 have f0 := four_frozen h2.out 0
 have f1 := four_frozen h2.out 1
 have HS3 := hide (two_set h2.out (.int .i64 z) (.slice a2 n2 c2))
 have HA3 := hide (two_aside (b := w.heap.size) (Aside.refl w.heap.size (w.heap.size + 1) w2) (Nat.le_refl _) (Nat.lt_succ_self _) (.int .i64 z) (.slice a2 n2 c2))
 go_wp2_with fail
 refine bodyPost_ret (results_cell rfl rfl (run_loadVar_row _ _ _ _ _ _ _ HS3.out Try.underlying26 rfl (by kernel_rfl))) rfl ⟨z,a2,n2,c2,qs,rfl,hn2,hc2,hf,hl,?_,HB2.out.trans (HA3.out.below (Nat.le_refl _) (by omega))⟩
 have hz3 : ((w2.setCell ⟨w.heap.size,0,none⟩ (.int .i64 z)).setCell ⟨w.heap.size,1,none⟩ (.slice a2 n2 c2)).heap.size = w2.heap.size := by rw [Go.Deep.nblk_setCell,Go.Deep.nblk_setCell]
 exact (HSQ.out.aside HA3.out (.inr (by omega))).wideLo (by omega) (by rw [hz3]; exact Nat.le_refl _)
def DidOf (w : World) (e : Ending) (w' : World) : Prop := ∃ (z : Int) (a : Option Addr) (n c : Nat) (qs : List Sq) (kd sq : Int) (tx : ByteArray),e = .returned (.tuple #[.agg #[.int .i64 z,.slice a n c],.agg #[.int .i64 kd,.int .i64 sq,.string tx]]) ∧ n <= 13 ∧ tx.size <= maxLen ∧ (∀ x ∈ qs,sqFits x) ∧ (∀ x ∈ qs,x.1.length <= 9) ∧ Squares w.heap.size w'.heap.size w' a n qs ∧ Below w.heap.size w w'
theorem mset_otherD {W : World} {a b : Nat} (hab : a ≠ b) (j : Nat) (v : Value) : (W.setCell ⟨a,j,none⟩ v).heap[b]? = W.heap[b]? := by
 have e : (W.setCell ⟨a,j,none⟩ v).heap = W.heap.modify a (fun o => match o with | .cells c elem frozen => .cells (c.setIfInBounds j v) elem frozen | o => o) := rfl
 rw [e,Array.getElem?_modify,if_neg hab]
theorem cell_set_other {W : World} {b b' j : Nat} {v : Value} {o : Obj} (h : W.heap[b]? = some o) (hne : b' ≠ b) : (W.setCell ⟨b',j,none⟩ v).heap[b]? = some o := (mset_otherD hne j v).trans h
def cvD (b j : Nat) (W : World) : Value := (W.cell? ⟨b,j,none⟩).getD undef
theorem cur_drewD {w : World} {p : Nat} (h : Cur w p) : Cur w.drew p := h
theorem Aside.trans_drewD {lo hi : Nat} {w w' : World} (h : Aside lo hi w.drew w') : Aside lo hi w w' := ⟨h.os,h.tape,h.output,h.size,h.block⟩
theorem Squares.hi_leD {lo hi : Nat} {w : World} {a : Option Addr} {n : Nat} {qs : List Sq} (h : Squares lo hi w a n qs) : hi <= w.heap.size := by
 obtain ⟨_,_,_,hx,_⟩ := h
 exact hx.1
theorem drew_onF {W : World} {b : Nat} {o : Obj} (h : W.heap[b]? = some o) : W.drew.heap[b]? = some o := h
structure DidSt (b0 K : Nat) (x0 x1 : Value) (W : World) : Prop where
 k : W.heap[K]? = some (.cells #[x0,x1] 26)
 c : ∃ c0 c1,W.heap[b0]? = some (.cells #[c0,c1] 26)
 j : ∃ c0 c1 c2,W.heap[b0 + 1]? = some (.cells #[c0,c1,c2] 30)
 lt : b0 + 1 < K
theorem DidSt.drew {b0 K : Nat} {x0 x1 : Value} {W : World} (h : DidSt b0 K x0 x1 W) : DidSt b0 K x0 x1 W.drew := ⟨h.k,h.c,h.j,h.lt⟩
theorem DidSt.set0 {b0 K : Nat} {x0 x1 : Value} {W : World} (h : DidSt b0 K x0 x1 W) (i : Nat) (hi : i < 2) (v : Value) : DidSt b0 K x0 x1 (W.setCell ⟨b0,i,none⟩ v) := by
 obtain ⟨c0,c1,hc⟩ := h.c
 obtain ⟨d0,d1,d2,hd⟩ := h.j
 have hl := h.lt
 refine ⟨cell_set_other h.k (by omega),?_,⟨d0,d1,d2,cell_set_other hd (by omega)⟩,h.lt⟩
 have := set_block hc i v (by simpa using hi)
 rcases (by omega : i = 0 ∨ i = 1) with rfl | rfl
 all_goals exact ⟨_,_,this⟩
theorem DidSt.set1 {b0 K : Nat} {x0 x1 : Value} {W : World} (h : DidSt b0 K x0 x1 W) (i : Nat) (hi : i < 3) (v : Value) : DidSt b0 K x0 x1 (W.setCell ⟨b0 + 1,i,none⟩ v) := by
 obtain ⟨c0,c1,hc⟩ := h.c
 obtain ⟨d0,d1,d2,hd⟩ := h.j
 have hl := h.lt
 refine ⟨cell_set_other h.k (by omega),⟨c0,c1,cell_set_other hc (by omega)⟩,?_,h.lt⟩
 have := set_block hd i v (by simpa using hi)
 rcases (by omega : i = 0 ∨ i = 1 ∨ i = 2) with rfl | rfl | rfl
 all_goals exact ⟨_,_,_,this⟩
theorem DidSt.asd {b0 K p : Nat} {x0 x1 : Value} {W W' : World} (h : DidSt b0 K x0 x1 W) (ha : Aside p (p + 1) W W') (h0 : p ≠ b0) (h1 : p ≠ b0 + 1) (h2 : p ≠ K) : DidSt b0 K x0 x1 W' := by
 obtain ⟨c0,c1,hc⟩ := h.c
 obtain ⟨d0,d1,d2,hd⟩ := h.j
 exact ⟨aside_block ha h.k (by omega),⟨c0,c1,aside_block ha hc (by omega)⟩,⟨d0,d1,d2,aside_block ha hd (by omega)⟩,h.lt⟩
theorem DidSt.has {b0 K : Nat} {x0 x1 : Value} {W : World} (h : DidSt b0 K x0 x1 W) : W.cell? ⟨K,0,none⟩ = some x0 ∧ W.cell? ⟨K,1,none⟩ = some x1 ∧ W.cell? ⟨b0,0,none⟩ = some (cvD b0 0 W) ∧ W.cell? ⟨b0,1,none⟩ = some (cvD b0 1 W) ∧ W.cell? ⟨b0 + 1,0,none⟩ = some (cvD (b0 + 1) 0 W) ∧ W.cell? ⟨b0 + 1,1,none⟩ = some (cvD (b0 + 1) 1 W) ∧ W.cell? ⟨b0 + 1,2,none⟩ = some (cvD (b0 + 1) 2 W) ∧ W.frozen? ⟨b0,0,none⟩ = false ∧ W.frozen? ⟨b0,1,none⟩ = false ∧ W.frozen? ⟨b0 + 1,0,none⟩ = false ∧ W.frozen? ⟨b0 + 1,1,none⟩ = false ∧ W.frozen? ⟨b0 + 1,2,none⟩ = false := by
 obtain ⟨c0,c1,hc⟩ := h.c
 obtain ⟨d0,d1,d2,hd⟩ := h.j
 have hk := h.k
 refine ⟨by simp [World.cell?,hk],by simp [World.cell?,hk],?_,?_,?_,?_,?_,four_frozen hc _,four_frozen hc _,four_frozen hd _,four_frozen hd _,four_frozen hd _⟩
 ·simp [cvD,World.cell?,hc]
 ·simp [cvD,World.cell?,hc]
 ·simp [cvD,World.cell?,hd]
 ·simp [cvD,World.cell?,hd]
 ·simp [cvD,World.cell?,hd]
theorem did_end {b0 K : Nat} {x0 x1 : Value} {W : World} (h : DidSt b0 K x0 x1 W) (u0 u1 v0 v1 v2 : Value) :
  (((((W.setCell ⟨b0,0,none⟩ u0).setCell ⟨b0,1,none⟩ u1).setCell ⟨b0 + 1,0,none⟩ v0).setCell ⟨b0 + 1,1,none⟩ v1).setCell ⟨b0 + 1,2,none⟩ v2).heap[b0]? = some (.cells #[u0,u1] 26) ∧ (((((W.setCell ⟨b0,0,none⟩ u0).setCell ⟨b0,1,none⟩ u1).setCell ⟨b0 + 1,0,none⟩ v0).setCell ⟨b0 + 1,1,none⟩ v1).setCell ⟨b0 + 1,2,none⟩ v2).heap[b0 + 1]? = some (.cells #[v0,v1,v2] 30) ∧ Aside b0 (b0 + 2) W (((((W.setCell ⟨b0,0,none⟩ u0).setCell ⟨b0,1,none⟩ u1).setCell ⟨b0 + 1,0,none⟩ v0).setCell ⟨b0 + 1,1,none⟩ v1).setCell ⟨b0 + 1,2,none⟩ v2) := by
 obtain ⟨c0,c1,hc⟩ := h.c
 obtain ⟨d0,d1,d2,hd⟩ := h.j
 refine ⟨cell_set_other (cell_set_other (cell_set_other (two_set hc u0 u1) (by omega)) (by omega)) (by omega),three_set (cell_set_other (cell_set_other hd (by omega)) (by omega)) v0 v1 v2,?_⟩
 exact ((((((Aside.refl b0 (b0 + 2) W).setCell (p := ⟨b0,0,none⟩) (Nat.le_refl _) (by show b0 < _; omega) u0).setCell (p := ⟨b0,1,none⟩) (Nat.le_refl _) (by show b0 < _; omega) u1).setCell (p := ⟨b0 + 1,0,none⟩) (Nat.le_succ _) (Nat.lt_succ_self _) v0).setCell (p := ⟨b0 + 1,1,none⟩) (Nat.le_succ _) (Nat.lt_succ_self _) v1).setCell (p := ⟨b0 + 1,2,none⟩) (Nat.le_succ _) (Nat.lt_succ_self _) v2)
set_option maxHeartbeats 3200000 in
theorem drawDid_any (hd : JobDraws) (a : Option Addr) (n cap : Nat) (l : List UInt8) (w : World) {lo hi : Nat} (hB : Bytes lo hi w a n l) (hhi : hi <= w.heap.size) (hn : n <= 4096) :
  Calls Try.prog 10 #[.slice a n cap] w (DidOf w) := by
 obtain ⟨wA,hwA⟩ : ∃ wA,wA = (w.alloc (.cells #[.int .i64 0,.slice none 0 0] 26)).alloc (.cells #[.int .i64 0,.int .i64 0,.string ⟨#[]⟩] 30) := ⟨_,rfl⟩
 have hzA : wA.heap.size = w.heap.size + 2 := by rw [hwA]; simp
 have HBA : Hid (Below w.heap.size w wA) := by rw [hwA]; exact ((Below.refl _ _).alloc (Nat.le_refl _) _).alloc (by simp) _
 have H1 : Hid (wA.heap[w.heap.size]? = some (.cells #[.int .i64 0,.slice none 0 0] 26)) := by rw [hwA]; exact heap_old (heap_new _ _)
 have H2 : Hid (wA.heap[w.heap.size + 1]? = some (.cells #[.int .i64 0,.int .i64 0,.string ⟨#[]⟩] 30)) := by rw [hwA]; exact heap_at (by simp)
 have HB := hide (hB.later HBA.out hhi)
 clear hB
 go_enter Try.func10,Try.ntmps10
 go_wp2_with fail
 rw [<- hwA]
 clear hwA
 refine (l1New_any a n cap l wA HB.out hn).mono ?_
 rintro e w1 ⟨p,rfl,hp,c1,b1⟩
 have h1 := hide (block_on H1.out b1)
 have h2 := hide (block_on H2.out b1)
 have HB1 := hide (below_here HBA.out b1)
 have hs1 := b1.size
 have hpl := c1.lt
 clear b1 H1 H2 HBA HB
 go_wp2_with fail
 refine (l8DrawAny_any hd p w1 c1).mono ?_
 rintro e w2 ⟨z,a2,n2,c2,qs,rfl,hn2,hc2,hf,hl,hsq,hcu,has⟩
 obtain ⟨wK,hwK⟩ : ∃ wK,wK = w2.alloc (.cells #[.int .i64 z,.slice a2 n2 c2] 26) := ⟨_,rfl⟩
 have hs2 := has.size
 have HX : Hid (DidSt w.heap.size w2.heap.size (.int .i64 z) (.slice a2 n2 c2) wK) := by
  rw [hwK]
  exact ⟨heap_new _ _,⟨_,_,heap_old (aside_block has h1.out (by omega))⟩,⟨_,_,_,heap_old (aside_block has h2.out (by omega))⟩,by omega⟩
 have hbK : Below w2.heap.size w2 wK := by rw [hwK]; exact (Below.refl _ _).alloc (Nat.le_refl _) _
 have HSQ := hide (hsq.later hbK (Nat.le_refl _))
 have HCU : Hid (Cur wK p) := by rw [hwK]; exact hcu.alloc _
 have HBK := hide ((HB1.out.trans (has.below (B := w.heap.size) (by omega) (by omega))).trans (hbK.mono (by omega)))
 obtain ⟨Q9,hQ⟩ : ∃ Q9,Q9 = (if (n2 : Int) < 1 then (1 : Int) else (n2 : Int)) := ⟨_,rfl⟩
 have HQ9 : Hid (Q9 <= 4294967296) := by show _ <= _; rw [hQ]; split <;> omega
 have HMX : ∀ W,Hid (Calls Try.prog 28 #[.int .i64 1,.int .i64 (n2 : Int)] W fun e w' => e = .returned (.int .i64 Q9) ∧ W = w') := fun W => by rw [hQ]; exact l1Max_any 1 n2 W
 clear hQ
 have HPP : Hid (p ≠ w.heap.size ∧ p ≠ w.heap.size + 1 ∧ p ≠ w2.heap.size ∧ w.heap.size + 2 <= p) := ⟨by omega,by omega,by omega,by omega⟩
 clear has hsq hcu h1 h2 HB1 hbK c1
 go_upto_region 3 with fail
 rw [<- hwK]
 clear hwK
 go_region_held3 (fun W => W.cell? ⟨w2.heap.size,0,none⟩ = some (.int .i64 z) ∧ W.cell? ⟨w2.heap.size,1,none⟩ = some (.slice a2 n2 c2) ∧ W.cell? ⟨w.heap.size,0,none⟩ = some (cvD w.heap.size 0 W) ∧ W.cell? ⟨w.heap.size,1,none⟩ = some (cvD w.heap.size 1 W) ∧ W.cell? ⟨w.heap.size + 1,0,none⟩ = some (cvD (w.heap.size + 1) 0 W) ∧ W.cell? ⟨w.heap.size + 1,1,none⟩ = some (cvD (w.heap.size + 1) 1 W) ∧ W.cell? ⟨w.heap.size + 1,2,none⟩ = some (cvD (w.heap.size + 1) 2 W) ∧ W.frozen? ⟨w.heap.size,0,none⟩ = false ∧ W.frozen? ⟨w.heap.size,1,none⟩ = false ∧ W.frozen? ⟨w.heap.size + 1,0,none⟩ = false ∧ W.frozen? ⟨w.heap.size + 1,1,none⟩ = false ∧ W.frozen? ⟨w.heap.size + 1,2,none⟩ = false)
  (with_reducible refine DidSt.has ?_; repeat (first | with_reducible exact HX.out | with_reducible exact HK1.out | with_reducible refine DidSt.drew ?_ | with_reducible refine DidSt.set1 ?_ _ (by decide) _ | with_reducible refine DidSt.set0 ?_ _ (by decide) _))
  (first
   | (go_at_call 28; refine (HMX _).out.mono ?_; rintro e w4 ⟨rfl,rfl⟩)
   | (go_at_call 27; refine (hd p _ _ (cur_drewD HCU.out) HQ9.out).mono ?_; rintro e w5 ⟨kd,sq,tx,rfl,htx,hcu,has⟩; have HK1 := hide (HX.out.drew.asd has HPP.out.1 HPP.out.2.1 HPP.out.2.2.1))
   | fail)
 all_goals
  obtain ⟨e0,e1,ha⟩ := did_end HK1.out (.int .i64 z) (.slice a2 n2 c2) (.int .i64 kd) (.int .i64 sq) (.string tx)
  have HE0 := hide e0
  have HE1 := hide e1
  have HA9 := hide ha
  have hps := HPP.out
  have hsz := has.size
  have HS5 := hide (HSQ.out.aside (has.trans_drewD) (.inr (by omega)))
  have HB5 := hide (HBK.out.trans ((has.trans_drewD).below (B := w.heap.size) (by omega) HBK.out.size))
  clear e0 e1 ha has hcu
  go_wp2_with fail
  refine bodyPost_ret (results_ccD rfl rfl rfl (run_loadVar_row _ _ _ _ _ _ _ HE0.out Try.underlying26 rfl (by kernel_rfl)) (run_loadVar_row _ _ _ _ _ _ _ HE1.out Try.underlying30 rfl (by kernel_rfl))) rfl ⟨z,a2,n2,c2,qs,kd,sq,tx,rfl,hn2,htx,hf,hl,?_,HB5.out.trans (HA9.out.below (Nat.le_refl _) HB5.out.size)⟩
  have h9 := HA9.out.size
  exact (HS5.out.aside HA9.out (.inr (by omega))).wideLo (by omega) (Nat.le_trans HS5.out.hi_leD h9)
end Go.Proofs.Ytfogmdnkpkofiaa
