/- . -/
import Derived.Test.YtgjoepdfhadmcaaGreatDoorFCacheFlushT
import Derived.Sort.CutIn
namespace Go.Proofs.YtgjoepdfhadmcaaGreatDoor
open Go.RowKit Go.Shelf
set_option linter.unusedVariables false
set_option linter.unusedSimpArgs false
set_option maxRecDepth 100000
attribute [local go_sem] Oper.semAt_some
theorem run_loadVar_bool {w : World} {b : Nat} {v : Value} (h : w.heap[b]? = some (.cells #[v] 4 (0,0))) : (loadVar 4 ⟨b,0,none⟩).run Tryz.prog w = .ok v w := by
 have hc : w.cell? ⟨b,0,none⟩ = some v := by simp [World.cell?,h]
 simp [loadVar,Tryz.isAgg4,go_sem,hc]
theorem calls_round {l n : Nat} {P : Program} {f : FuncId} {args : Array Value} {w : World} {R : Ending -> World -> Prop} (h : Calls P f args w R) : CallsIn (Fence.wide.inRound l) n P f args w R := callsIn_wide.2 h
def FlEnd (w : World) (P : Nat) (c : Cv) (b : Bool) (W : World) : Prop := ∃ ai ci a cp am cm,W.heap[w.heap.size + 1]? = some (.cells #[.int .i64 c.rm,.slice ai c.ys.length ci,.int .i64 c.f.z,.slice a c.f.qs.length cp,.slice am c.f.ps.length cm,.int .i64 c.f.op,.int .i64 c.f.st] 65) ∧ W.heap[w.heap.size + 1 + 1]? = some (.cells #[.bool b] 4) ∧ (∃ lo,P + 4 <= lo ∧ CacheOwn lo W.heap.size W ai a am c.ys c.f.qs c.f.ps) ∧ Below w.heap.size w W ∧ c.f.ps.length <= cm ∧ w.heap.size + 1 + 1 + 1 <= P
theorem FlEnd.put {w : World} {P : Nat} {c : Cv} {b : Bool} {W W' : World} (h : FlEnd w P c b W) (hA : Aside (P + 2) (P + 4) W W') : FlEnd w P c b W' := by
 obtain ⟨ai,ci,a,cp,am,cm,k1,k2,⟨lo,k3,k4⟩,k5,k6,k7⟩ := h
 have hs := hA.size
 have key : ∀ {q : Nat} {o : Obj},q < P + 2 -> W.heap[q]? = some o -> W'.heap[q]? = some o := fun {q o} hq ho => (hA.block q (Array.getElem?_eq_some_iff.1 ho).1 (.inl hq)).trans ho
 exact ⟨ai,ci,a,cp,am,cm,key (by omega) k1,key (by omega) k2,⟨lo,k3,(k4.aside hA (.inl (by omega))).wide (Nat.le_refl _) hs (Nat.le_refl _)⟩,k5.trans (hA.below (by omega) k5.size),k6,k7⟩
theorem FlEnd.ans {w : World} {P : Nat} {c : Cv} {b : Bool} {W : World} (h : FlEnd w P c b W) : ∃ ai ci a cp am cm,W.heap[w.heap.size + 1]? = some (.cells #[.int .i64 c.rm,.slice ai c.ys.length ci,.int .i64 c.f.z,.slice a c.f.qs.length cp,.slice am c.f.ps.length cm,.int .i64 c.f.op,.int .i64 c.f.st] 65) ∧ W.heap[w.heap.size + 1 + 1]? = some (.cells #[.bool b] 4) ∧ CacheAns w c (cvV c ai ci a cp am cm) W := by
 obtain ⟨ai,ci,a,cp,am,cm,k1,k2,⟨lo,k3,k4⟩,k5,k6,k7⟩ := h
 exact ⟨ai,ci,a,cp,am,cm,k1,k2,ai,ci,a,cp,am,cm,rfl,k4.wide (by omega) (Nat.le_refl _) (Nat.le_refl _),k5,k6⟩
theorem Keep2.trans {D : Nat} {A B C : World} (h : Keep2 D A B) (k : Keep2 D B C) : Keep2 D A C := ⟨k.1.trans h.1,k.2.trans h.2⟩
theorem keep2_aside {D lo hi : Nat} {A B : World} (h : Aside lo hi A B) (h1 : hi <= D) (h2 : D + 1 < A.heap.size) : Keep2 D A B := ⟨h.block D (by omega) (.inr (by omega)),h.block (D + 1) h2 (.inr (by omega))⟩
theorem keep2_below {D : Nat} {A B : World} (h : Below A.heap.size A B) (h2 : D + 1 < A.heap.size) : Keep2 D A B := ⟨h.block D (by omega),h.block (D + 1) h2⟩
def BackOut (W : World) (L P l1 r1 : Nat) (F : Fv) (x : Hd) (r : Ending) (V : World) : Prop :=
 (∃ F' a4 cp4 am4 cm4,r = .returned (.tuple #[fvV F' a4 cp4 am4 cm4,.bool true]) ∧ backD F x = some F' ∧ F'.ps.length <= cm4 ∧ (∃ l2 r2,FtlOwn l2 r2 V a4 am4 F'.qs F'.ps ∧ L <= l2 ∧ ((r2 <= P ∧ (r1 <= l2 ∨ r2 <= l1)) ∨ P + 4 <= l2)) ∧ Below W.heap.size W V) ∨
 (∃ F' a4 cp4 am4 cm4,r = .returned (.tuple #[fvV F' a4 cp4 am4 cm4,.bool false]) ∧ backD F x = none ∧ Below W.heap.size W V)
theorem back_out {W V : World} {L P l1 r1 : Nat} {F : Fv} {xa : Int} {xt : ByteArray} {xd : Bool} {v : Value} {a3 : Option Addr} {cp3 : Nat} {am3 : Option Addr} {cm3 : Nat} (hcm : F.ps.length <= cm3) (ho : ∃ l2 r2,FtlOwn l2 r2 W a3 am3 F.qs F.ps ∧ L <= l2 ∧ ((r2 <= P ∧ (r1 <= l2 ∨ r2 <= l1)) ∨ P + 4 <= l2)) (hz : P + 4 <= W.heap.size ∧ L <= P) (h : BackTo W F (xa,xt,xd) v V a3 cp3 am3 cm3) : BackOut W L P l1 r1 F (xa,xt,xd) (.returned v) V := by
 rcases h with ⟨h1,rfl,hb⟩ | ⟨h1,u,rfl,a4,c4,am4,cm4,rfl,h3,hb,h4⟩
 ·obtain ⟨l2,r2,o1,o2⟩ := ho
  dsimp only at h1
  exact .inl ⟨F,a3,cp3,am3,cm3,rfl,by unfold backD; rw [show (xa,xt,xd).2.2 = xd from rfl,h1]; rfl,hcm,⟨l2,r2,o1.later hb o1.1,o2⟩,hb⟩
 ·dsimp only at h1
  have hbd : backD F (xa,xt,xd) = backF F (xa,xt,xd) := by unfold backD; rw [show (xa,xt,xd).2.2 = xd from rfl,h1]; rfl
  cases hf : backF F (xa,xt,xd) with
  | some F' =>
   rw [hf] at h3 h4
   exact .inl ⟨F',a4,c4,am4,cm4,rfl,by rw [hbd,hf],h4,⟨W.heap.size,V.heap.size,h3,by omega,.inr hz.1⟩,hb⟩
  | none =>
   exact .inr ⟨_,a4,c4,am4,cm4,rfl,by rw [hbd,hf],hb⟩
set_option maxHeartbeats 800000 in
theorem backward_in (F : Fence) (m : Nat) (hf : F.fn 114) (hro : F.round = none) (a : Option Addr) (n c : Nat) (w : World) :
  CallsIn F m Tryz.prog 114 #[.slice a n c] w fun e w' => e = .returned (.func (.func 166) #[] #[.pointer (some ⟨w.heap.size,0,none⟩)]) ∧ w' = w.alloc (.cells #[.slice a n c] 63) := by
 refine callsIn_of_wp Tryz.func114 rfl hf ?_ hro
 simp only [Tryz.ntmps114,List.size_toArray,List.length_cons,List.length_nil,Nat.reduceAdd,Nat.reduceSub,Array.replicate_succ,Array.replicate_zero,List.push_toArray,List.append_toArray,List.nil_append,List.cons_append]
 gi_wp2
 go_ret
 exact ⟨rfl,rfl⟩
set_option maxHeartbeats 3200000 in
theorem implFlush_yes (rm : Int) (ai : Option Addr) (ni ci : Nat) (ys : List Hd) (z : Int) (a : Option Addr) (n cap : Nat) (qs : List Sq) (am : Option Addr) (m cm : Nat) (ps : List Pl) (op st : Int) (w : World) {l1 r1 lo hi lo' hi' : Nat} (hy : Helds l1 r1 w ai ni ys) (hr1 : r1 <= w.heap.size) (hni : ni <= 1048576) (hfy : ∀ x ∈ ys,hdFits x) (h : Squares lo hi w a n qs) (hhi : hi <= w.heap.size) (hn : n <= 1048576) (hf : ∀ x ∈ qs,sqFits x) (hp : Places lo' hi' w am m ps) (hhi' : hi' <= w.heap.size) (hm : m <= 1048576) (hcl : m <= cm) (hT : Tab w) {aB aL aS aC aF aN : Addr} (E : Errs w aB aL aS aC aF) (hN : w.cell? ⟨1,0,none⟩ = some (noRoomV aN)) (hco : cacheOk ⟨rm,ys,⟨z,qs,ps,op,st⟩⟩ = true) :
  Calls Tryz.prog 41 #[.agg #[.int .i64 rm,.slice ai ni ci,.int .i64 z,.slice a n cap,.slice am m cm,.int .i64 op,.int .i64 st]] w fun e w' => ∃ v,e = .returned (.tuple #[v,.bool (flushB ⟨rm,ys,⟨z,qs,ps,op,st⟩⟩)]) ∧ CacheAns w (flushF ⟨rm,ys,⟨z,qs,ps,op,st⟩⟩) v w' := by
 have e1 := hy.1
 have e2 := h.1
 have e3 := hp.1
 subst e1 e2 e3
 obtain ⟨wA,hwA⟩ : ∃ wA,wA = ((w.alloc (.cells #[.int .i64 rm,.slice ai ys.length ci,.int .i64 z,.slice a qs.length cap,.slice am ps.length cm,.int .i64 op,.int .i64 st] 65)).alloc (.cells #[.int .i64 0,.slice none 0 0,.int .i64 0,.slice none 0 0,.slice none 0 0,.int .i64 0,.int .i64 0] 65)).alloc (.cells #[.bool false] 4) := ⟨_,rfl⟩
 have hzA : wA.heap.size = w.heap.size + 1 + 1 + 1 := by rw [hwA]; simp
 have HBA : Hid (Below w.heap.size w wA) := by rw [hwA]; exact (((Below.refl _ _).alloc (Nat.le_refl _) _).alloc (by simp) _).alloc (by simp; omega) _
 have H0 : Hid (wA.heap[w.heap.size]? = some (.cells #[.int .i64 rm,.slice ai ys.length ci,.int .i64 z,.slice a qs.length cap,.slice am ps.length cm,.int .i64 op,.int .i64 st] 65)) := by rw [hwA]; exact heap_old (heap_old (heap_new _ _))
 have H1 : Hid (wA.heap[w.heap.size + 1]? = some (.cells #[.int .i64 0,.slice none 0 0,.int .i64 0,.slice none 0 0,.slice none 0 0,.int .i64 0,.int .i64 0] 65)) := by rw [hwA]; exact heap_old (heap_at (by simp))
 have H2 : Hid (wA.heap[w.heap.size + 1 + 1]? = some (.cells #[.bool false] 4)) := by rw [hwA]; exact heap_at (by simp)
 have HY0 := hide hy
 have HS0 := hide h
 have HP0 := hide hp
 have HF := hide hf
 have HFY := hide hfy
 have HT := hide hT
 have HE := hide E
 have HNR := hide hN
 have HCO := hide hco
 clear h hp hf hy hfy hT E hN
 obtain ⟨c0,c1,c2,c3,c4,c5,c6⟩ := seven_cells H0.out
 refine (callsIn_wide (n := 6)).1 ?_
 refine callsIn_of_wp_marks Tryz.func41 rfl trivial ?_ rfl
 simp only [Tryz.ntmps41,List.size_toArray,List.length_cons,List.length_nil,Nat.reduceAdd,Nat.reduceSub,Array.replicate_succ,Array.replicate_zero,List.push_toArray,List.append_toArray,List.nil_append,List.cons_append]
 gi_wp2_with fail
 rw [<- hwA]
 clear hwA
 refine ⟨trivial,?_⟩
 refine (callsIn_wide.2 (implCacheOk_any rm ai ys.length ci ys z a qs.length cap qs am ps.length cm ps op st wA (HY0.out.later HBA.out hr1) (by omega) hni HFY.out (HS0.out.later HBA.out hhi) (by omega) hn HF.out (HP0.out.later HBA.out hhi') (by omega) hm hcl (HT.out.here HBA.out) (HE.out.here HBA.out))).mono ?_
 rw [HCO.out]
 rintro e w1 ⟨rfl,b1⟩
 have K0 := hide (block_on H0.out b1)
 have K1 := hide (block_on H1.out b1)
 have K2 := hide (block_on H2.out b1)
 have HB1 := hide (below_here HBA.out b1)
 have hs1 := b1.size
 clear b1 c0 c1 c2 c3 c4 c5 c6 H0 H1 H2 HBA
 obtain ⟨c0,c1,c2,c3,c4,c5,c6⟩ := seven_cells K0.out
 have hC := cacheOk_iff.1 hco
 have hfo : ftlOk z qs ps op st = true := hC.ftl
 obtain ⟨hmo,_,_,_,_,_,_⟩ := ftlOk_parts hfo
 have hm64 : ps.length <= 64 := (mapOk_len hmo).2
 have hm1 : 1 <= ps.length := (mapOk_len hmo).1
 have h16 : ys.length <= 16 := by have := hC.len; have := hC.r1; dsimp only at *; omega
 have HCK := hide (mapOk_chip hmo)
 have HC := hide hC
 clear hmo hco hC
 have HCP : ∀ W,Hid (Below w.heap.size w W -> Calls Tryz.prog 108 #[.agg #[.int .i64 rm,.slice ai ys.length ci,.int .i64 z,.slice a qs.length cap,.slice am ps.length cm,.int .i64 op,.int .i64 st]] W fun e w' => ∃ v,e = .returned v ∧ CacheAns2 W ⟨rm,ys,⟨z,qs,ps,op,st⟩⟩ v w') := fun W hb => copyOfCache_any rm ai ys.length ci ys z a qs.length cap qs am ps.length cm ps op st W (HY0.out.later hb hr1) (Nat.le_trans hr1 hb.size) (by omega) (fun i hi => by have := (HC.out.item i hi).2.2; dsimp only at this; omega) (HS0.out.later hb hhi) (Nat.le_trans hhi hb.size) HCK.out (HP0.out.later hb hhi') (Nat.le_trans hhi' hb.size) hm1 hm64
 gi_wp2_with fail
 refine ⟨trivial,?_⟩
 refine (callsIn_wide.2 ((HCP w1).out HB1.out)).mono ?_
 rintro e w2 ⟨v,rfl,aj,cj,a2,cp2,am2,cm2,rfl,hown2,b2,hcm2,hcj2⟩
 unfold cvV
 dsimp only
 dsimp only at hown2 hcm2 hcj2
 obtain ⟨w3,hw3⟩ : ∃ w3,w3 = w2.alloc (.cells #[.int .i64 rm,.slice aj ys.length cj,.int .i64 z,.slice a2 qs.length cp2,.slice am2 ps.length cm2,.int .i64 op,.int .i64 st] 65) := ⟨_,rfl⟩
 obtain ⟨w4,hw4⟩ : ∃ w4,w4 = w3.alloc (.cells #[.slice aj ys.length cj] 63) := ⟨_,rfl⟩
 have hz3 : w3.heap.size = w2.heap.size + 1 := by rw [hw3]; simp
 have hz4 : w4.heap.size = w2.heap.size + 2 := by rw [hw4]; simp; omega
 obtain ⟨hq0,l1',r1',l2',r2',hq1,hq2,hq3,hq4,hq5,hq6,hq7⟩ := hown2
 have HST : Hid (∀ o o',FlSt w #[.int .i64 rm,.slice ai ys.length ci,.int .i64 z,.slice a qs.length cap,.slice am ps.length cm,.int .i64 op,.int .i64 st] w1.heap.size w2.heap.size l1' r1' aj cj rm ys ⟨z,qs,ps,op,st⟩ ((w4.alloc o).alloc o')) := by
  intro o o'
  have hb3 : Below w2.heap.size w2 w3 := by rw [hw3]; exact (Below.refl _ _).alloc (Nat.le_refl _) _
  have hb4 : Below w3.heap.size w3 w4 := by rw [hw4]; exact (Below.refl _ _).alloc (Nat.le_refl _) _
  have hb5 : Below w4.heap.size w4 ((w4.alloc o).alloc o') := ((Below.refl _ _).alloc (Nat.le_refl _) _).alloc (by simp) _
  have hbb := below_here (below_here hb3 hb4) hb5
  have hs5 : ((w4.alloc o).alloc o').heap.size = w2.heap.size + 4 := by simp; omega
  have hm3 : w3.heap[w2.heap.size]? = some (.cells #[.int .i64 rm,.slice aj ys.length cj,.int .i64 z,.slice a2 qs.length cp2,.slice am2 ps.length cm2,.int .i64 op,.int .i64 st] 65) := by rw [hw3]; exact heap_new _ _
  have hm4 : w4.heap[w2.heap.size + 1]? = some (.cells #[.slice aj ys.length cj] 63) := by rw [hw4]; exact heap_at (by omega)
  have hb2s := b2.size
  exact ⟨block_on (block_on K0.out b2) hbb,block_on (block_on K1.out b2) hbb,block_on (block_on K2.out b2) hbb,block_on hm4 hb5,⟨a2,cp2,am2,cm2,block_on (block_on hm3 hb4) hb5,hcm2,l2',r2',hq7.later hbb (by omega),hq3,.inl ⟨by omega,by omega⟩⟩,hq6.later hbb (by omega),below_here (below_here HB1.out b2) hbb,by omega⟩
 have HB4 : Hid (w.heap.size + 1 + 1 + 1 <= w4.heap.size) := by have := b2.size; show _ <= _; omega
 have HZ4 := hide hz4
 clear hz3 hz4 b2 hcm2 hcj2 hq0 hq1 hq2 hq3 hq4 hq5 hq6 hq7 K0 K1 K2 c0 c1 c2 c3 c4 c5 c6
 have m1 : w3.cell? ⟨w2.heap.size,1,none⟩ = some (.slice aj ys.length cj) := by rw [hw3]; exact (seven_cells (heap_new _ _)).2.1
 gi_wp2_with fail
 rw [<- hw3]
 refine ⟨trivial,?_⟩
 refine (backward_in Fence.wide _ trivial rfl aj ys.length cj w3).mono ?_
 rintro e w5 ⟨rfl,rfl⟩
 have hzz : w3.heap.size = w2.heap.size + 1 := by rw [hw3]; simp
 rw [<- hw4,hzz]
 clear hw4 hw3 hzz m1
 gi_wp2_with fail
 have hZ4 : w4.heap.size = w2.heap.size + 2 := HZ4.out
 refine wpIn_rangeFunc_num (F := Fence.wide) rfl (by decide) (gf := 166) (lb := #[.pointer (some ⟨w2.heap.size + 1,0,none⟩)]) rfl trivial (enters_of Tryz.func166 (by kernel_rfl) rfl)
  (back_seq Fence.wide (6 - 1) trivial rfl (by decide) (w2.heap.size + 1) aj ys.length cj ys (by omega)) (fun _ => rfl)
  (fun k W => ∃ YS F,flushN ys ⟨z,qs,ps,op,st⟩ k = some (YS,F) ∧ FlSt w #[.int .i64 rm,.slice ai ys.length ci,.int .i64 z,.slice a qs.length cap,.slice am ps.length cm,.int .i64 op,.int .i64 st] w1.heap.size w2.heap.size l1' r1' aj cj rm YS F W)
  (fun W => flushO ⟨rm,ys,⟨z,qs,ps,op,st⟩⟩ = none ∧ FlEnd w w2.heap.size ⟨rm,ys,⟨z,qs,ps,op,st⟩⟩ false W)
  ?hI ?hIx ?hM ?h0
  (fun k a' W => ∃ X,a' = { tmps := #[.agg #[.int .i64 rm,.slice ai ys.length ci,.int .i64 z,.slice a qs.length cap,.slice am ps.length cm,.int .i64 op,.int .i64 st],.pointer (some ⟨w.heap.size,0,none⟩),.pointer (some ⟨w.heap.size + 1,0,none⟩),.pointer (some ⟨w.heap.size + 1 + 1,0,none⟩),.pointer (some ⟨w2.heap.size,0,none⟩),.int .i64 ((ys.length : Int) - 1 - (k : Int)),.pointer (some ⟨X,0,none⟩),undef,undef,.agg #[.int .i64 rm,.slice ai ys.length ci,.int .i64 z,.slice a qs.length cap,.slice am ps.length cm,.int .i64 op,.int .i64 st],.bool true,.bool false,undef,.agg #[.int .i64 rm,.slice ai ys.length ci,.int .i64 z,.slice a qs.length cap,.slice am ps.length cm,.int .i64 op,.int .i64 st],.agg #[.int .i64 rm,.slice aj ys.length cj,.int .i64 z,.slice a2 qs.length cp2,.slice am2 ps.length cm2,.int .i64 op,.int .i64 st],.pointer (some ⟨w2.heap.size,1,none⟩),.slice aj ys.length cj,.func (.func 166) #[] #[.pointer (some ⟨w2.heap.size + 1,0,none⟩)],.int .i64 ((ys.length : Int) - 1 - (k : Int)),.agg #[.int .i64 (hdAt ys (ys.length - 1 - k)).1,.string (hdAt ys (ys.length - 1 - k)).2.1,.bool (hdAt ys (ys.length - 1 - k)).2.2],undef,undef,undef,undef,undef,undef,undef,undef,undef,undef,undef,undef,undef,undef,undef,undef,undef,undef,undef],defers := [] } ∧ W.heap[X]? = some (.cells #[.int .i64 (hdAt ys (ys.length - 1 - k)).1,.string (hdAt ys (ys.length - 1 - k)).2.1,.bool (hdAt ys (ys.length - 1 - k)).2.2] 83) ∧ w2.heap.size + 4 <= X ∧ ∃ YS F,flushN ys ⟨z,qs,ps,op,st⟩ k = some (YS,F) ∧ FlSt w #[.int .i64 rm,.slice ai ys.length ci,.int .i64 z,.slice a qs.length cap,.slice am ps.length cm,.int .i64 op,.int .i64 st] w1.heap.size w2.heap.size l1' r1' aj cj rm YS F W)
  ?hI2 ?assign ?body ?done ?stop
 case hI =>
  rintro k W o ⟨YS,F,e,hs⟩
  exact ⟨YS,F,e,hs.put (aside_putObj W _ o (by omega) (by omega))⟩
 case hIx =>
  rintro W o ⟨e,hs⟩
  exact ⟨e,hs.put (aside_putObj W _ o (by omega) (by omega))⟩
 case hM =>
  rintro k W ⟨YS,F,e,hs⟩
  have hk := flush_kept (f := ⟨z,qs,ps,op,st⟩) hfo e
  refine ⟨?_,l1',r1',YS,?_,fun j hj => flush_low e j hj⟩
  ·have := hs.hdr
   rw [hk.2.1] at this
   simp [World.cell?,this]
  ·have := hs.items.helds
   rw [hk.2.1] at this
   exact this
 case h0 =>
  intro o o'
  exact ⟨ys,_,rfl,HST.out o o'⟩
 case hI2 =>
  rintro k a' W o ⟨X,e1,e2,e3,YS,F,e4,hs⟩
  exact ⟨X,e1,(World.putObj_heap_other (by omega)).trans e2,e3,YS,F,e4,hs.put (aside_putObj W _ o (by omega) (by omega))⟩
 case assign =>
  rintro l k W K ⟨YS,F,e,hs⟩ hk hK
  have hzW : w2.heap.size + 4 <= W.heap.size := hs.far.2.2.2.2
  have HK : Hid (K _ (W.alloc (.cells #[.int .i64 (hdAt ys (ys.length - 1 - k)).1,.string (hdAt ys (ys.length - 1 - k)).2.1,.bool (hdAt ys (ys.length - 1 - k)).2.2] 83))) := hK _ _ ⟨by rw [hZ4]; exact Below.heap_alloc _ _ _ (by omega),by rw [hZ4]; exact Below.heap_alloc _ _ _ (by omega)⟩ ⟨W.heap.size,rfl,heap_new _ _,hzW,YS,F,e,hs.on ((Below.refl _ _).alloc (Nat.le_refl _) _)⟩
  clear hK
  unfold backEnc
  gi_wp2
  exact HK.out
 case body =>
  rintro l k a' W ⟨X,rfl,hX,hX4,YS,F,e,hs⟩ hk
  have hkept := flush_kept (f := ⟨z,qs,ps,op,st⟩) hfo e
  obtain ⟨q,hq⟩ : ∃ q,q = ys.length - 1 - k := ⟨_,rfl⟩
  have hqI : (ys.length : Int) - 1 - (k : Int) = (q : Int) := by omega
  have hqn : q < ys.length := by omega
  have hlow : hdAt YS q = hdAt ys q := flush_low e q (by omega)
  have HNX : Hid (flushN ys ⟨z,qs,ps,op,st⟩ (k + 1) = (backD F (hdAt ys q)).map fun f' => (YS.set q (cleanH (hdAt YS q)),f')) := by
   show _ = _
   rw [hlow]
   unfold flushN
   rw [e,<- hq]
   rfl
  have HND : Hid (backD F (hdAt ys q) = none -> flushO ⟨rm,ys,⟨z,qs,ps,op,st⟩⟩ = none) := fun hb => by
   have h1 : flushN ys ⟨z,qs,ps,op,st⟩ (k + 1) = none := by rw [HNX.out,hb]; rfl
   have h2 := flush_none h1 (ys.length - (k + 1))
   rw [show k + 1 + (ys.length - (k + 1)) = ys.length by omega] at h2
   unfold flushO
   dsimp only
   rw [h2]
   rfl
  rw [<- hq] at hX ⊢
  rw [hqI]
  obtain ⟨a3,cp3,am3,cm3,k1,k2,k3⟩ := hs.own
  obtain ⟨a3',cp3',am3',cm3',k1',_,hsq,hpl⟩ := hs.squares
  have hee := k1.symm.trans k1'
  simp only [Option.some.injEq,Obj.cells.injEq,Array.mk.injEq,List.cons.injEq,Value.slice.injEq,true_and,and_true] at hee
  obtain ⟨⟨rfl,rfl⟩,rfl,rfl⟩ := hee
  obtain ⟨m0,m1,m2,m3,m4,m5,m6⟩ := seven_cells k1
  have hlenY : YS.length = ys.length := hkept.2.1
  have HST2 := hide hs
  have HFA := hide hs.far
  have hgX : X < W.heap.size := (Array.getElem?_eq_some_iff.1 hX).1
  generalize hdAt ys q = x at *
  obtain ⟨xa,xt,xd⟩ := x
  dsimp only at hX ⊢
  obtain ⟨x0,x1,x2⟩ := three_cells hX
  have HWB : Hid (Calls Tryz.prog 115 #[.agg #[.int .i64 F.z,.slice a3 F.qs.length cp3,.slice am3 F.ps.length cm3,.int .i64 F.op,.int .i64 F.st],.agg #[.int .i64 xa,.string xt,.bool xd]] W fun r V => BackOut W w1.heap.size w2.heap.size l1' r1' F (xa,xt,xd) r V) := by
   refine (writtenBack_any F a3 F.qs.length cp3 am3 F.ps.length cm3 xa xt xd W hsq (Nat.le_refl _) hpl (Nat.le_refl _) hkept.1 k2 (HT.out.here hs.below) (HE.out.here hs.below) ((hs.below.cell (p := ⟨1,0,none⟩) (World.block_lt_of_cell? _ _ HNR.out)).trans HNR.out)).mono ?_
   rintro r V ⟨v,rfl,hb⟩
   exact back_out k2 k3 ⟨hs.far.2.2.2.2,hs.far.2.2.2.1⟩ hb
  have HQI := hide hqI
  have HLY := hide hlenY
  clear k1 k2 k3 k1' hsq hpl hlow e hq hX hZ4 hkept hlenY hqI hs
  gi_wp2_with fail
  refine ⟨trivial,?_⟩
  refine (calls_round HWB.out).mono ?_
  rintro r V (⟨F',a4,cp4,am4,cm4,rfl,hbd,hcm4,hown4,bV⟩ | ⟨F',a4,cp4,am4,cm4,rfl,hbd,bV⟩)
  ·unfold fvV
   have HNS : Hid (flushN ys ⟨z,qs,ps,op,st⟩ (k + 1) = some (YS.set q (cleanH (hdAt YS q)),F')) := by show _ = _; rw [HNX.out,hbd]; rfl
   obtain ⟨V2,hV2⟩ : ∃ V2,V2 = V.alloc (.cells #[.int .i64 F'.z,.slice a4 F'.qs.length cp4,.slice am4 F'.ps.length cm4,.int .i64 F'.op,.int .i64 F'.st] 29) := ⟨_,rfl⟩
   have hb2 : Below V.heap.size V V2 := by rw [hV2]; exact (Below.refl _ _).alloc (Nat.le_refl _) _
   have HY2 : Hid (V2.heap[V.heap.size]? = some (.cells #[.int .i64 F'.z,.slice a4 F'.qs.length cp4,.slice am4 F'.ps.length cm4,.int .i64 F'.op,.int .i64 F'.st] 29)) := by rw [hV2]; exact heap_new _ _
   have hbV2 := below_here bV hb2
   have hsV := HST2.out.on hbV2
   have HO4 : Hid (∃ l2 r2,FtlOwn l2 r2 V2 a4 am4 F'.qs F'.ps ∧ w1.heap.size <= l2 ∧ ((r2 <= w2.heap.size ∧ (r1' <= l2 ∨ r2 <= l1')) ∨ w2.heap.size + 4 <= l2)) := by
    obtain ⟨l2,r2,o1,o2⟩ := hown4
    exact ⟨l2,r2,o1.later hb2 o1.1,o2⟩
   obtain ⟨hnx,hA3⟩ := hsV.next (cp := cp4) hcm4 HO4.out
   obtain ⟨a0,cp0,am0,cm0,kP,_⟩ := hsV.own
   obtain ⟨p0,p1,p2,p3,p4,p5,p6⟩ := seven_cells kP
   have g2 := four_frozen kP 2
   have g3 := four_frozen kP 3
   have g4 := four_frozen kP 4
   have g5 := four_frozen kP 5
   have g6 := four_frozen kP 6
   obtain ⟨y0,y1,y2,y3,y4⟩ := five_cells HY2.out
   have HKE1 : Hid (Keep2 w4.heap.size W V2) := keep2_below hbV2 (by have := HZ4.out; have := HFA.out; omega)
   obtain ⟨V3,hV3⟩ : ∃ V3,V3 = (((((V2.setCell ⟨w2.heap.size,2,none⟩ (.int .i64 F'.z)).setCell ⟨w2.heap.size,3,none⟩ (.slice a4 F'.qs.length cp4)).setCell ⟨w2.heap.size,4,none⟩ (.slice am4 F'.ps.length cm4)).setCell ⟨w2.heap.size,5,none⟩ (.int .i64 F'.op)).setCell ⟨w2.heap.size,6,none⟩ (.int .i64 F'.st)) := ⟨_,rfl⟩
   rw [<- hV3] at hnx hA3
   have HKE2 : Hid (Keep2 w4.heap.size W V3) := HKE1.out.trans (keep2_aside hA3 (by have := HZ4.out; omega) (by have := HZ4.out; have := hsV.far; omega))
   obtain ⟨b,off,rfl,c2,f2,hcl,hA4⟩ := hnx.clean (i := q) (by rw [HLY.out]; exact hqn)
   obtain ⟨a5,cp5,am5,cm5,kP3,_⟩ := hnx.own
   obtain ⟨_,s1,_⟩ := seven_cells kP3
   have HCL := hide hcl
   have HKE4 : Hid (Keep2 w4.heap.size W (V3.setCell ⟨b,off + q * 3 + 2,none⟩ (.bool false))) := HKE2.out.trans (keep2_aside hA4 (by have := HZ4.out; have := hnx.far; omega) (by have := HZ4.out; have := hnx.far; omega))
   have hqI2 : (q : Int) < (YS.length : Int) := by have := HLY.out; omega
   clear hbd hcm4 hown4 bV hb2 hbV2 hsV hnx hA3 kP kP3 hcl hA4 HWB HNX HND m0 m1 m2 m3 m4 m5 m6 x0 x1 x2
   gi_upto_region 10 with fail
   rw [<- hV2]
   clear hV2
   gi_upto_region 11 with fail
   rw [<- hV3]
   clear hV3 p0 p1 p2 p3 p4 p5 p6 g2 g3 g4 g5 g6 y0 y1 y2 y3 y4
   gi_wp2
   exact ⟨HKE4.out,_,_,HNS.out,HCL.out⟩
  ·unfold fvV
   have HNO : Hid (flushO ⟨rm,ys,⟨z,qs,ps,op,st⟩⟩ = none) := HND.out hbd
   obtain ⟨V2,hV2⟩ : ∃ V2,V2 = V.alloc (.cells #[.int .i64 F'.z,.slice a4 F'.qs.length cp4,.slice am4 F'.ps.length cm4,.int .i64 F'.op,.int .i64 F'.st] 29) := ⟨_,rfl⟩
   have hb2 : Below V.heap.size V V2 := by rw [hV2]; exact (Below.refl _ _).alloc (Nat.le_refl _) _
   have hbV2 := below_here bV hb2
   have hsV := HST2.out.on hbV2
   have HSV := hide hsV
   obtain ⟨t0,t1,t2,t3,t4,t5,t6⟩ := seven_cells hsV.box
   have HKE1 : Hid (Keep2 w4.heap.size W V2) := keep2_below hbV2 (by have := HZ4.out; have := HFA.out; omega)
   clear hbd bV hb2 hbV2 hsV HWB HNX HND m0 m1 m2 m3 m4 m5 m6 x0 x1 x2
   gi_upto_region 9 with fail
   rw [<- hV2]
   clear hV2
   gi_wp2_with fail
   refine ⟨trivial,?_⟩
   refine (calls_round ((HCP V2).out HSV.out.below)).mono ?_
   rintro r V3 ⟨v,rfl,aq,cq,a6,cp6,am6,cm6,rfl,hown6,b6,hcm6,_⟩
   unfold cvV
   dsimp only at hown6 hcm6 ⊢
   have hs3 := HSV.out.on b6
   obtain ⟨d0,d1,d2,d3,d4,d5,d6⟩ := seven_cells hs3.one
   have f0 := four_frozen hs3.one 0
   have f1 := four_frozen hs3.one 1
   have f2 := four_frozen hs3.one 2
   have f3 := four_frozen hs3.one 3
   have f4 := four_frozen hs3.one 4
   have f5 := four_frozen hs3.one 5
   have f6 := four_frozen hs3.one 6
   have y2 : V3.cell? ⟨w.heap.size + 1 + 1,0,none⟩ = some (.bool false) := by simp [World.cell?,hs3.two]
   have yf := four_frozen hs3.two 0
   have HRS := hide (seven_set hs3.one (.int .i64 rm) (.slice aq ys.length cq) (.int .i64 z) (.slice a6 qs.length cp6) (.slice am6 ps.length cm6) (.int .i64 op) (.int .i64 st))
   have HAS := hide (seven_aside (b := w.heap.size + 1) (Aside.refl (w.heap.size + 1) (w.heap.size + 1 + 1) V3) (Nat.le_refl _) (Nat.lt_succ_self _) (.int .i64 rm) (.slice aq ys.length cq) (.int .i64 z) (.slice a6 qs.length cp6) (.slice am6 ps.length cm6) (.int .i64 op) (.int .i64 st))
   obtain ⟨X3,hX3⟩ : ∃ X3,X3 = (((((((V3.setCell ⟨w.heap.size + 1,0,none⟩ (.int .i64 rm)).setCell ⟨w.heap.size + 1,1,none⟩ (.slice aq ys.length cq)).setCell ⟨w.heap.size + 1,2,none⟩ (.int .i64 z)).setCell ⟨w.heap.size + 1,3,none⟩ (.slice a6 qs.length cp6)).setCell ⟨w.heap.size + 1,4,none⟩ (.slice am6 ps.length cm6)).setCell ⟨w.heap.size + 1,5,none⟩ (.int .i64 op)).setCell ⟨w.heap.size + 1,6,none⟩ (.int .i64 st)) := ⟨_,rfl⟩
   rw [<- hX3] at HRS HAS
   have hfar := hs3.far
   have hz4 := HZ4.out
   have hX32 : X3.heap[w.heap.size + 1 + 1]? = some (.cells #[.bool false] 4) := (HAS.out.block _ (Array.getElem?_eq_some_iff.1 hs3.two).1 (.inr (Nat.le_refl _))).trans hs3.two
   have hAY : Aside (w.heap.size + 1) (w.heap.size + 1 + 1 + 1) V3 (X3.setCell ⟨w.heap.size + 1 + 1,0,none⟩ (.bool false)) := (HAS.out.widen (Nat.le_refl _) (by omega)).setCell (p := ⟨w.heap.size + 1 + 1,0,none⟩) (by show _ <= _; simp) (by show _ < _; simp) _
   have hsY := hAY.size
   have HFE : Hid (FlEnd w w2.heap.size ⟨rm,ys,⟨z,qs,ps,op,st⟩⟩ false (X3.setCell ⟨w.heap.size + 1 + 1,0,none⟩ (.bool false))) := by
    refine ⟨aq,cq,a6,cp6,am6,cm6,set_other HRS.out (by omega) _,?_,⟨V2.heap.size,HSV.out.far.2.2.2.2,(hown6.aside hAY (.inl (by have := HSV.out.far; omega))).wide (Nat.le_refl _) hsY (Nat.le_refl _)⟩,hs3.below.trans (hAY.below (B := w.heap.size) (by omega) hs3.below.size),hcm6,by omega⟩
    have := set_block hX32 0 (.bool false) (by simp)
    simpa using this
   have HKE3 : Hid (Keep2 w4.heap.size W (X3.setCell ⟨w.heap.size + 1 + 1,0,none⟩ (.bool false))) := (HKE1.out.trans (keep2_below b6 (by have := HSV.out.far; omega))).trans (keep2_aside hAY (by omega) (by omega))
   clear hs3 hfar hz4 hX32 hAY hsY hown6 hcm6 b6 t0 t1 t2 t3 t4 t5 t6
   gi_wp2
   rw [<- hX3]
   exact ⟨HKE3.out,HNO.out,HFE.out⟩
 case done =>
  rintro W ⟨YS,F,e,hs⟩ hK
  have HFO : Hid (flushO ⟨rm,ys,⟨z,qs,ps,op,st⟩⟩ = some ⟨rm,YS,F⟩) := by show _ = _; unfold flushO; dsimp only; rw [e]; rfl
  have HFF : Hid (flushF ⟨rm,ys,⟨z,qs,ps,op,st⟩⟩ = ⟨rm,YS,F⟩ ∧ flushB ⟨rm,ys,⟨z,qs,ps,op,st⟩⟩ = true) := by unfold flushF flushB; rw [HCO.out,HFO.out]; exact ⟨rfl,rfl⟩
  obtain ⟨a3,cp3,am3,cm3,k1,k2,l2,r2,k3,k4,k5⟩ := hs.own
  have hfar := hs.far
  have HF3 := hide hfar
  obtain ⟨m0,m1,m2,m3,m4,m5,m6⟩ := seven_cells k1
  obtain ⟨d0,d1,d2,d3,d4,d5,d6⟩ := seven_cells hs.one
  have f0 := four_frozen hs.one 0
  have f1 := four_frozen hs.one 1
  have f2 := four_frozen hs.one 2
  have f3 := four_frozen hs.one 3
  have f4 := four_frozen hs.one 4
  have f5 := four_frozen hs.one 5
  have f6 := four_frozen hs.one 6
  have HRS := hide (seven_set hs.one (.int .i64 rm) (.slice aj YS.length cj) (.int .i64 F.z) (.slice a3 F.qs.length cp3) (.slice am3 F.ps.length cm3) (.int .i64 F.op) (.int .i64 F.st))
  have HAS := hide (seven_aside (b := w.heap.size + 1) (Aside.refl (w.heap.size + 1) (w.heap.size + 1 + 1) W) (Nat.le_refl _) (Nat.lt_succ_self _) (.int .i64 rm) (.slice aj YS.length cj) (.int .i64 F.z) (.slice a3 F.qs.length cp3) (.slice am3 F.ps.length cm3) (.int .i64 F.op) (.int .i64 F.st))
  obtain ⟨X,hX⟩ : ∃ X,X = (((((((W.setCell ⟨w.heap.size + 1,0,none⟩ (.int .i64 rm)).setCell ⟨w.heap.size + 1,1,none⟩ (.slice aj YS.length cj)).setCell ⟨w.heap.size + 1,2,none⟩ (.int .i64 F.z)).setCell ⟨w.heap.size + 1,3,none⟩ (.slice a3 F.qs.length cp3)).setCell ⟨w.heap.size + 1,4,none⟩ (.slice am3 F.ps.length cm3)).setCell ⟨w.heap.size + 1,5,none⟩ (.int .i64 F.op)).setCell ⟨w.heap.size + 1,6,none⟩ (.int .i64 F.st)) := ⟨_,rfl⟩
  rw [<- hX] at HRS HAS
  have HX2 : Hid (X.heap[w.heap.size + 1 + 1]? = some (.cells #[.bool false] 4)) := (HAS.out.block _ (Array.getElem?_eq_some_iff.1 hs.two).1 (.inr (Nat.le_refl _))).trans hs.two
  have x2 : X.cell? ⟨w.heap.size + 1 + 1,0,none⟩ = some (.bool false) := by simp [World.cell?,HX2.out]
  have g2 := four_frozen HX2.out 0
  have HIT := hide hs.items
  have HFT := hide k3
  have HBW := hide hs.below
  have HKK := hide hK
  have y2 : W.cell? ⟨w.heap.size + 1 + 1,0,none⟩ = some (.bool false) := by simp [World.cell?,hs.two]
  have yf := four_frozen hs.two 0
  clear k1 k3 hK hZ4 hfar hs e x2 g2
  gi_wp2
  rw [<- hX]
  clear hX
  have hz4 := HZ4.out
  have hfar := HF3.out
  obtain ⟨Y,hY⟩ : ∃ Y,Y = X.setCell ⟨w.heap.size + 1 + 1,0,none⟩ (.bool true) := ⟨_,rfl⟩
  have hAY : Aside (w.heap.size + 1) (w.heap.size + 1 + 1 + 1) W Y := by
   rw [hY]
   exact (HAS.out.widen (Nat.le_refl _) (by omega)).setCell (p := ⟨w.heap.size + 1 + 1,0,none⟩) (by show _ <= _; simp) (by show _ < _; simp) _
  have y1 : Y.heap[w.heap.size + 1]? = some (.cells #[.int .i64 rm,.slice aj YS.length cj,.int .i64 F.z,.slice a3 F.qs.length cp3,.slice am3 F.ps.length cm3,.int .i64 F.op,.int .i64 F.st] 65) := by rw [hY]; exact set_other HRS.out (by omega) _
  have y3 : Y.heap[w.heap.size + 1 + 1]? = some (.cells #[.bool true] 4) := by
   rw [hY]
   have := set_block HX2.out 0 (.bool true) (by simp)
   simpa using this
  have hKY : Y.heap[w4.heap.size]? = some (.deferred (some [])) := (hAY.block _ (Array.getElem?_eq_some_iff.1 HKK.out).1 (.inr (by omega))).trans HKK.out
  rw [<- hY]
  refine ⟨by simp,.inl ⟨_,_,rfl,run_takeDeferred hKY,?_⟩⟩
  have hAZ : Aside (w2.heap.size + 2) (w2.heap.size + 3) Y (Y.putObj w4.heap.size (.deferred none)) := aside_putObj Y _ _ (by omega) (by omega)
  have z1 : (Y.putObj w4.heap.size (.deferred none)).heap[w.heap.size + 1]? = some (.cells #[.int .i64 rm,.slice aj YS.length cj,.int .i64 F.z,.slice a3 F.qs.length cp3,.slice am3 F.ps.length cm3,.int .i64 F.op,.int .i64 F.st] 65) := (World.putObj_heap_other (by omega)).trans y1
  have z2 : (Y.putObj w4.heap.size (.deferred none)).heap[w.heap.size + 1 + 1]? = some (.cells #[.bool true] 4) := (World.putObj_heap_other (by omega)).trans y3
  have hIZ := (HIT.out.aside hAY (.inr (by omega))).aside hAZ (.inl (by omega))
  have hFZ := (HFT.out.aside hAY (.inl (by omega))).aside hAZ (by omega)
  have hBZ := (HBW.out.trans (hAY.below (B := w.heap.size) (by omega) HBW.out.size))
  have hBZ2 := hBZ.trans (hAZ.below (B := w.heap.size) (by omega) hBZ.size)
  have hsY := hAY.size
  have hsZ := hAZ.size
  have hsW := HBW.out.size
  generalize Y.putObj w4.heap.size (.deferred none) = Z at *
  refine ⟨_,results_cc rfl rfl rfl (run_loadVar_row _ _ _ _ _ _ _ z1 Tryz.underlying65 rfl (by kernel_rfl)) (run_loadVar_bool z2),?_⟩
  rw [HFF.out.1,HFF.out.2]
  exact ⟨_,rfl,aj,cj,a3,cp3,am3,cm3,rfl,⟨Nat.le_refl _,l1',r1',l2,r2,by omega,by omega,by omega,hFZ.1,by omega,hIZ,hFZ⟩,hBZ2,k2⟩
 case stop =>
  rintro W ⟨e,hs⟩ hK
  have HFF : Hid (flushF ⟨rm,ys,⟨z,qs,ps,op,st⟩⟩ = ⟨rm,ys,⟨z,qs,ps,op,st⟩⟩ ∧ flushB ⟨rm,ys,⟨z,qs,ps,op,st⟩⟩ = false) := by unfold flushF flushB; rw [HCO.out,e]; exact ⟨rfl,rfl⟩
  have hs2 := hs.put (aside_putObj W w4.heap.size (.deferred none) (lo := w2.heap.size + 2) (hi := w2.heap.size + 4) (by omega) (by omega))
  refine wpIn_ret ?_
  refine ⟨by simp,.inl ⟨_,_,rfl,run_takeDeferred hK,?_⟩⟩
  obtain ⟨ai3,ci3,a3,cp3,am3,cm3,z1,z2,hans⟩ := hs2.ans
  generalize W.putObj w4.heap.size (.deferred none) = Z at *
  refine ⟨_,results_cc rfl rfl rfl (run_loadVar_row _ _ _ _ _ _ _ z1 Tryz.underlying65 rfl (by kernel_rfl)) (run_loadVar_bool z2),?_⟩
  rw [HFF.out.1,HFF.out.2]
  exact ⟨_,rfl,hans⟩
set_option maxHeartbeats 3200000 in
theorem implFlush_any (rm : Int) (ai : Option Addr) (ni ci : Nat) (ys : List Hd) (z : Int) (a : Option Addr) (n cap : Nat) (qs : List Sq) (am : Option Addr) (m cm : Nat) (ps : List Pl) (op st : Int) (w : World) {l1 r1 lo hi lo' hi' : Nat} (hy : Helds l1 r1 w ai ni ys) (hr1 : r1 <= w.heap.size) (hni : ni <= 1048576) (hfy : ∀ x ∈ ys,hdFits x) (h : Squares lo hi w a n qs) (hhi : hi <= w.heap.size) (hn : n <= 1048576) (hf : ∀ x ∈ qs,sqFits x) (hp : Places lo' hi' w am m ps) (hhi' : hi' <= w.heap.size) (hm : m <= 1048576) (hcl : m <= cm) (hT : Tab w) {aB aL aS aC aF aN : Addr} (E : Errs w aB aL aS aC aF) (hN : w.cell? ⟨1,0,none⟩ = some (noRoomV aN)) :
  Calls Tryz.prog 41 #[.agg #[.int .i64 rm,.slice ai ni ci,.int .i64 z,.slice a n cap,.slice am m cm,.int .i64 op,.int .i64 st]] w fun e w' => ∃ v,e = .returned (.tuple #[v,.bool (flushB ⟨rm,ys,⟨z,qs,ps,op,st⟩⟩)]) ∧ CacheAns w (flushF ⟨rm,ys,⟨z,qs,ps,op,st⟩⟩) v w' := by
 cases hco : cacheOk ⟨rm,ys,⟨z,qs,ps,op,st⟩⟩ with
 | true => exact implFlush_yes rm ai ni ci ys z a n cap qs am m cm ps op st w hy hr1 hni hfy h hhi hn hf hp hhi' hm hcl hT E hN hco
 | false =>
  obtain ⟨wA,hwA⟩ : ∃ wA,wA = ((w.alloc (.cells #[.int .i64 rm,.slice ai ni ci,.int .i64 z,.slice a n cap,.slice am m cm,.int .i64 op,.int .i64 st] 65)).alloc (.cells #[.int .i64 0,.slice none 0 0,.int .i64 0,.slice none 0 0,.slice none 0 0,.int .i64 0,.int .i64 0] 65)).alloc (.cells #[.bool false] 4) := ⟨_,rfl⟩
  have hzA : wA.heap.size = w.heap.size + 1 + 1 + 1 := by rw [hwA]; simp
  have HBA : Hid (Below w.heap.size w wA) := by rw [hwA]; exact (((Below.refl _ _).alloc (Nat.le_refl _) _).alloc (by simp) _).alloc (by simp; omega) _
  have H0 : Hid (wA.heap[w.heap.size]? = some (.cells #[.int .i64 rm,.slice ai ni ci,.int .i64 z,.slice a n cap,.slice am m cm,.int .i64 op,.int .i64 st] 65)) := by rw [hwA]; exact heap_old (heap_old (heap_new _ _))
  have H1 : Hid (wA.heap[w.heap.size + 1]? = some (.cells #[.int .i64 0,.slice none 0 0,.int .i64 0,.slice none 0 0,.slice none 0 0,.int .i64 0,.int .i64 0] 65)) := by rw [hwA]; exact heap_old (heap_at (by simp))
  have H2 : Hid (wA.heap[w.heap.size + 1 + 1]? = some (.cells #[.bool false] 4)) := by rw [hwA]; exact heap_at (by simp)
  have HFF : Hid (flushF ⟨rm,ys,⟨z,qs,ps,op,st⟩⟩ = zeroC ∧ flushB ⟨rm,ys,⟨z,qs,ps,op,st⟩⟩ = false) := by unfold flushF flushB; rw [hco]; exact ⟨rfl,rfl⟩
  have HCK := hide (implCacheOk_any rm ai ni ci ys z a n cap qs am m cm ps op st wA (hy.later HBA.out hr1) (by omega) hni hfy (h.later HBA.out hhi) (by omega) hn hf (hp.later HBA.out hhi') (by omega) hm hcl (hT.here HBA.out) (E.here HBA.out))
  rw [hco] at HCK
  obtain ⟨c0,c1,c2,c3,c4,c5,c6⟩ := seven_cells H0.out
  clear h hp hf hy hfy hT E hN hco
  go_enter Tryz.func41,Tryz.ntmps41
  go_wp2_with fail
  rw [<- hwA]
  clear hwA
  refine HCK.out.mono ?_
  rintro e w1 ⟨rfl,b1⟩
  have K1 := hide (block_on H1.out b1)
  have K2 := hide (block_on H2.out b1)
  have HB1 := hide (below_here HBA.out b1)
  clear b1 c0 c1 c2 c3 c4 c5 c6 HCK
  obtain ⟨d0,d1,d2,d3,d4,d5,d6⟩ := seven_cells K1.out
  have f0 := four_frozen K1.out 0
  have f1 := four_frozen K1.out 1
  have f2 := four_frozen K1.out 2
  have f3 := four_frozen K1.out 3
  have f4 := four_frozen K1.out 4
  have f5 := four_frozen K1.out 5
  have f6 := four_frozen K1.out 6
  have y2 : w1.cell? ⟨w.heap.size + 1 + 1,0,none⟩ = some (.bool false) := by simp [World.cell?,K2.out]
  have yf := four_frozen K2.out 0
  have HRS := hide (seven_set K1.out (.int .i64 0) (.slice none 0 0) (.int .i64 0) (.slice none 0 0) (.slice none 0 0) (.int .i64 0) (.int .i64 0))
  have HAS := hide (seven_aside (b := w.heap.size + 1) (Aside.refl (w.heap.size + 1) (w.heap.size + 1 + 1) w1) (Nat.le_refl _) (Nat.lt_succ_self _) (.int .i64 0) (.slice none 0 0) (.int .i64 0) (.slice none 0 0) (.slice none 0 0) (.int .i64 0) (.int .i64 0))
  obtain ⟨X,hX⟩ : ∃ X,X = (((((((w1.setCell ⟨w.heap.size + 1,0,none⟩ (.int .i64 0)).setCell ⟨w.heap.size + 1,1,none⟩ (.slice none 0 0)).setCell ⟨w.heap.size + 1,2,none⟩ (.int .i64 0)).setCell ⟨w.heap.size + 1,3,none⟩ (.slice none 0 0)).setCell ⟨w.heap.size + 1,4,none⟩ (.slice none 0 0)).setCell ⟨w.heap.size + 1,5,none⟩ (.int .i64 0)).setCell ⟨w.heap.size + 1,6,none⟩ (.int .i64 0)) := ⟨_,rfl⟩
  rw [<- hX] at HRS HAS
  have hX2 : X.heap[w.heap.size + 1 + 1]? = some (.cells #[.bool false] 4) := (HAS.out.block _ (Array.getElem?_eq_some_iff.1 K2.out).1 (.inr (Nat.le_refl _))).trans K2.out
  have hAY : Aside (w.heap.size + 1) (w.heap.size + 1 + 1 + 1) w1 (X.setCell ⟨w.heap.size + 1 + 1,0,none⟩ (.bool false)) := (HAS.out.widen (Nat.le_refl _) (by omega)).setCell (p := ⟨w.heap.size + 1 + 1,0,none⟩) (by show _ <= _; simp) (by show _ < _; simp) _
  have HZ1 : Hid ((X.setCell ⟨w.heap.size + 1 + 1,0,none⟩ (.bool false)).heap[w.heap.size + 1]? = some (.cells #[.int .i64 0,.slice none 0 0,.int .i64 0,.slice none 0 0,.slice none 0 0,.int .i64 0,.int .i64 0] 65)) := set_other HRS.out (by omega) _
  have HZ2 : Hid ((X.setCell ⟨w.heap.size + 1 + 1,0,none⟩ (.bool false)).heap[w.heap.size + 1 + 1]? = some (.cells #[.bool false] 4)) := by
   show _ = _
   have := set_block hX2 0 (.bool false) (by simp)
   simpa using this
  have HBZ : Hid (Below w.heap.size w (X.setCell ⟨w.heap.size + 1 + 1,0,none⟩ (.bool false))) := HB1.out.trans (hAY.below (B := w.heap.size) (by omega) HB1.out.size)
  clear hX2 hAY
  go_wp2_with fail
  rw [<- hX]
  refine bodyPost_ret (results_cc rfl rfl rfl (run_loadVar_row _ _ _ _ _ _ _ HZ1.out Tryz.underlying65 rfl (by kernel_rfl)) (run_loadVar_bool HZ2.out)) rfl ?_
  rw [HFF.out.1,HFF.out.2]
  exact ⟨_,rfl,none,0,none,0,none,0,rfl,cache_zero _ _,HBZ.out,Nat.le_refl _⟩
end Go.Proofs.YtgjoepdfhadmcaaGreatDoor
