/- Several texts in one: Draw12, Draw12b, Draw12c, MountImpl, CacheDrop, CacheDropFit, FlushLaw. -/
import Derived.Test.YtgjoepdfhadmcaaGreatDoorFDraw10
import Derived.Test.YtgjoepdfhadmcaaGreatDoorFFtlOwnP
import Derived.Deep.RegionWith
import Derived.Deep.DeepCutAuto
import Derived.Test.YtgjoepdfhadmcaaGreatDoorFCSpecD
import Derived.Test.YtgjoepdfhadmcaaGreatDoorFFtlImplH
import Derived.Test.YtgjoepdfhadmcaaGreatDoorFFtlMath
import Derived.Test.YtgjoepdfhadmcaaGreatDoorFChipOwn2
import Derived.Test.YtgjoepdfhadmcaaGreatDoorFPageMath
import Derived.Test.YtgjoepdfhadmcaaGreatDoorFPageBase
import Derived.Test.YtgjoepdfhadmcaaGreatDoorFWeaveSpec
import Derived.BigRegion
import Derived.Lib.QuietBelow
import Derived.BigQuiet
import Derived.Deep.RegionHeld3
import Derived.Test.YtgjoepdfhadmcaaGreatDoorFChipGrow
import Derived.Deep.QuietTactic
import Derived.Test.YtgjoepdfhadmcaaGreatDoorFQuietTail
import Derived.Test.YtgjoepdfhadmcaaGreatDoorFFtlNew
import Derived.Test.YtgjoepdfhadmcaaGreatDoorFWearImplB
import Derived.Test.YtgjoepdfhadmcaaGreatDoorFMountSpec
import Derived.Test.YtgjoepdfhadmcaaGreatDoorFFtlImplD
section
namespace Go.Proofs.YtgjoepdfhadmcaaGreatDoor
open Go.RowKit
set_option linter.unusedVariables false
set_option maxRecDepth 20000
def zK : Obj := .cells #[.int .i64 0,.slice none 0 0,.int .i64 0,.slice none 0 0,.slice none 0 0,.int .i64 0,.int .i64 0] 65
structure DrK (w : World) (p bK : Nat) (c : Cv) (ai : Option Addr) (ci : Nat) (a : Option Addr) (cp : Nat) (am : Option Addr) (cm lo : Nat) (wr : World) : Prop where
 var : wr.heap[bK]? = some (.cells #[.int .i64 c.rm,.slice ai c.ys.length ci,.int .i64 c.f.z,.slice a c.f.qs.length cp,.slice am c.f.ps.length cm,.int .i64 c.f.op,.int .i64 c.f.st] 65)
 gr : CGr lo wr ai ci a am cm c.ys c.f.qs c.f.ps
 ok : cacheOk c = true
 cur : Cur wr p
 aside : Aside p (p + 1) w wr
 atB : w.heap.size + 1 <= bK
 atL : w.heap.size + 1 <= lo
section
variable {w : World} {p bK ci cp cm lo : Nat} {c : Cv} {ai a am : Option Addr} {wr w' : World}
theorem DrK.lt (h : DrK w p bK c ai ci a cp am cm lo wr) : bK < wr.heap.size := (Array.getElem?_eq_some_iff.1 h.var).1
theorem DrK.drawn (h : DrK w p bK c ai ci a cp am cm lo wr) (hp : p < w.heap.size) (hc : Cur w' p) (ha : Aside p (p + 1) wr w') : DrK w p bK c ai ci a cp am cm lo w' :=
 ⟨aside_block ha h.var (by have := h.atB; omega),h.gr.aside ha (by have := h.atL; omega),h.ok,hc,h.aside.trans ha,h.atB,h.atL⟩
theorem DrK.on (h : DrK w p bK c ai ci a cp am cm lo wr) (hb : Below wr.heap.size wr w') : DrK w p bK c ai ci a cp am cm lo w' :=
 ⟨block_on h.var hb,h.gr.later hb,h.ok,h.cur.below hb h.cur.lt,h.aside.trans (aside_new hb),h.atB,h.atL⟩
theorem DrK.put (h : DrK w p bK c ai ci a cp am cm lo wr) (hp : p < w.heap.size) {c' : Cv} {ai' a' am' : Option Addr} {ci' cp' cm' lo' : Nat} (hg : CGr lo' wr ai' ci' a' am' cm' c'.ys c'.f.qs c'.f.ps) (h1 : bK < lo') (hok : cacheOk c' = true) :
  DrK w p bK c' ai' ci' a' cp' am' cm' lo' (((((((wr.setCell ⟨bK,0,none⟩ (.int .i64 c'.rm)).setCell ⟨bK,1,none⟩ (.slice ai' c'.ys.length ci')).setCell ⟨bK,2,none⟩ (.int .i64 c'.f.z)).setCell ⟨bK,3,none⟩ (.slice a' c'.f.qs.length cp')).setCell ⟨bK,4,none⟩ (.slice am' c'.f.ps.length cm')).setCell ⟨bK,5,none⟩ (.int .i64 c'.f.op)).setCell ⟨bK,6,none⟩ (.int .i64 c'.f.st)) := by
 have hA := seven_aside (b := bK) (Aside.refl bK (bK + 1) wr) (Nat.le_refl _) (Nat.lt_succ_self _) (.int .i64 c'.rm) (.slice ai' c'.ys.length ci') (.int .i64 c'.f.z) (.slice a' c'.f.qs.length cp') (.slice am' c'.f.ps.length cm') (.int .i64 c'.f.op) (.int .i64 c'.f.st)
 have hB := h.atB
 exact ⟨seven_set h.var _ _ _ _ _ _ _,hg.aside hA (by omega),hok,h.cur.aside hA (by omega),⟨hA.os.trans h.aside.os,hA.tape.trans h.aside.tape,hA.output.trans h.aside.output,Nat.le_trans h.aside.size hA.size,fun k hk hk' => (hA.block k (Nat.lt_of_lt_of_le hk h.aside.size) (.inl (by omega))).trans (h.aside.block k hk hk')⟩,hB,by omega⟩
theorem DrK.cells (h : DrK w p bK c ai ci a cp am cm lo wr) : wr.cell? ⟨bK,0,none⟩ = some (.int .i64 c.rm) ∧ wr.cell? ⟨bK,1,none⟩ = some (.slice ai c.ys.length ci) ∧ wr.cell? ⟨bK,2,none⟩ = some (.int .i64 c.f.z) ∧ wr.cell? ⟨bK,3,none⟩ = some (.slice a c.f.qs.length cp) ∧ wr.cell? ⟨bK,4,none⟩ = some (.slice am c.f.ps.length cm) ∧ wr.cell? ⟨bK,5,none⟩ = some (.int .i64 c.f.op) ∧ wr.cell? ⟨bK,6,none⟩ = some (.int .i64 c.f.st) := seven_cells h.var
end
theorem keepF_ok {c : Cv} (h : cacheOk c = true) (a : Int) (tx : ByteArray) : cacheOk (keepF c a tx) = true := by
 cases hb : keepB c a tx with
 | true => exact (keep_load hb).1
 | false =>
  unfold keepB at hb
  rw [h,Bool.true_and] at hb
  have hn : keepO c a tx = none := Option.not_isSome_iff_eq_none.1 (by rw [hb]; decide)
  unfold keepF
  rw [if_pos h,hn]
  exact h
theorem loadF_ok {c : Cv} (h : cacheOk c = true) (a : Int) : cacheOk (loadF c a) = true := by
 cases hb : loadB c a with
 | true => exact load_ok hb
 | false =>
  unfold loadB at hb
  rw [h,Bool.true_and] at hb
  have hn : loadO c a = none := Option.not_isSome_iff_eq_none.1 (by rw [hb]; decide)
  unfold loadF
  rw [if_pos h,hn]
  exact h
theorem flushF_ok {c : Cv} (h : cacheOk c = true) : cacheOk (flushF c) = true := by
 cases hb : flushB c with
 | true => exact (flush_all hb).1
 | false =>
  unfold flushB at hb
  rw [h,Bool.true_and] at hb
  have hn : flushO c  = none := Option.not_isSome_iff_eq_none.1 (by rw [hb]; decide)
  unfold flushF
  rw [if_pos h,hn]
  exact h
theorem newC_ok {f : Fv} {rm : Int} (h : newCB f rm = true) : cacheOk ⟨rm,[],f⟩ = true := by
 unfold newCB inB at h
 simp only [Bool.and_eq_true,decide_eq_true_eq] at h
 exact cacheOk_iff.2 ⟨h.2.1,h.2.2,by simp; omega,h.1,fun i hi => absurd hi (by simp),fun i hi => absurd hi (by simp)⟩
end Go.Proofs.YtgjoepdfhadmcaaGreatDoor
end

section
namespace Go.Proofs.YtgjoepdfhadmcaaGreatDoor
open Go.RowKit
set_option linter.unusedVariables false
set_option maxRecDepth 20000
theorem okC_fits {c : Cv} (h : cacheOk c = true) : c.ys.length <= 1048576 ∧ (∀ x ∈ c.ys,hdFits x) ∧ c.f.qs.length <= 1048576 ∧ (∀ x ∈ c.f.qs,sqFits x) ∧ c.f.ps.length <= 1048576 := by
 have hc := cacheOk_iff.1 h
 obtain ⟨h1,h2,h3⟩ := hc.fit
 have hk := mapOk_chip (ftlOk_map hc.ftl)
 refine ⟨by omega,fun x hx => ?_,by omega,chipOk_fits hk,by omega⟩
 obtain ⟨e1,e2,e3⟩ := each_of hc.item x hx
 exact ⟨by simp [Lit.wf,IntKind.min,IntKind.max,IntKind.signed,IntKind.bits]; omega,by unfold maxLen; omega⟩
section
variable (c : Cv) (ai : Option Addr) (ci : Nat) (a : Option Addr) (cp : Nat) (am : Option Addr) (cm lo : Nat) (w : World)
end
end Go.Proofs.YtgjoepdfhadmcaaGreatDoor
end

section
namespace Go.Proofs.YtgjoepdfhadmcaaGreatDoor
open Go.RowKit
set_option linter.unusedVariables false
set_option maxRecDepth 20000
structure RegK (w : World) (p bF : Nat) (aF : Option Addr) (cF : Nat) (amF : Option Addr) (cmF : Nat) (qs : List Sq) (ps : List Pl) (op st : Int) (lo : Nat) (W : World) : Prop where
 cur : Cur W p
 res : W.heap[w.heap.size]? = some zK
 var : W.heap[bF]? = some (.cells #[.int .i64 3,.slice aF qs.length cF,.slice amF ps.length cmF,.int .i64 op,.int .i64 st] 29)
 own : FtlOwn lo bF W aF amF qs ps
 aside : Aside p (p + 1) w W
 low : p + 1 <= lo
 res_lt : w.heap.size < bF
section
variable {w : World} {p bF : Nat} {aF : Option Addr} {cF : Nat} {amF : Option Addr} {cmF : Nat} {qs : List Sq} {ps : List Pl} {op st : Int} {lo : Nat} {W W' : World}
theorem RegK.lt (h : RegK w p bF aF cF amF cmF qs ps op st lo W) : bF < W.heap.size := (Array.getElem?_eq_some_iff.1 h.var).1
theorem RegK.drawn (h : RegK w p bF aF cF amF cmF qs ps op st lo W) (hp : p < w.heap.size) (hc : Cur W' p) (ha : Aside p (p + 1) W W') : RegK w p bF aF cF amF cmF qs ps op st lo W' := by
 have h1 := h.res_lt
 exact ⟨hc,aside_block ha h.res (by omega),aside_block ha h.var (by omega),h.own.aside ha (.inl h.low),h.aside.trans ha,h.low,h.res_lt⟩
theorem RegK.on (h : RegK w p bF aF cF amF cmF qs ps op st lo W) (hb : Below W.heap.size W W') : RegK w p bF aF cF amF cmF qs ps op st lo W' :=
 ⟨h.cur.below hb h.cur.lt,block_on h.res hb,block_on h.var hb,h.own.later hb (Nat.le_of_lt h.lt),h.aside.trans (aside_new hb),h.low,h.res_lt⟩
theorem RegK.alloc (h : RegK w p bF aF cF amF cmF qs ps op st lo W) (o : Obj) : RegK w p bF aF cF amF cmF qs ps op st lo (W.alloc o) := h.on ((Below.refl _ _).alloc (Nat.le_refl _) o)
theorem RegK.cells (h : RegK w p bF aF cF amF cmF qs ps op st lo W) : W.cell? ⟨bF,0,none⟩ = some (.int .i64 3) ∧ W.cell? ⟨bF,1,none⟩ = some (.slice aF qs.length cF) ∧ W.cell? ⟨bF,2,none⟩ = some (.slice amF ps.length cmF) ∧ W.cell? ⟨bF,3,none⟩ = some (.int .i64 op) ∧ W.cell? ⟨bF,4,none⟩ = some (.int .i64 st) := five_cells h.var
theorem RegK.put (h : RegK w p bF aF cF amF cmF qs ps op st lo W) (hp : p < w.heap.size) {bK : Nat} (hK : W.heap[bK]? = some zK) (hb : bF < bK) {c : Cv} {ai a am : Option Addr} {ci cp cm lo' : Nat} (hg : CGr lo' W ai ci a am cm c.ys c.f.qs c.f.ps) (hl : bK < lo') (hok : cacheOk c = true) :
  DrK w p bK c ai ci a cp am cm lo' (((((((W.setCell ⟨bK,0,none⟩ (.int .i64 c.rm)).setCell ⟨bK,1,none⟩ (.slice ai c.ys.length ci)).setCell ⟨bK,2,none⟩ (.int .i64 c.f.z)).setCell ⟨bK,3,none⟩ (.slice a c.f.qs.length cp)).setCell ⟨bK,4,none⟩ (.slice am c.f.ps.length cm)).setCell ⟨bK,5,none⟩ (.int .i64 c.f.op)).setCell ⟨bK,6,none⟩ (.int .i64 c.f.st)) := by
 have h1 := h.res_lt
 have hA := seven_aside (b := bK) (Aside.refl bK (bK + 1) W) (Nat.le_refl _) (Nat.lt_succ_self _) (.int .i64 c.rm) (.slice ai c.ys.length ci) (.int .i64 c.f.z) (.slice a c.f.qs.length cp) (.slice am c.f.ps.length cm) (.int .i64 c.f.op) (.int .i64 c.f.st)
 exact ⟨seven_set hK _ _ _ _ _ _ _,hg.aside hA (by omega),hok,h.cur.aside hA (by omega),⟨hA.os.trans h.aside.os,hA.tape.trans h.aside.tape,hA.output.trans h.aside.output,Nat.le_trans h.aside.size hA.size,fun k hk hk' => (hA.block k (Nat.lt_of_lt_of_le hk h.aside.size) (.inl (by omega))).trans (h.aside.block k hk hk')⟩,by omega,by omega⟩
theorem RegK.new (h : RegK w p bF aF cF amF cmF qs ps op st lo W) {c : Cv} {ai a am : Option Addr} {ci cp cm lo' : Nat} (hg : CGr lo' W ai ci a am cm c.ys c.f.qs c.f.ps) (hl : w.heap.size + 1 <= lo') (hok : cacheOk c = true) :
  DrK w p W.heap.size c ai ci a cp am cm lo' (W.alloc (.cells #[.int .i64 c.rm,.slice ai c.ys.length ci,.int .i64 c.f.z,.slice a c.f.qs.length cp,.slice am c.f.ps.length cm,.int .i64 c.f.op,.int .i64 c.f.st] 65)) := by
 have hb : Below W.heap.size W (W.alloc (.cells #[.int .i64 c.rm,.slice ai c.ys.length ci,.int .i64 c.f.z,.slice a c.f.qs.length cp,.slice am c.f.ps.length cm,.int .i64 c.f.op,.int .i64 c.f.st] 65)) := (Below.refl _ _).alloc (Nat.le_refl _) _
 have h1 := h.res_lt
 have h2 := h.lt
 exact ⟨heap_new _ _,hg.later hb,hok,(h.on hb).cur,(h.on hb).aside,by omega,hl⟩
end
end Go.Proofs.YtgjoepdfhadmcaaGreatDoor
end

section
namespace Go.Proofs.YtgjoepdfhadmcaaGreatDoor
open Go.RowKit
set_option linter.unusedVariables false
set_option maxRecDepth 20000
theorem own_of_mixed {lo B n g gm : Nat} {w : World} {am : Option Addr} {A : Nat -> Option Addr} {C : Nat -> Nat} {qs : List Sq} {ps : List Pl} (sq : GrowSqs B w n qs g A C) (pl : OwnPlaces gm (gm + 1) w am ps.length ps) (h1 : lo <= gm) (h2 : gm < B) (h3 : gm < w.heap.size) (h4 : lo <= B) : FtlOwn lo w.heap.size w (some ⟨g,0,none⟩) am qs ps := by
 have hl := sq.len
 have hg := sq.atG
 refine ⟨Nat.le_refl _,.inr ⟨g,0,A,C,fun i => (oB (A i)).getD g,gm,?_,pl,h1,h3,by omega,fun i hi h0 e => ?_⟩⟩
 ·have := sq.own.wide h4 (Nat.le_refl _) (Nat.le_refl _)
  rw [hl]
  exact this
 ·rw [hl] at hi
  have := (sq.own.atP i hi).1
  dsimp only at e this
  omega
def psK (s : Mt) (N k : Nat) : List Pl := (List.range N).map fun j => if j < k then plAt s.ps j else (-1,0)
theorem psK_len (s : Mt) (N k : Nat) : (psK s N k).length = N := by unfold psK; simp
theorem psK_at (s : Mt) {N k j : Nat} (h : j < N) : plAt (psK s N k) j = if j < k then plAt s.ps j else (-1,0) := by
 unfold plAt psK
 rw [List.getD_eq_getElem?_getD,List.getElem?_map,List.getElem?_range h]
 rfl
theorem pl_ext {l m : List Pl} (hl : l.length = m.length) (h : ∀ j,j < l.length -> plAt l j = plAt m j) : l = m := by
 refine List.ext_getElem hl fun j h1 h2 => ?_
 have := h j h1
 unfold plAt at this
 rw [List.getD_eq_getElem?_getD,List.getD_eq_getElem?_getD,List.getElem?_eq_getElem h1,List.getElem?_eq_getElem h2] at this
 exact this
theorem psK_zero (s : Mt) (N : Nat) : psK s N 0 = List.replicate N (-1,0) := by
 unfold psK
 simp [List.map_const']
theorem psK_set (s : Mt) {N k : Nat} (h : k < N) : (psK s N k).set k (plAt s.ps k) = psK s N (k + 1) := by
 refine pl_ext (by rw [List.length_set,psK_len,psK_len]) fun j hj => ?_
 rw [List.length_set,psK_len] at hj
 rw [plAt_set _ _ (by rw [psK_len]; exact h),psK_at s hj,psK_at s hj]
 by_cases e : j = k
 ·subst e; rw [if_pos rfl,if_pos (by omega)]
 ·rw [if_neg e]
  by_cases e2 : j < k
  ·rw [if_pos e2,if_pos (by omega)]
  ·rw [if_neg e2,if_neg (by omega)]
theorem psK_skip (s : Mt) {N k : Nat} (h : k < N) (h0 : plAt s.ps k = (-1,0)) : psK s N k = psK s N (k + 1) := by
 refine pl_ext (by rw [psK_len,psK_len]) fun j hj => ?_
 rw [psK_len] at hj
 rw [psK_at s hj,psK_at s hj]
 by_cases e : j = k
 ·subst e; rw [if_neg (by omega),if_pos (by omega),h0]
 ·by_cases e2 : j < k
  ·rw [if_pos e2,if_pos (by omega)]
  ·rw [if_neg e2,if_neg (by omega)]
theorem psK_all (s : Mt) {N : Nat} (h : s.ps.length = N) : psK s N N = s.ps := by
 refine pl_ext (by rw [psK_len,h]) fun j hj => ?_
 rw [psK_len] at hj
 rw [psK_at s hj,if_pos hj]
theorem cellP_pair (ps : List Pl) {T : Nat} (x y : Int) (h : T < ps.length) (j : Nat) : (if j = T * 2 + 1 then Value.int .i64 y else if j = T * 2 then .int .i64 x else cellP ps j) = cellP (ps.set T (x,y)) j := by
 unfold cellP
 rw [plAt_set ps _ h]
 by_cases e1 : j = T * 2 + 1
 ·subst e1
  rw [if_pos rfl,if_neg (show ¬ (T * 2 + 1) % 2 = 0 by omega),if_pos (show (T * 2 + 1) / 2 = T by omega)]
 ·rw [if_neg e1]
  by_cases e0 : j = T * 2
  ·subst e0
   rw [if_pos rfl,if_pos (show T * 2 % 2 = 0 by omega),if_pos (show T * 2 / 2 = T by omega)]
  ·rw [if_neg e0,if_neg (show ¬ j / 2 = T by omega)]
theorem mountF_no {z : Int} {qs : List Sq} {n : Int} (h : (nfOk (qs.length : Int) z n && chipOk z qs) = false) : mountF z qs n = ⟨0,[],[],0,0⟩ := by
 unfold mountF
 rw [if_neg]
 intro h2
 rw [Bool.and_eq_true] at h2
 have h3 : newOk (qs.length : Int) z = true := by
  obtain ⟨k1,k2,k3,k4,_⟩ := chipOk_parts h2.1
  unfold newOk inB
  simp
  omega
 unfold nfOk at h
 rw [h3,h2.1,h2.2] at h
 cases h
theorem mountF_yes {z : Int} {qs : List Sq} {n : Int} (h1 : nfOk (qs.length : Int) z n = true) (h2 : chipOk z qs = true) : 1 <= n ∧ n <= 64 ∧ mountF z qs n = ⟨z,qs,(mtAll n.toNat qs).ps,-1,(mtAll n.toNat qs).S⟩ := by
 unfold nfOk at h1
 rw [Bool.and_eq_true] at h1
 have hn : 1 <= n ∧ n <= 64 := by have := h1.2; unfold inB at this; simpa using this
 refine ⟨hn.1,hn.2,?_⟩
 unfold mountF
 rw [h2,h1.2]
 rfl
set_option maxHeartbeats 8000000 in
theorem implMount_any (z : Int) (a : Option Addr) (n cap : Nat) (qs : List Sq) (NI : Int) (w : World) {lo hi : Nat} (h : Squares lo hi w a n qs) (hhi : hi <= w.heap.size) (hn : n <= 1048576) (hf : ∀ x ∈ qs,sqFits x) (hT : Tab w) {aB aL aS aC aF : Addr} (E : Errs w aB aL aS aC aF) :
  Calls Tryz.prog 15 #[.agg #[.int .i64 z,.slice a n cap],.int .i64 NI] w fun e w' => ∃ v,e = .returned v ∧ FtlAns w (mountF z qs NI) v w' := by
 obtain ⟨fv,hfv⟩ : ∃ fv : Fv,fv = mountF z qs NI := ⟨_,rfl⟩
 have HFV := hide hfv
 rw [<- hfv]
 clear hfv
 obtain ⟨wA,hwA⟩ : ∃ wA,wA = (w.alloc (.cells #[.int .i64 z,.slice a n cap] 26)).alloc (.cells #[.int .i64 0,.slice none 0 0,.slice none 0 0,.int .i64 0,.int .i64 0] 29) := ⟨_,rfl⟩
 have hzA : wA.heap.size = w.heap.size + 1 + 1 := by rw [hwA]; simp
 have HBA : Hid (Below w.heap.size w wA) := by rw [hwA]; exact ((Below.refl _ _).alloc (Nat.le_refl _) _).alloc (by simp) _
 have H0 : Hid (wA.heap[w.heap.size]? = some (.cells #[.int .i64 z,.slice a n cap] 26)) := by rw [hwA]; exact heap_old (heap_new _ _)
 have H1 : Hid (wA.heap[w.heap.size + 1]? = some (.cells #[.int .i64 0,.slice none 0 0,.slice none 0 0,.int .i64 0,.int .i64 0] 29)) := by rw [hwA]; exact heap_at (by simp)
 have HSQ := hide (h.later HBA.out hhi)
 have HLQ := hide h.1
 have HFI := hide hf
 have HT := hide hT
 have HE := hide E
 clear h hf hT E
 obtain ⟨d0,d1⟩ := two_cells H0.out
 have hnw : ((n : Int)) <= 9223372036854775807 := by omega
 go_enter Tryz.func15,Tryz.ntmps15
 go_wp2_with fail
 rw [<- hwA]
 clear hwA
 refine (implNewFtl_any (n : Int) z NI wA).mono ?_
 rintro e w1 ⟨v,rfl,a1,c1',am1,cm1,rfl,ho1,b1,hc1⟩
 have HNO : Hid ((nfOk (n : Int) z NI && chipOk z qs) = false -> fv = ⟨0,[],[],0,0⟩) := fun hh => by rw [HFV.out]; exact mountF_no (by rw [HLQ.out]; exact hh)
 have HYE : Hid (nfOk (n : Int) z NI = true -> chipOk z qs = true -> 1 <= NI ∧ NI <= 64 ∧ fv = ⟨z,qs,(mtAll NI.toNat qs).ps,-1,(mtAll NI.toNat qs).S⟩) := fun h1 h2 => by rw [HFV.out]; exact mountF_yes (by rw [HLQ.out]; exact h1) h2
 have HNF : Hid (nfOk (n : Int) z NI = true -> newF (n : Int) z NI = ⟨z,newQ (n : Int) z,List.replicate NI.toNat (-1,0),-1,0⟩) := fun hh => by unfold newF; rw [if_pos hh]
 obtain ⟨f1,hf1⟩ : ∃ f,f = newF (n : Int) z NI := ⟨_,rfl⟩
 rw [<- hf1] at ho1 hc1 HNF
 rw [<- hf1]
 clear hf1
 obtain ⟨nb,hnb⟩ : ∃ nb,nb = nfOk (n : Int) z NI := ⟨_,rfl⟩
 rw [<- hnb] at HNO HYE HNF
 rw [<- hnb]
 clear hnb
 unfold fvV
 obtain ⟨wX,hwX⟩ : ∃ wX,wX = w1.alloc (.cells #[.int .i64 f1.z,.slice a1 f1.qs.length c1',.slice am1 f1.ps.length cm1,.int .i64 f1.op,.int .i64 f1.st] 29) := ⟨_,rfl⟩
 have hzX : w1.heap.size < wX.heap.size := by rw [hwX]; simp
 have HBX : Hid (Below w1.heap.size w1 wX) := by rw [hwX]; exact (Below.refl _ _).alloc (Nat.le_refl _) _
 have HX : Hid (wX.heap[w1.heap.size]? = some (.cells #[.int .i64 f1.z,.slice a1 f1.qs.length c1',.slice am1 f1.ps.length cm1,.int .i64 f1.op,.int .i64 f1.st] 29)) := by rw [hwX]; exact heap_new _ _
 have HB1 := hide (below_here b1 HBX.out)
 have HO1 := hide (ho1.later HBX.out (Nat.le_refl _))
 have HC1 := hide hc1
 have K0 := hide (block_on H0.out HB1.out)
 have K1 := hide (block_on H1.out HB1.out)
 have HS1 := hide (HSQ.out.later HB1.out (by omega))
 have HBW := hide (below_here HBA.out HB1.out)
 have hs1 := b1.size
 clear ho1 b1 hc1 H0 H1 HSQ HBA d0 d1
 go_upto_region 2 with fail
 rw [<- hwX]
 clear hwX
 have HZ : ∀ w9 : World,Hid (Below wX.heap.size wX w9 -> fv = ⟨0,[],[],0,0⟩ -> ∃ v,(Value.agg #[.int .i64 0,.slice none 0 0,.slice none 0 0,.int .i64 0,.int .i64 0]) = v ∧ FtlAns w fv v (((((w9.setCell ⟨w.heap.size + 1,0,none⟩ (.int .i64 0)).setCell ⟨w.heap.size + 1,1,none⟩ (.slice none 0 0)).setCell ⟨w.heap.size + 1,2,none⟩ (.slice none 0 0)).setCell ⟨w.heap.size + 1,3,none⟩ (.int .i64 0)).setCell ⟨w.heap.size + 1,4,none⟩ (.int .i64 0))) := fun w9 hb he => by
  have hs9 := hb.size
  have HAS := five_aside (b := w.heap.size + 1) (Aside.refl (w.heap.size + 1) (w.heap.size + 1 + 1) w9) (Nat.le_refl _) (Nat.lt_succ_self _) (.int .i64 0) (.slice none 0 0) (.slice none 0 0) (.int .i64 0) (.int .i64 0)
  refine ⟨_,rfl,none,0,none,0,by rw [he]; rfl,⟨Nat.le_refl _,.inl (by rw [he]; exact ⟨rfl,rfl⟩)⟩,(below_here HBW.out hb).trans (HAS.below (B := w.heap.size) (by omega) (by omega)),by rw [he]; exact Nat.le_refl _⟩
 cases nb with
 | false =>
  have HFE := hide (HNO.out rfl)
  obtain ⟨p0,p1,p2,p3,p4⟩ := five_cells K1.out
  have f0 := four_frozen K1.out 0
  have f1' := four_frozen K1.out 1
  have f2 := four_frozen K1.out 2
  have f3 := four_frozen K1.out 3
  have f4 := four_frozen K1.out 4
  have HRS := hide (five_set K1.out (.int .i64 0) (.slice none 0 0) (.slice none 0 0) (.int .i64 0) (.int .i64 0))
  obtain ⟨vz,hvz,hz9⟩ := (HZ wX).out (Below.refl _ _) HFE.out
  have HZ9 := hide hz9
  subst hvz
  clear hz9
  go_wp2_with fail
  exact bodyPost_ret (results_cell rfl rfl (run_loadVar_row _ _ _ _ _ _ _ HRS.out Tryz.underlying29 rfl (by kernel_rfl))) rfl ⟨_,rfl,HZ9.out⟩
 | true =>
  obtain ⟨d0,d1⟩ := two_cells K0.out
  go_wp2_with fail
  refine (implChipOk_any z a n cap qs wX HS1.out (by omega) hn HFI.out).mono ?_
  rintro e w2 ⟨rfl,b2⟩
  have HX2 := hide (block_on HX.out b2)
  have L0 := hide (block_on K0.out b2)
  have L1 := hide (block_on K1.out b2)
  have HS2 := hide (HS1.out.later b2 (by omega))
  have HO2 := hide (HO1.out.later b2 HO1.out.1)
  have HB2 := hide (below_here HBW.out b2)
  have HBX2 := hide b2
  have hs2 := b2.size
  clear b2 d0 d1 K0 K1 HX HS1 HO1
  cases hok : chipOk z qs with
  | false =>
   have HFE := hide (HNO.out (by rw [hok]; rfl))
   obtain ⟨p0,p1,p2,p3,p4⟩ := five_cells L1.out
   have f0 := four_frozen L1.out 0
   have f1' := four_frozen L1.out 1
   have f2 := four_frozen L1.out 2
   have f3 := four_frozen L1.out 3
   have f4 := four_frozen L1.out 4
   have HRS := hide (five_set L1.out (.int .i64 0) (.slice none 0 0) (.slice none 0 0) (.int .i64 0) (.int .i64 0))
   obtain ⟨vz,hvz,hz9⟩ := (HZ w2).out HBX2.out HFE.out
   have HZ9 := hide hz9
   subst hvz
   clear hz9
   go_wp2_with fail
   exact bodyPost_ret (results_cell rfl rfl (run_loadVar_row _ _ _ _ _ _ _ HRS.out Tryz.underlying29 rfl (by kernel_rfl))) rfl ⟨_,rfl,HZ9.out⟩
  | true =>
   have HOK := hide hok
   obtain ⟨hN1,hN64,hfe⟩ := HYE.out (by trivial) hok
   obtain ⟨N,rfl⟩ : ∃ N : Nat,NI = (N : Int) := ⟨NI.toNat,by omega⟩
   rw [Int.toNat_natCast] at hfe
   have hnf := HNF.out (by trivial)
   rw [Int.toNat_natCast] at hnf
   have HFE := hide hfe
   have hp1 : f1.ps = List.replicate N (-1,0) := by rw [hnf]
   have hpl : f1.ps.length = N := by rw [hp1]; exact List.length_replicate
   have ho1' : f1.op = -1 := by rw [hnf]
   have hst1 : f1.st = 0 := by rw [hnf]
   have h1N : 1 <= N := by omega
   have h64N : N <= 64 := by omega
   rw [hpl] at HX2 HC1
   rw [ho1',hst1] at HX2
   obtain ⟨hh2,hor⟩ := HO2.out
   have hmp : ∃ gm,OwnPlaces gm (gm + 1) w2 am1 N (List.replicate N (-1,0)) ∧ wA.heap.size <= gm ∧ gm < w1.heap.size := by
    rcases hor with ⟨_,e2⟩ | ⟨g,off,A,C,P,gm,_,h3,h4,h5,_⟩
    ·rw [hp1] at e2
     have : (List.replicate N ((-1 : Int),(0 : Int))).length = 0 := by rw [e2]; rfl
     rw [List.length_replicate] at this
     omega
    ·rw [hpl,hp1] at h3
     exact ⟨gm,h3,h4,h5⟩
   obtain ⟨gm,hmap,hgm1,hgm2⟩ := hmp
   obtain ⟨bm,off,rfl,hb1',hb2',_⟩ := hmap.2.2 (by omega)
   obtain rfl : bm = gm := by omega
   have HMP := hide hmap
   obtain ⟨q1,hq1⟩ : ∃ q,q = f1.qs.length := ⟨_,rfl⟩
   rw [<- hq1] at HX2
   obtain ⟨z1,hz1⟩ : ∃ q,q = f1.z := ⟨_,rfl⟩
   rw [<- hz1] at HX2
   clear hok HNF HNO HYE hfe hnf hp1 hpl ho1' hst1 hor hmap HO2 HZ hb1' hb2' hq1 hz1
   obtain ⟨d0,d1⟩ := two_cells L0.out
   go_wp2_with fail
   refine (copyOfChip_any z a n cap qs w2 HS2.out (by omega) HOK.out).mono ?_
   rintro e w3 ⟨g,c,A,C,rfl,hG,b3⟩
   have hs3 := b3.size
   have hX3 := block_on HX2.out b3
   obtain ⟨wC,hwC⟩ : ∃ wC,wC = (w3.setCell ⟨w1.heap.size,0,none⟩ (.int .i64 z)).setCell ⟨w1.heap.size,1,none⟩ (.slice (some ⟨g,0,none⟩) n c) := ⟨_,rfl⟩
   have HAC : Hid (Aside w1.heap.size (w1.heap.size + 1) w3 wC) := by rw [hwC]; exact two_aside (b := w1.heap.size) (Aside.refl _ _ w3) (Nat.le_refl _) (Nat.lt_succ_self _) _ _
   have HXC : Hid (wC.heap[w1.heap.size]? = some (.cells #[.int .i64 z,.slice (some ⟨g,0,none⟩) n c,.slice (some ⟨bm,off,none⟩) N cm1,.int .i64 (-1),.int .i64 0] 29)) := by
    rw [hwC]
    exact set_block (set_block hX3 0 _ (by simp)) 1 _ (by simp)
   have hgB := hG.atG
   have hgl : g < w3.heap.size := by have := hG.row.1; omega
   have HGC := hide (hG.aside HAC.out (.inl (by omega)))
   have HMC := hide ((HMP.out.later b3 (by omega)).aside HAC.out (by omega))
   have M0 : Hid (wC.heap[w.heap.size]? = some (.cells #[.int .i64 z,.slice a n cap] 26)) := (HAC.out.block _ (by omega) (by omega)).trans (block_on L0.out b3)
   have M1 : Hid (wC.heap[w.heap.size + 1]? = some (.cells #[.int .i64 0,.slice none 0 0,.slice none 0 0,.int .i64 0,.int .i64 0] 29)) := (HAC.out.block _ (by omega) (by omega)).trans (block_on L1.out b3)
   have HBC := hide ((below_here HB2.out b3).trans (HAC.out.below (B := w.heap.size) (by omega) (by omega)))
   have hsC := HAC.out.size
   obtain ⟨p0,p1,p2,p3,p4⟩ := five_cells hX3
   have f0 := four_frozen hX3 0
   have f1' := four_frozen hX3 1
   clear hG b3 hX3 d0 d1 HX2 L0 L1 HMP HS2
   go_upto_region 5 with fail
   rw [<- hwC]
   clear hwC p0 p1 p2 p3 p4 f0 f1'
   obtain ⟨p0,p1,p2,p3,p4⟩ := five_cells HXC.out
   have HGS := hide HGC.out.own.squares
   go_wp2_with fail
   refine (findPages_any z (some ⟨g,0,none⟩) n c qs N wC HGS.out (Nat.le_refl _) HOK.out h1N h64N (HT.out.here HBC.out) (HE.out.here HBC.out)).mono ?_
   rintro e w4 ⟨v,rfl,b,G,cnt,F,rfl,hb,hGG,hFD,hFK,b4⟩
   obtain ⟨wD,hwD⟩ : ∃ wD,wD = w4.alloc (.cells #[.map (some b),.slice (some ⟨G,0,none⟩) N N] 113) := ⟨_,rfl⟩
   have hzD : w4.heap.size < wD.heap.size := by rw [hwD]; simp
   have HBD : Hid (Below w4.heap.size w4 wD) := by rw [hwD]; exact (Below.refl _ _).alloc (Nat.le_refl _) _
   have HDD : Hid (wD.heap[w4.heap.size]? = some (.cells #[.map (some b),.slice (some ⟨G,0,none⟩) N N] 113)) := by rw [hwD]; exact heap_new _ _
   have B4 := hide (below_here b4 HBD.out)
   have hs4 := b4.size
   have HFD := hide (hFD.later HBD.out)
   have HFK := hide hFK
   have HXD := hide (block_on HXC.out B4.out)
   have HGD := hide (HGC.out.later B4.out)
   have HMD := hide (HMC.out.later B4.out HMC.out.2.1)
   have N1 := hide (block_on M1.out B4.out)
   have HBE := hide (below_here HBC.out B4.out)
   have hbl := hFD.map.lt
   have hGl : G < w4.heap.size := by have := hFD.row.1; omega
   clear b4 hFD hFK p0 p1 p2 p3 p4 HXC HGC HMC M0 M1 HGS
   obtain ⟨s,hs⟩ : ∃ s,s = mtAll N qs := ⟨_,rfl⟩
   have HSS := hide hs
   have hsp : s.ps.length = N := by rw [hs]; exact (mtAll_ok N qs).ps
   rw [<- hs] at HFD HFK HFE
   clear hs
   go_upto_region 6 with fail
   rw [<- hwD]
   clear hwD
   obtain ⟨q0,q1'⟩ := two_cells HDD.out
   go_wp2_with fail
   go_loopw [40] (fun x wr => ∃ k : Nat,k <= N ∧ x = .int .i64 (k : Int) ∧ OwnPlaces bm (bm + 1) wr (some ⟨bm,off,none⟩) N (psK s N k) ∧ Aside bm (bm + 1) wD wr) (fun x _ => N - (intOf x).toNat)
   case atStart => exact ⟨0,Nat.zero_le _,rfl,by rw [psK_zero]; exact HMD.out,Aside.refl _ _ _⟩
   case round =>
    obtain ⟨k,hk,rfl,hM,hA⟩ := hrel
    have HM := hide hM
    have HA := hide hA
    have hszr := hA.size
    have RX : Hid (wr.heap[w1.heap.size]? = some (.cells #[.int .i64 z,.slice (some ⟨g,0,none⟩) n c,.slice (some ⟨bm,off,none⟩) N cm1,.int .i64 (-1),.int .i64 0] 29)) := (hA.block _ (by omega) (by omega)).trans HXD.out
    have RD : Hid (wr.heap[w4.heap.size]? = some (.cells #[.map (some b),.slice (some ⟨G,0,none⟩) N N] 113)) := (hA.block _ (by omega) (by omega)).trans HDD.out
    have HFR : Hid (FdAt wr b G N cnt s.st F) := ⟨HFD.out.map.kept (hA.block b (by omega) (by omega)),HFD.out.row.aside hA (by omega),HFD.out.len,HFD.out.ne⟩
    clear hM hA q0 q1'
    by_cases hlt : k < N
    ·have hlt2 : (k : Int) < (N : Int) := by omega
     obtain ⟨c0,_⟩ := HFR.out.row.at0 hlt
     obtain ⟨t,ht⟩ : ∃ t,t = stAt s.st k := ⟨_,rfl⟩
     have HEA := hide (HFK.out.each k hlt)
     have hlow := HFK.out.low (k : Int) 0 (Int.le_refl _)
     have htop := HFK.out.top k hlt
     have hok9 := (mtAll_ok N qs).hi
     rw [<- HSS.out] at hok9
     rw [<- ht] at c0 HEA htop
     clear ht
     have ht0 : 0 <= t := by rcases HEA.out with e | e <;> omega
     have hlook := HFR.out.map.look (a := (k : Int)) (s := t) (WalkArith.wf_i64 (by omega)) (WalkArith.wf_i64 (by omega))
     obtain ⟨q0,q1'⟩ := two_cells RD.out
     rcases HEA.out with ⟨e1,e2⟩ | ⟨e1,e2⟩
     ·subst e1
      rw [hlow] at hlook
      unfold plV at hlook
      simp only [Option.getD_none,Option.isSome_none] at hlook
      have HPN := hide (psK_skip s hlt e2)
      have HAN := hide (HA.out.trans (aside_new (lo := bm) (hi := bm + 1) ((Below.refl wr.heap.size wr).alloc (Nat.le_refl _) (.cells #[.int .i64 0,.int .i64 0] 39))))
      have HMN : Hid (OwnPlaces bm (bm + 1) (wr.alloc (.cells #[.int .i64 0,.int .i64 0] 39)) (some ⟨bm,off,none⟩) N (psK s N (k + 1))) := by
       rw [<- HPN.out]
       exact HM.out.later ((Below.refl wr.heap.size wr).alloc (Nat.le_refl _) _) HM.out.2.1
      clear e2 hlow
      go_wp2_with fail
      exact ⟨⟨k + 1,by omega,by go_num,HMN.out,HAN.out⟩,by simp [intOf]; omega⟩
     ·rw [e2] at hlook
      unfold plV at hlook
      simp only [Option.getD_some,Option.isSome_some] at hlook
      have HPN := hide (psK_set s hlt)
      obtain ⟨y,hy⟩ : ∃ y,y = plAt s.ps k := ⟨_,rfl⟩
      rw [<- hy] at hlook HPN
      clear hy e2 hlow
      obtain ⟨p,q⟩ := y
      dsimp only at hlook
      obtain ⟨wP,hwP⟩ : ∃ wP,wP = wr.alloc (.cells #[.int .i64 p,.int .i64 q] 39) := ⟨_,rfl⟩
      have hzP : wr.heap.size < wP.heap.size := by rw [hwP]; simp
      have HBP : Hid (Below wr.heap.size wr wP) := by rw [hwP]; exact (Below.refl _ _).alloc (Nat.le_refl _) _
      have HPP : Hid (wP.heap[wr.heap.size]? = some (.cells #[.int .i64 p,.int .i64 q] 39)) := by rw [hwP]; exact heap_new _ _
      have HMW := hide (HM.out.later HBP.out HM.out.2.1)
      have RX2 := hide (block_on RX.out HBP.out)
      go_upto_region 11 with fail
      rw [<- hwP]
      clear hwP q0 q1' c0 hlook
      obtain ⟨x0,x1,x2,x3,x4⟩ := five_cells RX2.out
      obtain ⟨v0,v1⟩ := two_cells HPP.out
      obtain ⟨_,_,e9,_,_,hcl⟩ := HMW.out.2.2 (by omega)
      simp only [Option.some.injEq,Addr.mk.injEq,and_true] at e9
      obtain ⟨rfl,rfl⟩ := e9
      have fr0 := (hcl (k * 2) (by omega)).2
      have fr1 := (hcl (k * 2 + 1) (by omega)).2
      have cl0 := (hcl (k * 2) (by omega)).1
      have cl1 := (hcl (k * 2 + 1) (by omega)).1
      have HAN := hide ((HA.out.trans (aside_new (lo := bm) (hi := bm + 1) HBP.out)).trans (((Aside.refl bm (bm + 1) wP).setCell (p := ⟨bm,off + k * 2,none⟩) (Nat.le_refl _) (Nat.lt_succ_self _) (.int .i64 p)).setCell (p := ⟨bm,off + k * 2 + 1,none⟩) (Nat.le_refl _) (Nat.lt_succ_self _) (.int .i64 q)))
      have HMN : Hid (OwnPlaces bm (bm + 1) ((wP.setCell ⟨bm,off + k * 2,none⟩ (.int .i64 p)).setCell ⟨bm,off + k * 2 + 1,none⟩ (.int .i64 q)) (some ⟨bm,off,none⟩) N (psK s N (k + 1))) := by
       rw [<- HPN.out]
       have g1 := (HMW.out.2.set (i := k * 2) (by omega) (.int .i64 p)).set (i := k * 2 + 1) (by omega) (.int .i64 q)
       rw [show off + (k * 2 + 1) = off + k * 2 + 1 by omega] at g1
       exact ⟨by rw [List.length_set,psK_len],g1.congr fun j _ => cellP_pair (psK s N k) p q (by rw [psK_len]; exact hlt) j⟩
      rw [show off + (k * 2 + 1) = off + k * 2 + 1 by omega] at fr1 cl1
      clear hcl
      go_wp2_with fail
      exact ⟨⟨k + 1,by omega,by go_num,HMN.out,HAN.out⟩,by simp [intOf]; omega⟩
    ·obtain rfl : k = N := by omega
     rw [psK_all s hsp] at HM
     obtain ⟨q0,q1'⟩ := two_cells RD.out
     go_wp2_with fail
     refine (maxI64_any G k s.st wr HFR.out.row h1N h64N).mono ?_
     rintro e w5 ⟨⟨m,rfl,hm1,hm2⟩,rfl⟩
     have hmS := fd_max HFK.out hm1 hm2
     subst hmS
     clear hm1 hm2
     obtain ⟨x0,x1,x2,x3,x4⟩ := five_cells RX.out
     have fx := four_frozen RX.out 4
     obtain ⟨wZ,hwZ⟩ : ∃ wZ,wZ = wr.setCell ⟨w1.heap.size,4,none⟩ (.int .i64 s.S) := ⟨_,rfl⟩
     have HAZ : Hid (Aside w1.heap.size (w1.heap.size + 1) wr wZ) := by rw [hwZ]; exact (Aside.refl _ _ wr).setCell (p := ⟨w1.heap.size,4,none⟩) (Nat.le_refl _) (Nat.lt_succ_self _) _
     have RZ : Hid (wZ.heap[w1.heap.size]? = some (.cells #[.int .i64 z,.slice (some ⟨g,0,none⟩) n c,.slice (some ⟨bm,off,none⟩) k cm1,.int .i64 (-1),.int .i64 s.S] 29)) := by rw [hwZ]; exact set_block RX.out 4 _ (by simp)
     have R1 : Hid (wZ.heap[w.heap.size + 1]? = some (.cells #[.int .i64 0,.slice none 0 0,.slice none 0 0,.int .i64 0,.int .i64 0] 29)) := (HAZ.out.block _ (by omega) (by omega)).trans ((HA.out.block _ (by omega) (by omega)).trans N1.out)
     have HGZ := hide ((HGD.out.aside HA.out (.inl (by omega))).aside HAZ.out (.inl (by omega)))
     have HMZ := hide (HM.out.aside HAZ.out (by omega))
     have HBZ := hide ((HBE.out.trans (HA.out.below (B := w.heap.size) (by omega) (by omega))).trans (HAZ.out.below (B := w.heap.size) (by omega) (by omega)))
     have hsZ := HAZ.out.size
     go_upto_region 14 with fail
     rw [<- hwZ]
     clear hwZ x0 x1 x2 x3 x4 fx q0 q1'
     obtain ⟨x0,x1,x2,x3,x4⟩ := five_cells RZ.out
     obtain ⟨p0,p1,p2,p3,p4⟩ := five_cells R1.out
     have f0 := four_frozen R1.out 0
     have f1' := four_frozen R1.out 1
     have f2 := four_frozen R1.out 2
     have f3 := four_frozen R1.out 3
     have f4 := four_frozen R1.out 4
     have HRS := hide (five_set R1.out (.int .i64 z) (.slice (some ⟨g,0,none⟩) n c) (.slice (some ⟨bm,off,none⟩) k cm1) (.int .i64 (-1)) (.int .i64 s.S))
     have HAS := hide (five_aside (b := w.heap.size + 1) (Aside.refl (w.heap.size + 1) (w.heap.size + 1 + 1) wZ) (Nat.le_refl _) (Nat.lt_succ_self _) (.int .i64 z) (.slice (some ⟨g,0,none⟩) n c) (.slice (some ⟨bm,off,none⟩) k cm1) (.int .i64 (-1)) (.int .i64 s.S))
     have HBF := hide (HBZ.out.trans (HAS.out.below (B := w.heap.size) (by omega) (by omega)))
     have HOF := hide (own_of_mixed (lo := w.heap.size + 1 + 1) HGZ.out (by rw [hsp]; exact HMZ.out) (by omega) (by omega) (by omega) (by omega))
     go_wp2_with fail
     refine bodyPost_ret (results_cell rfl rfl (run_loadVar_row _ _ _ _ _ _ _ HRS.out Tryz.underlying29 rfl (by kernel_rfl))) rfl ⟨_,rfl,some ⟨g,0,none⟩,c,some ⟨bm,off,none⟩,cm1,?_,?_,HBF.out,?_⟩
     ·rw [HFE.out]; unfold fvV; dsimp only; rw [HLQ.out,hsp]
     ·rw [HFE.out]
      exact (HOF.out.aside HAS.out (.inl (Nat.le_refl _))).wide (by omega) HAS.out.size (Nat.le_refl _)
     ·rw [HFE.out]; dsimp only; rw [hsp]; exact HC1.out
end Go.Proofs.YtgjoepdfhadmcaaGreatDoor
end

section
namespace Go.Proofs.YtgjoepdfhadmcaaGreatDoor
open Go.RowKit
set_option linter.unusedVariables false
set_option maxRecDepth 20000
def dropF (c : Cv) : Cv := if cacheOk c then ⟨c.rm,[],⟨c.f.z,c.f.qs,(mtAll c.f.ps.length c.f.qs).ps,-1,(mtAll c.f.ps.length c.f.qs).S⟩⟩ else zeroC
set_option maxHeartbeats 3200000 in
theorem implDropped_any (rm : Int) (ai : Option Addr) (ni ci : Nat) (ys : List Hd) (z : Int) (a : Option Addr) (n cap : Nat) (qs : List Sq) (am : Option Addr) (m cm : Nat) (ps : List Pl) (op st : Int) (w : World) {l1 r1 lo hi lo' hi' : Nat} (hy : Helds l1 r1 w ai ni ys) (hr1 : r1 <= w.heap.size) (hni : ni <= 1048576) (hfy : ∀ x ∈ ys,hdFits x) (h : Squares lo hi w a n qs) (hhi : hi <= w.heap.size) (hn : n <= 1048576) (hf : ∀ x ∈ qs,sqFits x) (hp : Places lo' hi' w am m ps) (hhi' : hi' <= w.heap.size) (hm : m <= 1048576) (hcl : m <= cm) (hT : Tab w) {aB aL aS aC aF : Addr} (E : Errs w aB aL aS aC aF) :
  Calls Tryz.prog 50 #[.agg #[.int .i64 rm,.slice ai ni ci,.int .i64 z,.slice a n cap,.slice am m cm,.int .i64 op,.int .i64 st]] w fun e w' => ∃ v,e = .returned v ∧ CacheAns w (dropF ⟨rm,ys,⟨z,qs,ps,op,st⟩⟩) v w' := by
 obtain ⟨cv,hcv⟩ : ∃ cv,cv = dropF ⟨rm,ys,⟨z,qs,ps,op,st⟩⟩ := ⟨_,rfl⟩
 have HCV := hide hcv
 rw [<- hcv]
 clear hcv
 obtain ⟨wA,hwA⟩ : ∃ wA,wA = (w.alloc (.cells #[.int .i64 rm,.slice ai ni ci,.int .i64 z,.slice a n cap,.slice am m cm,.int .i64 op,.int .i64 st] 65)).alloc (.cells #[.int .i64 0,.slice none 0 0,.int .i64 0,.slice none 0 0,.slice none 0 0,.int .i64 0,.int .i64 0] 65) := ⟨_,rfl⟩
 have hzA : wA.heap.size = w.heap.size + 1 + 1 := by rw [hwA]; simp
 have HBA : Hid (Below w.heap.size w wA) := by rw [hwA]; exact ((Below.refl _ _).alloc (Nat.le_refl _) _).alloc (by simp) _
 have H0 : Hid (wA.heap[w.heap.size]? = some (.cells #[.int .i64 rm,.slice ai ni ci,.int .i64 z,.slice a n cap,.slice am m cm,.int .i64 op,.int .i64 st] 65)) := by rw [hwA]; exact heap_old (heap_new _ _)
 have H1 : Hid (wA.heap[w.heap.size + 1]? = some (.cells #[.int .i64 0,.slice none 0 0,.int .i64 0,.slice none 0 0,.slice none 0 0,.int .i64 0,.int .i64 0] 65)) := by rw [hwA]; exact heap_at (by simp)
 have HYA := hide (hy.later HBA.out hr1)
 have HSA := hide (h.later HBA.out hhi)
 have HPA := hide (hp.later HBA.out hhi')
 have HF := hide hf
 have HFY := hide hfy
 have hlq := h.1
 have hlp := hp.1
 have HTA := hide (hT.here HBA.out)
 have HEA := hide (E.here HBA.out)
 clear hT E
 clear h hp hf hy hfy
 obtain ⟨c0,c1,c2,c3,c4,c5,c6⟩ := seven_cells H0.out
 go_enter Tryz.func50,Tryz.ntmps50
 go_wp2_with fail
 rw [<- hwA]
 clear hwA
 refine (implCacheOk_any rm ai ni ci ys z a n cap qs am m cm ps op st wA HYA.out (by omega) hni HFY.out HSA.out (by omega) hn HF.out HPA.out (by omega) hm hcl HTA.out HEA.out).mono ?_
 rintro e w2 ⟨rfl,b2⟩
 have K0 := hide (block_on H0.out b2)
 have K1 := hide (block_on H1.out b2)
 have HB2 := hide (below_here HBA.out b2)
 have HS2 := hide (HSA.out.later b2 (by omega))
 have hs2 := b2.size
 have HT2 := hide (HTA.out.here b2)
 have HE2 := hide (HEA.out.here b2)
 clear b2 c0 c1 c2 c3 c4 c5 c6
 obtain ⟨c0,c1,c2,c3,c4,c5,c6⟩ := seven_cells K0.out
 cases hco : cacheOk ⟨rm,ys,⟨z,qs,ps,op,st⟩⟩ with
 | false =>
  have HCE : Hid (cv = zeroC) := by show _ = _; rw [HCV.out]; unfold dropF; rw [hco]; rfl
  obtain ⟨d0,d1,d2,d3,d4,d5,d6⟩ := seven_cells K1.out
  have f0 := four_frozen K1.out 0
  have f1 := four_frozen K1.out 1
  have f2 := four_frozen K1.out 2
  have f3 := four_frozen K1.out 3
  have f4 := four_frozen K1.out 4
  have f5 := four_frozen K1.out 5
  have f6 := four_frozen K1.out 6
  have HRS := hide (seven_set K1.out (.int .i64 0) (.slice none 0 0) (.int .i64 0) (.slice none 0 0) (.slice none 0 0) (.int .i64 0) (.int .i64 0))
  have HAS := hide (seven_aside (b := w.heap.size + 1) (Aside.refl (w.heap.size + 1) (w.heap.size + 1 + 1) w2) (Nat.le_refl _) (Nat.lt_succ_self _) (.int .i64 0) (.slice none 0 0) (.int .i64 0) (.slice none 0 0) (.slice none 0 0) (.int .i64 0) (.int .i64 0))
  have HBF := hide (HB2.out.trans (HAS.out.below (B := w.heap.size) (by omega) (by omega)))
  go_wp2_with fail
  refine bodyPost_ret (results_cell rfl rfl (run_loadVar_row _ _ _ _ _ _ _ HRS.out Tryz.underlying65 rfl (by kernel_rfl))) rfl ⟨_,rfl,?_⟩
  rw [HCE.out]
  exact ⟨none,0,none,0,none,0,rfl,cache_zero _ _,HBF.out,Nat.le_refl _⟩
 | true =>
  have hC := cacheOk_iff.1 hco
  have hfo : ftlOk z qs ps op st = true := hC.ftl
  obtain ⟨hmo,_,_,_,_,_,_⟩ := ftlOk_parts hfo
  have hm64 : m <= 64 := by have := (mapOk_len hmo).2; rw [hlp] at this; exact this
  have hm1 : 1 <= m := by have := (mapOk_len hmo).1; rw [hlp] at this; exact this
  have HCK := hide (mapOk_chip hmo)
  obtain ⟨S,hS⟩ : ∃ S,S = (mtAll m qs).S := ⟨_,rfl⟩
  obtain ⟨MP,hMP⟩ : ∃ MP,MP = (mtAll m qs).ps := ⟨_,rfl⟩
  have HCE : Hid (cv = ⟨rm,[],⟨z,qs,MP,-1,S⟩⟩) := by show _ = _; rw [HCV.out]; unfold dropF; rw [hco]; dsimp only; rw [hlp,<- hS,<- hMP]; rfl
  clear hmo hco hC hfo
  have HM : ∀ W,Hid (Below w2.heap.size w2 W -> Calls Tryz.prog 15 #[.agg #[.int .i64 z,.slice a n cap],.int .i64 (m : Int)] W fun e w' => ∃ v,e = .returned v ∧ FtlAns W ⟨z,qs,MP,-1,S⟩ v w') := fun W hb => by
   have h9 := implMount_any z a n cap qs (m : Int) W (HS2.out.later hb (by omega)) (by have := hb.size; omega) hn HF.out (HT2.out.here hb) (HE2.out.here hb)
   have e : mountF z qs (m : Int) = ⟨z,qs,MP,-1,S⟩ := by unfold mountF; rw [HCK.out,show inB (m : Int) 1 64 = true by unfold inB; simp; omega,hS,hMP]; rfl
   rw [e] at h9
   exact h9
  clear hS hMP
  have hm9 : m <= 281474976710656 := by omega
  go_upto_region 3 with fail
  go_region_with (go_at_call 15; refine ((HM _).out (by exact (Below.refl w2.heap.size w2).drew)).mono ?_; rintro e w5 ⟨v,rfl,a',c',am',cm',rfl,ho5,b5,hcap5⟩; unfold fvV; dsimp only; rw [hlq]; have HO5 := hide (cache_of_ftl ho5); have HC5 := hide hcap5; have M0 := hide (block_on (w := w2.drew) K0.out b5); have M1 := hide (block_on (w := w2.drew) K1.out b5); have HB5 : Hid (Below w.heap.size w w5) := below_here (show Below w.heap.size w w2.drew from HB2.out.drew) b5; have hs5 : w2.heap.size <= w5.heap.size := b5.size; clear ho5 b5 hcap5; obtain ⟨y0,y1,y2,y3,y4,y5,y6⟩ := seven_cells M0.out; obtain ⟨d0,d1,d2,d3,d4,d5,d6⟩ := seven_cells M1.out; have f0 := four_frozen M1.out 0; have f1 := four_frozen M1.out 1; have f2 := four_frozen M1.out 2; have f3 := four_frozen M1.out 3; have f4 := four_frozen M1.out 4; have f5 := four_frozen M1.out 5; have f6 := four_frozen M1.out 6)
  all_goals
   have HRS := hide (seven_set M1.out (.int .i64 rm) (.slice none 0 0) (.int .i64 z) (.slice a' n c') (.slice am' MP.length cm') (.int .i64 (-1)) (.int .i64 S))
   have HAS := hide (seven_aside (b := w.heap.size + 1) (Aside.refl (w.heap.size + 1) (w.heap.size + 1 + 1) w5) (Nat.le_refl _) (Nat.lt_succ_self _) (.int .i64 rm) (.slice none 0 0) (.int .i64 z) (.slice a' n c') (.slice am' MP.length cm') (.int .i64 (-1)) (.int .i64 S))
   have HBF := hide (HB5.out.trans (HAS.out.below (B := w.heap.size) (by omega) (by omega)))
   go_wp2_with fail
   refine bodyPost_ret (results_cell rfl rfl (run_loadVar_row _ _ _ _ _ _ _ HRS.out Tryz.underlying65 rfl (by kernel_rfl))) rfl ⟨_,rfl,none,0,a',c',am',cm',?_,?_,HBF.out,by rw [HCE.out]; exact HC5.out⟩
   ·rw [HCE.out]; unfold cvV; dsimp only; rw [hlq]; rfl
   ·rw [HCE.out]; exact cache_stored HO5.out HAS.out (by show w.heap.size + 1 + 1 <= w2.heap.size; omega) (by show w.heap.size <= w2.heap.size; omega)
end Go.Proofs.YtgjoepdfhadmcaaGreatDoor
end

section
namespace Go.Proofs.YtgjoepdfhadmcaaGreatDoor
open Go.RowKit
set_option linter.unusedVariables false
theorem dropF_fit (c : Cv) : CFit (dropF c) := by
 unfold dropF
 split
 ·rename_i h
  have hc := (cacheOk_iff.1 h)
  obtain ⟨hmo,_,_,_,_,_,_⟩ := ftlOk_parts hc.ftl
  have h1 := mapOk_chip hmo
  have h2 := (mapOk_len hmo).1
  have h3 := (mapOk_len hmo).2
  have e : mountF c.f.z c.f.qs (c.f.ps.length : Int) = ⟨c.f.z,c.f.qs,(mtAll c.f.ps.length c.f.qs).ps,-1,(mtAll c.f.ps.length c.f.qs).S⟩ := by
   unfold mountF
   rw [h1,show inB (c.f.ps.length : Int) 1 64 = true by unfold inB; simp; omega]
   rfl
  have h4 := mountF_fit c.f.z c.f.qs (c.f.ps.length : Int)
  rw [e] at h4
  have h5 := chipOk_small h1
  refine ⟨by simp,?_,h4.2⟩
  dsimp only
  simp only [List.length_nil]
  omega
 ·exact zeroC_fit
end Go.Proofs.YtgjoepdfhadmcaaGreatDoor
end

section
namespace Go.Proofs.YtgjoepdfhadmcaaGreatDoor
open Go.RowKit
set_option linter.unusedVariables false
set_option maxRecDepth 20000
structure Fw (f : Fv) (k : Nat) : Prop where
 ok : ftlOkF f = true
 rm : Rm f.z f.qs f.ps f.op k
 inv : MInv f.qs f.ps f.st
 st0 : 0 <= f.st
 st : f.st <= (k : Int)
 ps : f.ps.length = 4
theorem Fw.mono {f : Fv} {k k' : Nat} (h : Fw f k) (hk : k <= k') : Fw f k' :=
 ⟨h.ok,⟨h.rm.good,fun i hi => by have := h.rm.wipes i hi; omega,h.rm.one,h.rm.first,h.rm.last,h.rm.spare⟩,h.inv,h.st0,by have := h.st; omega,h.ps⟩
theorem fw_back {f : Fv} {k : Nat} (h : Fw f k) (hk : k < 900000) {x : Hd} (hx : 0 <= x.1 ∧ x.1 < 4 ∧ x.2.1.size <= 24) : ∃ f',backF f x = some f' ∧ Fw f' (k + 1) := by
 have hm : mayEnt f.ps f.st 1 x.1 x.2.1 = true := by
  have h1 := h.st0
  have h2 := h.st
  have h3 := h.ps
  unfold mayEnt inB
  rw [pageOk_iff,Bool.and_eq_true]
  refine ⟨decide_eq_true (by omega),by simp; omega⟩
 have hok : ftlOk f.z f.qs f.ps f.op f.st = true := h.ok
 obtain ⟨s,hs,hR⟩ := room_enter hok h.rm (by omega) hm
 have hE := entd_of hs
 have hs' := hs
 unfold planR at hs'
 rw [hok,if_pos rfl] at hs'
 refine ⟨⟨f.z,s.qs,s.ps,s.op,f.st + 1⟩,?_,hE.ok,hR,minv_enter hs h.inv,by have := h.st0; show 0 <= f.st + 1; omega,by have := h.st; show f.st + 1 <= ((k + 1 : Nat) : Int); omega,hE.places.trans h.ps⟩
 unfold backF
 rw [hs']
 rfl
theorem fw_backD {f : Fv} {k : Nat} (h : Fw f k) (hk : k < 900000) {x : Hd} (hx : 0 <= x.1 ∧ x.1 < 4 ∧ x.2.1.size <= 24) : ∃ f',backD f x = some f' ∧ Fw f' (k + 1) := by
 unfold backD
 split
 ·exact fw_back h hk hx
 ·exact ⟨f,rfl,h.mono (by omega)⟩
theorem mem_hdAt {ys : List Hd} {y : Hd} (h : y ∈ ys) : ∃ k,k < ys.length ∧ hdAt ys k = y := by
 obtain ⟨k,hk,e⟩ := List.getElem_of_mem h
 exact ⟨k,hk,by rw [hdAt_get hk]; exact e⟩
theorem hdAt_mem {ys : List Hd} {k : Nat} (h : k < ys.length) : hdAt ys k ∈ ys := by rw [hdAt_get h]; exact List.getElem_mem h
theorem apart_mem {ys : List Hd} (h : ApartH ys) {x y : Hd} (hx : x ∈ ys) (hy : y ∈ ys) (e : x.1 = y.1) : x = y := by
 obtain ⟨i,hi,rfl⟩ := mem_hdAt hx
 obtain ⟨k,hk,rfl⟩ := mem_hdAt hy
 by_cases hik : i = k
 ·rw [hik]
 ·exfalso
  rcases Nat.lt_or_gt_of_ne hik with h1 | h1
  ·exact apart_at h k hk i h1 e
  ·exact apart_at h i hi k h1 e.symm
theorem item_mem {c : Cv} (hA : ApartH c.ys) {y : Hd} (hy : y ∈ c.ys) : itemF c y.1 = y := by
 unfold itemF
 rcases idxH_cases c.ys y.1 with ⟨h1,h2⟩ | ⟨k,hk,h2,h3,_⟩
 ·exfalso
  obtain ⟨k,hk,e⟩ := mem_hdAt hy
  exact h2 k hk (by rw [e])
 ·rw [h2,if_neg (by omega),Int.toNat_natCast]
  exact apart_mem hA (hdAt_mem hk) hy h3
theorem item_none {c : Cv} {a : Int} (h : ∀ y ∈ c.ys,y.1 ≠ a) : itemF c a = (a,(getF c.f a).1,false) := by
 unfold itemF
 rw [idxH_none (fun j hj => h _ (hdAt_mem hj)),if_pos rfl]
 rfl
theorem item_cases {c : Cv} (hA : ApartH c.ys) (a : Int) : (itemF c a ∈ c.ys ∧ (itemF c a).1 = a) ∨ ((∀ y ∈ c.ys,y.1 ≠ a) ∧ itemF c a = (a,(getF c.f a).1,false)) := by
 by_cases h : ∃ y ∈ c.ys,y.1 = a
 ·obtain ⟨y,hy,rfl⟩ := h
  rw [item_mem hA hy]
  exact .inl ⟨hy,rfl⟩
 ·have h' : ∀ y ∈ c.ys,y.1 ≠ a := fun y hy e => h ⟨y,hy,e⟩
  exact .inr ⟨h',item_none h'⟩
structure Tell (c : Cv) (j : Int) (tx : ByteArray) (di : Bool) : Prop where
 t : (itemF c j).2.1 = tx
 d : (itemF c j).2.2 = true -> di = true
 b : (itemF c j).2.2 = false -> (getF c.f j).1 = tx
theorem cOk_apart {c : Cv} (h : COk c) : ApartH c.ys := apart_of h.apart
theorem restH_mem {ys : List Hd} {a : Int} {y : Hd} : y ∈ restH ys a ↔ y ∈ ys ∧ y.1 ≠ a := by
 unfold restH
 rw [List.mem_filter]
 simp
theorem used_tell {c c' : Cv} {x : Hd} (h : COk c) (hx : 0 <= x.1 ∧ x.1 < (c.f.ps.length : Int) ∧ x.2.1.size <= 24) (hu : usedF c x = some c') :
  itemF c' x.1 = x ∧ getF c'.f x.1 = getF c.f x.1 ∧ ∀ (j : Nat) t d,j < c.f.ps.length -> (j : Int) ≠ x.1 -> Tell c (j : Int) t d -> Tell c' (j : Int) t d := by
 obtain ⟨hc',h0,hfront,_,hps⟩ := usedF_ok h hx hu
 have hA := cOk_apart h
 have hA' := cOk_apart hc'
 have hx1 : itemF c' x.1 = x := by
  have := item_mem hA' (hdAt_mem h0)
  rw [hfront] at this
  exact this
 have hok : ftlOkF c.f = true := h.ftl
 unfold usedF at hu
 split at hu
 ·rename_i hfull
  obtain ⟨f',hf',rfl⟩ := Option.map_eq_some_iff.1 hu
  obtain ⟨L,hL⟩ : ∃ L,L = (restH c.ys x.1).length := ⟨_,rfl⟩
  rw [<- hL] at hf' hx1 hA'
  have hL1 : 1 <= L := by have := h.r0; omega
  obtain ⟨e,he⟩ : ∃ e,e = hdAt (frontH c.ys x) L := ⟨_,rfl⟩
  rw [<- he] at hf'
  have hfl : (frontH c.ys x).length = L + 1 := by unfold frontH; rw [List.length_cons,<- hL]
  have hem : e ∈ restH c.ys x.1 := by
   have e1 : e = hdAt (restH c.ys x.1) (L - 1) := by
    rw [he]
    unfold frontH hdAt
    rw [List.getD_eq_getElem?_getD,List.getD_eq_getElem?_getD,show L = (L - 1) + 1 by omega,List.getElem?_cons_succ]
    simp
   rw [e1]
   exact hdAt_mem (by omega)
  obtain ⟨hec,hex⟩ := restH_mem.1 hem
  have hAF := front_apart hA x
  have hsplit : ∀ y,y ∈ (frontH c.ys x).take L ↔ y ∈ frontH c.ys x ∧ y ≠ e := by
   intro y
   constructor
   ·intro hy
    obtain ⟨k,hk,rfl⟩ := mem_hdAt hy
    rw [List.length_take] at hk
    have hkL : k < L := by omega
    have e2 : hdAt ((frontH c.ys x).take L) k = hdAt (frontH c.ys x) k := by
     unfold hdAt
     rw [List.getD_eq_getElem?_getD,List.getD_eq_getElem?_getD,List.getElem?_take_of_lt hkL]
    rw [e2]
    refine ⟨hdAt_mem (by omega),fun e3 => ?_⟩
    exact apart_at hAF L (by omega) k hkL (by rw [e3,he])
   ·rintro ⟨hy,hne⟩
    obtain ⟨k,hk,rfl⟩ := mem_hdAt hy
    have hkL : k < L := by
     rcases Nat.lt_or_ge k L with h1 | h1
     ·exact h1
     ·exact absurd (show hdAt (frontH c.ys x) k = e by rw [he,show k = L by omega]) hne
    have e2 : hdAt ((frontH c.ys x).take L) k = hdAt (frontH c.ys x) k := by
     unfold hdAt
     rw [List.getD_eq_getElem?_getD,List.getD_eq_getElem?_getD,List.getElem?_take_of_lt hkL]
    rw [<- e2]
    exact hdAt_mem (by rw [List.length_take]; omega)
  obtain ⟨g1,g2⟩ := backD_get hok hf'
  have hxn : getF f' x.1 = getF c.f x.1 := by
   have := g2 x.1.toNat (by omega) (by rw [Int.toNat_of_nonneg hx.1]; exact fun e9 => hex e9.symm)
   rw [Int.toNat_of_nonneg hx.1] at this
   exact this
  rw [<- hL]
  refine ⟨hx1,hxn,fun j t d hj hjx hT => ?_⟩
  rcases item_cases hA (j : Int) with ⟨hm,hm1⟩ | ⟨hno,hit⟩
  ·-- it has an Item
   obtain ⟨y,hy⟩ : ∃ y,y = itemF c (j : Int) := ⟨_,rfl⟩
   have hT1 := hT.t
   have hT2 := hT.d
   have hT3 := hT.b
   rw [<- hy] at hm hm1 hT1 hT2 hT3
   have hyr : y ∈ frontH c.ys x := List.mem_cons_of_mem _ (restH_mem.2 ⟨hm,by rw [hm1]; exact hjx⟩)
   by_cases hye : y = e
   ·-- it goes
    have hnone : ∀ u ∈ (frontH c.ys x).take L,u.1 ≠ (j : Int) := by
     intro u hu2 e3
     obtain ⟨hu3,hu4⟩ := (hsplit u).1 hu2
     exact hu4 ((apart_mem hAF hu3 hyr (by rw [e3,hm1])).trans hye)
    have hi2 := item_none (c := ⟨c.rm,(frontH c.ys x).take L,f'⟩) hnone
    have hget : (getF f' (j : Int)).1 = t := by
     cases hd : y.2.2 with
     | true =>
      have := g1 (by rw [<- hye]; exact hd)
      rw [<- hye,hm1] at this
      rw [this]
      exact hT1
     | false =>
      have hfe : f' = c.f := by
       rw [<- hye] at hf'
       unfold backD at hf'
       rw [hd] at hf'
       simp only [Bool.false_eq_true,if_false,Option.some.injEq] at hf'
       exact hf'.symm
      rw [hfe]
      exact hT3 hd
    refine ⟨?_,fun hd => ?_,fun _ => hget⟩
    ·rw [hi2]; exact hget
    ·rw [hi2] at hd; cases hd
   ·have hy2 : y ∈ (frontH c.ys x).take L := (hsplit y).2 ⟨hyr,hye⟩
    have hi2 := item_mem (c := ⟨c.rm,(frontH c.ys x).take L,f'⟩) hA' hy2
    rw [hm1] at hi2
    have hgj : getF f' (j : Int) = getF c.f (j : Int) := g2 j hj (fun e3 => hye (apart_mem hA hm hec (by rw [hm1,e3])))
    refine ⟨by rw [hi2]; exact hT1,fun hd => hT2 (by rw [hi2] at hd; exact hd),fun hd => ?_⟩
    rw [hi2] at hd
    show (getF f' (j : Int)).1 = t
    rw [hgj]
    exact hT3 hd
  ·have hnone : ∀ u ∈ (frontH c.ys x).take L,u.1 ≠ (j : Int) := by
    intro u hu2 e3
    obtain ⟨hu3,_⟩ := (hsplit u).1 hu2
    rcases List.mem_cons.1 hu3 with e4 | e4
    ·rw [e4] at e3; exact hjx e3.symm
    ·exact hno u (restH_mem.1 e4).1 e3
   have hi2 := item_none (c := ⟨c.rm,(frontH c.ys x).take L,f'⟩) hnone
   have hgj : getF f' (j : Int) = getF c.f (j : Int) := g2 j hj (fun e3 => hno e hec e3.symm)
   have hT1 := hT.t
   rw [hit] at hT1
   have hget : (getF f' (j : Int)).1 = t := by rw [hgj]; exact hT1
   refine ⟨by rw [hi2]; exact hget,fun hd => ?_,fun _ => hget⟩
   rw [hi2] at hd; cases hd
 ·simp only [Option.some.injEq] at hu
  subst hu
  refine ⟨hx1,rfl,fun j t d hj hjx hT => ?_⟩
  have e9 : itemF ⟨c.rm,frontH c.ys x,c.f⟩ (j : Int) = itemF c (j : Int) := by
   rcases item_cases hA (j : Int) with ⟨hm,hm1⟩ | ⟨hno,hit⟩
   ·have := item_mem (c := ⟨c.rm,frontH c.ys x,c.f⟩) hA' (show itemF c (j : Int) ∈ frontH c.ys x from List.mem_cons_of_mem _ (restH_mem.2 ⟨hm,by rw [hm1]; exact hjx⟩))
    rw [hm1] at this
    exact this
   ·rw [hit]
    exact item_none (c := ⟨c.rm,frontH c.ys x,c.f⟩) (fun u hu e3 => by
     rcases List.mem_cons.1 hu with e4 | e4
     ·rw [e4] at e3; exact hjx e3.symm
     ·exact hno u (restH_mem.1 e4).1 e3)
  exact ⟨by rw [e9]; exact hT.t,by rw [e9]; exact hT.d,by rw [e9]; exact hT.b⟩
theorem flush_other {ys : List Hd} {f : Fv} (hf : ftlOkF f = true) (hE : EachH f.ps.length ys) (hA : ApartH ys) {j : Nat} (hj : j < f.ps.length) (hcl : ∀ i,i < ys.length -> (hdAt ys i).1 = (j : Int) -> (hdAt ys i).2.2 = false) : ∀ (k : Nat) (YS : List Hd) (F : Fv),k <= ys.length -> flushN ys f k = some (YS,F) -> getF F (j : Int) = getF f (j : Int) := by
 intro k
 induction k with
 | zero =>
  intro YS F hk h
  simp only [flushN,Option.some.injEq,Prod.mk.injEq] at h
  rw [<- h.2]
 | succ k ih =>
  intro YS F hk h
  simp only [flushN,Option.bind_eq_some_iff,Option.map_eq_some_iff,Prod.mk.injEq] at h
  obtain ⟨⟨Y1,F1⟩,hp,f',hb,h1,h2⟩ := h
  dsimp only at hb h1 h2
  subst h2
  have i1 := ih Y1 F1 (by omega) hp
  obtain ⟨k1,k2,k3,k4,k5⟩ := flushN_ok hf _ _ hp
  dsimp only at k1 k3
  by_cases e : (hdAt ys (ys.length - 1 - k)).1 = (j : Int)
  ·have hd := hcl _ (by omega) e
   unfold backD at hb
   rw [hd] at hb
   simp only [Bool.false_eq_true,if_false,Option.some.injEq] at hb
   rw [<- hb]; exact i1
  ·rw [(backD_get k1 hb).2 j (by omega) (fun e2 => e e2.symm)]
   exact i1
theorem flush_some {ys : List Hd} {f : Fv} {k0 : Nat} (h : Fw f k0) (hE : EachH 4 ys) : ∀ k,k <= ys.length -> k0 + k < 900000 -> ∃ p,flushN ys f k = some p ∧ Fw p.2 (k0 + k) := by
 intro k
 induction k with
 | zero => intro _ _; exact ⟨(ys,f),rfl,h⟩
 | succ k ih =>
  intro hk hb
  obtain ⟨p,hp,hw⟩ := ih (by omega) (by omega)
  obtain ⟨e0,e1,e2⟩ := each_at hE (ys.length - 1 - k) (by omega)
  obtain ⟨f',hf',hw'⟩ := fw_backD hw (by omega) (x := hdAt ys (ys.length - 1 - k)) ⟨e0,by omega,e2⟩
  refine ⟨(p.1.set (ys.length - 1 - k) (cleanH (hdAt ys (ys.length - 1 - k))),f'),?_,hw'⟩
  rw [flushN,hp]
  simp only [Option.bind_some,hf',Option.map_some]
structure Cw (c : Cv) (k : Nat) (now sure : Nat -> ByteArray) (since : Nat -> Bool) : Prop where
 ok : COk c
 fw : Fw c.f k
 tell : ∀ j : Nat,j < 4 -> Tell c (j : Int) (now j) (since j)
 sure : ∀ j : Nat,j < 4 -> since j = false -> now j = sure j
def setB (l : Nat -> Bool) (i : Nat) (x : Bool) (j : Nat) : Bool := if j = i then x else l j
theorem cw_each {c : Cv} {k : Nat} {now sure : Nat -> ByteArray} {since : Nat -> Bool} (h : Cw c k now sure since) : EachH 4 c.ys := by
 have := each_of h.ok.item
 rw [h.fw.ps] at this
 exact this
theorem used_fw {c : Cv} {k : Nat} (hc : COk c) (hf : Fw c.f k) (hk : k < 900000) {x : Hd} (hx : 0 <= x.1 ∧ x.1 < 4 ∧ x.2.1.size <= 24) : ∃ c',usedF c x = some c' ∧ Fw c'.f (k + 1) := by
 unfold usedF
 split
 ·rename_i hfull
  have hE : EachH 4 (frontH c.ys x) := by
   have h1 := each_of hc.item
   rw [hf.ps] at h1
   exact front_each h1 hx
  have hl : (restH c.ys x.1).length < (frontH c.ys x).length := by unfold frontH; rw [List.length_cons]; omega
  obtain ⟨e0,e1,e2⟩ := each_at hE (restH c.ys x.1).length hl
  obtain ⟨f',hf',hw'⟩ := fw_backD hf hk (x := hdAt (frontH c.ys x) (restH c.ys x.1).length) ⟨e0,by omega,e2⟩
  rw [hf']
  exact ⟨_,rfl,hw'⟩
 ·exact ⟨_,rfl,hf.mono (by omega)⟩
theorem cw_keep {c : Cv} {k : Nat} {now sure : Nat -> ByteArray} {since : Nat -> Bool} (h : Cw c k now sure since) (hk : k < 900000) {a : Nat} (ha : a < 4) {tx : ByteArray} (ht : tx.size <= 24) :
  keepB c (a : Int) tx = true ∧ Cw (keepF c (a : Int) tx) (k + 1) (setL now a tx) sure (setB since a true) := by
 have hok := cacheOk_iff.2 h.ok
 have hps := h.fw.ps
 obtain ⟨c',hu,hw⟩ := used_fw h.ok h.fw hk (x := ((a : Int),tx,true)) ⟨by show (0 : Int) <= (a : Int); omega,by show (a : Int) < 4; omega,ht⟩
 have hm : mayH c (a : Int) tx = true := by unfold mayH inB; simp; omega
 have e1 : keepO c (a : Int) tx = some c' := by unfold keepO; rw [if_pos hm]; exact hu
 have e2 : keepF c (a : Int) tx = c' := by unfold keepF; rw [if_pos hok,e1]; rfl
 have hx : 0 <= (a : Int) ∧ (a : Int) < (c.f.ps.length : Int) ∧ tx.size <= 24 := ⟨by omega,by omega,ht⟩
 obtain ⟨hc',_⟩ := usedF_ok (x := ((a : Int),tx,true)) h.ok hx hu
 obtain ⟨t1,t2,t3⟩ := used_tell (x := ((a : Int),tx,true)) h.ok hx hu
 refine ⟨by unfold keepB; rw [hok,e1]; rfl,?_⟩
 rw [e2]
 refine ⟨hc',hw,fun j hj => ?_,fun j hj hs => ?_⟩
 ·unfold setL setB
  by_cases e : j = a
  ·subst e
   rw [if_pos rfl,if_pos rfl]
   dsimp only at t1
   exact ⟨by rw [t1],fun _ => rfl,fun hd => by rw [t1] at hd; cases hd⟩
  ·rw [if_neg e,if_neg e]
   exact t3 j _ _ (by omega) (by show (j : Int) ≠ (a : Int); omega) (h.tell j hj)
 ·unfold setL
  unfold setB at hs
  by_cases e : j = a
  ·rw [if_pos e] at hs; cases hs
  ·rw [if_neg e] at hs ⊢
   exact h.sure j hj hs
theorem cw_load {c : Cv} {k : Nat} {now sure : Nat -> ByteArray} {since : Nat -> Bool} (h : Cw c k now sure since) (hk : k < 900000) {a : Nat} (ha : a < 4) :
  loadB c (a : Int) = true ∧ loadT c (a : Int) = now a ∧ Cw (loadF c (a : Int)) (k + 1) now sure since := by
 have hok := cacheOk_iff.2 h.ok
 have hps := h.fw.ps
 have hA := cOk_apart h.ok
 have hT := h.tell a ha
 have hi1 : (itemF c (a : Int)).1 = (a : Int) := item_at (c := c) (a : Int)
 have hi2 : (itemF c (a : Int)).2.1.size <= 24 := item_size h.ok (a : Int)
 have hx : 0 <= (itemF c (a : Int)).1 ∧ (itemF c (a : Int)).1 < (c.f.ps.length : Int) ∧ (itemF c (a : Int)).2.1.size <= 24 := ⟨by omega,by omega,hi2⟩
 obtain ⟨c',hu,hw⟩ := used_fw h.ok h.fw hk (x := itemF c (a : Int)) ⟨by omega,by omega,hi2⟩
 have e1 : loadO c (a : Int) = some c' := by unfold loadO inB; rw [if_pos (by simp; omega)]; exact hu
 have e2 : loadF c (a : Int) = c' := by unfold loadF; rw [if_pos hok,e1]; rfl
 have e3 : loadB c (a : Int) = true := by unfold loadB; rw [hok,e1]; rfl
 obtain ⟨hc',_⟩ := usedF_ok h.ok hx hu
 obtain ⟨t1,t2,t3⟩ := used_tell h.ok hx hu
 rw [hi1] at t1 t2 t3
 refine ⟨e3,by unfold loadT; rw [if_pos e3]; exact hT.t,?_⟩
 rw [e2]
 refine ⟨hc',hw,fun j hj => ?_,h.sure⟩
 by_cases e : j = a
 ·subst e
  exact ⟨by rw [t1]; exact hT.t,fun hd => hT.d (by rw [t1] at hd; exact hd),fun hd => by rw [t2]; exact hT.b (by rw [t1] at hd; exact hd)⟩
 ·exact t3 j _ _ (by omega) (by omega) (h.tell j hj)
theorem cw_flush {c : Cv} {k : Nat} {now sure : Nat -> ByteArray} {since : Nat -> Bool} (h : Cw c k now sure since) (hk : k + 16 < 900000) :
  flushB c = true ∧ Cw (flushF c) (k + 16) now now (fun _ => false) := by
 have hok := cacheOk_iff.2 h.ok
 have hl : c.ys.length <= 16 := by have := h.ok.len; have := h.ok.r1; omega
 have hE := cw_each h
 have hA := cOk_apart h.ok
 have hfo : ftlOkF c.f = true := h.ok.ftl
 obtain ⟨p,hp,hw⟩ := flush_some h.fw hE c.ys.length (Nat.le_refl _) (by omega)
 have e1 : flushO c = some ⟨c.rm,p.1,p.2⟩ := by unfold flushO; rw [hp]; rfl
 have e2 : flushF c = ⟨c.rm,p.1,p.2⟩ := by unfold flushF; rw [if_pos hok,e1]; rfl
 have e3 : flushB c = true := by unfold flushB; rw [hok,e1]; rfl
 obtain ⟨g1,g2,g3,g4⟩ := flush_all e3
 rw [e2] at g1 g2 g3 g4
 dsimp only at g2 g3 g4
 have hc' := cacheOk_iff.1 g1
 have hA' := cOk_apart hc'
 refine ⟨e3,?_⟩
 rw [e2]
 refine ⟨hc',hw.mono (by omega),fun j hj => ?_,fun j hj _ => rfl⟩
 have hT := h.tell j hj
 have hjp : j < c.f.ps.length := by rw [h.fw.ps]; exact hj
 rcases item_cases hA (j : Int) with ⟨hm,hm1⟩ | ⟨hno,hit⟩
 ·obtain ⟨i,hi,ei⟩ := mem_hdAt hm
  have hcm : cleanH (itemF c (j : Int)) ∈ p.1 := by
   rw [<- ei,<- g3 i hi]
   exact hdAt_mem (by omega)
  have hi2 := item_mem (c := ⟨c.rm,p.1,p.2⟩) hA' hcm
  rw [show (cleanH (itemF c (j : Int))).1 = (j : Int) from hm1] at hi2
  refine ⟨by rw [hi2]; exact hT.t,fun hd => ?_,fun _ => ?_⟩
  ·rw [hi2] at hd; cases hd
  ·cases hd : (itemF c (j : Int)).2.2 with
   | true =>
    have := g4 i hi (by rw [ei]; exact hd)
    rw [ei,hm1] at this
    show (getF p.2 (j : Int)).1 = _
    rw [this]
    exact hT.t
   | false =>
    have := flush_other hfo (by rw [h.fw.ps]; exact hE) hA hjp (fun q hq eq => by
     have := apart_mem hA (hdAt_mem hq) hm (by rw [eq,hm1])
     rw [this]; exact hd) _ _ _ (Nat.le_refl _) hp
    show (getF p.2 (j : Int)).1 = _
    rw [this]
    exact hT.b hd
 ·have hnone : ∀ y ∈ p.1,y.1 ≠ (j : Int) := by
   intro y hy e
   obtain ⟨i,hi,rfl⟩ := mem_hdAt hy
   rw [g3 i (by omega)] at e
   exact hno _ (hdAt_mem (show i < c.ys.length by omega)) e
  have hi2 := item_none (c := ⟨c.rm,p.1,p.2⟩) hnone
  have hT1 := hT.t
  rw [hit] at hT1
  have hget := flush_other hfo (by rw [h.fw.ps]; exact hE) hA hjp (fun q hq eq => absurd eq (hno _ (hdAt_mem hq))) _ _ _ (Nat.le_refl _) hp
  have hgt : (getF p.2 (j : Int)).1 = now j := by rw [hget]; exact hT1
  refine ⟨by rw [hi2]; exact hgt,fun hd => ?_,fun _ => hgt⟩
  rw [hi2] at hd; cases hd
theorem cw_drop {c : Cv} {k : Nat} {now sure : Nat -> ByteArray} {since : Nat -> Bool} (h : Cw c k now sure since) :
  cacheOk (dropF c) = true ∧ ∀ j : Nat,j < 4 -> loadB (dropF c) (j : Int) = true ∧ (since j = false -> loadT (dropF c) (j : Int) = sure j) := by
 have hok := cacheOk_iff.2 h.ok
 have hfo : ftlOkF c.f = true := h.ok.ftl
 have e : dropF c = ⟨c.rm,[],mtF c.f⟩ := by unfold dropF; rw [if_pos hok]; rfl
 obtain ⟨m1,m2⟩ := mtF_ok hfo
 have hd : cacheOk ⟨c.rm,[],mtF c.f⟩ = true := cacheOk_iff.2 ⟨h.ok.r0,h.ok.r1,by simp; have := h.ok.r0; omega,m1,fun i hi => absurd hi (by simp),fun i hi => absurd hi (by simp)⟩
 rw [e]
 refine ⟨hd,fun j hj => ?_⟩
 have hjp : j < c.f.ps.length := by rw [h.fw.ps]; exact hj
 have hit : itemF ⟨c.rm,[],mtF c.f⟩ (j : Int) = ((j : Int),(getF (mtF c.f) (j : Int)).1,false) := item_none (fun y hy => by simp at hy)
 have hl : ∃ c',loadO ⟨c.rm,[],mtF c.f⟩ (j : Int) = some c' := by
  unfold loadO inB
  rw [if_pos (by simp; omega)]
  unfold usedF
  rw [if_neg (by have := h.ok.r0; simp [restH]; omega)]
  exact ⟨_,rfl⟩
 obtain ⟨c',hc'⟩ := hl
 have e3 : loadB ⟨c.rm,[],mtF c.f⟩ (j : Int) = true := by unfold loadB; rw [hd,hc']; rfl
 refine ⟨e3,fun hs => ?_⟩
 have hT := h.tell j hj
 have hcl : (itemF c (j : Int)).2.2 = false := by
  cases hx : (itemF c (j : Int)).2.2 with
  | false => rfl
  | true => have := hT.d hx; rw [hs] at this; cases this
 unfold loadT
 rw [if_pos e3,hit]
 show (getF (mtF c.f) (j : Int)).1 = _
 rw [mtF_get hfo h.fw.inv hjp,hT.b hcl]
 exact h.sure j hj hs
theorem newC_okF {f : Fv} {rm : Int} (h : newCB f rm = true) : cacheOk ⟨rm,[],f⟩ = true := by
 unfold newCB inB at h
 simp only [Bool.and_eq_true,decide_eq_true_eq] at h
 exact cacheOk_iff.2 ⟨h.2.1,h.2.2,by simp; omega,h.1,fun i hi => absurd hi (by simp),fun i hi => absurd hi (by simp)⟩
theorem cw_new {rm : Int} (h1 : 1 <= rm) (h2 : rm <= 16) : newCB (newF 5 3 4) rm = true ∧ Cw (newCF (newF 5 3 4) rm) 0 (fun _ => ByteArray.empty) (fun _ => ByteArray.empty) (fun _ => false) := by
 obtain ⟨f,hf⟩ : ∃ f,f = newF 5 3 4 := ⟨_,rfl⟩
 have e : f = ⟨3,List.replicate 5 ([],0,false),List.replicate 4 (-1,0),-1,0⟩ := by rw [hf]; rfl
 obtain ⟨k1,k2,k3⟩ := new_room (z := 3) (Q := 5) (N := 4) (by omega) (by omega) (by omega) (by omega) (by omega) (by omega) (by omega)
 rw [<- hf]
 have hz : f.z = 3 ∧ f.qs = List.replicate 5 ([],0,false) ∧ f.ps = List.replicate 4 (-1,0) ∧ f.op = -1 ∧ f.st = 0 := by rw [e]; exact ⟨rfl,rfl,rfl,rfl,rfl⟩
 obtain ⟨z1,z2,z3,z4,z5⟩ := hz
 rw [<- z2,<- z3] at k1 k2 k3
 have hok : ftlOkF f = true := by unfold ftlOkF; rw [z1,z4,z5]; exact k1
 have hB : newCB f rm = true := by unfold newCB inB; rw [hok]; simp; omega
 have hps : f.ps.length = 4 := by rw [z3]; simp
 refine ⟨hB,?_⟩
 have hc : newCF f rm = ⟨rm,[],f⟩ := by unfold newCF; rw [if_pos hB]
 rw [hc]
 refine ⟨cacheOk_iff.1 (newC_okF hB),⟨hok,by rw [z1,z4]; exact k2,minv_none fun s hs => ?_,by rw [z5]; omega,by rw [z5]; omega,hps⟩,fun j hj => ?_,fun j hj _ => rfl⟩
 ·rw [z2] at hs ⊢
  rw [List.length_replicate] at hs
  rw [sqAt_rep _ hs]
 ·have hit : itemF ⟨rm,[],f⟩ (j : Int) = ((j : Int),(getF f (j : Int)).1,false) := item_none (fun y hy => by simp at hy)
  have hg : getF f (j : Int) = (ByteArray.empty,false) := by
   unfold getF
   rw [z1,z4,z5]
   exact k3 j hj
  exact ⟨(by rw [hit]; show (getF f (j : Int)).1 = _; rw [hg]),fun hd => (by rw [hit] at hd; cases hd),fun _ => (by show (getF f (j : Int)).1 = _; rw [hg])⟩
end Go.Proofs.YtgjoepdfhadmcaaGreatDoor
end

