/- Several texts in one: FtlImplI, FtlImplJ, CacheUsedI, CacheUsedI2, CacheKeepI, CacheLoadI. -/
import Derived.Test.YtgjoepdfhadmcaaGreatDoorFFtlImplH
import Derived.Test.YtgjoepdfhadmcaaGreatDoorFFtlImplA
import Derived.Defers
import Derived.Recover
import Derived.Laws.Pointers
import Derived.Deep.RegionWith
import Derived.Deep.RegionHeld3
import Derived.Test.YtgjoepdfhadmcaaGreatDoorFCSpecD
import Derived.Test.YtgjoepdfhadmcaaGreatDoorFQuietTail
import Derived.BigQuiet
import Derived.Lib.QuietBelow
section
namespace Go.Proofs.YtgjoepdfhadmcaaGreatDoor
open Go.RowKit
set_option linter.unusedVariables false
set_option maxRecDepth 20000
theorem Tryz.loadOk {w : World} {b : Nat} {v : Value} {t : TypeId} {fr : Nat × Nat} (h : w.heap[b]? = some (.cells #[v] t fr)) : (loadVar 4 ⟨b,0,none⟩).run Tryz.prog w = .ok v w := by
 have hc : w.cell? ⟨b,0,none⟩ = some v := by simp [World.cell?,h]
 simp [loadVar,go_sem,hc]
theorem results_cc {fn : Func} {P : Program} {w : World} {t u : Tmp} {ty tz : TypeId} {tmps : Array Value} {a b : Addr} {v x : Value} (h : fn.results = #[.cell t ty,.cell u tz]) (ht : tmps.getD t undef = .pointer (some a)) (hu : tmps.getD u undef = .pointer (some b)) (hl : (loadVar ty a).run P w = .ok v w) (hx : (loadVar tz b).run P w = .ok x w) :
  (results fn tmps).run P w = .ok (.tuple #[v,x]) w := by
 have ht' : tmps[t]?.getD undef = .pointer (some a) := by simpa using ht
 have hu' : tmps[u]?.getD undef = .pointer (some b) := by simpa using hu
 simp [results,h,ht',hu',asAddr,hl,hx]
end Go.Proofs.YtgjoepdfhadmcaaGreatDoor
end

section
namespace Go.Proofs.YtgjoepdfhadmcaaGreatDoor
open Go.RowKit
set_option linter.unusedVariables false
set_option maxRecDepth 20000
def endW (w : World) (pe po : Nat) (z : Int) (a : Option Addr) (n c : Nat) (am : Option Addr) (m cm : Nat) (op st : Int) (b : Bool) : World :=
 (((((w.setCell ⟨pe,0,none⟩ (.int .i64 z)).setCell ⟨pe,1,none⟩ (.slice a n c)).setCell ⟨pe,2,none⟩ (.slice am m cm)).setCell ⟨pe,3,none⟩ (.int .i64 op)).setCell ⟨pe,4,none⟩ (.int .i64 st)).setCell ⟨po,0,none⟩ (.bool b)
theorem endW_at {w w1 : World} (hs : w.heap.size + 1 + 1 + 1 < w1.heap.size) (hb : Below w.heap.size w w1) {c0 c1 c2 c3 c4 y : Value} (hj : w1.heap[w.heap.size + 1 + 1]? = some (.cells #[c0,c1,c2,c3,c4] 29)) (ho : w1.heap[w.heap.size + 1 + 1 + 1]? = some (.cells #[y] 4)) (z : Int) (a : Option Addr) (n c : Nat) (am : Option Addr) (m cm : Nat) (op st : Int) (b : Bool) :
  (endW w1 (w.heap.size + 1 + 1) (w.heap.size + 1 + 1 + 1) z a n c am m cm op st b).heap[w.heap.size + 1 + 1]? = some (.cells #[.int .i64 z,.slice a n c,.slice am m cm,.int .i64 op,.int .i64 st] 29) ∧
  (endW w1 (w.heap.size + 1 + 1) (w.heap.size + 1 + 1 + 1) z a n c am m cm op st b).heap[w.heap.size + 1 + 1 + 1]? = some (.cells #[.bool b] 4) ∧
  Below w.heap.size w (endW w1 (w.heap.size + 1 + 1) (w.heap.size + 1 + 1 + 1) z a n c am m cm op st b) ∧ Aside (w.heap.size + 1 + 1) (w.heap.size + 1 + 1 + 1 + 1) w1 (endW w1 (w.heap.size + 1 + 1) (w.heap.size + 1 + 1 + 1) z a n c am m cm op st b) := by
 have hA : Aside (w.heap.size + 1 + 1) (w.heap.size + 1 + 1 + 1 + 1) w1 (endW w1 (w.heap.size + 1 + 1) (w.heap.size + 1 + 1 + 1) z a n c am m cm op st b) := (five_aside (b := w.heap.size + 1 + 1) (Aside.refl _ _ w1) (Nat.le_refl _) (by omega) _ _ _ _ _).setCell (p := ⟨w.heap.size + 1 + 1 + 1,0,none⟩) (by show w.heap.size + 1 + 1 <= w.heap.size + 1 + 1 + 1; omega) (by show w.heap.size + 1 + 1 + 1 < _; omega) _
 have ho' : ∀ (o1 o2 o3 o4 o5 : Nat) (v1 v2 v3 v4 v5 : Value),(((((w1.setCell ⟨w.heap.size + 1 + 1,o1,none⟩ v1).setCell ⟨w.heap.size + 1 + 1,o2,none⟩ v2).setCell ⟨w.heap.size + 1 + 1,o3,none⟩ v3).setCell ⟨w.heap.size + 1 + 1,o4,none⟩ v4).setCell ⟨w.heap.size + 1 + 1,o5,none⟩ v5).heap[w.heap.size + 1 + 1 + 1]? = some (.cells #[y] 4) := fun o1 o2 o3 o4 o5 v1 v2 v3 v4 v5 => set_other (set_other (set_other (set_other (set_other ho (by omega) _) (by omega) _) (by omega) _) (by omega) _) (by omega) _
 exact ⟨set_other (five_set hj _ _ _ _ _) (by omega) _,set_block (ho' 0 1 2 3 4 _ _ _ _ _) 0 _ (by simp),hb.trans (hA.below (by omega) (by omega)),hA⟩
theorem enterIdle (p q r : Value) (w : World) :
  CallsD Tryz.prog 97 #[p,q,r] .returning w fun e u' w' => e = .returned (.tuple #[]) ∧ u' = .returning ∧ w' = w := by
 refine callsD_of_wpS Tryz.func97 rfl fun c₀ cs hu => ?_
 apply wpS_seq
 apply wpS_region
 simp [wpOpsS,go_sem,recoverD,hu,Tryz.ntmps97,Exit.thenS]
 refine wpS_cond (t := false) (by simp [Act.eval,Array.replicate]) ?_
 simp only [Bool.false_eq_true,if_false]
 refine wpS_of_wp (wp_skip ?_)
 cases c₀
 simp_all [bodyPostS,results,Tryz.results97]
def EnterAns (pe po : Nat) (z : Int) (n : Nat) (qs : List Sq) (m : Nat) (ps : List Pl) (op st : Int) (w w' : World) : Prop := ∃ w5 a' c' am' cm',FtlOwn w.heap.size w5.heap.size w5 a' am' qs ps ∧ Below w.heap.size w w5 ∧ ps.length <= cm' ∧ w' = endW w5 pe po z a' n c' am' m cm' op st false
set_option maxRecDepth 100000 in
set_option maxHeartbeats 3200000 in
theorem enterCatch (pf pe po : Nat) (u : TypeId) (pv : Value) (older : List PanicEntry) (z : Int) (a : Option Addr) (n cap : Nat) (qs : List Sq) (am : Option Addr) (m cm : Nat) (ps : List Pl) (op st : Int) (w : World) {lo hi lo' hi' : Nat} (h : Squares lo hi w a n qs) (hhi : hi <= w.heap.size) (hok : chipOk z qs = true) (hp : Places lo' hi' w am m ps) (hhi' : hi' <= w.heap.size) (hm1 : 1 <= m) (hm : m <= 64) {aN : Addr} (hN : w.cell? ⟨1,0,none⟩ = some (noRoomV aN)) {c0 c1 c2 c3 c4 y : Value} {t : TypeId}
  (hf : w.heap[pf]? = some (.cells #[.int .i64 z,.slice a n cap,.slice am m cm,.int .i64 op,.int .i64 st] 29)) (he : w.heap[pe]? = some (.cells #[c0,c1,c2,c3,c4] 29)) (ho : w.heap[po]? = some (.cells #[y] t)) (hne : pe ≠ po) :
  CallsD Tryz.prog 97 #[.pointer (some ⟨pf,0,none⟩),.pointer (some ⟨pe,0,none⟩),.pointer (some ⟨po,0,none⟩)] (.panicking ({ v := .iface u pv,recovered := false } :: older)) w fun e u' w' =>
   e = .returned (.tuple #[]) ∧ u' = .panicking ({ v := .iface u pv,recovered := true } :: older) ∧ EnterAns pe po z n qs m ps op st w w' := by
 obtain ⟨f0,f1,f2,f3,f4⟩ := five_cells hf
 have hln : qs.length = n := h.1
 have hlm : ps.length = m := hp.1
 have HCP := hide (copyOfFtl_any z a n cap qs am m cm ps op st w h hhi hok hp hhi' hm1 hm hN)
 clear h hp hN
 refine callsD_of_wpS Tryz.func97 rfl fun c₀ cs hu => ?_
 apply wpS_seq
 apply wpS_region
 simp [wpOpsS,go_sem,recoverD,hu,Tryz.ntmps97,Exit.thenS]
 refine wpS_cond (t := true) (by simp [Act.eval,Array.replicate]) ?_
 simp only [if_true]
 refine wpS_of_wp ?_
 go_wp2_with fail
 refine HCP.out.mono ?_
 rintro e w5 ⟨v,rfl,a',c',am',cm',rfl,ho5,b5,hcap5⟩
 have he5 := block_on he b5
 have hb5 := block_on ho b5
 obtain ⟨g0,g1,g2,g3,g4⟩ := five_cells he5
 have k0 := four_frozen he5 0
 have k1 := four_frozen he5 1
 have k2 := four_frozen he5 2
 have k3 := four_frozen he5 3
 have k4 := four_frozen he5 4
 have j0 : w5.cell? ⟨po,0,none⟩ = some y := by simp [World.cell?,hb5]
 have j1 := four_frozen hb5 0
 have HO5 := hide ho5
 have HB5 := hide b5
 have HCP5 := hide hcap5
 clear ho5 b5 hcap5 f0 f1 f2 f3 f4
 unfold fvV
 dsimp only
 rw [hln,hlm]
 go_wp2_with fail
 simp [bodyPostS,results,Tryz.results97]
 exact ⟨w5,a',c',am',cm',HO5.out,HB5.out,HCP5.out,by unfold endW; rfl⟩
set_option maxRecDepth 100000 in
set_option maxHeartbeats 6400000 in
theorem implEnter_any (z : Int) (a : Option Addr) (n cap : Nat) (qs : List Sq) (am : Option Addr) (m cm : Nat) (ps : List Pl) (op st kd at_ sp : Int) (tx : ByteArray) (w : World) {lo hi lo' hi' : Nat} (h : Squares lo hi w a n qs) (hhi : hi <= w.heap.size) (hn : n <= 1048576) (hf : ∀ x ∈ qs,sqFits x) (hp : Places lo' hi' w am m ps) (hhi' : hi' <= w.heap.size) (hm : m <= 1048576) (hcl : m <= cm) (hT : Tab w) {aB aL aS aC aF aN : Addr} (E : Errs w aB aL aS aC aF) (hN : w.cell? ⟨1,0,none⟩ = some (noRoomV aN)) :
  Calls Tryz.prog 28 #[.agg #[.int .i64 z,.slice a n cap,.slice am m cm,.int .i64 op,.int .i64 st],.agg #[.int .i64 kd,.int .i64 at_,.int .i64 sp,.string tx]] w fun e w' => ∃ v,e = .returned (.tuple #[v,.bool (planR z qs ps op st kd at_ tx).isSome]) ∧ FtlAns w (entF z qs ps op st kd at_ tx) v w' := by
 obtain ⟨r,hr⟩ : ∃ r,r = planR z qs ps op st kd at_ tx := ⟨_,rfl⟩
 have HR := hide hr
 rw [<- hr]
 clear hr
 obtain ⟨fv,hfv⟩ : ∃ fv,fv = entF z qs ps op st kd at_ tx := ⟨_,rfl⟩
 have HFV := hide hfv
 rw [<- hfv]
 clear hfv
 obtain ⟨wA,hwA⟩ : ∃ wA,wA = (((w.alloc (.cells #[.int .i64 z,.slice a n cap,.slice am m cm,.int .i64 op,.int .i64 st] 29)).alloc (.cells #[.int .i64 kd,.int .i64 at_,.int .i64 sp,.string tx] 31)).alloc (.cells #[.int .i64 0,.slice none 0 0,.slice none 0 0,.int .i64 0,.int .i64 0] 29)).alloc (.cells #[.bool false] 4) := ⟨_,rfl⟩
 have hzA : wA.heap.size = w.heap.size + 1 + 1 + 1 + 1 := by rw [hwA]; simp
 have HBA : Hid (Below w.heap.size w wA) := by rw [hwA]; exact ((((Below.refl _ _).alloc (Nat.le_refl _) _).alloc (by simp) _).alloc (by simp; omega) _).alloc (by simp; omega) _
 have H0 : Hid (wA.heap[w.heap.size]? = some (.cells #[.int .i64 z,.slice a n cap,.slice am m cm,.int .i64 op,.int .i64 st] 29)) := by rw [hwA]; exact heap_old (heap_old (heap_old (heap_new _ _)))
 have H1 : Hid (wA.heap[w.heap.size + 1]? = some (.cells #[.int .i64 kd,.int .i64 at_,.int .i64 sp,.string tx] 31)) := by rw [hwA]; exact heap_old (heap_old (heap_at (by simp)))
 have H2 : Hid (wA.heap[w.heap.size + 1 + 1]? = some (.cells #[.int .i64 0,.slice none 0 0,.slice none 0 0,.int .i64 0,.int .i64 0] 29)) := by rw [hwA]; exact heap_old (heap_at (by simp))
 have H3 : Hid (wA.heap[w.heap.size + 1 + 1 + 1]? = some (.cells #[.bool false] 4)) := by rw [hwA]; exact heap_at (by simp)
 have HSQ := hide (h.later HBA.out hhi)
 have HPL := hide (hp.later HBA.out hhi')
 have HLP := hide hp.1
 have HLQ := hide h.1
 have HF := hide hf
 have HTA := hide (hT.here HBA.out)
 have HEA := hide (E.here HBA.out)
 have hGl : 1 < w.heap.size := World.block_lt_of_cell? _ _ hN
 have hGt : 7 < w.heap.size := World.block_lt_of_cell? _ _ (hT 0 (by omega))
 have HNA := hide ((HBA.out.cell (p := ⟨1,0,none⟩) hGl).trans hN)
 have hmf : ∀ (fn : Fn) (first cap : Array Value) (w : World),(Instr.makeFunc fn first cap).run Tryz.prog w = .ok (.func fn first cap) w := fun _ _ _ _ => rfl
 clear h hf hp hT E hN
 obtain ⟨c0,c1,c2,c3,c4⟩ := five_cells H0.out
 go_enter_defers Tryz.func28,Tryz.ntmps28
 go_wp2_with fail
 rw [<- hwA]
 clear hwA
 refine (implFtlOk_any z a n cap qs am m cm ps op st wA HSQ.out (by omega) hn HF.out HPL.out (by omega) hm hcl HTA.out HEA.out).mono ?_
 rintro e w1 ⟨rfl,b1⟩
 have K0 := hide (block_on H0.out b1)
 have K1 := hide (block_on H1.out b1)
 have K2 := hide (block_on H2.out b1)
 have K3 := hide (block_on H3.out b1)
 have HS1 := hide (HSQ.out.later b1 (by omega))
 have HP1 := hide (HPL.out.later b1 (by omega))
 have HB1 := hide (below_here HBA.out b1)
 have HT1 := hide (HTA.out.here b1)
 have HN1 := hide ((b1.cell (p := ⟨1,0,none⟩) (by show 1 < _; omega)).trans HNA.out)
 have hs1 := b1.size
 clear b1 H0 H1 H2 H3 HSQ HPL HBA HTA HEA HNA c0 c1 c2 c3 c4
 obtain ⟨c0,c1,c2,c3,c4⟩ := five_cells K0.out
 obtain ⟨p0,p1,p2,p3⟩ := four_cells K1.out
 cases hok : ftlOk z qs ps op st with
 | false =>
  have HE : Hid (r = none) := by show _ = _; rw [HR.out]; unfold planR; rw [hok]; rfl
  have HFE : Hid (fv = ⟨0,[],[],0,0⟩) := by show _ = _; rw [HFV.out]; unfold entF; rw [hok]; rfl
  obtain ⟨d0,d1,d2,d3,d4⟩ := five_cells K2.out
  have g0 := four_frozen K2.out 0
  have g1 := four_frozen K2.out 1
  have g2 := four_frozen K2.out 2
  have g3 := four_frozen K2.out 3
  have g4 := four_frozen K2.out 4
  have e2 : w1.cell? ⟨w.heap.size + 1 + 1 + 1,0,none⟩ = some (.bool false) := by simp [World.cell?,K3.out]
  have e3 := four_frozen K3.out 0
  have HEND := hide (endW_at (w := w) (w1 := w1) (by omega) HB1.out K2.out K3.out 0 none 0 0 none 0 0 0 0 false)
  unfold endW at HEND
  go_wp2_with fail
  refine ⟨_,results_cc rfl rfl rfl (run_loadVar_row _ _ _ _ _ _ _ HEND.out.1 Tryz.underlying29 rfl (by kernel_rfl)) (Tryz.loadOk HEND.out.2.1),_,by rw [HE.out]; rfl,none,0,none,0,by rw [HFE.out]; rfl,⟨Nat.le_refl _,.inl ?_⟩,HEND.out.2.2.1,by rw [HFE.out]; exact Nat.le_refl _⟩
  rw [HFE.out]; exact ⟨rfl,rfl⟩
 | true =>
  obtain ⟨hmo,_,_,hst0,hst1,_,_⟩ := ftlOk_parts hok
  have hm64 : m <= 64 := by have := (mapOk_len hmo).2; rw [HLP.out] at this; exact this
  have hm1 : 1 <= m := by have := (mapOk_len hmo).1; rw [HLP.out] at this; exact this
  have HCK := hide (mapOk_chip hmo)
  have HKO := hide (kok_of hok [])
  have HRE : Hid (r = enterK z ⟨qs,ps,op,[]⟩ st kd at_ tx) := by show _ = _; rw [HR.out]; unfold planR; rw [hok]; rfl
  have HFE : Hid (fv = (match enterK z ⟨qs,ps,op,[]⟩ st kd at_ tx with | none => ⟨z,qs,ps,op,st⟩ | some s => ⟨z,s.qs,s.ps,s.op,st + 1⟩)) := by show _ = _; rw [HFV.out]; unfold entF; rw [hok]; rfl
  rw [<- HRE.out] at HFE
  clear hok hmo HR HFV
  go_wp2_with fail
  refine (mayEnter_any (.int .i64 z) (.slice a n cap) am m cm (.int .i64 op) st kd at_ sp tx ps w1 HLP.out hm ⟨hst0,hst1⟩).mono ?_
  rintro e w2 ⟨rfl,b2⟩
  have L0 := hide (block_on K0.out b2)
  have L1 := hide (block_on K1.out b2)
  have L2 := hide (block_on K2.out b2)
  have L3 := hide (block_on K3.out b2)
  have HS2 := hide (HS1.out.later b2 (by omega))
  have HP2 := hide (HP1.out.later b2 (by omega))
  have HB2 := hide (below_here HB1.out b2)
  have HT2 := hide (HT1.out.here b2)
  have HN2 := hide ((b2.cell (p := ⟨1,0,none⟩) (by show 1 < _; omega)).trans HN1.out)
  have hs2 := b2.size
  clear b2 K0 K1 K2 K3 HS1 HP1 HB1 HT1 HN1 c0 c1 c2 c3 c4 p0 p1 p2 p3
  obtain ⟨c0,c1,c2,c3,c4⟩ := five_cells L0.out
  cases hme : mayEnt ps st kd at_ tx with
  | false =>
   have HE : Hid (r = none) := by show _ = _; rw [HRE.out]; exact enterK_no hme
   have HFN : Hid (fv = ⟨z,qs,ps,op,st⟩) := by show _ = _; rw [HFE.out,HE.out]
   go_wp2_with fail
   refine (copyOfFtl_any z a n cap qs am m cm ps op st w2 HS2.out (by omega) HCK.out HP2.out (by omega) hm1 hm64 HN2.out).mono ?_
   rintro e w5 ⟨v,rfl,a',c',am',cm',rfl,ho5,b5,hcap5⟩
   have M2 := hide (block_on L2.out b5)
   have M3 := hide (block_on L3.out b5)
   have HB5 := hide (below_here HB2.out b5)
   have HO5 := hide ho5
   have hs5 := b5.size
   have HCP5 := hide hcap5
   clear ho5 b5 hcap5 c0 c1 c2 c3 c4
   obtain ⟨d0,d1,d2,d3,d4⟩ := five_cells M2.out
   have g0 := four_frozen M2.out 0
   have g1 := four_frozen M2.out 1
   have g2 := four_frozen M2.out 2
   have g3 := four_frozen M2.out 3
   have g4 := four_frozen M2.out 4
   have e2 : w5.cell? ⟨w.heap.size + 1 + 1 + 1,0,none⟩ = some (.bool false) := by simp [World.cell?,M3.out]
   have e3 := four_frozen M3.out 0
   unfold fvV
   dsimp only
   rw [HLQ.out,HLP.out]
   have HEND := hide (endW_at (w := w) (w1 := w5) (by omega) HB5.out M2.out M3.out z a' n c' am' m cm' op st false)
   unfold endW at HEND
   go_wp2_with fail
   refine ⟨_,results_cc rfl rfl rfl (run_loadVar_row _ _ _ _ _ _ _ HEND.out.1 Tryz.underlying29 rfl (by kernel_rfl)) (Tryz.loadOk HEND.out.2.1),_,by rw [HE.out]; rfl,a',c',am',cm',by rw [HFN.out]; unfold fvV; dsimp only; rw [HLQ.out,HLP.out],?_,HEND.out.2.2.1,by rw [HFN.out]; exact HCP5.out⟩
   rw [HFN.out]
   exact (HO5.out.aside HEND.out.2.2.2 (.inl (by omega))).wide (by omega) HEND.out.2.2.2.size (Nat.le_refl _)
  | true =>
   go_wp2_with fail
   refine (keeperOf_any z a n cap qs am m cm ps op st w2 HS2.out (by omega) HCK.out HP2.out (by omega) hm1 hm64 HN2.out).mono ?_
   rintro e w3 ⟨pk,g,c,gm,cm',A,C,rfl,hK3,b3⟩
   have M0 := hide (block_on L0.out b3)
   have M1 := hide (block_on L1.out b3)
   have M2 := hide (block_on L2.out b3)
   have M3 := hide (block_on L3.out b3)
   have HB3 := hide (below_here HB2.out b3)
   have HT3 := hide (HT2.out.here b3)
   have HS3 := hide (HS2.out.later b3 (by omega))
   have HP3 := hide (HP2.out.later b3 (by omega))
   have HN3 := hide ((b3.cell (p := ⟨1,0,none⟩) (by show 1 < _; omega)).trans HN2.out)
   have HK3 := hide hK3
   have hs3 := b3.size
   clear hK3 b3 c0 c1 c2 c3 c4
   obtain ⟨p0,p1,p2,p3⟩ := four_cells M1.out
   go_wp2_with fail
   refine (enter_any w2.heap.size pk z st n g c gm cm' A C _ ⟨qs,ps,op,[]⟩ aN kd at_ sp tx w3 HK3.out hs3 HKO.out (by show 0 <= _; omega) ⟨hst0,hst1⟩ hme HT3.out (by omega)).mono ?_
   rintro e w4 ⟨hf4,hk4⟩
   have N0 : Hid (w4.heap[w.heap.size]? = some (.cells #[.int .i64 z,.slice a n cap,.slice am m cm,.int .i64 op,.int .i64 st] 29)) := (hf4.below.block _ (by omega)).trans M0.out
   have N2 : Hid (w4.heap[w.heap.size + 1 + 1]? = some (.cells #[.int .i64 0,.slice none 0 0,.slice none 0 0,.int .i64 0,.int .i64 0] 29)) := (hf4.below.block _ (by omega)).trans M2.out
   have N3 : Hid (w4.heap[w.heap.size + 1 + 1 + 1]? = some (.cells #[.bool false] 4)) := (hf4.below.block _ (by omega)).trans M3.out
   have HB4 := hide (HB3.out.trans (hf4.below.mono (show w.heap.size <= w2.heap.size by omega)))
   have HS4 := hide (HS3.out.later hf4.below (by omega))
   have HP4 := hide (HP3.out.later hf4.below (by omega))
   have HN4 := hide ((hf4.below.cell (p := ⟨1,0,none⟩) (by show 1 < _; omega)).trans HN3.out)
   have hs4 := hf4.below.size
   clear hf4 p0 p1 p2 p3
   rw [<- HRE.out] at hk4
   cases hrr : r with
   | none =>
    have HRR := hide hrr
    have HFN : Hid (fv = ⟨z,qs,ps,op,st⟩) := by show _ = _; rw [HFE.out,hrr]
    rw [hrr] at hk4
    dsimp only at hk4
    subst hk4
    unfold noRoomV
    go_wp2_with fail
    show Leaves _ _ _ _ _ _ _
    refine leaves_cons (f := 97) (args := #[.pointer (some ⟨w.heap.size,0,none⟩),.pointer (some ⟨w.heap.size + 1 + 1,0,none⟩),.pointer (some ⟨w.heap.size + 1 + 1 + 1,0,none⟩)]) (by simp) (by simp [go_sem]) ?_
    refine (enterCatch w.heap.size (w.heap.size + 1 + 1) (w.heap.size + 1 + 1 + 1) _ _ [] z a n cap qs am m cm ps op st w4 HS4.out (by omega) HCK.out HP4.out (by omega) hm1 hm64 HN4.out N0.out N2.out N3.out (by omega)).mono ?_
    rintro e u' w'' ⟨rfl,rfl,w5,a',c',am',cm2,hO5,b5,hcap5,rfl⟩
    have P2 := hide (block_on N2.out b5)
    have P3 := hide (block_on N3.out b5)
    have hs5 := b5.size
    have HEND := hide (endW_at (w := w) (w1 := w5) (by omega) (below_here HB4.out b5) P2.out P3.out z a' n c' am' m cm2 op st false)
    refine ⟨_,results_cc rfl rfl rfl (run_loadVar_row _ _ _ _ _ _ _ HEND.out.1 Tryz.underlying29 rfl (by kernel_rfl)) (Tryz.loadOk HEND.out.2.1),_,by rw [HRR.out]; rfl,a',c',am',cm2,by rw [HFN.out]; unfold fvV; dsimp only; rw [HLQ.out,HLP.out],?_,HEND.out.2.2.1,by rw [HFN.out]; exact hcap5⟩
    rw [HFN.out]
    exact (hO5.aside HEND.out.2.2.2 (.inl (by omega))).wide (by omega) HEND.out.2.2.2.size (Nat.le_refl _)
   | some s' =>
    have HRR := hide hrr
    have HFN : Hid (fv = ⟨z,s'.qs,s'.ps,s'.op,st + 1⟩) := by show _ = _; rw [HFE.out,hrr]
    rw [hrr] at hk4
    dsimp only at hk4
    obtain ⟨rfl,A4,C4,V4,hA4,_⟩ := hk4
    have HA4 := hide hA4
    clear hA4 hrr
    go_wp2_with fail
    refine (ftl_any w2.heap.size pk z (st + 1) n g c gm cm' A4 C4 V4 s' aN w4 HA4.out (by omega)).mono ?_
    rintro e w5 ⟨rfl,b5⟩
    have P2 := hide (block_on N2.out b5)
    have P3 := hide (block_on N3.out b5)
    have HB5 := hide (below_here HB4.out b5)
    have HO5 := hide (own_of_kp (HA4.out.mem.later b5))
    have HLN := hide HA4.out.mem.sq.len
    have hs5 := b5.size
    clear b5
    obtain ⟨d0,d1,d2,d3,d4⟩ := five_cells P2.out
    have g0 := four_frozen P2.out 0
    have g1 := four_frozen P2.out 1
    have g2 := four_frozen P2.out 2
    have g3 := four_frozen P2.out 3
    have g4 := four_frozen P2.out 4
    have e2 : w5.cell? ⟨w.heap.size + 1 + 1 + 1,0,none⟩ = some (.bool false) := by simp [World.cell?,P3.out]
    have e3 := four_frozen P3.out 0
    have HEND := hide (endW_at (w := w) (w1 := w5) (by omega) HB5.out P2.out P3.out z (some ⟨g,0,none⟩) n c (some ⟨gm,0,none⟩) s'.ps.length cm' s'.op (st + 1) true)
    unfold endW at HEND
    go_wp2_with fail
    show Leaves _ _ _ _ _ _ _
    refine leaves_cons (f := 97) (args := #[.pointer (some ⟨w.heap.size,0,none⟩),.pointer (some ⟨w.heap.size + 1 + 1,0,none⟩),.pointer (some ⟨w.heap.size + 1 + 1 + 1,0,none⟩)]) (by simp) (by simp [go_sem]) ?_
    refine (enterIdle _ _ _ _).mono ?_
    rintro e u' w'' ⟨rfl,rfl,rfl⟩
    refine ⟨_,results_cc rfl rfl rfl (run_loadVar_row _ _ _ _ _ _ _ HEND.out.1 Tryz.underlying29 rfl (by kernel_rfl)) (Tryz.loadOk HEND.out.2.1),_,by rw [HRR.out]; rfl,some ⟨g,0,none⟩,c,some ⟨gm,0,none⟩,cm',by rw [HFN.out]; unfold fvV; dsimp only; rw [HLN.out],?_,HEND.out.2.2.1,by rw [HFN.out]; exact pl_cap HA4.out.mem.pl⟩
    rw [HFN.out]
    exact (HO5.out.aside HEND.out.2.2.2 (.inl (by omega))).wide (by omega) HEND.out.2.2.2.size (Nat.le_refl _)
end Go.Proofs.YtgjoepdfhadmcaaGreatDoor
end

section
namespace Go.Proofs.YtgjoepdfhadmcaaGreatDoor
open Go.RowKit
set_option linter.unusedVariables false
set_option maxRecDepth 20000
def BackTo (w : World) (f : Fv) (x : Hd) (v : Value) (w' : World) (a : Option Addr) (cap : Nat) (am : Option Addr) (cm : Nat) : Prop :=
 (x.2.2 = false ∧ v = .tuple #[fvV f a cap am cm,.bool true] ∧ Below w.heap.size w w') ∨ (x.2.2 = true ∧ ∃ u,v = .tuple #[u,.bool (backF f x).isSome] ∧ FtlAns w ((backF f x).getD f) u w')
set_option maxHeartbeats 1600000 in
theorem writtenBack_any (f : Fv) (a : Option Addr) (n cap : Nat) (am : Option Addr) (m cm : Nat) (xa : Int) (xt : ByteArray) (xd : Bool) (w : World) {lo hi lo' hi' : Nat} (h : Squares lo hi w a n f.qs) (hhi : hi <= w.heap.size) (hp : Places lo' hi' w am m f.ps) (hhi' : hi' <= w.heap.size) (hfo : ftlOkF f = true) (hcl : m <= cm) (hT : Tab w) {aB aL aS aC aF aN : Addr} (E : Errs w aB aL aS aC aF) (hN : w.cell? ⟨1,0,none⟩ = some (noRoomV aN)) :
  Calls Tryz.prog 115 #[.agg #[.int .i64 f.z,.slice a n cap,.slice am m cm,.int .i64 f.op,.int .i64 f.st],.agg #[.int .i64 xa,.string xt,.bool xd]] w fun e w' => ∃ v,e = .returned v ∧ BackTo w f (xa,xt,xd) v w' a cap am cm := by
 have hlq := h.1
 have hlp := hp.1
 have hfo' := hfo
 unfold ftlOkF at hfo'
 obtain ⟨hmo,_,_,_,_,_,_⟩ := ftlOk_parts hfo'
 have hm64 : m <= 64 := by have := (mapOk_len hmo).2; rw [hlp] at this; exact this
 have hn12 : n <= 12 := by have := (chipOk_parts (mapOk_chip hmo)).2.2.2.1; omega
 have HPB := hide (planR_back (f := f) (x := (xa,xt,xd)) hfo)
 have HEB := hide (fun f' hb => entF_back (f := f) (f' := f') (x := (xa,xt,xd)) hfo hb)
 have HEN : Hid (backF f (xa,xt,xd) = none -> entF f.z f.qs f.ps f.op f.st 1 xa xt = f) := fun hb => by
  unfold backF at hb
  rw [Option.map_eq_none_iff] at hb
  unfold entF
  rw [hfo',hb]
  rfl
 dsimp only at HPB HEB
 obtain ⟨wA,hwA⟩ : ∃ wA,wA = ((w.alloc (.cells #[.int .i64 f.z,.slice a n cap,.slice am m cm,.int .i64 f.op,.int .i64 f.st] 29)).alloc (.cells #[.int .i64 xa,.string xt,.bool xd] 83)).alloc (.cells #[.int .i64 0,.slice none 0 0,.slice none 0 0,.int .i64 0,.int .i64 0] 29) := ⟨_,rfl⟩
 have hzA : wA.heap.size = w.heap.size + 1 + 1 + 1 := by rw [hwA]; simp
 have HBA : Hid (Below w.heap.size w wA) := by rw [hwA]; exact (((Below.refl _ _).alloc (Nat.le_refl _) _).alloc (by simp) _).alloc (by simp; omega) _
 have H0 : Hid (wA.heap[w.heap.size]? = some (.cells #[.int .i64 f.z,.slice a n cap,.slice am m cm,.int .i64 f.op,.int .i64 f.st] 29)) := by rw [hwA]; exact heap_old (heap_old (heap_new _ _))
 have H1 : Hid (wA.heap[w.heap.size + 1]? = some (.cells #[.int .i64 xa,.string xt,.bool xd] 83)) := by rw [hwA]; exact heap_old (heap_at (by simp))
 have H2 : Hid (wA.heap[w.heap.size + 1 + 1]? = some (.cells #[.int .i64 0,.slice none 0 0,.slice none 0 0,.int .i64 0,.int .i64 0] 29)) := by rw [hwA]; exact heap_at (by simp)
 have HSA := hide (h.later HBA.out hhi)
 have HPA := hide (hp.later HBA.out hhi')
 have HTA := hide (hT.here HBA.out)
 have HEA := hide (E.here HBA.out)
 have hGl : 1 < w.heap.size := World.block_lt_of_cell? _ _ hN
 have HNA := hide ((HBA.out.cell (p := ⟨1,0,none⟩) hGl).trans hN)
 have HCK := hide (chipOk_fits (mapOk_chip hmo))
 clear h hp hT E hN hmo hfo hfo'
 obtain ⟨c0,c1,c2,c3,c4⟩ := five_cells H0.out
 obtain ⟨x0,x1,x2⟩ := three_cells H1.out
 obtain ⟨p0,p1,p2,p3,p4⟩ := five_cells H2.out
 have f0 := four_frozen H2.out 0
 have f1 := four_frozen H2.out 1
 have f2 := four_frozen H2.out 2
 have f3 := four_frozen H2.out 3
 have f4 := four_frozen H2.out 4
 cases xd with
 | false =>
  have HRS := hide (five_set H2.out (.int .i64 f.z) (.slice a n cap) (.slice am m cm) (.int .i64 f.op) (.int .i64 f.st))
  have HAS := hide (five_aside (b := w.heap.size + 1 + 1) (Aside.refl (w.heap.size + 1 + 1) (w.heap.size + 1 + 1 + 1) wA) (Nat.le_refl _) (Nat.lt_succ_self _) (.int .i64 f.z) (.slice a n cap) (.slice am m cm) (.int .i64 f.op) (.int .i64 f.st))
  have HBF := hide (HBA.out.trans (HAS.out.below (B := w.heap.size) (by omega) (by omega)))
  go_enter Tryz.func115,Tryz.ntmps115
  go_upto_region 1 with fail
  rw [<- hwA]
  clear hwA
  go_wp2_with fail
  exact bodyPost_ret (results_ct rfl rfl (run_loadVar_row _ _ _ _ _ _ _ HRS.out Tryz.underlying29 rfl (by kernel_rfl))) rfl ⟨_,rfl,.inl ⟨rfl,by unfold fvV; rw [hlq,hlp]; rfl,HBF.out⟩⟩
 | true =>
  clear p0 p1 p2 p3 p4 f0 f1 f2 f3 f4
  go_enter Tryz.func115,Tryz.ntmps115
  go_upto_region 1 with fail
  rw [<- hwA]
  clear hwA
  go_wp2_with fail
  refine (implEnter_any f.z a n cap f.qs am m cm f.ps f.op f.st 1 xa 0 xt wA HSA.out (by omega) (by omega) HCK.out HPA.out (by omega) (by omega) hcl HTA.out HEA.out HNA.out).mono ?_
  rintro e w5 ⟨v,rfl,a',c',am',cm',rfl,ho5,b5,hcap5⟩
  rw [HPB.out]
  obtain ⟨fv,hfv⟩ : ∃ fv,fv = entF f.z f.qs f.ps f.op f.st 1 xa xt := ⟨_,rfl⟩
  rw [<- hfv] at ho5 hcap5
  rw [<- hfv]
  have HFV : Hid ((backF f (xa,xt,true)).getD f = fv) := by
   show _ = _
   rw [hfv]
   cases hb : backF f (xa,xt,true) with
   | none => exact (HEN.out hb).symm
   | some f' => exact (HEB.out f' hb).symm
  have K2 := hide (block_on H2.out b5)
  have HB5 := hide (below_here HBA.out b5)
  have HO5 := hide ho5
  have HC5 := hide hcap5
  have hs5 := b5.size
  clear ho5 b5 hcap5 hfv c0 c1 c2 c3 c4 x0 x1 x2
  obtain ⟨Z,Q,PS,OP,ST⟩ := fv
  unfold fvV
  dsimp only at HO5 HC5 ⊢
  obtain ⟨p0,p1,p2,p3,p4⟩ := five_cells K2.out
  have f0 := four_frozen K2.out 0
  have f1 := four_frozen K2.out 1
  have f2 := four_frozen K2.out 2
  have f3 := four_frozen K2.out 3
  have f4 := four_frozen K2.out 4
  have HRS := hide (five_set K2.out (.int .i64 Z) (.slice a' Q.length c') (.slice am' PS.length cm') (.int .i64 OP) (.int .i64 ST))
  have HAS := hide (five_aside (b := w.heap.size + 1 + 1) (Aside.refl (w.heap.size + 1 + 1) (w.heap.size + 1 + 1 + 1) w5) (Nat.le_refl _) (Nat.lt_succ_self _) (.int .i64 Z) (.slice a' Q.length c') (.slice am' PS.length cm') (.int .i64 OP) (.int .i64 ST))
  have HBF := hide (HB5.out.trans (HAS.out.below (B := w.heap.size) (by omega) (by omega)))
  have HOF := hide ((HO5.out.aside HAS.out (.inl (by omega))).wide (show w.heap.size <= wA.heap.size by omega) HAS.out.size (Nat.le_refl _))
  obtain ⟨bs,hbs⟩ : ∃ bs,bs = (backF f (xa,xt,true)).isSome := ⟨_,rfl⟩
  have HBS := hide hbs
  rw [<- hbs]
  clear hbs
  go_wp2_with fail
  refine bodyPost_ret (results_ct rfl rfl (run_loadVar_row _ _ _ _ _ _ _ HRS.out Tryz.underlying29 rfl (by kernel_rfl))) rfl ⟨_,rfl,.inr ⟨rfl,.agg #[.int .i64 Z,.slice a' Q.length c',.slice am' PS.length cm',.int .i64 OP,.int .i64 ST],?_,a',c',am',cm',?_,?_,HBF.out,?_⟩⟩
  ·rw [<- HBS.out]; rfl
  ·rw [HFV.out]; rfl
  ·rw [HFV.out]; exact HOF.out
  ·rw [HFV.out]; exact HC5.out
end Go.Proofs.YtgjoepdfhadmcaaGreatDoor
end

section
namespace Go.Proofs.YtgjoepdfhadmcaaGreatDoor
open Go.RowKit
set_option linter.unusedVariables false
set_option maxRecDepth 20000
theorem without_rest {c : Cv} (h : COk c) (a : Int) : (idxH c.ys a = -1 ∧ restH c.ys a = c.ys) ∨ ∃ k : Nat,k < c.ys.length ∧ idxH c.ys a = (k : Int) ∧ restH c.ys a = c.ys.take k ++ c.ys.drop (k + 1) := by
 rcases idxH_cases c.ys a with ⟨h1,h2⟩ | ⟨k,h1,h2,h3,_⟩
 ·exact .inl ⟨h1,restH_none h2⟩
 ·exact .inr ⟨k,h1,h2,restH_hit h1 h3 (h.other h1 h3)⟩
set_option maxHeartbeats 1600000 in
theorem withoutAt_any (c : Cv) (h : COk c) (x : Int) (ai : Option Addr) (ni ci : Nat) (w : World) {lo hi : Nat} (hy : Helds lo hi w ai ni c.ys) (hhi : hi <= w.heap.size) (hci : ni <= ci) :
  Calls Tryz.prog 161 #[.slice ai ni ci,.int .i64 (idxH c.ys x)] w fun e w' => ∃ a' c',e = .returned (.slice a' (restH c.ys x).length c') ∧ HdOwn w.heap.size w' (.slice a' (restH c.ys x).length c') (restH c.ys x) ∧ Below w.heap.size w w' := by
 have hl := hy.1
 have h16 : ni <= 16 := by have := h.len; have := h.r1; omega
 rcases without_rest h x with ⟨h1,h2⟩ | ⟨k,h1,h2,h3⟩
 ·rw [h1,h2,hl]
  exact withoutNo_any ai ni ci c.ys w hy hhi (by omega)
 ·rw [h2,h3]
  obtain ⟨b,off,rfl,_⟩ := hy.2.2 (by omega)
  refine (without_any b off ni ci c.ys k w hy hhi (by omega) hci (by omega)).mono ?_
  rintro e w1 ⟨a',c',h4,h5,h6⟩
  have e1 : (c.ys.take k ++ c.ys.drop (k + 1)).length = k + (ni - (k + 1)) := by rw [List.length_append,List.length_take,List.length_drop]; omega
  exact ⟨a',c',by rw [h4,e1],by rw [e1]; exact h5,h6⟩
theorem front_last {ys : List Hd} {x : Hd} : (frontH ys x).drop (restH ys x.1).length = [hdAt (frontH ys x) (restH ys x.1).length] := by
 have hl : (frontH ys x).length = (restH ys x.1).length + 1 := by unfold frontH; simp
 rw [hdAt_get (by omega),<- List.getElem_cons_drop (by omega),List.drop_of_length_le (by omega)]
theorem seven_set5 {W : World} {b : Nat} {c0 c1 c2 c3 c4 c5 c6 : Value} {t : TypeId} {fr : Nat × Nat} (h : W.heap[b]? = some (.cells #[c0,c1,c2,c3,c4,c5,c6] t fr)) (v2 v3 v4 v5 v6 : Value) :
  (((((W.setCell ⟨b,2,none⟩ v2).setCell ⟨b,3,none⟩ v3).setCell ⟨b,4,none⟩ v4).setCell ⟨b,5,none⟩ v5).setCell ⟨b,6,none⟩ v6).heap[b]? = some (.cells #[c0,c1,v2,v3,v4,v5,v6] t fr) :=
 set_block (set_block (set_block (set_block (set_block h 2 v2 (by simp)) 3 v3 (by simp)) 4 v4 (by simp)) 5 v5 (by simp)) 6 v6 (by simp)
theorem seven_aside5 {lo hi b : Nat} {a w : World} (h : Aside lo hi a w) (h1 : lo <= b) (h2 : b < hi) (v2 v3 v4 v5 v6 : Value) :
  Aside lo hi a (((((w.setCell ⟨b,2,none⟩ v2).setCell ⟨b,3,none⟩ v3).setCell ⟨b,4,none⟩ v4).setCell ⟨b,5,none⟩ v5).setCell ⟨b,6,none⟩ v6) :=
 ((((h.setCell (p := ⟨b,2,none⟩) h1 h2 v2).setCell (p := ⟨b,3,none⟩) h1 h2 v3).setCell (p := ⟨b,4,none⟩) h1 h2 v4).setCell (p := ⟨b,5,none⟩) h1 h2 v5).setCell (p := ⟨b,6,none⟩) h1 h2 v6
theorem used_end {c : Cv} {x : Hd} {f' : Fv} {n1 R K G k : Nat} (hn1 : n1 = (restH c.ys x.1).length) (hrm : c.rm = (R : Int)) (hle : n1 <= R) (hK : K = min R (1 + n1)) (hG : G = 1 + n1 - K) (hk : k = G) (h0 : k = 0 -> f' = c.f) (h1 : 1 <= k -> backD c.f (hdAt (frontH c.ys x) n1) = some f') : usedF c x = some ⟨c.rm,(frontH c.ys x).take K,f'⟩ := by
 unfold usedF
 rw [<- hn1]
 by_cases e : n1 = R
 ·rw [if_pos (by rw [hrm,e]),h1 (by omega)]
  rw [show K = n1 by omega]
  rfl
 ·rw [if_neg (by rw [hrm]; omega),h0 (by omega),List.take_of_length_le (by unfold frontH; simp only [List.length_cons]; omega)]
theorem used_fail {c : Cv} {x : Hd} {n1 : Nat} (hn1 : n1 = (restH c.ys x.1).length) (hrm : c.rm = (n1 : Int)) (h : backD c.f (hdAt (frontH c.ys x) n1) = none) : usedF c x = none := by
 unfold usedF
 rw [<- hn1,if_pos (by rw [hrm]),h]
 rfl
theorem ftl_in {lo hi : Nat} {w : World} {ai a am : Option Addr} {ys : List Hd} {qs : List Sq} {ps : List Pl} (h : CacheOwn lo hi w ai a am ys qs ps) : ∃ l r,FtlOwn l r w a am qs ps ∧ lo <= l ∧ r <= hi := by
 obtain ⟨h0,l1,r1,l2,r2,h1,h2,h3,h4,h5,h6,h7⟩ := h
 exact ⟨l2,r2,h7,h3,h4⟩
set_option maxHeartbeats 12800000 in
theorem withUsed_any (c : Cv) (hc : COk c) (ai : Option Addr) (ni ci : Nat) (a : Option Addr) (n cap : Nat) (am : Option Addr) (m cm : Nat) (xa : Int) (xt : ByteArray) (xd : Bool) (w : World) {l1 r1 lo hi lo' hi' : Nat} (hy : Helds l1 r1 w ai ni c.ys) (hr1 : r1 <= w.heap.size) (h : Squares lo hi w a n c.f.qs) (hhi : hi <= w.heap.size) (hp : Places lo' hi' w am m c.f.ps) (hhi' : hi' <= w.heap.size) (hx : xt.size <= 1048576) (hT : Tab w) {aB aL aS aC aF aN : Addr} (E : Errs w aB aL aS aC aF) (hN : w.cell? ⟨1,0,none⟩ = some (noRoomV aN)) :
  Calls Tryz.prog 109 #[.agg #[.int .i64 c.rm,.slice ai ni ci,.int .i64 c.f.z,.slice a n cap,.slice am m cm,.int .i64 c.f.op,.int .i64 c.f.st],.agg #[.int .i64 xa,.string xt,.bool xd]] w fun e w' => ∃ v,e = .returned (.tuple #[v,.bool (usedF c (xa,xt,xd)).isSome]) ∧ CacheAns w ((usedF c (xa,xt,xd)).getD c) v w' := by
 have hly := hy.1
 have hlq := h.1
 have hlp := hp.1
 have hfo : ftlOkF c.f = true := hc.ftl
 obtain ⟨hmo,_,_,_,_,_,_⟩ := ftlOk_parts hc.ftl
 have hm64 : m <= 64 := by have := (mapOk_len hmo).2; rw [hlp] at this; exact this
 have hm1 : 1 <= m := by have := (mapOk_len hmo).1; rw [hlp] at this; exact this
 have h16 : ni <= 16 := by have := hc.len; have := hc.r1; omega
 have hr16 := hc.r1
 have hr1' := hc.r0
 have hrl := hc.len
 have hnR9 : True := trivial
 have HCK := hide (mapOk_chip hmo)
 obtain ⟨R,hR⟩ : ∃ R : Nat,c.rm = (R : Int) := ⟨c.rm.toNat,by omega⟩
 have HFT : Hid (∀ i,i < ni -> (hdAt c.ys i).2.1.size <= 1048576) := fun i hi => by have := (hc.item i (by omega)).2.2; omega
 have HC := hide hc
 -- what is told
 obtain ⟨n1,hn1⟩ : ∃ n1,n1 = (restH c.ys xa).length := ⟨_,rfl⟩
 have hn1le : n1 <= ni := by rw [hn1,<- hly]; exact restH_le _ _
 have HN1 := hide hn1
 obtain ⟨r,hr⟩ : ∃ r,r = usedF c (xa,xt,xd) := ⟨_,rfl⟩
 have HR := hide hr
 rw [<- hr]
 obtain ⟨Z,hZ⟩ : ∃ Z,Z = c.f.z := ⟨_,rfl⟩
 obtain ⟨OP,hOP⟩ : ∃ OP,OP = c.f.op := ⟨_,rfl⟩
 obtain ⟨ST,hST⟩ : ∃ ST,ST = c.f.st := ⟨_,rfl⟩
 obtain ⟨RM,hRM⟩ : ∃ RM,RM = c.rm := ⟨_,rfl⟩
 rw [<- hZ,<- hOP,<- hST,<- hRM]
 have HCV : Hid (c = ⟨RM,c.ys,⟨Z,c.f.qs,c.f.ps,OP,ST⟩⟩) := by rw [hZ,hOP,hST,hRM]; rfl
 have hRM2 : RM = (R : Int) := by rw [hRM]; exact hR
 obtain ⟨wA,hwA⟩ : ∃ wA,wA = ((w.alloc (.cells #[.int .i64 RM,.slice ai ni ci,.int .i64 Z,.slice a n cap,.slice am m cm,.int .i64 OP,.int .i64 ST] 65)).alloc (.cells #[.int .i64 xa,.string xt,.bool xd] 83)).alloc (.cells #[.int .i64 0,.slice none 0 0,.int .i64 0,.slice none 0 0,.slice none 0 0,.int .i64 0,.int .i64 0] 65) := ⟨_,rfl⟩
 have hzA : wA.heap.size = w.heap.size + 1 + 1 + 1 := by rw [hwA]; simp
 have HBA : Hid (Below w.heap.size w wA) := by rw [hwA]; exact (((Below.refl _ _).alloc (Nat.le_refl _) _).alloc (by simp) _).alloc (by simp; omega) _
 have H0 : Hid (wA.heap[w.heap.size]? = some (.cells #[.int .i64 RM,.slice ai ni ci,.int .i64 Z,.slice a n cap,.slice am m cm,.int .i64 OP,.int .i64 ST] 65)) := by rw [hwA]; exact heap_old (heap_old (heap_new _ _))
 have H1 : Hid (wA.heap[w.heap.size + 1]? = some (.cells #[.int .i64 xa,.string xt,.bool xd] 83)) := by rw [hwA]; exact heap_old (heap_at (by simp))
 have H2 : Hid (wA.heap[w.heap.size + 1 + 1]? = some (.cells #[.int .i64 0,.slice none 0 0,.int .i64 0,.slice none 0 0,.slice none 0 0,.int .i64 0,.int .i64 0] 65)) := by rw [hwA]; exact heap_at (by simp)
 have HYA := hide (hy.later HBA.out hr1)
 have HSA := hide (h.later HBA.out hhi)
 have HPA := hide (hp.later HBA.out hhi')
 have HTA := hide (hT.here HBA.out)
 have HEA := hide (E.here HBA.out)
 have hGl : 1 < w.heap.size := World.block_lt_of_cell? _ _ hN
 have HNA := hide ((HBA.out.cell (p := ⟨1,0,none⟩) hGl).trans hN)
 -- a copy of what came in,at any later world
 have HCC : ∀ W,Hid (Below wA.heap.size wA W -> Calls Tryz.prog 108 #[.agg #[.int .i64 RM,.slice ai ni ci,.int .i64 Z,.slice a n cap,.slice am m cm,.int .i64 OP,.int .i64 ST]] W fun e w' => ∃ v,e = .returned v ∧ CacheAns2 W ⟨RM,c.ys,⟨Z,c.f.qs,c.f.ps,OP,ST⟩⟩ v w') := fun W hb =>
  copyOfCache_any RM ai ni ci c.ys Z a n cap c.f.qs am m cm c.f.ps OP ST W (HYA.out.later hb (by omega)) (by have := hb.size; omega) (by omega) HFT.out (HSA.out.later hb (by omega)) (by have := hb.size; omega) (by rw [hZ]; exact HCK.out) (HPA.out.later hb (by omega)) (by have := hb.size; omega) hm1 hm64
 have HRM := hide hRM2
 have HZE := hide hZ
 have HOE := hide hOP
 have HSE := hide hST
 have HRC := hide hRM
 have hRR : R <= 16 := by omega
 have HNR : Hid (n1 <= R) := by show _ <= _; omega
 clear hy h hp hT E hN hmo hc hr hn1 hRM hR hRM2 hZ hOP hST
 obtain ⟨c0,c1,c2,c3,c4,c5,c6⟩ := seven_cells H0.out
 go_enter Tryz.func109,Tryz.ntmps109
 go_upto_region 1 with fail
 rw [<- hwA]
 clear hwA
 go_wp2_with fail
 refine ((HCC _).out (Below.refl _ _)).mono ?_
 rintro e w1 ⟨v,rfl,aj,cj,b',cb',bm',cbm',rfl,ho1,b1,hcap1,hcj1⟩
 unfold cvV
 dsimp only at ho1 hcap1 hcj1 ⊢
 rw [hly,hlq,hlp]
 rw [hlp] at hcap1
 rw [hly] at hcj1
 -- own,in a variable
 obtain ⟨wP,hwP⟩ : ∃ wP,wP = w1.alloc (.cells #[.int .i64 RM,.slice aj ni cj,.int .i64 Z,.slice b' n cb',.slice bm' m cbm',.int .i64 OP,.int .i64 ST] 65) := ⟨_,rfl⟩
 have hzP : wP.heap.size = w1.heap.size + 1 := by rw [hwP]; simp
 have HBP : Hid (Below w1.heap.size w1 wP) := by rw [hwP]; exact (Below.refl _ _).alloc (Nat.le_refl _) _
 have HP : Hid (wP.heap[w1.heap.size]? = some (.cells #[.int .i64 RM,.slice aj ni cj,.int .i64 Z,.slice b' n cb',.slice bm' m cbm',.int .i64 OP,.int .i64 ST] 65)) := by rw [hwP]; exact heap_new _ _
 have hs1 := b1.size
 have HO := hide (ho1.later HBP.out (Nat.le_refl _))
 have HBW := hide (below_here b1 HBP.out)
 have K0 := hide (block_on H0.out HBW.out)
 have K1 := hide (block_on H1.out HBW.out)
 have K2 := hide (block_on H2.out HBW.out)
 have HCP := hide hcap1
 clear ho1 b1 hcap1 c0 c1 c2 c3 c4 c5 c6 H0 H1 H2
 have HCJ := hide hcj1
 clear hcj1
 obtain ⟨P,hPe⟩ : ∃ P,P = w1.heap.size := ⟨_,rfl⟩
 have hPP : wP.heap.size = P + 1 := by rw [hPe]; exact hzP
 have hPA : wA.heap.size <= P := by rw [hPe]; exact hs1
 have HPP := hide hPP
 have HPA2 := hide hPA
 have HZA := hide hzA
 rw [<- hPe] at HP HO
 have HHY : ∀ W,Hid (Below wP.heap.size wP W -> Helds wA.heap.size P W aj ni c.ys) := fun W hb => by have h9 := (HO.out.later hb (by omega)).helds; rw [hly] at h9; exact h9
 have HCI : ∀ W,Hid (Below wP.heap.size wP W -> Calls Tryz.prog 119 #[.slice aj ni cj,.int .i64 xa] W fun e w' => e = .returned (.int .i64 (idxH c.ys xa)) ∧ Below W.heap.size W w') := fun W hb => itemOf_any aj ni cj c.ys xa W ((HHY W).out hb) (by have := hb.size; omega) (by omega)
 have HCW : ∀ W,Hid (Below wP.heap.size wP W -> Calls Tryz.prog 161 #[.slice aj ni cj,.int .i64 (idxH c.ys xa)] W fun e w' => ∃ a' c',e = .returned (.slice a' n1 c') ∧ HdOwn W.heap.size w' (.slice a' n1 c') (restH c.ys xa) ∧ Below W.heap.size W w') := fun W hb => by rw [HN1.out]; exact withoutAt_any c HC.out xa aj ni cj W ((HHY W).out hb) (by have := hb.size; omega) HCJ.out
 have HCH : ∀ W,Hid (Calls Tryz.prog 160 #[.agg #[.int .i64 xa,.string xt,.bool xd]] W fun e w' => e = .returned (.agg #[.int .i64 xa,.string xt,.bool xd]) ∧ Below W.heap.size W w') := fun W => copyOfHeld_any xa xt xd W hx
 have HCB : ∀ W a1 c1 B,Hid (HdOwn B W (.slice a1 n1 c1) (restH c.ys xa) -> Calls Tryz.prog 162 #[.slice a1 n1 c1,.agg #[.int .i64 xa,.string xt,.bool xd]] W fun e w' => ∃ a' c',e = .returned (.slice a' (1 + n1) c') ∧ HdOwn W.heap.size w' (.slice a' (1 + n1) c') (frontH c.ys (xa,xt,xd)) ∧ Below W.heap.size W w') := fun W a1 c1 B ho => by
  have h9 := (hd_own ho).helds
  rw [<- HN1.out] at h9
  exact behind_any a1 n1 c1 (restH c.ys xa) xa xt xd W h9 (Nat.le_refl _) (by omega)
 have HSC : ∀ W,Hid (Below wP.heap.size wP W -> (W.cell? ⟨P,0,none⟩ = some (.int .i64 RM) ∧ W.cell? ⟨P,1,none⟩ = some (.slice aj ni cj)) ∧ W.cell? ⟨w.heap.size + 1,0,none⟩ = some (.int .i64 xa) ∧ W.cell? ⟨w.heap.size + 1,1,none⟩ = some (.string xt) ∧ W.cell? ⟨w.heap.size + 1,2,none⟩ = some (.bool xd)) := fun W hb => by
  obtain ⟨q0,q1,_⟩ := seven_cells (block_on HP.out hb)
  exact ⟨⟨q0,q1⟩,three_cells (block_on K1.out hb)⟩
 have HB0 : Hid (Below wP.heap.size wP wP.drew) := (Below.refl wP.heap.size wP).drew
 go_upto_region 2 with fail
 rw [<- hwP,<- hPe]
 clear hwP hzP hPP hzA hPA hs1 hPe
 go_region_held3 (fun W => (W.cell? ⟨P,0,none⟩ = some (.int .i64 RM) ∧ W.cell? ⟨P,1,none⟩ = some (.slice aj ni cj)) ∧ W.cell? ⟨w.heap.size + 1,0,none⟩ = some (.int .i64 xa) ∧ W.cell? ⟨w.heap.size + 1,1,none⟩ = some (.string xt) ∧ W.cell? ⟨w.heap.size + 1,2,none⟩ = some (.bool xd))
  (first | exact (HSC _).out HB0.out | exact (HSC _).out HB1.out | exact (HSC _).out HB2.out | exact (HSC _).out HB3.out | exact (HSC _).out HB4.out | fail)
  (first
   | (go_at_call 119; refine ((HCI _).out HB0.out).mono ?_; rintro e wi ⟨rfl,bi⟩; have HB1 := hide (below_here HB0.out bi); clear bi)
   | (go_at_call 161; refine ((HCW _).out HB1.out).mono ?_; rintro e ww ⟨a1,c1',rfl,hoW,bi⟩; have HOW := hide hoW; have HB2 := hide (below_here HB1.out bi); clear bi hoW)
   | (go_at_call 160; refine ((HCH _).out).mono ?_; rintro e wh ⟨rfl,bi⟩; have HB3 := hide (below_here HB2.out bi); have HOY := hide (HdOwn.on HOW.out bi); clear bi)
   | (go_at_call 162; refine ((HCB _ _ _ _).out HOY.out).mono ?_; rintro e w4 ⟨a2,c2',rfl,hoB,bi⟩; have HOB := hide (hoB.mono HB3.out.size); have HB4 := hide (below_here HB3.out bi); clear bi hoB)
   | fail)
 all_goals
  have hPP := HPP.out
  have hPA := HPA2.out
  have hzA := HZA.out
  have hs4 := HB4.out.size
  clear HCI HCW HCH HCB HSC HHY HOW HOY HB0 HB1 HB2 HB3
  -- parted
  have hfl : (frontH c.ys (xa,xt,xd)).length = 1 + n1 := by unfold frontH; rw [List.length_cons,HN1.out]; exact Nat.add_comm _ _
  obtain ⟨K,hK⟩ : ∃ K,K = min R (1 + n1) := ⟨_,rfl⟩
  obtain ⟨G,hG⟩ : ∃ G,G = 1 + n1 - K := ⟨_,rfl⟩
  have HPT : Hid (Calls Tryz.prog 163 #[.slice a2 (1 + n1) c2',.int .i64 RM] w4 fun e w' => ∃ a1 c1 a2 c2,e = .returned (.tuple #[.slice a1 K c1,.slice a2 G c2]) ∧ HdOwn w4.heap.size w' (.slice a1 K c1) ((frontH c.ys (xa,xt,xd)).take K) ∧ HdOwn w4.heap.size w' (.slice a2 G c2) ((frontH c.ys (xa,xt,xd)).drop K) ∧ Below w4.heap.size w4 w') := by
   obtain ⟨gI,cI,e9,hle9,_,_⟩ := hd_some HOB.out (by omega)
   simp only [Value.slice.injEq] at e9
   obtain ⟨rfl,_,rfl⟩ := e9
   have h9 := (hd_own HOB.out).helds
   rw [hfl] at h9
   rw [HRM.out,hG]
   exact parted_any gI 0 (1 + n1) c2' _ R K w4 h9 (Nat.le_refl _) (by omega) (by omega) (by omega) hK
  have L0 := hide (block_on K0.out HB4.out)
  obtain ⟨c0,c1,c2,c3,c4,c5,c6⟩ := seven_cells L0.out
  have HRR := hide hRR
  clear hRR
  have HZA := hide hzA
  have HPP := hide hPP
  clear hzA hPP
  go_wp2_with fail
  refine HPT.out.mono ?_
  rintro e w5 ⟨a3,c3',a4,c4',rfl,hS5,hG5,b5⟩
  have HS5 := hide hS5
  have HG5 := hide hG5
  have HB5 := hide (below_here HB4.out b5)
  have M0 := hide (block_on L0.out b5)
  have M2 := hide (block_on (block_on K2.out HB4.out) b5)
  have MP := hide (block_on (block_on HP.out HB4.out) b5)
  have hs5 := b5.size
  have HOF := hide (HO.out.later HB5.out (by have := HPP.out; omega))
  have hm1G : G <= 1 := by have := HNR.out; omega
  have HK := hide hK
  have HG := hide hG
  clear hS5 hG5 b5 hK hG HPT c0 c1 c2 c3 c4 c5 c6 L0 K0 K1 K2
  obtain ⟨lF0,rF0,hF0,hF1,hF2⟩ := ftl_in HOF.out
  have HF0 := hide hF0
  clear hF0
  go_wp2_with fail
  go_loopw [36] (fun i wr => ∃ (k : Nat) (f' : Fv) (a' : Option Addr) (c' : Nat) (am' : Option Addr) (cm' : Nat) (lF hF : Nat),k <= G ∧ i = .int .i64 (k : Int) ∧ (k = 0 -> f' = c.f) ∧ (1 <= k -> backD c.f (hdAt (frontH c.ys (xa,xt,xd)) n1) = some f') ∧ ftlOkF f' = true ∧ wr.heap[P]? = some (.cells #[.int .i64 RM,.slice aj ni cj,.int .i64 f'.z,.slice a' f'.qs.length c',.slice am' f'.ps.length cm',.int .i64 f'.op,.int .i64 f'.st] 65) ∧ FtlOwn lF hF wr a' am' f'.qs f'.ps ∧ wA.heap.size <= lF ∧ hF <= wr.heap.size ∧ (hF <= P ∨ w5.heap.size <= lF) ∧ Aside P (P + 1) w5 wr ∧ f'.ps.length <= cm') (fun i _ => G - (intOf i).toNat)
  case atStart =>
   refine ⟨0,c.f,b',cb',bm',cbm',lF0,rF0,Nat.zero_le _,rfl,fun _ => rfl,fun h => absurd h (by omega),hfo,?_,HF0.out,hF1,by have := HPP.out; omega,.inl hF2,Aside.refl _ _ _,by rw [hlp]; exact HCP.out⟩
   rw [hlq,hlp,<- HZE.out,<- HOE.out,<- HSE.out]
   exact MP.out
  case round =>
   clear hlq hlp hly
   obtain ⟨k,f',a',c',am',cm',lF,hF,hk,rfl,hk0,hk1,hfo',hbP,hown,hlF,hhF,hap,hasd,hcap⟩ := hrel
   have hPP := HPP.out
   have hzA := HZA.out
   have hsr := hasd.size
   have NP := hide hbP
   have HOW := hide hown
   have HAS := hide hasd
   have HCAP := hide hcap
   have HK0 := hide hk0
   have HK1 := hide hk1
   have N0 : Hid (wr.heap[w.heap.size]? = some (.cells #[.int .i64 RM,.slice ai ni ci,.int .i64 Z,.slice a n cap,.slice am m cm,.int .i64 OP,.int .i64 ST] 65)) := (hasd.block _ (by omega) (.inl (by omega))).trans M0.out
   have N2 : Hid (wr.heap[w.heap.size + 1 + 1]? = some (.cells #[.int .i64 0,.slice none 0 0,.int .i64 0,.slice none 0 0,.slice none 0 0,.int .i64 0,.int .i64 0] 65)) := (hasd.block _ (by omega) (.inl (by omega))).trans M2.out
   have HBR : Hid (Below wA.heap.size wA wr) := (below_here HBW.out HB5.out).trans (hasd.below (by omega) (by omega))
   have HBO := hide (below_here HBA.out HBR.out)
   have HZ5 := hide hzA
   have HP5 := hide hPP
   clear hbP hown hasd hcap hk0 hk1 hzA hPP
   obtain ⟨q0,q1,q2,q3,q4,q5,q6⟩ := seven_cells NP.out
   by_cases hlt : k < G
   ·obtain rfl : k = 0 := by omega
    have hGe : G = 1 := by omega
    have hff : f' = c.f := HK0.out rfl
    have hnR : n1 = R := by have := HK.out; have := HG.out; omega
    have hKn : K = n1 := by have := HK.out; omega
    have HDR : Hid ((frontH c.ys (xa,xt,xd)).drop K = [hdAt (frontH c.ys (xa,xt,xd)) n1]) := by show _ = _; rw [hKn,HN1.out]; exact front_last (ys := c.ys) (x := (xa,xt,xd))
    have hgo := (hd_own HG5.out).helds
    rw [HDR.out] at hgo
    have hgr := Helds.aside (w' := wr) (l := P) (r := P + 1) hgo HAS.out (.inr (by have := HP5.out; omega))
    obtain ⟨bG,oG,e9,hg1,hg2,g0,g1,g2⟩ := hd_read hgr (show 0 < 1 by omega)
    simp only [Nat.zero_mul,Nat.add_zero] at g0 g1 g2
    rw [show hdAt [hdAt (frontH c.ys (xa,xt,xd)) n1] 0 = hdAt (frontH c.ys (xa,xt,xd)) n1 from rfl] at g0 g1 g2
    have HUF : Hid (backD c.f (hdAt (frontH c.ys (xa,xt,xd)) n1) = none -> r = none) := fun hb => by rw [HR.out]; exact used_fail HN1.out (by rw [<- HRC.out,HRM.out,hnR]) hb
    obtain ⟨x,hxe⟩ : ∃ x,x = hdAt (frontH c.ys (xa,xt,xd)) n1 := ⟨_,rfl⟩
    rw [<- hxe] at g0 g1 g2 HUF
    have HXE := hide hxe
    clear hxe hgo hgr
    obtain ⟨la,lt,ld⟩ := x
    dsimp only at g0 g1 g2
    subst e9
    have hG0 : (0 : Int) < (G : Int) := by omega
    clear hGe hnR hKn
    rw [hff] at NP HOW HCAP q2 q3 q4 q5 q6
    clear hff
    obtain ⟨wL,hwL⟩ : ∃ wL,wL = wr.alloc (.cells #[.int .i64 la,.string lt,.bool ld] 83) := ⟨_,rfl⟩
    have hzL : wL.heap.size = wr.heap.size + 1 := by rw [hwL]; simp
    have HBL : Hid (Below wr.heap.size wr wL) := by rw [hwL]; exact (Below.refl _ _).alloc (Nat.le_refl _) _
    have HLb : Hid (wL.heap[wr.heap.size]? = some (.cells #[.int .i64 la,.string lt,.bool ld] 83)) := by rw [hwL]; exact heap_new _ _
    have NPL := hide (block_on NP.out HBL.out)
    have HOL := hide (HOW.out.later HBL.out hhF)
    have HBOL := hide (below_here HBO.out HBL.out)
    have HBRL := hide (below_here HBR.out HBL.out)
    have HASL := hide (HAS.out.trans (aside_new HBL.out))
    have N2L := hide (block_on N2.out HBL.out)
    have N0L := hide (block_on N0.out HBL.out)
    have HCALL : Hid (Calls Tryz.prog 115 #[.agg #[.int .i64 c.f.z,.slice a' c.f.qs.length c',.slice am' c.f.ps.length cm',.int .i64 c.f.op,.int .i64 c.f.st],.agg #[.int .i64 la,.string lt,.bool ld]] wL fun e w' => ∃ v,e = .returned v ∧ BackTo wL c.f (la,lt,ld) v w' a' c' am' cm') :=
     writtenBack_any c.f a' c.f.qs.length c' am' c.f.ps.length cm' la lt ld wL HOL.out.squares (by omega) HOL.out.places (by omega) hfo HCAP.out (HTA.out.here HBRL.out) (HEA.out.here HBRL.out) ((HBRL.out.cell (p := ⟨1,0,none⟩) (by show 1 < _; have := HZ5.out; omega)).trans HNA.out)
    obtain ⟨l0,l1',l2⟩ := three_cells HLb.out
    clear q0 q1 q2 q3 q4 q5 q6
    obtain ⟨q0,q1,q2,q3,q4,q5,q6⟩ := seven_cells NPL.out
    have HZL := hide hzL
    clear hzL
    simp only [show ((0 : Nat) : Int) = 0 from rfl]
    go_upto_region 7 with fail
    rw [<- hwL]
    clear hwL g0 g1 g2
    go_wp2_with fail
    refine HCALL.out.mono ?_
    rintro e w6 ⟨v,rfl,hb⟩
    clear HCALL l0 l1' l2 q0 q1 q2 q3 q4 q5 q6
    rcases hb with ⟨hd,rfl,b6⟩ | ⟨hd,u,rfl,a6,c6',am6,cm6,rfl,ho6,b6,hcap6⟩
    ·dsimp only at hd
     subst hd
     have NP6 := hide (block_on NPL.out b6)
     have HAS6 := hide (HASL.out.trans (aside_new b6))
     have HO6 := hide (HOL.out.later b6 (by have := HZL.out; omega))
     have hs6 := b6.size
     have HBK : Hid (backD c.f (hdAt (frontH c.ys (xa,xt,xd)) n1) = some c.f) := by show _ = _; rw [<- HXE.out]; rfl
     clear b6
     unfold fvV
     obtain ⟨wF,hwF⟩ : ∃ wF,wF = w6.alloc (.cells #[.int .i64 c.f.z,.slice a' c.f.qs.length c',.slice am' c.f.ps.length cm',.int .i64 c.f.op,.int .i64 c.f.st] 29) := ⟨_,rfl⟩
     have hzF : wF.heap.size = w6.heap.size + 1 := by rw [hwF]; simp
     have HBF : Hid (Below w6.heap.size w6 wF) := by rw [hwF]; exact (Below.refl _ _).alloc (Nat.le_refl _) _
     have HFb : Hid (wF.heap[w6.heap.size]? = some (.cells #[.int .i64 c.f.z,.slice a' c.f.qs.length c',.slice am' c.f.ps.length cm',.int .i64 c.f.op,.int .i64 c.f.st] 29)) := by rw [hwF]; exact heap_new _ _
     have NPF := hide (block_on NP6.out HBF.out)
     have HRS := hide (seven_set5 NPF.out (.int .i64 c.f.z) (.slice a' c.f.qs.length c') (.slice am' c.f.ps.length cm') (.int .i64 c.f.op) (.int .i64 c.f.st))
     have HAE := hide (seven_aside5 (b := P) (((HAS6.out).trans (aside_new HBF.out))) (Nat.le_refl _) (Nat.lt_succ_self _) (.int .i64 c.f.z) (.slice a' c.f.qs.length c') (.slice am' c.f.ps.length cm') (.int .i64 c.f.op) (.int .i64 c.f.st))
     have HAP := hide (seven_aside5 (b := P) (Aside.refl P (P + 1) wF) (Nat.le_refl _) (Nat.lt_succ_self _) (.int .i64 c.f.z) (.slice a' c.f.qs.length c') (.slice am' c.f.ps.length cm') (.int .i64 c.f.op) (.int .i64 c.f.st))
     have HOE2 := hide ((HO6.out.later HBF.out (by have := HZL.out; omega)).aside HAP.out (by have := HP5.out; omega))
     have hsE := HAP.out.size
     obtain ⟨k0,k1,k2,k3,k4⟩ := five_cells HFb.out
     obtain ⟨q0,q1,q2,q3,q4,q5,q6⟩ := seven_cells NPF.out
     have z2 := four_frozen NPF.out 2
     have z3 := four_frozen NPF.out 3
     have z4 := four_frozen NPF.out 4
     have z5 := four_frozen NPF.out 5
     have z6 := four_frozen NPF.out 6
     have HZF := hide hzF
     clear hzF
     go_upto_region 8 with fail
     rw [<- hwF]
     clear hwF
     go_wp2_with fail
     go_roundw
     case rel => exact ⟨1,c.f,a',c',am',cm',lF,hF,by omega,by go_num,fun h => absurd h (by omega),fun _ => HBK.out,hfo,HRS.out,HOE2.out,hlF,Nat.le_trans (by have := HZL.out; have := HZF.out; omega) hsE,hap,HAE.out,HCAP.out⟩
     case measure => simp [intOf]; omega
    ·dsimp only at hd
     subst hd
     have NP6 := hide (block_on NPL.out b6)
     have HAS6 := hide (HASL.out.trans (aside_new b6))
     have HBR6 := hide (below_here HBRL.out b6)
     have HBO6 := hide (below_here HBOL.out b6)
     have N26 := hide (block_on N2L.out b6)
     have N06 := hide (block_on N0L.out b6)
     have HO6 := hide ho6
     have HC6 := hide hcap6
     have hs6 := b6.size
     clear b6 ho6 hcap6
     cases hbk : backF c.f (la,lt,true) with
     | some f6 =>
      rw [hbk] at HO6 HC6
      dsimp only [Option.getD_some] at HO6 HC6
      have HBK : Hid (backD c.f (hdAt (frontH c.ys (xa,xt,xd)) n1) = some f6) := by show _ = _; rw [<- HXE.out]; exact hbk
      have HOK6 := hide ((backF_ok hfo hbk).1)
      clear hbk
      unfold fvV
      dsimp only [Option.getD_some,Option.isSome_some]
      obtain ⟨wF,hwF⟩ : ∃ wF,wF = w6.alloc (.cells #[.int .i64 f6.z,.slice a6 f6.qs.length c6',.slice am6 f6.ps.length cm6,.int .i64 f6.op,.int .i64 f6.st] 29) := ⟨_,rfl⟩
      have hzF : wF.heap.size = w6.heap.size + 1 := by rw [hwF]; simp
      have HBF : Hid (Below w6.heap.size w6 wF) := by rw [hwF]; exact (Below.refl _ _).alloc (Nat.le_refl _) _
      have HFb : Hid (wF.heap[w6.heap.size]? = some (.cells #[.int .i64 f6.z,.slice a6 f6.qs.length c6',.slice am6 f6.ps.length cm6,.int .i64 f6.op,.int .i64 f6.st] 29)) := by rw [hwF]; exact heap_new _ _
      have NPF := hide (block_on NP6.out HBF.out)
      have HRS := hide (seven_set5 NPF.out (.int .i64 f6.z) (.slice a6 f6.qs.length c6') (.slice am6 f6.ps.length cm6) (.int .i64 f6.op) (.int .i64 f6.st))
      have HAE := hide (seven_aside5 (b := P) (((HAS6.out).trans (aside_new HBF.out))) (Nat.le_refl _) (Nat.lt_succ_self _) (.int .i64 f6.z) (.slice a6 f6.qs.length c6') (.slice am6 f6.ps.length cm6) (.int .i64 f6.op) (.int .i64 f6.st))
      have HAP := hide (seven_aside5 (b := P) (Aside.refl P (P + 1) wF) (Nat.le_refl _) (Nat.lt_succ_self _) (.int .i64 f6.z) (.slice a6 f6.qs.length c6') (.slice am6 f6.ps.length cm6) (.int .i64 f6.op) (.int .i64 f6.st))
      have HOE2 := hide ((HO6.out.later HBF.out (Nat.le_refl _)).aside HAP.out (.inl (by have := HP5.out; have := HZL.out; omega)))
      have hsE := HAP.out.size
      obtain ⟨k0,k1,k2,k3,k4⟩ := five_cells HFb.out
      obtain ⟨q0,q1,q2,q3,q4,q5,q6⟩ := seven_cells NPF.out
      have z2 := four_frozen NPF.out 2
      have z3 := four_frozen NPF.out 3
      have z4 := four_frozen NPF.out 4
      have z5 := four_frozen NPF.out 5
      have z6 := four_frozen NPF.out 6
      have HZF := hide hzF
      clear hzF
      go_upto_region 8 with fail
      rw [<- hwF]
      clear hwF
      go_wp2_with fail
      go_roundw
      case rel => exact ⟨1,f6,a6,c6',am6,cm6,wL.heap.size,w6.heap.size,by omega,by go_num,fun h => absurd h (by omega),fun _ => HBK.out,HOK6.out,HRS.out,HOE2.out,Nat.le_trans HBRL.out.size (Nat.le_refl _),Nat.le_trans (by have := HZL.out; have := HZF.out; omega) hsE,.inr (by have := HZL.out; omega),HAE.out,HC6.out⟩
      case measure => simp [intOf]; omega
     | none =>
      rw [hbk] at HO6 HC6
      dsimp only [Option.getD_none] at HO6 HC6
      have HRN : Hid (r = none) := HUF.out (by show backF c.f (la,lt,true) = none; exact hbk)
      clear hbk
      unfold fvV
      dsimp only [Option.getD_none,Option.isSome_none]
      obtain ⟨wF,hwF⟩ : ∃ wF,wF = w6.alloc (.cells #[.int .i64 c.f.z,.slice a6 c.f.qs.length c6',.slice am6 c.f.ps.length cm6,.int .i64 c.f.op,.int .i64 c.f.st] 29) := ⟨_,rfl⟩
      have hzF : wF.heap.size = w6.heap.size + 1 := by rw [hwF]; simp
      have HBF : Hid (Below w6.heap.size w6 wF) := by rw [hwF]; exact (Below.refl _ _).alloc (Nat.le_refl _) _
      have N2F := hide (block_on N26.out HBF.out)
      have N0F := hide (block_on N06.out HBF.out)
      have HBOF := hide (below_here HBO6.out HBF.out)
      have HBRF := hide (below_here HBR6.out HBF.out)
      obtain ⟨q0,q1,q2,q3,q4,q5,q6⟩ := seven_cells N0F.out
      have HZF := hide hzF
      clear hzF
      go_upto_region 8 with fail
      rw [<- hwF]
      clear hwF
      go_wp2_with fail
      refine ((HCC _).out HBRF.out).mono ?_
      rintro e w7 ⟨v,rfl,a7,c7,b7,d7,e7,g7,rfl,ho7,bb7,hcap7,hcj7⟩
      unfold cvV
      dsimp only at ho7 hcap7 hcj7 ⊢
      have N27 := hide (block_on N2F.out bb7)
      have HBO7 := hide (below_here HBOF.out bb7)
      have HO7 := hide ho7
      have HC7 := hide hcap7
      have hs7 := bb7.size
      clear ho7 bb7 hcap7 hcj7 q0 q1 q2 q3 q4 q5 q6
      obtain ⟨q0,q1,q2,q3,q4,q5,q6⟩ := seven_cells N27.out
      have z0 := four_frozen N27.out 0
      have z1 := four_frozen N27.out 1
      have z2 := four_frozen N27.out 2
      have z3 := four_frozen N27.out 3
      have z4 := four_frozen N27.out 4
      have z5 := four_frozen N27.out 5
      have z6 := four_frozen N27.out 6
      have HRS := hide (seven_set N27.out (.int .i64 RM) (.slice a7 c.ys.length c7) (.int .i64 Z) (.slice b7 c.f.qs.length d7) (.slice e7 c.f.ps.length g7) (.int .i64 OP) (.int .i64 ST))
      have HAR := hide (seven_aside (b := w.heap.size + 1 + 1) (Aside.refl (w.heap.size + 1 + 1) (w.heap.size + 1 + 1 + 1) w7) (Nat.le_refl _) (Nat.lt_succ_self _) (.int .i64 RM) (.slice a7 c.ys.length c7) (.int .i64 Z) (.slice b7 c.f.qs.length d7) (.slice e7 c.f.ps.length g7) (.int .i64 OP) (.int .i64 ST))
      have HBE := hide (HBO7.out.trans (HAR.out.below (B := w.heap.size) (by omega) HBO7.out.size))
      go_wp2_with fail
      refine bodyPost_ret (results_ct rfl rfl (run_loadVar_row _ _ _ _ _ _ _ HRS.out Tryz.underlying65 rfl (by kernel_rfl))) rfl ⟨_,by rw [HRN.out]; rfl,?_⟩
      rw [HRN.out]
      show CacheAns w c _ _
      rw [HCV.out]
      exact ⟨a7,c7,b7,d7,e7,g7,rfl,cache_stored HO7.out HAR.out (by have := HZ5.out; have := HBRF.out.size; omega) (by have := HZ5.out; have := HBRF.out.size; omega),HBE.out,HC7.out⟩
   ·obtain rfl : k = G := by omega
    have HRE : Hid (r = some ⟨c.rm,(frontH c.ys (xa,xt,xd)).take K,f'⟩) := by show _ = _; rw [HR.out]; exact used_end HN1.out (by rw [<- HRC.out,HRM.out]) HNR.out HK.out HG.out rfl HK0.out HK1.out
    have hKl : ((frontH c.ys (xa,xt,xd)).take K).length = K := by rw [List.length_take,hfl]; have := HK.out; omega
    have z1 := four_frozen NP.out 1
    have HNS := hide (set_block NP.out 1 (.slice a3 K c3') (by simp))
    have N2S := hide (set_other N2.out (show P ≠ w.heap.size + 1 + 1 by have := HZ5.out; omega) (o := 1) (.slice a3 K c3'))
    have HAI := hide ((Aside.refl P (P + 1) wr).setCell (p := ⟨P,1,none⟩) (Nat.le_refl _) (Nat.lt_succ_self _) (.slice a3 K c3'))
    have HIT := hide (((hd_own HS5.out).aside HAS.out (.inr (by have := HP5.out; omega))).aside HAI.out (.inr (by have := HP5.out; omega)))
    have HFE := hide (HOW.out.aside HAI.out (by have := HP5.out; omega))
    have HBS := hide (HBO.out.trans (HAI.out.below (B := w.heap.size) (by have := HZ5.out; omega) (by have := HZ5.out; have := HP5.out; omega)))
    have hsS := HAI.out.size
    obtain ⟨wS,hwS⟩ : ∃ wS,wS = wr.setCell ⟨P,1,none⟩ (.slice a3 K c3') := ⟨_,rfl⟩
    have hzS : wS.heap.size = wr.heap.size := by rw [hwS,Go.Deep.nblk_setCell]
    rw [<- hwS] at HNS N2S HIT HFE HBS
    have HZS := hide hzS
    clear hzS
    obtain ⟨y0,y1,y2,y3,y4,y5,y6⟩ := seven_cells HNS.out
    obtain ⟨p0,p1,p2,p3,p4,p5,p6⟩ := seven_cells N2S.out
    have f0 := four_frozen N2S.out 0
    have f1 := four_frozen N2S.out 1
    have f2 := four_frozen N2S.out 2
    have f3 := four_frozen N2S.out 3
    have f4 := four_frozen N2S.out 4
    have f5 := four_frozen N2S.out 5
    have f6 := four_frozen N2S.out 6
    have HRS := hide (seven_set N2S.out (.int .i64 RM) (.slice a3 K c3') (.int .i64 f'.z) (.slice a' f'.qs.length c') (.slice am' f'.ps.length cm') (.int .i64 f'.op) (.int .i64 f'.st))
    have HAR := hide (seven_aside (b := w.heap.size + 1 + 1) (Aside.refl (w.heap.size + 1 + 1) (w.heap.size + 1 + 1 + 1) wS) (Nat.le_refl _) (Nat.lt_succ_self _) (.int .i64 RM) (.slice a3 K c3') (.int .i64 f'.z) (.slice a' f'.qs.length c') (.slice am' f'.ps.length cm') (.int .i64 f'.op) (.int .i64 f'.st))
    have HBE := hide (HBS.out.trans (HAR.out.below (B := w.heap.size) (by omega) (by have := HZ5.out; have := HZS.out; have := HP5.out; omega)))
    have HCO : Hid (CacheOwn wA.heap.size wS.heap.size wS a3 a' am' ((frontH c.ys (xa,xt,xd)).take K) f'.qs f'.ps) := ⟨Nat.le_refl _,w4.heap.size,w5.heap.size,lF,hF,by have := HP5.out; omega,by have := HZS.out; omega,hlF,by have := HZS.out; omega,by have := HP5.out; omega,HIT.out,HFE.out⟩
    go_upto_region 13 with fail
    rw [<- hwS]
    clear hwS
    go_wp2_with fail
    refine bodyPost_ret (results_ct rfl rfl (run_loadVar_row _ _ _ _ _ _ _ HRS.out Tryz.underlying65 rfl (by kernel_rfl))) rfl ⟨_,by rw [HRE.out]; rfl,?_⟩
    rw [HRE.out]
    show CacheAns w ⟨c.rm,(frontH c.ys (xa,xt,xd)).take K,f'⟩ _ _
    refine ⟨a3,c3',a',c',am',cm',?_,cache_stored HCO.out HAR.out (by have := HZ5.out; omega) (by have := HZ5.out; omega),HBE.out,HCAP.out⟩
    unfold cvV
    dsimp only
    rw [hKl,<- HRC.out]
end Go.Proofs.YtgjoepdfhadmcaaGreatDoor
end

section
namespace Go.Proofs.YtgjoepdfhadmcaaGreatDoor
open Go.RowKit
set_option linter.unusedVariables false
set_option maxRecDepth 20000
set_option maxHeartbeats 3200000 in
theorem implKeep_any (rm : Int) (ai : Option Addr) (ni ci : Nat) (ys : List Hd) (z : Int) (a : Option Addr) (n cap : Nat) (qs : List Sq) (am : Option Addr) (m cm : Nat) (ps : List Pl) (op st : Int) (at_ : Int) (tx : ByteArray) (w : World) {l1 r1 lo hi lo' hi' : Nat} (hy : Helds l1 r1 w ai ni ys) (hr1 : r1 <= w.heap.size) (hni : ni <= 1048576) (hfy : ∀ x ∈ ys,hdFits x) (h : Squares lo hi w a n qs) (hhi : hi <= w.heap.size) (hn : n <= 1048576) (hf : ∀ x ∈ qs,sqFits x) (hp : Places lo' hi' w am m ps) (hhi' : hi' <= w.heap.size) (hm : m <= 1048576) (hcl : m <= cm) (hT : Tab w) {aB aL aS aC aF aN : Addr} (E : Errs w aB aL aS aC aF) (hN : w.cell? ⟨1,0,none⟩ = some (noRoomV aN)) (hx : tx.size <= 1048576) :
  Calls Tryz.prog 37 #[.agg #[.int .i64 rm,.slice ai ni ci,.int .i64 z,.slice a n cap,.slice am m cm,.int .i64 op,.int .i64 st],.int .i64 at_,.string tx] w fun e w' => ∃ v,e = .returned (.tuple #[v,.bool (keepB ⟨rm,ys,⟨z,qs,ps,op,st⟩⟩ at_ tx)]) ∧ CacheAns w (keepF ⟨rm,ys,⟨z,qs,ps,op,st⟩⟩ at_ tx) v w' := by
 obtain ⟨cv,hcv⟩ : ∃ cv,cv = keepF ⟨rm,ys,⟨z,qs,ps,op,st⟩⟩ at_ tx := ⟨_,rfl⟩
 obtain ⟨bv,hbv⟩ : ∃ bv,bv = keepB ⟨rm,ys,⟨z,qs,ps,op,st⟩⟩ at_ tx := ⟨_,rfl⟩
 have HCV := hide hcv
 have HBV := hide hbv
 rw [<- hcv,<- hbv]
 clear hcv hbv
 obtain ⟨wA,hwA⟩ : ∃ wA,wA = (w.alloc (.cells #[.int .i64 rm,.slice ai ni ci,.int .i64 z,.slice a n cap,.slice am m cm,.int .i64 op,.int .i64 st] 65)).alloc (.cells #[.int .i64 0,.slice none 0 0,.int .i64 0,.slice none 0 0,.slice none 0 0,.int .i64 0,.int .i64 0] 65) := ⟨_,rfl⟩
 have hzA : wA.heap.size = w.heap.size + 1 + 1 := by rw [hwA]; simp
 have HBA : Hid (Below w.heap.size w wA) := by rw [hwA]; exact ((Below.refl _ _).alloc (Nat.le_refl _) _).alloc (by simp) _
 have H0 : Hid (wA.heap[w.heap.size]? = some (.cells #[.int .i64 rm,.slice ai ni ci,.int .i64 z,.slice a n cap,.slice am m cm,.int .i64 op,.int .i64 st] 65)) := by rw [hwA]; exact heap_old (heap_new _ _)
 have H1 : Hid (wA.heap[w.heap.size + 1]? = some (.cells #[.int .i64 0,.slice none 0 0,.int .i64 0,.slice none 0 0,.slice none 0 0,.int .i64 0,.int .i64 0] 65)) := by rw [hwA]; exact heap_at (by simp)
 have HYA := hide (hy.later HBA.out hr1)
 have HSA := hide (h.later HBA.out hhi)
 have HPA := hide (hp.later HBA.out hhi')
 have HF := hide hf
 have HFY := hide hfy
 have HLY := hide hy.1
 have HLQ := hide h.1
 have HLP := hide hp.1
 have HTA := hide (hT.here HBA.out)
 have HEA := hide (E.here HBA.out)
 have hGl : 1 < w.heap.size := World.block_lt_of_cell? _ _ hN
 have HNA := hide ((HBA.out.cell (p := ⟨1,0,none⟩) hGl).trans hN)
 clear h hp hf hy hfy hT E hN
 obtain ⟨c0,c1,c2,c3,c4,c5,c6⟩ := seven_cells H0.out
 go_enter Tryz.func37,Tryz.ntmps37
 go_wp2_with fail
 rw [<- hwA]
 clear hwA
 refine (implCacheOk_any rm ai ni ci ys z a n cap qs am m cm ps op st wA HYA.out (by omega) hni HFY.out HSA.out (by omega) hn HF.out HPA.out (by omega) hm hcl HTA.out HEA.out).mono ?_
 rintro e w2 ⟨rfl,b2⟩
 have K0 := hide (block_on H0.out b2)
 have K1 := hide (block_on H1.out b2)
 have HB2 := hide (below_here HBA.out b2)
 have HY2 := hide (HYA.out.later b2 (by omega))
 have HS2 := hide (HSA.out.later b2 (by omega))
 have HP2 := hide (HPA.out.later b2 (by omega))
 have HT2 := hide (HTA.out.here b2)
 have HE2 := hide (HEA.out.here b2)
 have HN2 := hide ((b2.cell (p := ⟨1,0,none⟩) (by show 1 < _; omega)).trans HNA.out)
 have hs2 := b2.size
 clear b2 c0 c1 c2 c3 c4 c5 c6
 obtain ⟨c0,c1,c2,c3,c4,c5,c6⟩ := seven_cells K0.out
 cases hco : cacheOk ⟨rm,ys,⟨z,qs,ps,op,st⟩⟩ with
 | false =>
  have HCE : Hid (cv = zeroC) := by show _ = _; rw [HCV.out]; unfold keepF; rw [hco]; rfl
  have HBE : Hid (bv = false) := by show _ = _; rw [HBV.out]; unfold keepB; rw [hco]; rfl
  obtain ⟨d0,d1,d2,d3,d4,d5,d6⟩ := seven_cells K1.out
  have f0 := four_frozen K1.out 0
  have f1 := four_frozen K1.out 1
  have f2 := four_frozen K1.out 2
  have f3 := four_frozen K1.out 3
  have f4 := four_frozen K1.out 4
  have f5 := four_frozen K1.out 5
  have f6 := four_frozen K1.out 6
  have HRS := hide (seven_set K1.out (.int .i64 0) (.slice none 0 0) (.int .i64 0) (.slice none 0 0) (.slice none 0 0) (.int .i64 0) (.int .i64 0))
  have HAS := hide (seven_aside (b := w.heap.size + 1) (Aside.refl (w.heap.size + 1) (w.heap.size + 1 + 1) w2) (Nat.le_refl _) (Nat.lt_succ_self _) (.int .i64 0) (.slice none 0 0) (.int .i64 0) (.slice none 0 0) (.slice none 0 0) (.int .i64 0) (.int .i64 0))
  have HBF := hide (HB2.out.trans (HAS.out.below (B := w.heap.size) (by omega) (HB2.out.size)))
  go_wp2_with fail
  refine bodyPost_ret (results_ct rfl rfl (run_loadVar_row _ _ _ _ _ _ _ HRS.out Tryz.underlying65 rfl (by kernel_rfl))) rfl ⟨_,by rw [HBE.out]; rfl,?_⟩
  rw [HCE.out]
  exact ⟨none,0,none,0,none,0,rfl,cache_zero _ _,HBF.out,Nat.le_refl _⟩
 | true =>
  have hC := cacheOk_iff.1 hco
  have hfo : ftlOk z qs ps op st = true := hC.ftl
  obtain ⟨hmo,_,_,_,_,_,_⟩ := ftlOk_parts hfo
  have hm64 : m <= 64 := by have := (mapOk_len hmo).2; rw [HLP.out] at this; exact this
  have hm1 : 1 <= m := by have := (mapOk_len hmo).1; rw [HLP.out] at this; exact this
  have h16 : ni <= 16 := by have := hC.len; have := hC.r1; have := HLY.out; dsimp only at *; omega
  have HCK := hide (mapOk_chip hmo)
  have HC := hide hC
  have HCO : Hid (cv = (keepO ⟨rm,ys,⟨z,qs,ps,op,st⟩⟩ at_ tx).getD ⟨rm,ys,⟨z,qs,ps,op,st⟩⟩) := by show _ = _; rw [HCV.out]; unfold keepF; rw [hco]; rfl
  have HBO : Hid (bv = (keepO ⟨rm,ys,⟨z,qs,ps,op,st⟩⟩ at_ tx).isSome) := by show _ = _; rw [HBV.out]; unfold keepB; rw [hco]; rfl
  have HMH : Hid (mayH ⟨rm,ys,⟨z,qs,ps,op,st⟩⟩ at_ tx = (inB at_ 0 ((m : Int) - 1) && decide (tx.size <= 24))) := by show _ = _; unfold mayH; dsimp only; rw [HLP.out]
  clear hmo hco hC hfo
  go_wp2_with fail
  refine (mayHold_any _ _ am m cm _ _ at_ tx w2 (by unfold maxLen; omega) (by unfold maxLen; omega)).mono ?_
  rintro e w3 ⟨rfl,b3⟩
  have L0 := hide (block_on K0.out b3)
  have L1 := hide (block_on K1.out b3)
  have HB3 := hide (below_here HB2.out b3)
  have HY3 := hide (HY2.out.later b3 (by omega))
  have HS3 := hide (HS2.out.later b3 (by omega))
  have HP3 := hide (HP2.out.later b3 (by omega))
  have HT3 := hide (HT2.out.here b3)
  have HE3 := hide (HE2.out.here b3)
  have HN3 := hide ((b3.cell (p := ⟨1,0,none⟩) (by show 1 < _; omega)).trans HN2.out)
  have hs3 := b3.size
  clear b3 c0 c1 c2 c3 c4 c5 c6
  obtain ⟨c0,c1,c2,c3,c4,c5,c6⟩ := seven_cells L0.out
  cases hmay : (inB at_ 0 ((m : Int) - 1) && decide (tx.size <= 24)) with
  | false =>
   have HKN : Hid (keepO ⟨rm,ys,⟨z,qs,ps,op,st⟩⟩ at_ tx = none) := by show _ = _; unfold keepO; rw [HMH.out,hmay]; rfl
   have HCE : Hid (cv = ⟨rm,ys,⟨z,qs,ps,op,st⟩⟩) := by show _ = _; rw [HCO.out,HKN.out]; rfl
   have HBE : Hid (bv = false) := by show _ = _; rw [HBO.out,HKN.out]; rfl
   go_wp2_with fail
   refine (copyOfCache_any rm ai ni ci ys z a n cap qs am m cm ps op st w3 HY3.out (by omega) (by omega) (fun i hi => by have := (HC.out.item i (by have := HLY.out; show i < ys.length; omega)).2.2; dsimp only at this; omega) HS3.out (by omega) HCK.out HP3.out (by omega) hm1 hm64).mono ?_
   rintro e w7 ⟨v,rfl,a7,c7,b7,d7,e7,g7,rfl,ho7,bb7,hcap7,hcj7⟩
   unfold cvV
   dsimp only at ho7 hcap7 hcj7 ⊢
   have M1 := hide (block_on L1.out bb7)
   have HB7 := hide (below_here HB3.out bb7)
   have HO7 := hide ho7
   have HC7 := hide hcap7
   have hs7 := bb7.size
   clear ho7 bb7 hcap7 hcj7 c0 c1 c2 c3 c4 c5 c6
   obtain ⟨d0,d1,d2,d3,d4,d5,d6⟩ := seven_cells M1.out
   have f0 := four_frozen M1.out 0
   have f1 := four_frozen M1.out 1
   have f2 := four_frozen M1.out 2
   have f3 := four_frozen M1.out 3
   have f4 := four_frozen M1.out 4
   have f5 := four_frozen M1.out 5
   have f6 := four_frozen M1.out 6
   have HRS := hide (seven_set M1.out (.int .i64 rm) (.slice a7 ys.length c7) (.int .i64 z) (.slice b7 qs.length d7) (.slice e7 ps.length g7) (.int .i64 op) (.int .i64 st))
   have HAS := hide (seven_aside (b := w.heap.size + 1) (Aside.refl (w.heap.size + 1) (w.heap.size + 1 + 1) w7) (Nat.le_refl _) (Nat.lt_succ_self _) (.int .i64 rm) (.slice a7 ys.length c7) (.int .i64 z) (.slice b7 qs.length d7) (.slice e7 ps.length g7) (.int .i64 op) (.int .i64 st))
   have HBF := hide (HB7.out.trans (HAS.out.below (B := w.heap.size) (by omega) (HB7.out.size)))
   go_wp2_with fail
   refine bodyPost_ret (results_ct rfl rfl (run_loadVar_row _ _ _ _ _ _ _ HRS.out Tryz.underlying65 rfl (by kernel_rfl))) rfl ⟨_,by rw [HBE.out]; rfl,?_⟩
   rw [HCE.out]
   exact ⟨a7,c7,b7,d7,e7,g7,rfl,cache_stored HO7.out HAS.out (by omega) (by omega),HBF.out,HC7.out⟩
  | true =>
   have HKS : Hid (keepO ⟨rm,ys,⟨z,qs,ps,op,st⟩⟩ at_ tx = usedF ⟨rm,ys,⟨z,qs,ps,op,st⟩⟩ (at_,tx,true)) := by show _ = _; unfold keepO; rw [HMH.out,hmay]; rfl
   rw [HKS.out] at HCO HBO
   go_wp2_with fail
   refine (withUsed_any ⟨rm,ys,⟨z,qs,ps,op,st⟩⟩ HC.out ai ni ci a n cap am m cm at_ tx true w3 HY3.out (by omega) HS3.out (by omega) HP3.out (by omega) hx HT3.out HE3.out HN3.out).mono ?_
   rintro e w7 ⟨v,rfl,a7,c7,b7,d7,e7,g7,rfl,ho7,bb7,hcap7⟩
   rw [<- HBO.out]
   rw [<- HCO.out] at ho7 hcap7
   rw [<- HCO.out]
   have M1 := hide (block_on L1.out bb7)
   have HB7 := hide (below_here HB3.out bb7)
   have HO7 := hide ho7
   have HC7 := hide hcap7
   have hs7 := bb7.size
   clear ho7 bb7 hcap7 c0 c1 c2 c3 c4 c5 c6 HCV HBV HCO HBO HKS
   obtain ⟨RM,YS,⟨Z,Q,PS,OP,ST⟩⟩ := cv
   unfold cvV
   dsimp only at HO7 HC7 ⊢
   obtain ⟨d0,d1,d2,d3,d4,d5,d6⟩ := seven_cells M1.out
   have f0 := four_frozen M1.out 0
   have f1 := four_frozen M1.out 1
   have f2 := four_frozen M1.out 2
   have f3 := four_frozen M1.out 3
   have f4 := four_frozen M1.out 4
   have f5 := four_frozen M1.out 5
   have f6 := four_frozen M1.out 6
   have HRS := hide (seven_set M1.out (.int .i64 RM) (.slice a7 YS.length c7) (.int .i64 Z) (.slice b7 Q.length d7) (.slice e7 PS.length g7) (.int .i64 OP) (.int .i64 ST))
   have HAS := hide (seven_aside (b := w.heap.size + 1) (Aside.refl (w.heap.size + 1) (w.heap.size + 1 + 1) w7) (Nat.le_refl _) (Nat.lt_succ_self _) (.int .i64 RM) (.slice a7 YS.length c7) (.int .i64 Z) (.slice b7 Q.length d7) (.slice e7 PS.length g7) (.int .i64 OP) (.int .i64 ST))
   have HBF := hide (HB7.out.trans (HAS.out.below (B := w.heap.size) (by omega) (HB7.out.size)))
   go_wp2_with fail
   refine bodyPost_ret (results_ct rfl rfl (run_loadVar_row _ _ _ _ _ _ _ HRS.out Tryz.underlying65 rfl (by kernel_rfl))) rfl ⟨_,rfl,a7,c7,b7,d7,e7,g7,rfl,cache_stored HO7.out HAS.out (by omega) (by omega),HBF.out,HC7.out⟩
end Go.Proofs.YtgjoepdfhadmcaaGreatDoor
end

section
namespace Go.Proofs.YtgjoepdfhadmcaaGreatDoor
open Go.RowKit
set_option linter.unusedVariables false
set_option maxRecDepth 20000
set_option maxHeartbeats 3200000 in
theorem heldAt_any (c : Cv) (hc : COk c) (ai : Option Addr) (ni ci : Nat) (a : Option Addr) (n cap : Nat) (am : Option Addr) (m cm : Nat) (K : Nat) (w : World) {l1 r1 lo hi lo' hi' : Nat} (hy : Helds l1 r1 w ai ni c.ys) (hr1 : r1 <= w.heap.size) (hni : ni <= 1048576) (h : Squares lo hi w a n c.f.qs) (hhi : hi <= w.heap.size) (hn : n <= 1048576) (hp : Places lo' hi' w am m c.f.ps) (hhi' : hi' <= w.heap.size) (hm : m <= 1048576) (hlt : K < m) (hT : Tab w) {aB aL aS aC aF : Addr} (E : Errs w aB aL aS aC aF) :
  Calls Tryz.prog 111 #[.agg #[.int .i64 c.rm,.slice ai ni ci,.int .i64 c.f.z,.slice a n cap,.slice am m cm,.int .i64 c.f.op,.int .i64 c.f.st],.int .i64 (K : Int)] w fun e w' => e = .returned (.agg #[.int .i64 (itemF c (K : Int)).1,.string (itemF c (K : Int)).2.1,.bool (itemF c (K : Int)).2.2]) ∧ Below w.heap.size w w' := by
 have HFO := hide hc.ftl
 obtain ⟨rm,ys,⟨z,qs,ps,op,st⟩⟩ := c
 dsimp only at *
 obtain ⟨x,hx⟩ : ∃ x,x = itemF ⟨rm,ys,⟨z,qs,ps,op,st⟩⟩ (K : Int) := ⟨_,rfl⟩
 rw [<- hx]
 have HX := hide hx
 obtain ⟨wA,hwA⟩ : ∃ wA,wA = (w.alloc (.cells #[.int .i64 rm,.slice ai ni ci,.int .i64 z,.slice a n cap,.slice am m cm,.int .i64 op,.int .i64 st] 65)).alloc (.cells #[.int .i64 0,.string ⟨#[]⟩,.bool false] 83) := ⟨_,rfl⟩
 have hzA : wA.heap.size = w.heap.size + 1 + 1 := by rw [hwA]; simp
 have HBA : Hid (Below w.heap.size w wA) := by rw [hwA]; exact ((Below.refl _ _).alloc (Nat.le_refl _) _).alloc (by simp) _
 have H0 : Hid (wA.heap[w.heap.size]? = some (.cells #[.int .i64 rm,.slice ai ni ci,.int .i64 z,.slice a n cap,.slice am m cm,.int .i64 op,.int .i64 st] 65)) := by rw [hwA]; exact heap_old (heap_new _ _)
 have H1 : Hid (wA.heap[w.heap.size + 1]? = some (.cells #[.int .i64 0,.string ⟨#[]⟩,.bool false] 83)) := by rw [hwA]; exact heap_at (by simp)
 have HYA := hide (hy.later HBA.out hr1)
 have HSA := hide (h.later HBA.out hhi)
 have HPA := hide (hp.later HBA.out hhi')
 have HY := hide hy
 have HTA := hide (hT.here HBA.out)
 have HEA := hide (E.here HBA.out)
 clear h hp hy hT E hx
 obtain ⟨c0,c1,c2,c3,c4,c5,c6⟩ := seven_cells H0.out
 go_enter Tryz.func111,Tryz.ntmps111
 go_upto_region 1 with fail
 rw [<- hwA]
 clear hwA
 go_wp2_with fail
 refine (itemOf_any ai ni ci ys (K : Int) wA HYA.out (by omega) hni).mono ?_
 rintro e w2 ⟨rfl,b2⟩
 have K0 := hide (block_on H0.out b2)
 have K1 := hide (block_on H1.out b2)
 have HB2 := hide (below_here HBA.out b2)
 have HS2 := hide (HSA.out.later b2 (by omega))
 have HP2 := hide (HPA.out.later b2 (by omega))
 have HT2 := hide (HTA.out.here b2)
 have HE2 := hide (HEA.out.here b2)
 have hs2 := b2.size
 clear b2 c0 c1 c2 c3 c4 c5 c6
 obtain ⟨c0,c1,c2,c3,c4,c5,c6⟩ := seven_cells K0.out
 rcases idxH_cases ys (K : Int) with ⟨hidx,_⟩ | ⟨k,hk,hidx,_⟩
 ·have HXE : Hid (x = ((K : Int),(ftlGet z qs ps op st (K : Int)).1,false)) := by show _ = _; rw [HX.out]; exact item_miss hidx
  rw [hidx]
  go_wp2_with fail
  refine (entryOf_any z a n cap qs am m cm ps op st K w2 HS2.out (by omega) hn HP2.out (by omega) HT2.out HE2.out HFO.out hlt).mono ?_
  generalize (ftlGet z qs ps op st (K : Int)).2 = gb
  generalize (ftlGet z qs ps op st (K : Int)).1 = gt at *
  rintro e w3 ⟨rfl,b3⟩
  have L1 := hide (block_on K1.out b3)
  have HB3 := hide (below_here HB2.out b3)
  clear b3 c0 c1 c2 c3 c4 c5 c6
  obtain ⟨d0,d1,d2⟩ := three_cells L1.out
  have f0 := four_frozen L1.out 0
  have f1 := four_frozen L1.out 1
  have f2 := four_frozen L1.out 2
  have HRS := hide (three_set L1.out (.int .i64 (K : Int)) (.string gt) (.bool false))
  have HBF := hide (three_under HB3.out (b := w.heap.size + 1) (by omega) (.int .i64 (K : Int)) (.string gt) (.bool false))
  go_wp2_with fail
  refine bodyPost_ret (results_cell rfl rfl (run_loadVar_row _ _ _ _ _ _ _ HRS.out Tryz.underlying83 rfl (by kernel_rfl))) rfl ⟨?_,HBF.out⟩
  rw [HXE.out]
 ·have HXE : Hid (x = hdAt ys k) := by show _ = _; rw [HX.out]; exact item_hit hidx
  have hkn : k < ni := by have := HY.out.1; omega
  have hkni : (k : Int) < (ni : Int) := by omega
  obtain ⟨b,off,rfl,hb1,hb2,hcc⟩ := HY.out.2.2 (by omega)
  obtain ⟨x0,x1,x2⟩ := hd_cells hcc HB2.out (show b < w.heap.size by omega) hkn
  rw [<- HXE.out] at x0 x1 x2
  clear hcc HXE
  obtain ⟨xa,xt,xd⟩ := x
  dsimp only at x0 x1 x2 ⊢
  rw [hidx]
  obtain ⟨d0,d1,d2⟩ := three_cells K1.out
  have f0 := four_frozen K1.out 0
  have f1 := four_frozen K1.out 1
  have f2 := four_frozen K1.out 2
  have HRS := hide (three_set K1.out (.int .i64 xa) (.string xt) (.bool xd))
  have HBF := hide (three_under HB2.out (b := w.heap.size + 1) (by omega) (.int .i64 xa) (.string xt) (.bool xd))
  go_wp2_with fail
  exact bodyPost_ret (results_cell rfl rfl (run_loadVar_row _ _ _ _ _ _ _ HRS.out Tryz.underlying83 rfl (by kernel_rfl))) rfl ⟨rfl,HBF.out⟩
set_option maxHeartbeats 3200000 in
theorem implLoad_any (rm : Int) (ai : Option Addr) (ni ci : Nat) (ys : List Hd) (z : Int) (a : Option Addr) (n cap : Nat) (qs : List Sq) (am : Option Addr) (m cm : Nat) (ps : List Pl) (op st : Int) (at_ : Int) (w : World) {l1 r1 lo hi lo' hi' : Nat} (hy : Helds l1 r1 w ai ni ys) (hr1 : r1 <= w.heap.size) (hni : ni <= 1048576) (hfy : ∀ x ∈ ys,hdFits x) (h : Squares lo hi w a n qs) (hhi : hi <= w.heap.size) (hn : n <= 1048576) (hf : ∀ x ∈ qs,sqFits x) (hp : Places lo' hi' w am m ps) (hhi' : hi' <= w.heap.size) (hm : m <= 1048576) (hcl : m <= cm) (hT : Tab w) {aB aL aS aC aF aN : Addr} (E : Errs w aB aL aS aC aF) (hN : w.cell? ⟨1,0,none⟩ = some (noRoomV aN)) :
  Calls Tryz.prog 39 #[.agg #[.int .i64 rm,.slice ai ni ci,.int .i64 z,.slice a n cap,.slice am m cm,.int .i64 op,.int .i64 st],.int .i64 at_] w fun e w' => ∃ v,e = .returned (.tuple #[v,.string (loadT ⟨rm,ys,⟨z,qs,ps,op,st⟩⟩ at_),.bool (loadB ⟨rm,ys,⟨z,qs,ps,op,st⟩⟩ at_)]) ∧ CacheAns w (loadF ⟨rm,ys,⟨z,qs,ps,op,st⟩⟩ at_) v w' := by
 obtain ⟨cv,hcv⟩ : ∃ cv,cv = loadF ⟨rm,ys,⟨z,qs,ps,op,st⟩⟩ at_ := ⟨_,rfl⟩
 obtain ⟨bv,hbv⟩ : ∃ bv,bv = loadB ⟨rm,ys,⟨z,qs,ps,op,st⟩⟩ at_ := ⟨_,rfl⟩
 obtain ⟨tv,htv⟩ : ∃ tv,tv = loadT ⟨rm,ys,⟨z,qs,ps,op,st⟩⟩ at_ := ⟨_,rfl⟩
 have HCV := hide hcv
 have HTV := hide htv
 have HTF : Hid (bv = false -> tv = ⟨#[]⟩) := by intro hb; rw [htv]; unfold loadT; rw [<- hbv,hb]; rfl
 have HTT : Hid (bv = true -> tv = (itemF ⟨rm,ys,⟨z,qs,ps,op,st⟩⟩ at_).2.1) := by intro hb; rw [htv]; unfold loadT; rw [<- hbv,hb]; rfl
 have HBV := hide hbv
 rw [<- hcv,<- hbv,<- htv]
 clear hcv hbv htv
 obtain ⟨wA,hwA⟩ : ∃ wA,wA = (w.alloc (.cells #[.int .i64 rm,.slice ai ni ci,.int .i64 z,.slice a n cap,.slice am m cm,.int .i64 op,.int .i64 st] 65)).alloc (.cells #[.int .i64 0,.slice none 0 0,.int .i64 0,.slice none 0 0,.slice none 0 0,.int .i64 0,.int .i64 0] 65) := ⟨_,rfl⟩
 have hzA : wA.heap.size = w.heap.size + 1 + 1 := by rw [hwA]; simp
 have HBA : Hid (Below w.heap.size w wA) := by rw [hwA]; exact ((Below.refl _ _).alloc (Nat.le_refl _) _).alloc (by simp) _
 have H0 : Hid (wA.heap[w.heap.size]? = some (.cells #[.int .i64 rm,.slice ai ni ci,.int .i64 z,.slice a n cap,.slice am m cm,.int .i64 op,.int .i64 st] 65)) := by rw [hwA]; exact heap_old (heap_new _ _)
 have H1 : Hid (wA.heap[w.heap.size + 1]? = some (.cells #[.int .i64 0,.slice none 0 0,.int .i64 0,.slice none 0 0,.slice none 0 0,.int .i64 0,.int .i64 0] 65)) := by rw [hwA]; exact heap_at (by simp)
 have HYA := hide (hy.later HBA.out hr1)
 have HSA := hide (h.later HBA.out hhi)
 have HPA := hide (hp.later HBA.out hhi')
 have HF := hide hf
 have HFY := hide hfy
 have HLY := hide hy.1
 have HLQ := hide h.1
 have HLP := hide hp.1
 have HTA := hide (hT.here HBA.out)
 have HEA := hide (E.here HBA.out)
 have hGl : 1 < w.heap.size := World.block_lt_of_cell? _ _ hN
 have HNA := hide ((HBA.out.cell (p := ⟨1,0,none⟩) hGl).trans hN)
 clear h hp hf hy hfy hT E hN
 obtain ⟨c0,c1,c2,c3,c4,c5,c6⟩ := seven_cells H0.out
 go_enter Tryz.func39,Tryz.ntmps39
 go_wp2_with fail
 rw [<- hwA]
 clear hwA
 refine (implCacheOk_any rm ai ni ci ys z a n cap qs am m cm ps op st wA HYA.out (by omega) hni HFY.out HSA.out (by omega) hn HF.out HPA.out (by omega) hm hcl HTA.out HEA.out).mono ?_
 rintro e w2 ⟨rfl,b2⟩
 have K0 := hide (block_on H0.out b2)
 have K1 := hide (block_on H1.out b2)
 have HB2 := hide (below_here HBA.out b2)
 have HY2 := hide (HYA.out.later b2 (by omega))
 have HS2 := hide (HSA.out.later b2 (by omega))
 have HP2 := hide (HPA.out.later b2 (by omega))
 have HT2 := hide (HTA.out.here b2)
 have HE2 := hide (HEA.out.here b2)
 have HN2 := hide ((b2.cell (p := ⟨1,0,none⟩) (by show 1 < _; omega)).trans HNA.out)
 have hs2 := b2.size
 clear b2 c0 c1 c2 c3 c4 c5 c6
 obtain ⟨c0,c1,c2,c3,c4,c5,c6⟩ := seven_cells K0.out
 cases hco : cacheOk ⟨rm,ys,⟨z,qs,ps,op,st⟩⟩ with
 | false =>
  have HCE : Hid (cv = zeroC) := by show _ = _; rw [HCV.out]; unfold loadF; rw [hco]; rfl
  have HBE : Hid (bv = false) := by show _ = _; rw [HBV.out]; unfold loadB; rw [hco]; rfl
  obtain ⟨d0,d1,d2,d3,d4,d5,d6⟩ := seven_cells K1.out
  have f0 := four_frozen K1.out 0
  have f1 := four_frozen K1.out 1
  have f2 := four_frozen K1.out 2
  have f3 := four_frozen K1.out 3
  have f4 := four_frozen K1.out 4
  have f5 := four_frozen K1.out 5
  have f6 := four_frozen K1.out 6
  have HRS := hide (seven_set K1.out (.int .i64 0) (.slice none 0 0) (.int .i64 0) (.slice none 0 0) (.slice none 0 0) (.int .i64 0) (.int .i64 0))
  have HAS := hide (seven_aside (b := w.heap.size + 1) (Aside.refl (w.heap.size + 1) (w.heap.size + 1 + 1) w2) (Nat.le_refl _) (Nat.lt_succ_self _) (.int .i64 0) (.slice none 0 0) (.int .i64 0) (.slice none 0 0) (.slice none 0 0) (.int .i64 0) (.int .i64 0))
  have HBF := hide (HB2.out.trans (HAS.out.below (B := w.heap.size) (by omega) (HB2.out.size)))
  go_wp2_with fail
  refine bodyPost_ret (results_ctt rfl rfl (run_loadVar_row _ _ _ _ _ _ _ HRS.out Tryz.underlying65 rfl (by kernel_rfl))) rfl ⟨_,by rw [HTF.out HBE.out,HBE.out]; rfl,?_⟩
  rw [HCE.out]
  exact ⟨none,0,none,0,none,0,rfl,cache_zero _ _,HBF.out,Nat.le_refl _⟩
 | true =>
  have hC := cacheOk_iff.1 hco
  have hfo : ftlOk z qs ps op st = true := hC.ftl
  obtain ⟨hmo,_,_,_,_,_,_⟩ := ftlOk_parts hfo
  have hm64 : m <= 64 := by have := (mapOk_len hmo).2; rw [HLP.out] at this; exact this
  have hm1 : 1 <= m := by have := (mapOk_len hmo).1; rw [HLP.out] at this; exact this
  have h16 : ni <= 16 := by have := hC.len; have := hC.r1; have := HLY.out; dsimp only at *; omega
  have HCK := hide (mapOk_chip hmo)
  have HC := hide hC
  have HCO : Hid (cv = (loadO ⟨rm,ys,⟨z,qs,ps,op,st⟩⟩ at_).getD ⟨rm,ys,⟨z,qs,ps,op,st⟩⟩) := by show _ = _; rw [HCV.out]; unfold loadF; rw [hco]; rfl
  have HBO : Hid (bv = (loadO ⟨rm,ys,⟨z,qs,ps,op,st⟩⟩ at_).isSome) := by show _ = _; rw [HBV.out]; unfold loadB; rw [hco]; rfl
  have HMH : Hid (inB at_ 0 (((⟨rm,ys,⟨z,qs,ps,op,st⟩⟩ : Cv).f.ps.length : Int) - 1) = inB at_ 0 ((m : Int) - 1)) := by show _ = _; dsimp only; rw [HLP.out]
  clear hmo hco hC hfo
  go_wp2_with fail
  refine (hasNumber_any _ _ am m cm _ _ at_ w2 (by unfold maxLen; omega)).mono ?_
  rintro e w3 ⟨rfl,b3⟩
  have L0 := hide (block_on K0.out b3)
  have L1 := hide (block_on K1.out b3)
  have HB3 := hide (below_here HB2.out b3)
  have HY3 := hide (HY2.out.later b3 (by omega))
  have HS3 := hide (HS2.out.later b3 (by omega))
  have HP3 := hide (HP2.out.later b3 (by omega))
  have HT3 := hide (HT2.out.here b3)
  have HE3 := hide (HE2.out.here b3)
  have HN3 := hide ((b3.cell (p := ⟨1,0,none⟩) (by show 1 < _; omega)).trans HN2.out)
  have hs3 := b3.size
  clear b3 c0 c1 c2 c3 c4 c5 c6
  obtain ⟨c0,c1,c2,c3,c4,c5,c6⟩ := seven_cells L0.out
  cases hmay : inB at_ 0 ((m : Int) - 1) with
  | false =>
   have HKN : Hid (loadO ⟨rm,ys,⟨z,qs,ps,op,st⟩⟩ at_ = none) := by show _ = _; unfold loadO; rw [HMH.out,hmay]; rfl
   have HCE : Hid (cv = ⟨rm,ys,⟨z,qs,ps,op,st⟩⟩) := by show _ = _; rw [HCO.out,HKN.out]; rfl
   have HBE : Hid (bv = false) := by show _ = _; rw [HBO.out,HKN.out]; rfl
   go_wp2_with fail
   refine (copyOfCache_any rm ai ni ci ys z a n cap qs am m cm ps op st w3 HY3.out (by omega) (by omega) (fun i hi => by have := (HC.out.item i (by have := HLY.out; show i < ys.length; omega)).2.2; dsimp only at this; omega) HS3.out (by omega) HCK.out HP3.out (by omega) hm1 hm64).mono ?_
   rintro e w7 ⟨v,rfl,a7,c7,b7,d7,e7,g7,rfl,ho7,bb7,hcap7,hcj7⟩
   unfold cvV
   dsimp only at ho7 hcap7 hcj7 ⊢
   have M1 := hide (block_on L1.out bb7)
   have HB7 := hide (below_here HB3.out bb7)
   have HO7 := hide ho7
   have HC7 := hide hcap7
   have hs7 := bb7.size
   clear ho7 bb7 hcap7 hcj7 c0 c1 c2 c3 c4 c5 c6
   obtain ⟨d0,d1,d2,d3,d4,d5,d6⟩ := seven_cells M1.out
   have f0 := four_frozen M1.out 0
   have f1 := four_frozen M1.out 1
   have f2 := four_frozen M1.out 2
   have f3 := four_frozen M1.out 3
   have f4 := four_frozen M1.out 4
   have f5 := four_frozen M1.out 5
   have f6 := four_frozen M1.out 6
   have HRS := hide (seven_set M1.out (.int .i64 rm) (.slice a7 ys.length c7) (.int .i64 z) (.slice b7 qs.length d7) (.slice e7 ps.length g7) (.int .i64 op) (.int .i64 st))
   have HAS := hide (seven_aside (b := w.heap.size + 1) (Aside.refl (w.heap.size + 1) (w.heap.size + 1 + 1) w7) (Nat.le_refl _) (Nat.lt_succ_self _) (.int .i64 rm) (.slice a7 ys.length c7) (.int .i64 z) (.slice b7 qs.length d7) (.slice e7 ps.length g7) (.int .i64 op) (.int .i64 st))
   have HBF := hide (HB7.out.trans (HAS.out.below (B := w.heap.size) (by omega) (HB7.out.size)))
   go_wp2_with fail
   refine bodyPost_ret (results_ctt rfl rfl (run_loadVar_row _ _ _ _ _ _ _ HRS.out Tryz.underlying65 rfl (by kernel_rfl))) rfl ⟨_,by rw [HTF.out HBE.out,HBE.out]; rfl,?_⟩
   rw [HCE.out]
   exact ⟨a7,c7,b7,d7,e7,g7,rfl,cache_stored HO7.out HAS.out (by omega) (by omega),HBF.out,HC7.out⟩
  | true =>
   obtain ⟨x,hx⟩ : ∃ x,x = itemF ⟨rm,ys,⟨z,qs,ps,op,st⟩⟩ at_ := ⟨_,rfl⟩
   have hx24 := item_size HC.out at_
   rw [<- hx] at HTT hx24
   have HKS : Hid (loadO ⟨rm,ys,⟨z,qs,ps,op,st⟩⟩ at_ = usedF ⟨rm,ys,⟨z,qs,ps,op,st⟩⟩ x) := by show _ = _; unfold loadO; rw [HMH.out,hmay,<- hx]; rfl
   rw [HKS.out] at HCO HBO
   obtain ⟨K,rfl,hK⟩ : ∃ K : Nat,at_ = (K : Int) ∧ K < m := by
    simp [inB] at hmay
    exact ⟨at_.toNat,by omega,by omega⟩
   have HHA := fun W l r lo1 hi1 lo2 hi2 h1 h2 h3 h4 h5 h6 h7 h8 => hide (heldAt_any ⟨rm,ys,⟨z,qs,ps,op,st⟩⟩ HC.out ai ni ci a n cap am m cm K W (l1 := l) (r1 := r) (lo := lo1) (hi := hi1) (lo' := lo2) (hi' := hi2) h1 h2 hni h3 h4 hn h5 h6 hm hK h7 (aB := aB) (aL := aL) (aS := aS) (aC := aC) (aF := aF) h8)
   have HH := hide ((HHA w3 _ _ _ _ _ _ HY3.out (by omega) HS3.out (by omega) HP3.out (by omega) HT3.out HE3.out).out)
   rw [<- hx] at HH
   clear HHA hx
   obtain ⟨xa,xt,xd⟩ := x
   dsimp only at HH hx24 HTT
   go_wp2_with fail
   refine HH.out.mono ?_
   rintro e w4 ⟨rfl,b4⟩
   obtain ⟨w5,hw5⟩ : ∃ w5,w5 = w4.alloc (.cells #[.int .i64 xa,.string xt,.bool xd] 83) := ⟨_,rfl⟩
   have b5 : Below w4.heap.size w4 w5 := by rw [hw5]; exact (Below.refl _ _).alloc (Nat.le_refl _) _
   have b35 := below_here b4 b5
   have I5 : Hid (w5.heap[w4.heap.size]? = some (.cells #[.int .i64 xa,.string xt,.bool xd] 83)) := by rw [hw5]; exact heap_new _ _
   have M0 := hide (block_on L0.out b35)
   have M1 := hide (block_on L1.out b35)
   have HB5 := hide (below_here HB3.out b35)
   have HY5 := hide (HY3.out.later b35 (by omega))
   have HS5 := hide (HS3.out.later b35 (by omega))
   have HP5 := hide (HP3.out.later b35 (by omega))
   have HT5 := hide (HT3.out.here b35)
   have HE5 := hide (HE3.out.here b35)
   have HN5 := hide ((b35.cell (p := ⟨1,0,none⟩) (by show 1 < _; omega)).trans HN3.out)
   have hs5 := b35.size
   have hs45 := b4.size
   clear b4 b5 b35 c0 c1 c2 c3 c4 c5 c6 HH
   go_upto_region 6 with fail
   rw [<- hw5]
   clear hw5
   obtain ⟨c0,c1,c2,c3,c4,c5,c6⟩ := seven_cells M0.out
   obtain ⟨i0,i1,i2⟩ := three_cells I5.out
   go_wp2_with fail
   refine (withUsed_any ⟨rm,ys,⟨z,qs,ps,op,st⟩⟩ HC.out ai ni ci a n cap am m cm xa xt xd w5 HY5.out (by omega) HS5.out (by omega) HP5.out (by omega) (by omega) HT5.out HE5.out HN5.out).mono ?_
   rintro e w7 ⟨v,rfl,a7,c7,b7,d7,e7,g7,rfl,ho7,bb7,hcap7⟩
   rw [<- HBO.out]
   rw [<- HCO.out] at ho7 hcap7
   rw [<- HCO.out]
   have N1 := hide (block_on M1.out bb7)
   have I7 := hide (block_on I5.out bb7)
   have HB7 := hide (below_here HB5.out bb7)
   have hs7 := bb7.size
   have HO7 := hide ho7
   have HC7 := hide hcap7
   have hi7 := (Array.getElem?_eq_some_iff.1 I5.out).1
   clear ho7 bb7 hcap7 c0 c1 c2 c3 c4 c5 c6 i0 i1 i2 HCV HBV HCO HBO HKS HTV
   obtain ⟨RM,YS,⟨Z,Q,PS,OP,ST⟩⟩ := cv
   unfold cvV
   dsimp only at HO7 HC7 ⊢
   obtain ⟨w8,hw8⟩ : ∃ w8,w8 = w7.alloc (.cells #[.int .i64 RM,.slice a7 YS.length c7,.int .i64 Z,.slice b7 Q.length d7,.slice e7 PS.length g7,.int .i64 OP,.int .i64 ST] 65) := ⟨_,rfl⟩
   have b8 : Below w7.heap.size w7 w8 := by rw [hw8]; exact (Below.refl _ _).alloc (Nat.le_refl _) _
   have U8 : Hid (w8.heap[w7.heap.size]? = some (.cells #[.int .i64 RM,.slice a7 YS.length c7,.int .i64 Z,.slice b7 Q.length d7,.slice e7 PS.length g7,.int .i64 OP,.int .i64 ST] 65)) := by rw [hw8]; exact heap_new _ _
   have P1 := hide (block_on N1.out b8)
   have I8 := hide (block_on I7.out b8)
   have HB8 := hide (below_here HB7.out b8)
   have HO8 := hide (HO7.out.later b8 (Nat.le_refl _))
   have hs8 := b8.size
   clear b8 N1 I7 HO7
   go_upto_region 7 with fail
   rw [<- hw8]
   clear hw8
   cases hbv : bv with
   | false =>
    have HT := hide (HTF.out hbv)
    obtain ⟨u0,u1,u2,u3,u4,u5,u6⟩ := seven_cells U8.out
    obtain ⟨d0,d1,d2,d3,d4,d5,d6⟩ := seven_cells P1.out
    have f0 := four_frozen P1.out 0
    have f1 := four_frozen P1.out 1
    have f2 := four_frozen P1.out 2
    have f3 := four_frozen P1.out 3
    have f4 := four_frozen P1.out 4
    have f5 := four_frozen P1.out 5
    have f6 := four_frozen P1.out 6
    have HRS := hide (seven_set P1.out (.int .i64 RM) (.slice a7 YS.length c7) (.int .i64 Z) (.slice b7 Q.length d7) (.slice e7 PS.length g7) (.int .i64 OP) (.int .i64 ST))
    have HAS := hide (seven_aside (b := w.heap.size + 1) (Aside.refl (w.heap.size + 1) (w.heap.size + 1 + 1) w8) (Nat.le_refl _) (Nat.lt_succ_self _) (.int .i64 RM) (.slice a7 YS.length c7) (.int .i64 Z) (.slice b7 Q.length d7) (.slice e7 PS.length g7) (.int .i64 OP) (.int .i64 ST))
    have HBF := hide (HB8.out.trans (HAS.out.below (B := w.heap.size) (by omega) (HB8.out.size)))
    go_wp2_with fail
    refine bodyPost_ret (results_ctt rfl rfl (run_loadVar_row _ _ _ _ _ _ _ HRS.out Tryz.underlying65 rfl (by kernel_rfl))) rfl ⟨_,by rw [HT.out,hbv]; rfl,a7,c7,b7,d7,e7,g7,rfl,cache_stored HO8.out HAS.out (by omega) (by omega),HBF.out,HC7.out⟩
   | true =>
    have HT := hide (HTT.out hbv)
    obtain ⟨u0,u1,u2,u3,u4,u5,u6⟩ := seven_cells U8.out
    obtain ⟨i0,i1,i2⟩ := three_cells I8.out
    have t0 := fun d os => cell_regrown u0 d os
    have t1 := fun d os => cell_regrown u1 d os
    have t2 := fun d os => cell_regrown u2 d os
    have t3 := fun d os => cell_regrown u3 d os
    have t4 := fun d os => cell_regrown u4 d os
    have t5 := fun d os => cell_regrown u5 d os
    have t6 := fun d os => cell_regrown u6 d os
    have t7 := fun d os => cell_regrown i1 d os
    have cC : ∀ d os,Calls Tryz.prog 112 #[.string xt] (Go.Sort.grow (redrawn w8 d) os) fun e w'' => e = .returned (.string xt) ∧ ∃ p : Regrown,w'' = Go.Sort.grow (redrawn w8 p.d) p.os := fun d os => Calls.regrown_of (cloneT_any xt _ (by omega))
    go_upto_region 9 with fail
    refine wp_region_below_tail 4 (by kernel_rfl) (by kernel_rfl) ?_
    simp only [List.take_succ_cons,List.take_zero,List.drop_succ_cons,List.drop_zero]
    repeat (go_big_quiet_step ((go_at_call 112; exact cC _ _)))
    refine wpQuiet_nil ?_
    intro _ hw'
    obtain ⟨⟨dq,osq⟩,hw''⟩ := hw'
    subst hw''
    have HBQ := hide (below_regrown w8 dq osq)
    have Q1 := hide (block_on P1.out HBQ.out)
    have HB9 := hide (below_here HB8.out HBQ.out)
    have HO9 := hide (HO8.out.later HBQ.out (by omega))
    have hs9 := HBQ.out.size
    clear t0 t1 t2 t3 t4 t5 t6 t7 cC u0 u1 u2 u3 u4 u5 u6 i0 i1 i2 HBQ
    generalize Go.Sort.grow (redrawn w8 dq) osq = w9 at *
    obtain ⟨d0,d1,d2,d3,d4,d5,d6⟩ := seven_cells Q1.out
    have f0 := four_frozen Q1.out 0
    have f1 := four_frozen Q1.out 1
    have f2 := four_frozen Q1.out 2
    have f3 := four_frozen Q1.out 3
    have f4 := four_frozen Q1.out 4
    have f5 := four_frozen Q1.out 5
    have f6 := four_frozen Q1.out 6
    have HRS := hide (seven_set Q1.out (.int .i64 RM) (.slice a7 YS.length c7) (.int .i64 Z) (.slice b7 Q.length d7) (.slice e7 PS.length g7) (.int .i64 OP) (.int .i64 ST))
    have HAS := hide (seven_aside (b := w.heap.size + 1) (Aside.refl (w.heap.size + 1) (w.heap.size + 1 + 1) w9) (Nat.le_refl _) (Nat.lt_succ_self _) (.int .i64 RM) (.slice a7 YS.length c7) (.int .i64 Z) (.slice b7 Q.length d7) (.slice e7 PS.length g7) (.int .i64 OP) (.int .i64 ST))
    have HBF := hide (HB9.out.trans (HAS.out.below (B := w.heap.size) (by omega) (HB9.out.size)))
    go_wp2_with fail
    refine bodyPost_ret (results_ctt rfl rfl (run_loadVar_row _ _ _ _ _ _ _ HRS.out Tryz.underlying65 rfl (by kernel_rfl))) rfl ⟨_,by rw [HT.out,hbv]; rfl,a7,c7,b7,d7,e7,g7,rfl,cache_stored HO9.out HAS.out (by omega) (by omega),HBF.out,HC7.out⟩
end Go.Proofs.YtgjoepdfhadmcaaGreatDoor
end

