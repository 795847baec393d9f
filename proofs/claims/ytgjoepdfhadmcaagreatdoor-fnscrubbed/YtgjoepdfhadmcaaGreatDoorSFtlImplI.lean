/- Several texts in one: FtlImplI, FtlImplJ, ScrubImpl. -/
import Derived.Test.YtgjoepdfhadmcaaGreatDoorSFtlImplH
import Derived.Test.YtgjoepdfhadmcaaGreatDoorSFtlImplA
import Derived.Defers
import Derived.Recover
import Derived.Laws.Pointers
import Derived.Test.YtgjoepdfhadmcaaGreatDoorSFtlOwnP
section
namespace Go.Proofs.YtgjoepdfhadmcaaGreatDoor
open Go.RowKit
set_option linter.unusedVariables false
set_option maxRecDepth 20000
theorem Tryz.loadOk {w : World} {b : Nat} {v : Value} {t : TypeId} {fr : Nat × Nat} (h : w.heap[b]? = some (.cells #[v] t fr)) : (loadVar 4 ⟨b,0,none⟩).run Tryz.prog w = .ok v w := by
 have hc : w.cell? ⟨b,0,none⟩ = some v := by simp [World.cell?,h]
 simp [loadVar,go_sem,hc]
theorem results_cc {fn : Func} {P : Program} {w : World} {t u : Tmp} {ty tz : TypeId} {tmps : Array Value} {a b : Addr} {v x : Value} (h : fn.results = #[.cell t ty,.cell u tz]) (ht : tmps.getD t undef = .pointer (some a)) (hu : tmps.getD u undef = .pointer (some b)) (hl : (loadVar ty a).run P w = .ok v w) (hx : (loadVar tz b).run P w = .ok x w) :
  (results fn tmps).run P w = .ok (.tuple #[v,x]) w := by
 have ht' : tmps[t]?.getD undef = .pointer (some a) := by simpa using ht
 have hu' : tmps[u]?.getD undef = .pointer (some b) := by simpa using hu
 simp [results,h,ht',hu',asAddr,hl,hx]
end Go.Proofs.YtgjoepdfhadmcaaGreatDoor
end

section
namespace Go.Proofs.YtgjoepdfhadmcaaGreatDoor
open Go.RowKit
set_option linter.unusedVariables false
set_option maxRecDepth 20000
def endW (w : World) (pe po : Nat) (z : Int) (a : Option Addr) (n c : Nat) (am : Option Addr) (m cm : Nat) (op st : Int) (b : Bool) : World :=
 (((((w.setCell ⟨pe,0,none⟩ (.int .i64 z)).setCell ⟨pe,1,none⟩ (.slice a n c)).setCell ⟨pe,2,none⟩ (.slice am m cm)).setCell ⟨pe,3,none⟩ (.int .i64 op)).setCell ⟨pe,4,none⟩ (.int .i64 st)).setCell ⟨po,0,none⟩ (.bool b)
theorem endW_at {w w1 : World} (hs : w.heap.size + 1 + 1 + 1 < w1.heap.size) (hb : Below w.heap.size w w1) {c0 c1 c2 c3 c4 y : Value} (hj : w1.heap[w.heap.size + 1 + 1]? = some (.cells #[c0,c1,c2,c3,c4] 29)) (ho : w1.heap[w.heap.size + 1 + 1 + 1]? = some (.cells #[y] 4)) (z : Int) (a : Option Addr) (n c : Nat) (am : Option Addr) (m cm : Nat) (op st : Int) (b : Bool) :
  (endW w1 (w.heap.size + 1 + 1) (w.heap.size + 1 + 1 + 1) z a n c am m cm op st b).heap[w.heap.size + 1 + 1]? = some (.cells #[.int .i64 z,.slice a n c,.slice am m cm,.int .i64 op,.int .i64 st] 29) ∧
  (endW w1 (w.heap.size + 1 + 1) (w.heap.size + 1 + 1 + 1) z a n c am m cm op st b).heap[w.heap.size + 1 + 1 + 1]? = some (.cells #[.bool b] 4) ∧
  Below w.heap.size w (endW w1 (w.heap.size + 1 + 1) (w.heap.size + 1 + 1 + 1) z a n c am m cm op st b) ∧ Aside (w.heap.size + 1 + 1) (w.heap.size + 1 + 1 + 1 + 1) w1 (endW w1 (w.heap.size + 1 + 1) (w.heap.size + 1 + 1 + 1) z a n c am m cm op st b) := by
 have hA : Aside (w.heap.size + 1 + 1) (w.heap.size + 1 + 1 + 1 + 1) w1 (endW w1 (w.heap.size + 1 + 1) (w.heap.size + 1 + 1 + 1) z a n c am m cm op st b) := (five_aside (b := w.heap.size + 1 + 1) (Aside.refl _ _ w1) (Nat.le_refl _) (by omega) _ _ _ _ _).setCell (p := ⟨w.heap.size + 1 + 1 + 1,0,none⟩) (by show w.heap.size + 1 + 1 <= w.heap.size + 1 + 1 + 1; omega) (by show w.heap.size + 1 + 1 + 1 < _; omega) _
 have ho' : ∀ (o1 o2 o3 o4 o5 : Nat) (v1 v2 v3 v4 v5 : Value),(((((w1.setCell ⟨w.heap.size + 1 + 1,o1,none⟩ v1).setCell ⟨w.heap.size + 1 + 1,o2,none⟩ v2).setCell ⟨w.heap.size + 1 + 1,o3,none⟩ v3).setCell ⟨w.heap.size + 1 + 1,o4,none⟩ v4).setCell ⟨w.heap.size + 1 + 1,o5,none⟩ v5).heap[w.heap.size + 1 + 1 + 1]? = some (.cells #[y] 4) := fun o1 o2 o3 o4 o5 v1 v2 v3 v4 v5 => set_other (set_other (set_other (set_other (set_other ho (by omega) _) (by omega) _) (by omega) _) (by omega) _) (by omega) _
 exact ⟨set_other (five_set hj _ _ _ _ _) (by omega) _,set_block (ho' 0 1 2 3 4 _ _ _ _ _) 0 _ (by simp),hb.trans (hA.below (by omega) (by omega)),hA⟩
theorem enterIdle (p q r : Value) (w : World) :
  CallsD Tryz.prog 97 #[p,q,r] .returning w fun e u' w' => e = .returned (.tuple #[]) ∧ u' = .returning ∧ w' = w := by
 refine callsD_of_wpS Tryz.func97 rfl fun c₀ cs hu => ?_
 apply wpS_seq
 apply wpS_region
 simp [wpOpsS,go_sem,recoverD,hu,Tryz.ntmps97,Exit.thenS]
 refine wpS_cond (t := false) (by simp [Act.eval,Array.replicate]) ?_
 simp only [Bool.false_eq_true,if_false]
 refine wpS_of_wp (wp_skip ?_)
 cases c₀
 simp_all [bodyPostS,results,Tryz.results97]
def EnterAns (pe po : Nat) (z : Int) (n : Nat) (qs : List Sq) (m : Nat) (ps : List Pl) (op st : Int) (w w' : World) : Prop := ∃ w5 a' c' am' cm',FtlOwn w.heap.size w5.heap.size w5 a' am' qs ps ∧ Below w.heap.size w w5 ∧ ps.length <= cm' ∧ w' = endW w5 pe po z a' n c' am' m cm' op st false
set_option maxRecDepth 100000 in
set_option maxHeartbeats 3200000 in
theorem enterCatch (pf pe po : Nat) (u : TypeId) (pv : Value) (older : List PanicEntry) (z : Int) (a : Option Addr) (n cap : Nat) (qs : List Sq) (am : Option Addr) (m cm : Nat) (ps : List Pl) (op st : Int) (w : World) {lo hi lo' hi' : Nat} (h : Squares lo hi w a n qs) (hhi : hi <= w.heap.size) (hok : chipOk z qs = true) (hp : Places lo' hi' w am m ps) (hhi' : hi' <= w.heap.size) (hm1 : 1 <= m) (hm : m <= 64) {aN : Addr} (hN : w.cell? ⟨1,0,none⟩ = some (noRoomV aN)) {c0 c1 c2 c3 c4 y : Value} {t : TypeId}
  (hf : w.heap[pf]? = some (.cells #[.int .i64 z,.slice a n cap,.slice am m cm,.int .i64 op,.int .i64 st] 29)) (he : w.heap[pe]? = some (.cells #[c0,c1,c2,c3,c4] 29)) (ho : w.heap[po]? = some (.cells #[y] t)) (hne : pe ≠ po) :
  CallsD Tryz.prog 97 #[.pointer (some ⟨pf,0,none⟩),.pointer (some ⟨pe,0,none⟩),.pointer (some ⟨po,0,none⟩)] (.panicking ({ v := .iface u pv,recovered := false } :: older)) w fun e u' w' =>
   e = .returned (.tuple #[]) ∧ u' = .panicking ({ v := .iface u pv,recovered := true } :: older) ∧ EnterAns pe po z n qs m ps op st w w' := by
 obtain ⟨f0,f1,f2,f3,f4⟩ := five_cells hf
 have hln : qs.length = n := h.1
 have hlm : ps.length = m := hp.1
 have HCP := hide (copyOfFtl_any z a n cap qs am m cm ps op st w h hhi hok hp hhi' hm1 hm hN)
 clear h hp hN
 refine callsD_of_wpS Tryz.func97 rfl fun c₀ cs hu => ?_
 apply wpS_seq
 apply wpS_region
 simp [wpOpsS,go_sem,recoverD,hu,Tryz.ntmps97,Exit.thenS]
 refine wpS_cond (t := true) (by simp [Act.eval,Array.replicate]) ?_
 simp only [if_true]
 refine wpS_of_wp ?_
 go_wp2_with fail
 refine HCP.out.mono ?_
 rintro e w5 ⟨v,rfl,a',c',am',cm',rfl,ho5,b5,hcap5⟩
 have he5 := block_on he b5
 have hb5 := block_on ho b5
 obtain ⟨g0,g1,g2,g3,g4⟩ := five_cells he5
 have k0 := four_frozen he5 0
 have k1 := four_frozen he5 1
 have k2 := four_frozen he5 2
 have k3 := four_frozen he5 3
 have k4 := four_frozen he5 4
 have j0 : w5.cell? ⟨po,0,none⟩ = some y := by simp [World.cell?,hb5]
 have j1 := four_frozen hb5 0
 have HO5 := hide ho5
 have HB5 := hide b5
 have HCP5 := hide hcap5
 clear ho5 b5 hcap5 f0 f1 f2 f3 f4
 unfold fvV
 dsimp only
 rw [hln,hlm]
 go_wp2_with fail
 simp [bodyPostS,results,Tryz.results97]
 exact ⟨w5,a',c',am',cm',HO5.out,HB5.out,HCP5.out,by unfold endW; rfl⟩
set_option maxRecDepth 100000 in
set_option maxHeartbeats 6400000 in
theorem implEnter_any (z : Int) (a : Option Addr) (n cap : Nat) (qs : List Sq) (am : Option Addr) (m cm : Nat) (ps : List Pl) (op st kd at_ sp : Int) (tx : ByteArray) (w : World) {lo hi lo' hi' : Nat} (h : Squares lo hi w a n qs) (hhi : hi <= w.heap.size) (hn : n <= 1048576) (hf : ∀ x ∈ qs,sqFits x) (hp : Places lo' hi' w am m ps) (hhi' : hi' <= w.heap.size) (hm : m <= 1048576) (hcl : m <= cm) (hT : Tab w) {aB aL aS aC aF aN : Addr} (E : Errs w aB aL aS aC aF) (hN : w.cell? ⟨1,0,none⟩ = some (noRoomV aN)) :
  Calls Tryz.prog 28 #[.agg #[.int .i64 z,.slice a n cap,.slice am m cm,.int .i64 op,.int .i64 st],.agg #[.int .i64 kd,.int .i64 at_,.int .i64 sp,.string tx]] w fun e w' => ∃ v,e = .returned (.tuple #[v,.bool (planR z qs ps op st kd at_ tx).isSome]) ∧ FtlAns w (entF z qs ps op st kd at_ tx) v w' := by
 obtain ⟨r,hr⟩ : ∃ r,r = planR z qs ps op st kd at_ tx := ⟨_,rfl⟩
 have HR := hide hr
 rw [<- hr]
 clear hr
 obtain ⟨fv,hfv⟩ : ∃ fv,fv = entF z qs ps op st kd at_ tx := ⟨_,rfl⟩
 have HFV := hide hfv
 rw [<- hfv]
 clear hfv
 obtain ⟨wA,hwA⟩ : ∃ wA,wA = (((w.alloc (.cells #[.int .i64 z,.slice a n cap,.slice am m cm,.int .i64 op,.int .i64 st] 29)).alloc (.cells #[.int .i64 kd,.int .i64 at_,.int .i64 sp,.string tx] 31)).alloc (.cells #[.int .i64 0,.slice none 0 0,.slice none 0 0,.int .i64 0,.int .i64 0] 29)).alloc (.cells #[.bool false] 4) := ⟨_,rfl⟩
 have hzA : wA.heap.size = w.heap.size + 1 + 1 + 1 + 1 := by rw [hwA]; simp
 have HBA : Hid (Below w.heap.size w wA) := by rw [hwA]; exact ((((Below.refl _ _).alloc (Nat.le_refl _) _).alloc (by simp) _).alloc (by simp; omega) _).alloc (by simp; omega) _
 have H0 : Hid (wA.heap[w.heap.size]? = some (.cells #[.int .i64 z,.slice a n cap,.slice am m cm,.int .i64 op,.int .i64 st] 29)) := by rw [hwA]; exact heap_old (heap_old (heap_old (heap_new _ _)))
 have H1 : Hid (wA.heap[w.heap.size + 1]? = some (.cells #[.int .i64 kd,.int .i64 at_,.int .i64 sp,.string tx] 31)) := by rw [hwA]; exact heap_old (heap_old (heap_at (by simp)))
 have H2 : Hid (wA.heap[w.heap.size + 1 + 1]? = some (.cells #[.int .i64 0,.slice none 0 0,.slice none 0 0,.int .i64 0,.int .i64 0] 29)) := by rw [hwA]; exact heap_old (heap_at (by simp))
 have H3 : Hid (wA.heap[w.heap.size + 1 + 1 + 1]? = some (.cells #[.bool false] 4)) := by rw [hwA]; exact heap_at (by simp)
 have HSQ := hide (h.later HBA.out hhi)
 have HPL := hide (hp.later HBA.out hhi')
 have HLP := hide hp.1
 have HLQ := hide h.1
 have HF := hide hf
 have HTA := hide (hT.here HBA.out)
 have HEA := hide (E.here HBA.out)
 have hGl : 1 < w.heap.size := World.block_lt_of_cell? _ _ hN
 have hGt : 7 < w.heap.size := World.block_lt_of_cell? _ _ (hT 0 (by omega))
 have HNA := hide ((HBA.out.cell (p := ⟨1,0,none⟩) hGl).trans hN)
 have hmf : ∀ (fn : Fn) (first cap : Array Value) (w : World),(Instr.makeFunc fn first cap).run Tryz.prog w = .ok (.func fn first cap) w := fun _ _ _ _ => rfl
 clear h hf hp hT E hN
 obtain ⟨c0,c1,c2,c3,c4⟩ := five_cells H0.out
 go_enter_defers Tryz.func28,Tryz.ntmps28
 go_wp2_with fail
 rw [<- hwA]
 clear hwA
 refine (implFtlOk_any z a n cap qs am m cm ps op st wA HSQ.out (by omega) hn HF.out HPL.out (by omega) hm hcl HTA.out HEA.out).mono ?_
 rintro e w1 ⟨rfl,b1⟩
 have K0 := hide (block_on H0.out b1)
 have K1 := hide (block_on H1.out b1)
 have K2 := hide (block_on H2.out b1)
 have K3 := hide (block_on H3.out b1)
 have HS1 := hide (HSQ.out.later b1 (by omega))
 have HP1 := hide (HPL.out.later b1 (by omega))
 have HB1 := hide (below_here HBA.out b1)
 have HT1 := hide (HTA.out.here b1)
 have HN1 := hide ((b1.cell (p := ⟨1,0,none⟩) (by show 1 < _; omega)).trans HNA.out)
 have hs1 := b1.size
 clear b1 H0 H1 H2 H3 HSQ HPL HBA HTA HEA HNA c0 c1 c2 c3 c4
 obtain ⟨c0,c1,c2,c3,c4⟩ := five_cells K0.out
 obtain ⟨p0,p1,p2,p3⟩ := four_cells K1.out
 cases hok : ftlOk z qs ps op st with
 | false =>
  have HE : Hid (r = none) := by show _ = _; rw [HR.out]; unfold planR; rw [hok]; rfl
  have HFE : Hid (fv = ⟨0,[],[],0,0⟩) := by show _ = _; rw [HFV.out]; unfold entF; rw [hok]; rfl
  obtain ⟨d0,d1,d2,d3,d4⟩ := five_cells K2.out
  have g0 := four_frozen K2.out 0
  have g1 := four_frozen K2.out 1
  have g2 := four_frozen K2.out 2
  have g3 := four_frozen K2.out 3
  have g4 := four_frozen K2.out 4
  have e2 : w1.cell? ⟨w.heap.size + 1 + 1 + 1,0,none⟩ = some (.bool false) := by simp [World.cell?,K3.out]
  have e3 := four_frozen K3.out 0
  have HEND := hide (endW_at (w := w) (w1 := w1) (by omega) HB1.out K2.out K3.out 0 none 0 0 none 0 0 0 0 false)
  unfold endW at HEND
  go_wp2_with fail
  refine ⟨_,results_cc rfl rfl rfl (run_loadVar_row _ _ _ _ _ _ _ HEND.out.1 Tryz.underlying29 rfl (by kernel_rfl)) (Tryz.loadOk HEND.out.2.1),_,by rw [HE.out]; rfl,none,0,none,0,by rw [HFE.out]; rfl,⟨Nat.le_refl _,.inl ?_⟩,HEND.out.2.2.1,by rw [HFE.out]; exact Nat.le_refl _⟩
  rw [HFE.out]; exact ⟨rfl,rfl⟩
 | true =>
  obtain ⟨hmo,_,_,hst0,hst1,_,_⟩ := ftlOk_parts hok
  have hm64 : m <= 64 := by have := (mapOk_len hmo).2; rw [HLP.out] at this; exact this
  have hm1 : 1 <= m := by have := (mapOk_len hmo).1; rw [HLP.out] at this; exact this
  have HCK := hide (mapOk_chip hmo)
  have HKO := hide (kok_of hok [])
  have HRE : Hid (r = enterK z ⟨qs,ps,op,[]⟩ st kd at_ tx) := by show _ = _; rw [HR.out]; unfold planR; rw [hok]; rfl
  have HFE : Hid (fv = (match enterK z ⟨qs,ps,op,[]⟩ st kd at_ tx with | none => ⟨z,qs,ps,op,st⟩ | some s => ⟨z,s.qs,s.ps,s.op,st + 1⟩)) := by show _ = _; rw [HFV.out]; unfold entF; rw [hok]; rfl
  rw [<- HRE.out] at HFE
  clear hok hmo HR HFV
  go_wp2_with fail
  refine (mayEnter_any (.int .i64 z) (.slice a n cap) am m cm (.int .i64 op) st kd at_ sp tx ps w1 HLP.out hm ⟨hst0,hst1⟩).mono ?_
  rintro e w2 ⟨rfl,b2⟩
  have L0 := hide (block_on K0.out b2)
  have L1 := hide (block_on K1.out b2)
  have L2 := hide (block_on K2.out b2)
  have L3 := hide (block_on K3.out b2)
  have HS2 := hide (HS1.out.later b2 (by omega))
  have HP2 := hide (HP1.out.later b2 (by omega))
  have HB2 := hide (below_here HB1.out b2)
  have HT2 := hide (HT1.out.here b2)
  have HN2 := hide ((b2.cell (p := ⟨1,0,none⟩) (by show 1 < _; omega)).trans HN1.out)
  have hs2 := b2.size
  clear b2 K0 K1 K2 K3 HS1 HP1 HB1 HT1 HN1 c0 c1 c2 c3 c4 p0 p1 p2 p3
  obtain ⟨c0,c1,c2,c3,c4⟩ := five_cells L0.out
  cases hme : mayEnt ps st kd at_ tx with
  | false =>
   have HE : Hid (r = none) := by show _ = _; rw [HRE.out]; exact enterK_no hme
   have HFN : Hid (fv = ⟨z,qs,ps,op,st⟩) := by show _ = _; rw [HFE.out,HE.out]
   go_wp2_with fail
   refine (copyOfFtl_any z a n cap qs am m cm ps op st w2 HS2.out (by omega) HCK.out HP2.out (by omega) hm1 hm64 HN2.out).mono ?_
   rintro e w5 ⟨v,rfl,a',c',am',cm',rfl,ho5,b5,hcap5⟩
   have M2 := hide (block_on L2.out b5)
   have M3 := hide (block_on L3.out b5)
   have HB5 := hide (below_here HB2.out b5)
   have HO5 := hide ho5
   have hs5 := b5.size
   have HCP5 := hide hcap5
   clear ho5 b5 hcap5 c0 c1 c2 c3 c4
   obtain ⟨d0,d1,d2,d3,d4⟩ := five_cells M2.out
   have g0 := four_frozen M2.out 0
   have g1 := four_frozen M2.out 1
   have g2 := four_frozen M2.out 2
   have g3 := four_frozen M2.out 3
   have g4 := four_frozen M2.out 4
   have e2 : w5.cell? ⟨w.heap.size + 1 + 1 + 1,0,none⟩ = some (.bool false) := by simp [World.cell?,M3.out]
   have e3 := four_frozen M3.out 0
   unfold fvV
   dsimp only
   rw [HLQ.out,HLP.out]
   have HEND := hide (endW_at (w := w) (w1 := w5) (by omega) HB5.out M2.out M3.out z a' n c' am' m cm' op st false)
   unfold endW at HEND
   go_wp2_with fail
   refine ⟨_,results_cc rfl rfl rfl (run_loadVar_row _ _ _ _ _ _ _ HEND.out.1 Tryz.underlying29 rfl (by kernel_rfl)) (Tryz.loadOk HEND.out.2.1),_,by rw [HE.out]; rfl,a',c',am',cm',by rw [HFN.out]; unfold fvV; dsimp only; rw [HLQ.out,HLP.out],?_,HEND.out.2.2.1,by rw [HFN.out]; exact HCP5.out⟩
   rw [HFN.out]
   exact (HO5.out.aside HEND.out.2.2.2 (.inl (by omega))).wide (by omega) HEND.out.2.2.2.size (Nat.le_refl _)
  | true =>
   go_wp2_with fail
   refine (keeperOf_any z a n cap qs am m cm ps op st w2 HS2.out (by omega) HCK.out HP2.out (by omega) hm1 hm64 HN2.out).mono ?_
   rintro e w3 ⟨pk,g,c,gm,cm',A,C,rfl,hK3,b3⟩
   have M0 := hide (block_on L0.out b3)
   have M1 := hide (block_on L1.out b3)
   have M2 := hide (block_on L2.out b3)
   have M3 := hide (block_on L3.out b3)
   have HB3 := hide (below_here HB2.out b3)
   have HT3 := hide (HT2.out.here b3)
   have HS3 := hide (HS2.out.later b3 (by omega))
   have HP3 := hide (HP2.out.later b3 (by omega))
   have HN3 := hide ((b3.cell (p := ⟨1,0,none⟩) (by show 1 < _; omega)).trans HN2.out)
   have HK3 := hide hK3
   have hs3 := b3.size
   clear hK3 b3 c0 c1 c2 c3 c4
   obtain ⟨p0,p1,p2,p3⟩ := four_cells M1.out
   go_wp2_with fail
   refine (enter_any w2.heap.size pk z st n g c gm cm' A C _ ⟨qs,ps,op,[]⟩ aN kd at_ sp tx w3 HK3.out hs3 HKO.out (by show 0 <= _; omega) ⟨hst0,hst1⟩ hme HT3.out (by omega)).mono ?_
   rintro e w4 ⟨hf4,hk4⟩
   have N0 : Hid (w4.heap[w.heap.size]? = some (.cells #[.int .i64 z,.slice a n cap,.slice am m cm,.int .i64 op,.int .i64 st] 29)) := (hf4.below.block _ (by omega)).trans M0.out
   have N2 : Hid (w4.heap[w.heap.size + 1 + 1]? = some (.cells #[.int .i64 0,.slice none 0 0,.slice none 0 0,.int .i64 0,.int .i64 0] 29)) := (hf4.below.block _ (by omega)).trans M2.out
   have N3 : Hid (w4.heap[w.heap.size + 1 + 1 + 1]? = some (.cells #[.bool false] 4)) := (hf4.below.block _ (by omega)).trans M3.out
   have HB4 := hide (HB3.out.trans (hf4.below.mono (show w.heap.size <= w2.heap.size by omega)))
   have HS4 := hide (HS3.out.later hf4.below (by omega))
   have HP4 := hide (HP3.out.later hf4.below (by omega))
   have HN4 := hide ((hf4.below.cell (p := ⟨1,0,none⟩) (by show 1 < _; omega)).trans HN3.out)
   have hs4 := hf4.below.size
   clear hf4 p0 p1 p2 p3
   rw [<- HRE.out] at hk4
   cases hrr : r with
   | none =>
    have HRR := hide hrr
    have HFN : Hid (fv = ⟨z,qs,ps,op,st⟩) := by show _ = _; rw [HFE.out,hrr]
    rw [hrr] at hk4
    dsimp only at hk4
    subst hk4
    unfold noRoomV
    go_wp2_with fail
    show Leaves _ _ _ _ _ _ _
    refine leaves_cons (f := 97) (args := #[.pointer (some ⟨w.heap.size,0,none⟩),.pointer (some ⟨w.heap.size + 1 + 1,0,none⟩),.pointer (some ⟨w.heap.size + 1 + 1 + 1,0,none⟩)]) (by simp) (by simp [go_sem]) ?_
    refine (enterCatch w.heap.size (w.heap.size + 1 + 1) (w.heap.size + 1 + 1 + 1) _ _ [] z a n cap qs am m cm ps op st w4 HS4.out (by omega) HCK.out HP4.out (by omega) hm1 hm64 HN4.out N0.out N2.out N3.out (by omega)).mono ?_
    rintro e u' w'' ⟨rfl,rfl,w5,a',c',am',cm2,hO5,b5,hcap5,rfl⟩
    have P2 := hide (block_on N2.out b5)
    have P3 := hide (block_on N3.out b5)
    have hs5 := b5.size
    have HEND := hide (endW_at (w := w) (w1 := w5) (by omega) (below_here HB4.out b5) P2.out P3.out z a' n c' am' m cm2 op st false)
    refine ⟨_,results_cc rfl rfl rfl (run_loadVar_row _ _ _ _ _ _ _ HEND.out.1 Tryz.underlying29 rfl (by kernel_rfl)) (Tryz.loadOk HEND.out.2.1),_,by rw [HRR.out]; rfl,a',c',am',cm2,by rw [HFN.out]; unfold fvV; dsimp only; rw [HLQ.out,HLP.out],?_,HEND.out.2.2.1,by rw [HFN.out]; exact hcap5⟩
    rw [HFN.out]
    exact (hO5.aside HEND.out.2.2.2 (.inl (by omega))).wide (by omega) HEND.out.2.2.2.size (Nat.le_refl _)
   | some s' =>
    have HRR := hide hrr
    have HFN : Hid (fv = ⟨z,s'.qs,s'.ps,s'.op,st + 1⟩) := by show _ = _; rw [HFE.out,hrr]
    rw [hrr] at hk4
    dsimp only at hk4
    obtain ⟨rfl,A4,C4,V4,hA4,_⟩ := hk4
    have HA4 := hide hA4
    clear hA4 hrr
    go_wp2_with fail
    refine (ftl_any w2.heap.size pk z (st + 1) n g c gm cm' A4 C4 V4 s' aN w4 HA4.out (by omega)).mono ?_
    rintro e w5 ⟨rfl,b5⟩
    have P2 := hide (block_on N2.out b5)
    have P3 := hide (block_on N3.out b5)
    have HB5 := hide (below_here HB4.out b5)
    have HO5 := hide (own_of_kp (HA4.out.mem.later b5))
    have HLN := hide HA4.out.mem.sq.len
    have hs5 := b5.size
    clear b5
    obtain ⟨d0,d1,d2,d3,d4⟩ := five_cells P2.out
    have g0 := four_frozen P2.out 0
    have g1 := four_frozen P2.out 1
    have g2 := four_frozen P2.out 2
    have g3 := four_frozen P2.out 3
    have g4 := four_frozen P2.out 4
    have e2 : w5.cell? ⟨w.heap.size + 1 + 1 + 1,0,none⟩ = some (.bool false) := by simp [World.cell?,P3.out]
    have e3 := four_frozen P3.out 0
    have HEND := hide (endW_at (w := w) (w1 := w5) (by omega) HB5.out P2.out P3.out z (some ⟨g,0,none⟩) n c (some ⟨gm,0,none⟩) s'.ps.length cm' s'.op (st + 1) true)
    unfold endW at HEND
    go_wp2_with fail
    show Leaves _ _ _ _ _ _ _
    refine leaves_cons (f := 97) (args := #[.pointer (some ⟨w.heap.size,0,none⟩),.pointer (some ⟨w.heap.size + 1 + 1,0,none⟩),.pointer (some ⟨w.heap.size + 1 + 1 + 1,0,none⟩)]) (by simp) (by simp [go_sem]) ?_
    refine (enterIdle _ _ _ _).mono ?_
    rintro e u' w'' ⟨rfl,rfl,rfl⟩
    refine ⟨_,results_cc rfl rfl rfl (run_loadVar_row _ _ _ _ _ _ _ HEND.out.1 Tryz.underlying29 rfl (by kernel_rfl)) (Tryz.loadOk HEND.out.2.1),_,by rw [HRR.out]; rfl,some ⟨g,0,none⟩,c,some ⟨gm,0,none⟩,cm',by rw [HFN.out]; unfold fvV; dsimp only; rw [HLN.out],?_,HEND.out.2.2.1,by rw [HFN.out]; exact pl_cap HA4.out.mem.pl⟩
    rw [HFN.out]
    exact (HO5.out.aside HEND.out.2.2.2 (.inl (by omega))).wide (by omega) HEND.out.2.2.2.size (Nat.le_refl _)
end Go.Proofs.YtgjoepdfhadmcaaGreatDoor
end

section
namespace Go.Proofs.YtgjoepdfhadmcaaGreatDoor
open Go.RowKit
set_option linter.unusedVariables false
set_option maxRecDepth 20000
theorem row_aside11 {D l r : Nat} {w w' : World} {e n : Nat} {v : Value} {xs : List Value} (h : w.ownsRow D e 1 v n xs) (hA : Aside l r w w') (hv : ∀ k,v.ownBlock = some k -> r <= k ∨ k < l) : w'.ownsRow D e 1 v n xs := by
 obtain ⟨k1,k2 | ⟨p,c,cs,e',hp,hb,hr⟩⟩ := h
 ·exact ⟨k1,.inl k2⟩
 ·exact ⟨k1,.inr ⟨p,c,cs,e',hp,(hA.block p (Array.getElem?_eq_some_iff.1 hb).1 (hv p (by rw [e']; rfl)).symm).trans hb,hr⟩⟩
set_option maxHeartbeats 8000000 in
theorem implScrubbed_any (z : Int) (a : Option Addr) (n cap : Nat) (qs : List Sq) (am : Option Addr) (m cm : Nat) (ps : List Pl) (op st : Int) (w : World) {lo hi lo' hi' : Nat} (h : Squares lo hi w a n qs) (hhi : hi <= w.heap.size) (hn : n <= 1048576) (hf : ∀ x ∈ qs,sqFits x) (hp : Places lo' hi' w am m ps) (hhi' : hi' <= w.heap.size) (hm : m <= 1048576) (hcl : m <= cm) (hT : Tab w) {aB aL aS aC aF aN : Addr} (E : Errs w aB aL aS aC aF) (hN : w.cell? ⟨1,0,none⟩ = some (noRoomV aN)) :
  Calls Tryz.prog 31 #[.agg #[.int .i64 z,.slice a n cap,.slice am m cm,.int .i64 op,.int .i64 st]] w fun e w' => ∃ v,e = .returned (.tuple #[v,.bool (scrubB ⟨z,qs,ps,op,st⟩)]) ∧ FtlAns w (scrubF ⟨z,qs,ps,op,st⟩) v w' := by
 obtain ⟨F,hF⟩ : ∃ F : Fv,F = ⟨z,qs,ps,op,st⟩ := ⟨_,rfl⟩
 have HFF := hide hF
 rw [<- hF]
 have HOF : Hid (okF F = ftlOk z qs ps op st) := by rw [hF]; rfl
 have HRV : Hid (rotF z qs ps op st = rotV F) := by rw [hF]; rfl
 have HFP : Hid (F.ps = ps ∧ F.qs = qs ∧ F.z = z) := by rw [hF]; exact ⟨rfl,rfl,rfl⟩
 clear hF
 obtain ⟨sb,hsb⟩ : ∃ x,x = scrubB F := ⟨_,rfl⟩
 obtain ⟨fv,hfv⟩ : ∃ x,x = scrubF F := ⟨_,rfl⟩
 have HSB := hide hsb
 have HFV := hide hfv
 rw [<- hsb,<- hfv]
 clear hsb hfv
 obtain ⟨wA,hwA⟩ : ∃ wA,wA = (w.alloc (.cells #[.int .i64 z,.slice a n cap,.slice am m cm,.int .i64 op,.int .i64 st] 29)).alloc (.cells #[.int .i64 0,.slice none 0 0,.slice none 0 0,.int .i64 0,.int .i64 0] 29) := ⟨_,rfl⟩
 have hzA : wA.heap.size = w.heap.size + 1 + 1 := by rw [hwA]; simp
 have HBA : Hid (Below w.heap.size w wA) := by rw [hwA]; exact ((Below.refl _ _).alloc (Nat.le_refl _) _).alloc (by simp) _
 have H0 : Hid (wA.heap[w.heap.size]? = some (.cells #[.int .i64 z,.slice a n cap,.slice am m cm,.int .i64 op,.int .i64 st] 29)) := by rw [hwA]; exact heap_old (heap_new _ _)
 have H2 : Hid (wA.heap[w.heap.size + 1]? = some (.cells #[.int .i64 0,.slice none 0 0,.slice none 0 0,.int .i64 0,.int .i64 0] 29)) := by rw [hwA]; exact heap_at (by simp)
 have HSQ := hide (h.later HBA.out hhi)
 have HPL := hide (hp.later HBA.out hhi')
 have HL := hide h.1
 have HLP := hide hp.1
 have HF := hide hf
 have hgN : 1 < w.heap.size := World.block_lt_of_cell? _ _ hN
 have HT0 := hide hT
 have HE0 := hide E
 have HN0 : ∀ w9,Hid (Below w.heap.size w w9 -> w9.cell? ⟨1,0,none⟩ = some (noRoomV aN)) := fun w9 h9 => (h9.cell (p := ⟨1,0,none⟩) hgN).trans hN
 clear h hf hp hT E hN hgN
 obtain ⟨c0,c1,c2,c3,c4⟩ := five_cells H0.out
 go_enter Tryz.func31,Tryz.ntmps31
 go_wp2_with fail
 rw [<- hwA]
 clear hwA
 refine (implFtlOk_any z a n cap qs am m cm ps op st wA HSQ.out (by omega) hn HF.out HPL.out (by omega) hm hcl (HT0.out.here HBA.out) (HE0.out.here HBA.out)).mono ?_
 rintro e w1 ⟨rfl,b1⟩
 have K0 := hide (block_on H0.out b1)
 have K2 := hide (block_on H2.out b1)
 have HS1 := hide (HSQ.out.later b1 (by omega))
 have HP1 := hide (HPL.out.later b1 (by omega))
 have HB1 := hide (below_here HBA.out b1)
 have hs1 := b1.size
 clear b1 H0 H2 HSQ HPL HBA c0 c1 c2 c3 c4
 cases hok : ftlOk z qs ps op st with
 | false =>
  have HE : Hid (sb = false) := by show _ = _; rw [HSB.out]; unfold scrubB; rw [HOF.out,hok]; rfl
  have HFE : Hid (fv = ⟨0,[],[],0,0⟩) := by show _ = _; rw [HFV.out]; unfold scrubF; rw [HOF.out,hok]; rfl
  obtain ⟨p0,p1,p2,p3,p4⟩ := five_cells K2.out
  have f0 := four_frozen K2.out 0
  have f1 := four_frozen K2.out 1
  have f2 := four_frozen K2.out 2
  have f3 := four_frozen K2.out 3
  have f4 := four_frozen K2.out 4
  have HRS := hide (five_set K2.out (.int .i64 0) (.slice none 0 0) (.slice none 0 0) (.int .i64 0) (.int .i64 0))
  have HAS := hide (five_aside (b := w.heap.size + 1) (Aside.refl (w.heap.size + 1) (w.heap.size + 1 + 1) w1) (Nat.le_refl _) (Nat.lt_succ_self _) (.int .i64 0) (.slice none 0 0) (.slice none 0 0) (.int .i64 0) (.int .i64 0))
  have HBF := hide (HB1.out.trans (HAS.out.below (B := w.heap.size) (by omega) (by omega)))
  go_wp2_with fail
  refine bodyPost_ret (results_ct rfl rfl (run_loadVar_row _ _ _ _ _ _ _ HRS.out Tryz.underlying29 rfl (by kernel_rfl))) rfl ⟨.agg #[.int .i64 0,.slice none 0 0,.slice none 0 0,.int .i64 0,.int .i64 0],by rw [HE.out]; rfl,none,0,none,0,by rw [HFE.out]; rfl,⟨Nat.le_refl _,.inl ?_⟩,HBF.out,by rw [HFE.out]; exact Nat.le_refl _⟩
  rw [HFE.out]; exact ⟨rfl,rfl⟩
 | true =>
  have HOK : Hid (okF F = true) := by show _ = _; rw [HOF.out]; exact hok
  have HRL := hide (rotL_of HOK.out)
  have HSI : Hid (∀ k g,k <= (rotV F).length -> scrubK F (rotV F) k = some g -> ScrubI F (rotV F) k g) := fun k g h1 h2 => scrubI_of HOK.out h1 h2
  obtain ⟨hmo,_,_,hst0,hst1,_,_⟩ := ftlOk_parts hok
  have hm64 : m <= 64 := by have := (mapOk_len hmo).2; rw [HLP.out] at this; exact this
  have hm1 : 1 <= m := by have := (mapOk_len hmo).1; rw [HLP.out] at this; exact this
  have HCK := hide (mapOk_chip hmo)
  have HMR := hide (mapR_of hmo)
  have hrl := rotF_len z qs ps op st
  clear hok hmo
  obtain ⟨c0,c1,c2,c3,c4⟩ := five_cells K0.out
  go_wp2_with fail
  refine (copyOfFtl_any z a n cap qs am m cm ps op st w1 HS1.out (by omega) HCK.out HP1.out (by omega) hm1 hm64 ((HN0 _).out HB1.out)).mono ?_
  rintro e w2 ⟨v,rfl,a2,c2',am2,cm2,rfl,hO2,b2,hc2⟩
  unfold fvV
  dsimp only at hO2 hc2 ⊢
  rw [HL.out,HLP.out]
  obtain ⟨wX,hwX⟩ : ∃ wX,wX = w2.alloc (.cells #[.int .i64 z,.slice a2 n c2',.slice am2 m cm2,.int .i64 op,.int .i64 st] 29) := ⟨_,rfl⟩
  have hzX : wX.heap.size = w2.heap.size + 1 := by rw [hwX]; simp
  have HBX : Hid (Below w2.heap.size w2 wX) := by rw [hwX]; exact (Below.refl _ _).alloc (Nat.le_refl _) _
  have HX : Hid (wX.heap[w2.heap.size]? = some (.cells #[.int .i64 z,.slice a2 n c2',.slice am2 m cm2,.int .i64 op,.int .i64 st] 29)) := by rw [hwX]; exact heap_new _ _
  have hs2 := b2.size
  have HXA : Hid (VarF w1.heap.size w2.heap.size w1.heap.size w2.heap.size F.z F.qs F.ps F.op F.st a2 c2' am2 cm2 wX) := by
   rw [HFF.out]
   exact ⟨by dsimp only; rw [HL.out,HLP.out]; exact HX.out,hO2.later HBX.out (Nat.le_refl _),.inr (Nat.le_refl _),hs2,Nat.le_refl _⟩
  have HC2 : Hid (F.ps.length <= cm2) := by rw [HFF.out]; exact hc2
  have K02 := hide (block_on (block_on K0.out b2) HBX.out)
  have K22 := hide (block_on (block_on K2.out b2) HBX.out)
  have HS2 := hide ((HS1.out.later b2 (by omega)).later HBX.out (by omega))
  have HP2 := hide ((HP1.out.later b2 (by omega)).later HBX.out (by omega))
  have HB2 := hide (below_here (below_here HB1.out b2) HBX.out)
  clear hO2 hc2 b2 HX K0 K2 HS1 HP1 HB1 c0 c1 c2 c3 c4
  go_upto_region 4 with fail
  rw [<- hwX]
  clear hwX
  obtain ⟨c0,c1,c2,c3,c4⟩ := five_cells K02.out
  go_wp2_with fail
  refine (implRotten_any z a n cap qs am m cm ps op st wX HS2.out (by omega) hn HF.out HP2.out (by omega) hm hcl (HT0.out.here HB2.out) (HE0.out.here HB2.out)).mono ?_
  rintro e w3 ⟨al,cl,rfl,hlc,hOL,b3⟩
  rw [HRV.out] at hlc hOL hrl
  rw [HRV.out]
  obtain ⟨l,hl⟩ : ∃ l,l = rotV F := ⟨_,rfl⟩
  rw [<- hl] at hlc hOL hrl HSI HRL
  rw [<- hl]
  have HLV := hide hl
  clear hl
  obtain ⟨L,hL⟩ : ∃ L,L = l.length := ⟨_,rfl⟩
  rw [<- hL] at hlc hOL hrl HSI
  rw [<- hL]
  have HLL := hide hL
  clear hL
  have HOL := hide hOL
  have HX3 := hide (HXA.out.on b3)
  have K03 := hide (block_on K02.out b3)
  have K23 := hide (block_on K22.out b3)
  have HS3 := hide (HS2.out.later b3 (by omega))
  have HP3 := hide (HP2.out.later b3 (by omega))
  have HB3 := hide (below_here HB2.out b3)
  have hs3 := b3.size
  have HZX := hide hzX
  clear hOL b3 HXA K02 K22 HS2 HP2 HB2 hzX c0 c1 c2 c3 c4
  have hX3 : w2.heap.size < w3.heap.size := by have := HZX.out; omega
  go_wp2_with fail
  go_loopw [20] (fun i wr => ∃ (k : Nat) (gk : Fv) (lo hi : Nat) (ak : Option Addr) (ck : Nat) (amk : Option Addr) (cmk : Nat),k <= L ∧ i = .int .i64 (k : Int) ∧ scrubK F l k = some gk ∧ VarF w1.heap.size w2.heap.size lo hi gk.z gk.qs gk.ps gk.op gk.st ak ck amk cmk wr ∧ gk.ps.length <= cmk ∧ wr.ownsRow wX.heap.size 2 1 (.slice al L cl) L (valN l) ∧ Below w2.heap.size w3 wr) (fun i _ => L - (intOf i).toNat)
  case atStart => exact ⟨0,F,_,_,_,_,_,_,Nat.zero_le _,rfl,rfl,HX3.out,HC2.out,HOL.out,Below.refl _ _⟩
  case round =>
   obtain ⟨k,gk,lok,hik,ak,ck,amk,cmk,hk,rfl,hsk,hXk,hck,hOk,hbk⟩ := hrel
   have HSK := hide hsk
   have HXK := hide hXk
   have HOK2 := hide hOk
   have HBK := hide hbk
   have HCKK := hide hck
   have hszr := hbk.size
   have HI := hide (HSI.out k gk hk hsk)
   have N0 : Hid (wr.heap[w.heap.size]? = some (.cells #[.int .i64 z,.slice a n cap,.slice am m cm,.int .i64 op,.int .i64 st] 29)) := (hbk.block _ (by omega)).trans K03.out
   have N2 : Hid (wr.heap[w.heap.size + 1]? = some (.cells #[.int .i64 0,.slice none 0 0,.slice none 0 0,.int .i64 0,.int .i64 0] 29)) := (hbk.block _ (by omega)).trans K23.out
   have HBR := hide (HB3.out.trans (hbk.mono (show w.heap.size <= w2.heap.size by omega)))
   have HSR := hide (HS3.out.later hbk (by omega))
   have HPR := hide (HP3.out.later hbk (by omega))
   clear hsk hXk hOk hbk hck
   by_cases hlt : k < L
   ·have hkl : k < l.length := by rw [<- HLL.out]; exact hlt
    obtain ⟨I,hI⟩ : ∃ I,I = l.getD k 0 := ⟨_,rfl⟩
    have hIm : I < m := by have := HRL.out.lt k hkl; rw [<- hI,HFP.out.1,HLP.out] at this; exact this
    have hIF : I < F.ps.length := by rw [HFP.out.1,HLP.out]; exact hIm
    obtain ⟨bl,rfl,hbl,hcl'⟩ := valN_cell HOK2.out hlt HLL.out
    rw [<- hI] at hcl'
    have hblX : wX.heap.size <= bl := (World.ownsRow.lt HOK2.out bl rfl).1
    have HST : Hid (scrubK F l (k + 1) = entS gk (pgN F I).1 (pgN F I).2.1 (pgN F I).2.2.2.1) := by
     show _ = _
     unfold scrubK
     rw [HSK.out,hI]
     rfl
    have hrt := HRL.out.rot k hkl
    rw [<- hI] at hrt
    have hpp := (rot_parts HOK.out hIF hrt).1
    rw [HFP.out.1] at hpp
    clear hI hrt
    obtain ⟨s,j,he,hsl,hjl⟩ := plThere_iff.1 ((HMR.out.there I (by rw [HLP.out]; exact hIm)).resolve_left hpp)
    have HPG := hide (pgOf_there HCK.out hsl hjl)
    have HPY : Hid (pgN F I = lyP (txAt qs s j)) := by show _ = _; unfold pgN; rw [HFP.out.2.2,HFP.out.2.1,HFP.out.1,he]; exact HPG.out
    obtain ⟨b,off,rfl,_,hb,hc⟩ := HPR.out.2.2 (by omega)
    have hbs : b < wr.heap.size := by have := HPR.out.2.1; omega
    obtain ⟨m0,m1⟩ := pl_cells hc (Below.refl wr.heap.size wr) hbs hIm
    rw [he] at m0 m1
    dsimp only at m0 m1
    have hsq := sqOk_parts (chipOk_at HCK.out hsl)
    have hl8 : (sqAt qs s).1.length <= 8 := by have := hsq.1; have := (chipOk_parts HCK.out).2.1; omega
    have htz : (txAt qs s j).size <= 1048576 := by
     have := (hsq.2.2.2 (txAt qs s j) (by unfold txAt; rw [List.getD_eq_getElem?_getD,List.getElem?_eq_getElem hjl]; exact List.getElem_mem _)).2
     omega
    have hsn : s < n := by rw [<- HL.out]; exact hsl
    obtain ⟨r,hr⟩ : ∃ r,r = lyP (txAt qs s j) := ⟨_,rfl⟩
    rw [HPY.out,<- hr] at HST
    have HCL : ∀ w',Hid (Below wr.heap.size wr w' -> Calls Tryz.prog 89 #[.agg #[.int .i64 z,.slice a n cap],.agg #[.int .i64 (s : Int),.int .i64 (j : Int)]] w' fun e w'' => e = .returned (.tuple #[pgV4 r,.bool (lyWell r.2.2.2.2)]) ∧ Below w'.heap.size w' w'') := fun w' hb' => by
     rw [hr]
     have hs' := hb'.size
     exact pageLying_any z a n cap qs s j w' (HSR.out.later hb' (by omega)) (by omega) hsn hjl hl8 hn htz (HT0.out.here (HBR.out.trans (hb'.mono (by omega)))) (HE0.out.here (HBR.out.trans (hb'.mono (by omega))))
    clear hr HPY HPG hc hpp he hsq
    obtain ⟨r0,r1,r2,r3,r4⟩ := r
    unfold pgV4 at HCL
    dsimp only at HCL HST
    obtain ⟨lw,hlw⟩ : ∃ lw,lw = lyWell r4 := ⟨_,rfl⟩
    rw [<- hlw] at HCL
    clear hlw
    obtain ⟨x0,x1,x2,x3,x4⟩ := five_cells N0.out
    have hpx : w.heap.size < wr.heap.size := by omega
    have HK : ∀ w',Hid (Below wr.heap.size wr w' -> w'.cell? ⟨w.heap.size,0,none⟩ = some (.int .i64 z) ∧ w'.cell? ⟨w.heap.size,1,none⟩ = some (.slice a n cap) ∧ w'.cell? ⟨w.heap.size,2,none⟩ = some (.slice (some ⟨b,off,none⟩) m cm) ∧ w'.cell? ⟨b,off + I * 2,none⟩ = some (.int .i64 (s : Int)) ∧ w'.cell? ⟨b,off + I * 2 + 1,none⟩ = some (.int .i64 (j : Int))) := fun w' hb' => ⟨(hb'.cell (p := ⟨_,_,none⟩) hpx).trans x0,(hb'.cell (p := ⟨_,_,none⟩) hpx).trans x1,(hb'.cell (p := ⟨_,_,none⟩) hpx).trans x2,(hb'.cell (p := ⟨_,_,none⟩) hbs).trans m0,(hb'.cell (p := ⟨_,_,none⟩) hbs).trans m1⟩
    have hkL : (k : Int) < (L : Int) := by omega
    have hImI : (I : Int) < (m : Int) := by omega
    go_upto_region 7 with fail
    go_cut [7] (fun v wx => ∃ gp,v = .pointer (some ⟨gp,0,none⟩) ∧ wx.heap[gp]? = some (.cells #[.int .i64 r0,.int .i64 r1,.int .i64 r2,.string r3] 31) ∧ Below wr.heap.size wr wx)
    case first =>
     have HB0 : Hid (Below wr.heap.size wr wr.drew) := (Below.refl wr.heap.size wr).drew
     have HBa : Hid (Below wr.heap.size wr (wr.alloc (.cells #[.int .i64 0,.int .i64 0,.int .i64 0,.string ⟨#[]⟩] 31)).drew) := ((Below.refl wr.heap.size wr).alloc (Nat.le_refl _) _).drew
     have HEa : Hid ((wr.alloc (.cells #[.int .i64 0,.int .i64 0,.int .i64 0,.string ⟨#[]⟩] 31)).drew.heap[wr.heap.size]? = some (.cells #[.int .i64 0,.int .i64 0,.int .i64 0,.string ⟨#[]⟩] 31)) := heap_new wr _
     go_region_held3 (fun w' => w'.cell? ⟨w.heap.size,0,none⟩ = some (.int .i64 z) ∧ w'.cell? ⟨w.heap.size,1,none⟩ = some (.slice a n cap) ∧ w'.cell? ⟨w.heap.size,2,none⟩ = some (.slice (some ⟨b,off,none⟩) m cm) ∧ w'.cell? ⟨b,off + I * 2,none⟩ = some (.int .i64 (s : Int)) ∧ w'.cell? ⟨b,off + I * 2 + 1,none⟩ = some (.int .i64 (j : Int)))
      (first | exact (HK _).out HB0.out | exact (HK _).out HBa.out | exact (HK _).out HB5.out | exact (HK _).out HBS.out | exact (HK _).out HB6.out | exact ⟨x0,x1,x2,m0,m1⟩ | fail)
      (first
       | (go_at_call 89; refine ((HCL _).out HB0.out).mono ?_; rintro e w5 ⟨rfl,b5⟩; have HB5 := hide (below_here HB0.out b5); have hs5 := b5.size; have HB6 := hide (HB5.out.alloc HB5.out.size (.cells #[.int .i64 0,.int .i64 0,.int .i64 0,.string ⟨#[]⟩] 31)); have HBS := hide (HB5.out.alloc HB5.out.size (.cells #[.int .i64 r0,.int .i64 r1,.int .i64 r2,.string r3] 31)); have HRS := hide (heap_new w5 (.cells #[.int .i64 r0,.int .i64 r1,.int .i64 r2,.string r3] 31)))
       | (go_at_call 89; refine ((HCL _).out HBa.out).mono ?_; rintro e w5 ⟨rfl,b5⟩; have HB5 := hide (below_here HBa.out b5); have hs5 := b5.size; have E5 := hide (block_on HEa.out b5); obtain ⟨e0,e1,e2,e3⟩ := four_cells E5.out; have f0 := four_frozen E5.out 0; have f1 := four_frozen E5.out 1; have f2 := four_frozen E5.out 2; have f3 := four_frozen E5.out 3; have HRS := hide (four_set E5.out (.int .i64 r0) (.int .i64 r1) (.int .i64 r2) (.string r3)); have HBS := hide (four_below (b := wr.heap.size) HB5.out (Nat.le_refl _) (.int .i64 r0) (.int .i64 r1) (.int .i64 r2) (.string r3))))
     all_goals
      clear HB0 HBa HEa HK HCL x0 x1 x2 x3 x4 m0 m1 hcl' b5 HB5 hs5
      go_wp2_with fail
      go_meet
      exact ⟨_,rfl,HRS.out,HBS.out⟩
    case rest =>
     obtain ⟨gp,rfl,hgp,hb5⟩ := hcut
     obtain ⟨w5,hw5⟩ : ∃ w5,w5 = wc := ⟨_,rfl⟩
     subst hw5
     have HGP := hide hgp
     have HX5 := hide (HXK.out.on hb5)
     have HO5 := hide (own_keepBy HOK2.out (grown_below hb5 none) (fun k e => by cases e))
     have HB5 := hide (HBK.out.trans (hb5.mono (by omega)))
     have M0 := hide (block_on N0.out hb5)
     have M2 := hide (block_on N2.out hb5)
     have hs5 := hb5.size
     clear hgp hb5 HK HCL x0 x1 x2 x3 x4 m0 m1 hcl' HXK HOK2 HBK N0 N2 HSR HPR HBR
     obtain ⟨d0,d1,d2,d3⟩ := four_cells HGP.out
     obtain ⟨x0,x1,x2,x3,x4⟩ := HX5.out.cells
     have HCG := hide (mapOk_chip (ftlOk_map HI.out.ok))
     have hq12 := (chipOk_parts HCG.out).2.2.2.1
     have hp64 := (mapOk_len (ftlOk_map HI.out.ok)).2
     have HBW := hide (HB3.out.trans (HB5.out.mono (show w.heap.size <= w2.heap.size by omega)))
     obtain ⟨pl,hpl⟩ : ∃ pl,pl = planR gk.z gk.qs gk.ps gk.op gk.st r0 r1 r3 := ⟨_,rfl⟩
     obtain ⟨ef,hef⟩ : ∃ ef,ef = entF gk.z gk.qs gk.ps gk.op gk.st r0 r1 r3 := ⟨_,rfl⟩
     have HEN : Hid (Calls Tryz.prog 28 #[.agg #[.int .i64 gk.z,.slice ak gk.qs.length ck,.slice amk gk.ps.length cmk,.int .i64 gk.op,.int .i64 gk.st],.agg #[.int .i64 r0,.int .i64 r1,.int .i64 r2,.string r3]] w5 fun e w' => ∃ v,e = .returned (.tuple #[v,.bool pl.isSome]) ∧ FtlAns w5 ef v w') := by
      rw [hpl,hef]
      exact implEnter_any gk.z ak gk.qs.length ck gk.qs amk gk.ps.length cmk gk.ps gk.op gk.st r0 r1 r2 r3 w5 HX5.out.squares HX5.out.hi_le (by omega) (chipOk_fits HCG.out) HX5.out.places HX5.out.hi_le (by omega) HCKK.out (HT0.out.here HBW.out) (HE0.out.here HBW.out) ((HN0 _).out HBW.out)
     have HES : Hid (scrubK F l (k + 1) = pl.map fun s => ⟨gk.z,s.qs,s.ps,s.op,gk.st + 1⟩) := by show _ = _; rw [HST.out,entS_plan HI.out.ok,hpl]
     have HEF : Hid (∀ s,pl = some s -> ef = ⟨gk.z,s.qs,s.ps,s.op,gk.st + 1⟩) := fun s hs => by
      rw [hpl] at hs
      rw [hef]
      unfold planR at hs
      unfold entF
      have hok9 : ftlOk gk.z gk.qs gk.ps gk.op gk.st = true := HI.out.ok
      rw [if_pos hok9] at hs
      rw [if_pos hok9,hs]
     clear hpl hef HST hq12 hp64
     obtain ⟨gz,gqs,gps,gop,gst⟩ := gk
     dsimp only at HEN HES HEF x0 x1 x2 x3 x4
     go_wp2_with fail
     refine HEN.out.mono ?_
     rintro e w6 ⟨v,rfl,a6,c6,am6,cm6,rfl,hO6,b6,hc6⟩
     unfold fvV
     obtain ⟨wE,hwE⟩ : ∃ wE,wE = w6.alloc (.cells #[.int .i64 ef.z,.slice a6 ef.qs.length c6,.slice am6 ef.ps.length cm6,.int .i64 ef.op,.int .i64 ef.st] 29) := ⟨_,rfl⟩
     have hzE : wE.heap.size = w6.heap.size + 1 := by rw [hwE]; simp
     have HBE : Hid (Below w6.heap.size w6 wE) := by rw [hwE]; exact (Below.refl _ _).alloc (Nat.le_refl _) _
     have HVE : Hid (wE.heap[w6.heap.size]? = some (.cells #[.int .i64 ef.z,.slice a6 ef.qs.length c6,.slice am6 ef.ps.length cm6,.int .i64 ef.op,.int .i64 ef.st] 29)) := by rw [hwE]; exact heap_new _ _
     have hs6 := b6.size
     have HB56 := hide (below_here b6 HBE.out)
     have HO6 := hide (hO6.later HBE.out (Nat.le_refl _))
     have HC6 := hide hc6
     have HXE := hide (HX5.out.on HB56.out)
     have HLE := hide (own_keepBy HO5.out (grown_below HB56.out none) (fun k e => by cases e))
     have HBE2 := hide (HB5.out.trans (HB56.out.mono (by omega)))
     have P0 := hide (block_on M0.out HB56.out)
     have P2 := hide (block_on M2.out HB56.out)
     have HBW2 := hide (HB3.out.trans (HBE2.out.mono (show w.heap.size <= w2.heap.size by omega)))
     have HZE := hide hzE
     clear hO6 b6 hc6 hzE HX5 HO5 HB5 M0 M2 HGP HBW HEN d0 d1 d2 d3 x0 x1 x2 x3 x4
     cases hrr : pl with
     | none =>
      have HNO : Hid (scrubK F l L = none) := scrubK_none (k := k + 1) (by rw [HES.out,hrr]; rfl) L (by omega)
      have HE : Hid (sb = false) := by show _ = _; rw [HSB.out]; unfold scrubB; rw [<- HLV.out,<- HLL.out,HNO.out]; simp
      have HFN : Hid (fv = ⟨z,qs,ps,op,st⟩) := by show _ = _; rw [HFV.out]; unfold scrubF; rw [<- HLV.out,<- HLL.out,HNO.out,HOK.out,<- HFF.out]; rfl
      clear hrr
      rw [Option.isSome_none]
      go_upto_region 9 with fail
      rw [<- hwE]
      clear hwE
      obtain ⟨c0,c1,c2,c3,c4⟩ := five_cells P0.out
      go_wp2_with fail
      refine (copyOfFtl_any z a n cap qs (some ⟨b,off,none⟩) m cm ps op st wE (HS3.out.later HBE2.out (by omega)) (by have := HZE.out; omega) HCK.out (HP3.out.later HBE2.out (by omega)) (by have := HZE.out; omega) hm1 hm64 ((HN0 _).out HBW2.out)).mono ?_
      rintro e w7 ⟨v,rfl,a7,c7,am7,cm7,rfl,hO7,b7,hc7⟩
      unfold fvV
      dsimp only at hO7 hc7 ⊢
      rw [HL.out,HLP.out]
      have HO7 := hide hO7
      have HCP7 := hide hc7
      have O2 := hide (block_on P2.out b7)
      have HB7 := hide (below_here HBW2.out b7)
      have hs7 := b7.size
      clear hO7 hc7 b7 c0 c1 c2 c3 c4
      obtain ⟨p0,p1,p2,p3,p4⟩ := five_cells O2.out
      have f0 := four_frozen O2.out 0
      have f1 := four_frozen O2.out 1
      have f2 := four_frozen O2.out 2
      have f3 := four_frozen O2.out 3
      have f4 := four_frozen O2.out 4
      have HRS := hide (five_set O2.out (.int .i64 z) (.slice a7 n c7) (.slice am7 m cm7) (.int .i64 op) (.int .i64 st))
      have HAS := hide (five_aside (b := w.heap.size + 1) (Aside.refl (w.heap.size + 1) (w.heap.size + 1 + 1) w7) (Nat.le_refl _) (Nat.lt_succ_self _) (.int .i64 z) (.slice a7 n c7) (.slice am7 m cm7) (.int .i64 op) (.int .i64 st))
      have HBF := hide (HB7.out.trans (HAS.out.below (B := w.heap.size) (by omega) (by have := HZE.out; omega)))
      go_wp2_with fail
      refine bodyPost_ret (results_ct rfl rfl (run_loadVar_row _ _ _ _ _ _ _ HRS.out Tryz.underlying29 rfl (by kernel_rfl))) rfl ⟨.agg #[.int .i64 z,.slice a7 n c7,.slice am7 m cm7,.int .i64 op,.int .i64 st],by rw [HE.out]; rfl,a7,c7,am7,cm7,by rw [HFN.out,<- HL.out,<- HLP.out]; rfl,?_,HBF.out,by rw [HFN.out]; exact HCP7.out⟩
      rw [HFN.out]
      exact (HO7.out.aside HAS.out (.inl (by have := HZE.out; omega))).wide (by have := HZE.out; omega) HAS.out.size (Nat.le_refl _)
     | some s' =>
      have HNX : Hid (scrubK F l (k + 1) = some ef) := by show _ = _; rw [HES.out,hrr,HEF.out s' hrr]; rfl
      clear hrr HEF HES
      rw [Option.isSome_some]
      go_upto_region 9 with fail
      rw [<- hwE]
      clear hwE
      obtain ⟨q0,q1,q2,q3,q4⟩ := five_cells HVE.out
      obtain ⟨p0,p1,p2,p3,p4⟩ := HXE.out.cells
      have f0 := four_frozen HXE.out.var 0
      have f1 := four_frozen HXE.out.var 1
      have f2 := four_frozen HXE.out.var 2
      have f3 := four_frozen HXE.out.var 3
      have f4 := four_frozen HXE.out.var 4
      have HRS := hide (five_set HXE.out.var (.int .i64 ef.z) (.slice a6 ef.qs.length c6) (.slice am6 ef.ps.length cm6) (.int .i64 ef.op) (.int .i64 ef.st))
      have HAS := hide (five_aside (b := w2.heap.size) (Aside.refl w2.heap.size (w2.heap.size + 1) wE) (Nat.le_refl _) (Nat.lt_succ_self _) (.int .i64 ef.z) (.slice a6 ef.qs.length c6) (.slice am6 ef.ps.length cm6) (.int .i64 ef.op) (.int .i64 ef.st))
      have HVN : Hid (VarF w1.heap.size w2.heap.size w5.heap.size w6.heap.size ef.z ef.qs ef.ps ef.op ef.st a6 c6 am6 cm6 (((((wE.setCell ⟨w2.heap.size,0,none⟩ (.int .i64 ef.z)).setCell ⟨w2.heap.size,1,none⟩ (.slice a6 ef.qs.length c6)).setCell ⟨w2.heap.size,2,none⟩ (.slice am6 ef.ps.length cm6)).setCell ⟨w2.heap.size,3,none⟩ (.int .i64 ef.op)).setCell ⟨w2.heap.size,4,none⟩ (.int .i64 ef.st))) :=
       ⟨HRS.out,HO6.out.aside HAS.out (.inl (by omega)),.inl (by omega),hs2,by omega⟩
      have HLN : Hid ((((((wE.setCell ⟨w2.heap.size,0,none⟩ (.int .i64 ef.z)).setCell ⟨w2.heap.size,1,none⟩ (.slice a6 ef.qs.length c6)).setCell ⟨w2.heap.size,2,none⟩ (.slice am6 ef.ps.length cm6)).setCell ⟨w2.heap.size,3,none⟩ (.int .i64 ef.op)).setCell ⟨w2.heap.size,4,none⟩ (.int .i64 ef.st)).ownsRow wX.heap.size 2 1 (.slice (some ⟨bl,0,none⟩) L cl) L (valN l)) := row_aside11 HLE.out HAS.out (fun x hx => by have := (World.ownsRow.lt HLE.out x hx).1; have := HZX.out; omega)
      have HBN := hide (HBE2.out.trans (HAS.out.below (B := w2.heap.size) (Nat.le_refl _) (by have := HZE.out; omega)))
      go_wp2_with fail
      exact ⟨⟨k + 1,ef,_,_,_,_,_,_,by omega,by go_num,HNX.out,HVN.out,HC6.out,HLN.out,HBN.out⟩,by simp [intOf]; omega⟩
   ·obtain rfl : k = L := by omega
    have HE : Hid (sb = true) := by show _ = _; rw [HSB.out]; unfold scrubB; rw [<- HLV.out,<- HLL.out,HSK.out,HOK.out]; rfl
    have HFN : Hid (fv = gk) := by show _ = _; rw [HFV.out]; unfold scrubF; rw [<- HLV.out,<- HLL.out,HSK.out,HOK.out]; rfl
    have HO4 := hide HXK.out.own
    have hlo4 := HXK.out.atL
    have hhi4 := HXK.out.hi_le
    obtain ⟨c0,c1,c2,c3,c4⟩ := HXK.out.cells
    obtain ⟨p0,p1,p2,p3,p4⟩ := five_cells N2.out
    have f0 := four_frozen N2.out 0
    have f1 := four_frozen N2.out 1
    have f2 := four_frozen N2.out 2
    have f3 := four_frozen N2.out 3
    have f4 := four_frozen N2.out 4
    have HRS := hide (five_set N2.out (.int .i64 gk.z) (.slice ak gk.qs.length ck) (.slice amk gk.ps.length cmk) (.int .i64 gk.op) (.int .i64 gk.st))
    have HAS := hide (five_aside (b := w.heap.size + 1) (Aside.refl (w.heap.size + 1) (w.heap.size + 1 + 1) wr) (Nat.le_refl _) (Nat.lt_succ_self _) (.int .i64 gk.z) (.slice ak gk.qs.length ck) (.slice amk gk.ps.length cmk) (.int .i64 gk.op) (.int .i64 gk.st))
    have HBF := hide (HBR.out.trans (HAS.out.below (B := w.heap.size) (by omega) (by omega)))
    go_wp2_with fail
    refine bodyPost_ret (results_ct rfl rfl (run_loadVar_row _ _ _ _ _ _ _ HRS.out Tryz.underlying29 rfl (by kernel_rfl))) rfl ⟨.agg #[.int .i64 gk.z,.slice ak gk.qs.length ck,.slice amk gk.ps.length cmk,.int .i64 gk.op,.int .i64 gk.st],by rw [HE.out]; rfl,ak,ck,amk,cmk,by rw [HFN.out]; rfl,?_,HBF.out,by rw [HFN.out]; exact HCKK.out⟩
    rw [HFN.out]
    exact (HO4.out.aside HAS.out (.inl (by omega))).wide (by omega) (Nat.le_trans hhi4 HAS.out.size) (Nat.le_refl _)
end Go.Proofs.YtgjoepdfhadmcaaGreatDoor
end

