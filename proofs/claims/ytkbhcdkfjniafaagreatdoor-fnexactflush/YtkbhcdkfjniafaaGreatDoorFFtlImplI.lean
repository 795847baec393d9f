/- Several texts in one: FtlImplI, FtlImplJ, CacheUsedI, CacheUsedI2. -/
import Derived.Test.YtkbhcdkfjniafaaGreatDoorFFtlImplH
import Derived.Test.YtkbhcdkfjniafaaGreatDoorFFtlImplA
import Derived.Defers
import Derived.Recover
import Derived.Laws.Pointers
import Derived.Test.YtkbhcdkfjniafaaGreatDoorFCacheLoadS
import Derived.Deep.RegionWith
import Derived.Deep.RegionHeld3
section
namespace Go.Proofs.YtkbhcdkfjniafaaGreatDoor
open Go.RowKit
set_option linter.unusedVariables false
set_option maxRecDepth 20000
theorem Tryz.loadOk {w : World} {b : Nat} {v : Value} {t : TypeId} {fr : Nat × Nat} (h : w.heap[b]? = some (.cells #[v] t fr)) : (loadVar 4 ⟨b, 0, none⟩).run Tryz.prog w = .ok v w := by
 have hc : w.cell? ⟨b, 0, none⟩ = some v := by simp [World.cell?, h]
 simp [loadVar, go_sem, hc]
theorem results_cc {fn : Func} {P : Program} {w : World} {t u : Tmp} {ty tz : TypeId} {tmps : Array Value} {a b : Addr} {v x : Value} (h : fn.results = #[.cell t ty, .cell u tz]) (ht : tmps.getD t undef = .pointer (some a)) (hu : tmps.getD u undef = .pointer (some b)) (hl : (loadVar ty a).run P w = .ok v w) (hx : (loadVar tz b).run P w = .ok x w) :
  (results fn tmps).run P w = .ok (.tuple #[v, x]) w := by
 have ht' : tmps[t]?.getD undef = .pointer (some a) := by simpa using ht
 have hu' : tmps[u]?.getD undef = .pointer (some b) := by simpa using hu
 simp [results, h, ht', hu', asAddr, hl, hx]
end Go.Proofs.YtkbhcdkfjniafaaGreatDoor
end

section
namespace Go.Proofs.YtkbhcdkfjniafaaGreatDoor
open Go.RowKit
set_option linter.unusedVariables false
set_option maxRecDepth 20000
def endW (w : World) (pe po : Nat) (z : Int) (a : Option Addr) (n c : Nat) (am : Option Addr) (m cm : Nat) (op st : Int) (b : Bool) : World :=
 (((((w.setCell ⟨pe, 0, none⟩ (.int .i64 z)).setCell ⟨pe, 1, none⟩ (.slice a n c)).setCell ⟨pe, 2, none⟩ (.slice am m cm)).setCell ⟨pe, 3, none⟩ (.int .i64 op)).setCell ⟨pe, 4, none⟩ (.int .i64 st)).setCell ⟨po, 0, none⟩ (.bool b)
theorem endW_at {w w1 : World} (hs : w.heap.size + 1 + 1 + 1 < w1.heap.size) (hb : Below w.heap.size w w1) {c0 c1 c2 c3 c4 y : Value} (hj : w1.heap[w.heap.size + 1 + 1]? = some (.cells #[c0, c1, c2, c3, c4] 29)) (ho : w1.heap[w.heap.size + 1 + 1 + 1]? = some (.cells #[y] 4)) (z : Int) (a : Option Addr) (n c : Nat) (am : Option Addr) (m cm : Nat) (op st : Int) (b : Bool) :
  (endW w1 (w.heap.size + 1 + 1) (w.heap.size + 1 + 1 + 1) z a n c am m cm op st b).heap[w.heap.size + 1 + 1]? = some (.cells #[.int .i64 z, .slice a n c, .slice am m cm, .int .i64 op, .int .i64 st] 29) ∧
  (endW w1 (w.heap.size + 1 + 1) (w.heap.size + 1 + 1 + 1) z a n c am m cm op st b).heap[w.heap.size + 1 + 1 + 1]? = some (.cells #[.bool b] 4) ∧
  Below w.heap.size w (endW w1 (w.heap.size + 1 + 1) (w.heap.size + 1 + 1 + 1) z a n c am m cm op st b) ∧ Aside (w.heap.size + 1 + 1) (w.heap.size + 1 + 1 + 1 + 1) w1 (endW w1 (w.heap.size + 1 + 1) (w.heap.size + 1 + 1 + 1) z a n c am m cm op st b) := by
 have hA : Aside (w.heap.size + 1 + 1) (w.heap.size + 1 + 1 + 1 + 1) w1 (endW w1 (w.heap.size + 1 + 1) (w.heap.size + 1 + 1 + 1) z a n c am m cm op st b) := (five_aside (b := w.heap.size + 1 + 1) (Aside.refl _ _ w1) (Nat.le_refl _) (by omega) _ _ _ _ _).setCell (p := ⟨w.heap.size + 1 + 1 + 1, 0, none⟩) (by show w.heap.size + 1 + 1 <= w.heap.size + 1 + 1 + 1; omega) (by show w.heap.size + 1 + 1 + 1 < _; omega) _
 have ho' : ∀ (o1 o2 o3 o4 o5 : Nat) (v1 v2 v3 v4 v5 : Value), (((((w1.setCell ⟨w.heap.size + 1 + 1, o1, none⟩ v1).setCell ⟨w.heap.size + 1 + 1, o2, none⟩ v2).setCell ⟨w.heap.size + 1 + 1, o3, none⟩ v3).setCell ⟨w.heap.size + 1 + 1, o4, none⟩ v4).setCell ⟨w.heap.size + 1 + 1, o5, none⟩ v5).heap[w.heap.size + 1 + 1 + 1]? = some (.cells #[y] 4) := fun o1 o2 o3 o4 o5 v1 v2 v3 v4 v5 => set_other (set_other (set_other (set_other (set_other ho (by omega) _) (by omega) _) (by omega) _) (by omega) _) (by omega) _
 exact ⟨set_other (five_set hj _ _ _ _ _) (by omega) _, set_block (ho' 0 1 2 3 4 _ _ _ _ _) 0 _ (by simp), hb.trans (hA.below (by omega) (by omega)), hA⟩
theorem enterIdle (p q r : Value) (w : World) :
  CallsD Tryz.prog 103 #[p, q, r] .returning w fun e u' w' => e = .returned (.tuple #[]) ∧ u' = .returning ∧ w' = w := by
 refine callsD_of_wpS Tryz.func103 rfl fun c₀ cs hu => ?_
 apply wpS_seq
 apply wpS_region
 simp [wpOpsS, go_sem, recoverD, hu, Tryz.ntmps103, Exit.thenS]
 refine wpS_cond (t := false) (by simp [Act.eval, Array.replicate]) ?_
 simp only [Bool.false_eq_true, if_false]
 refine wpS_of_wp (wp_skip ?_)
 cases c₀
 simp_all [bodyPostS, results, Tryz.results103]
def EnterAns (pe po : Nat) (z : Int) (n : Nat) (qs : List Sq) (m : Nat) (ps : List Pl) (op st : Int) (w w' : World) : Prop := ∃ w5 a' c' am' cm', FtlOwn w.heap.size w5.heap.size w5 a' am' qs ps ∧ Below w.heap.size w w5 ∧ ps.length <= cm' ∧ w' = endW w5 pe po z a' n c' am' m cm' op st false
set_option maxRecDepth 100000 in
set_option maxHeartbeats 3200000 in
theorem enterCatch (pf pe po : Nat) (u : TypeId) (pv : Value) (older : List PanicEntry) (z : Int) (a : Option Addr) (n cap : Nat) (qs : List Sq) (am : Option Addr) (m cm : Nat) (ps : List Pl) (op st : Int) (w : World) {lo hi lo' hi' : Nat} (h : Squares lo hi w a n qs) (hhi : hi <= w.heap.size) (hok : chipOk z qs = true) (hp : Places lo' hi' w am m ps) (hhi' : hi' <= w.heap.size) (hm1 : 1 <= m) (hm : m <= 64) {aN : Addr} (hN : w.cell? ⟨1, 0, none⟩ = some (noRoomV aN)) {c0 c1 c2 c3 c4 y : Value} {t : TypeId}
  (hf : w.heap[pf]? = some (.cells #[.int .i64 z, .slice a n cap, .slice am m cm, .int .i64 op, .int .i64 st] 29)) (he : w.heap[pe]? = some (.cells #[c0, c1, c2, c3, c4] 29)) (ho : w.heap[po]? = some (.cells #[y] t)) (hne : pe ≠ po) :
  CallsD Tryz.prog 103 #[.pointer (some ⟨pf, 0, none⟩), .pointer (some ⟨pe, 0, none⟩), .pointer (some ⟨po, 0, none⟩)] (.panicking ({ v := .iface u pv, recovered := false } :: older)) w fun e u' w' =>
   e = .returned (.tuple #[]) ∧ u' = .panicking ({ v := .iface u pv, recovered := true } :: older) ∧ EnterAns pe po z n qs m ps op st w w' := by
 obtain ⟨f0, f1, f2, f3, f4⟩ := five_cells hf
 have hln : qs.length = n := h.1
 have hlm : ps.length = m := hp.1
 have HCP := hide (copyOfFtl_any z a n cap qs am m cm ps op st w h hhi hok hp hhi' hm1 hm hN)
 clear h hp hN
 refine callsD_of_wpS Tryz.func103 rfl fun c₀ cs hu => ?_
 apply wpS_seq
 apply wpS_region
 simp [wpOpsS, go_sem, recoverD, hu, Tryz.ntmps103, Exit.thenS]
 refine wpS_cond (t := true) (by simp [Act.eval, Array.replicate]) ?_
 simp only [if_true]
 refine wpS_of_wp ?_
 go_wp2_with fail
 refine HCP.out.mono ?_
 rintro e w5 ⟨v, rfl, a', c', am', cm', rfl, ho5, b5, hcap5⟩
 have he5 := block_on he b5
 have hb5 := block_on ho b5
 obtain ⟨g0, g1, g2, g3, g4⟩ := five_cells he5
 have k0 := four_frozen he5 0
 have k1 := four_frozen he5 1
 have k2 := four_frozen he5 2
 have k3 := four_frozen he5 3
 have k4 := four_frozen he5 4
 have j0 : w5.cell? ⟨po, 0, none⟩ = some y := by simp [World.cell?, hb5]
 have j1 := four_frozen hb5 0
 have HO5 := hide ho5
 have HB5 := hide b5
 have HCP5 := hide hcap5
 clear ho5 b5 hcap5 f0 f1 f2 f3 f4
 unfold fvV
 dsimp only
 rw [hln, hlm]
 go_wp2_with fail
 simp [bodyPostS, results, Tryz.results103]
 exact ⟨w5, a', c', am', cm', HO5.out, HB5.out, HCP5.out, by unfold endW; rfl⟩
set_option maxRecDepth 100000 in
set_option maxHeartbeats 6400000 in
theorem implEnter_any (z : Int) (a : Option Addr) (n cap : Nat) (qs : List Sq) (am : Option Addr) (m cm : Nat) (ps : List Pl) (op st kd at_ sp : Int) (tx : ByteArray) (w : World) {lo hi lo' hi' : Nat} (h : Squares lo hi w a n qs) (hhi : hi <= w.heap.size) (hn : n <= 1048576) (hf : ∀ x ∈ qs, sqFits x) (hp : Places lo' hi' w am m ps) (hhi' : hi' <= w.heap.size) (hm : m <= 1048576) (hcl : m <= cm) (hT : Tab w) {aB aL aS aC aF aN : Addr} (E : Errs w aB aL aS aC aF) (hN : w.cell? ⟨1, 0, none⟩ = some (noRoomV aN)) :
  Calls Tryz.prog 29 #[.agg #[.int .i64 z, .slice a n cap, .slice am m cm, .int .i64 op, .int .i64 st], .agg #[.int .i64 kd, .int .i64 at_, .int .i64 sp, .string tx]] w fun e w' => ∃ v, e = .returned (.tuple #[v, .bool (planR z qs ps op st kd at_ tx).isSome]) ∧ FtlAns w (entF z qs ps op st kd at_ tx) v w' := by
 obtain ⟨r, hr⟩ : ∃ r, r = planR z qs ps op st kd at_ tx := ⟨_, rfl⟩
 have HR := hide hr
 rw [<- hr]
 clear hr
 obtain ⟨fv, hfv⟩ : ∃ fv, fv = entF z qs ps op st kd at_ tx := ⟨_, rfl⟩
 have HFV := hide hfv
 rw [<- hfv]
 clear hfv
 obtain ⟨wA, hwA⟩ : ∃ wA, wA = (((w.alloc (.cells #[.int .i64 z, .slice a n cap, .slice am m cm, .int .i64 op, .int .i64 st] 29)).alloc (.cells #[.int .i64 kd, .int .i64 at_, .int .i64 sp, .string tx] 31)).alloc (.cells #[.int .i64 0, .slice none 0 0, .slice none 0 0, .int .i64 0, .int .i64 0] 29)).alloc (.cells #[.bool false] 4) := ⟨_, rfl⟩
 have hzA : wA.heap.size = w.heap.size + 1 + 1 + 1 + 1 := by rw [hwA]; simp
 have HBA : Hid (Below w.heap.size w wA) := by rw [hwA]; exact ((((Below.refl _ _).alloc (Nat.le_refl _) _).alloc (by simp) _).alloc (by simp; omega) _).alloc (by simp; omega) _
 have H0 : Hid (wA.heap[w.heap.size]? = some (.cells #[.int .i64 z, .slice a n cap, .slice am m cm, .int .i64 op, .int .i64 st] 29)) := by rw [hwA]; exact heap_old (heap_old (heap_old (heap_new _ _)))
 have H1 : Hid (wA.heap[w.heap.size + 1]? = some (.cells #[.int .i64 kd, .int .i64 at_, .int .i64 sp, .string tx] 31)) := by rw [hwA]; exact heap_old (heap_old (heap_at (by simp)))
 have H2 : Hid (wA.heap[w.heap.size + 1 + 1]? = some (.cells #[.int .i64 0, .slice none 0 0, .slice none 0 0, .int .i64 0, .int .i64 0] 29)) := by rw [hwA]; exact heap_old (heap_at (by simp))
 have H3 : Hid (wA.heap[w.heap.size + 1 + 1 + 1]? = some (.cells #[.bool false] 4)) := by rw [hwA]; exact heap_at (by simp)
 have HSQ := hide (h.later HBA.out hhi)
 have HPL := hide (hp.later HBA.out hhi')
 have HLP := hide hp.1
 have HLQ := hide h.1
 have HF := hide hf
 have HTA := hide (hT.here HBA.out)
 have HEA := hide (E.here HBA.out)
 have hGl : 1 < w.heap.size := World.block_lt_of_cell? _ _ hN
 have hGt : 7 < w.heap.size := World.block_lt_of_cell? _ _ (hT 0 (by omega))
 have HNA := hide ((HBA.out.cell (p := ⟨1, 0, none⟩) hGl).trans hN)
 have hmf : ∀ (fn : Fn) (first cap : Array Value) (w : World), (Instr.makeFunc fn first cap).run Tryz.prog w = .ok (.func fn first cap) w := fun _ _ _ _ => rfl
 clear h hf hp hT E hN
 obtain ⟨c0, c1, c2, c3, c4⟩ := five_cells H0.out
 go_enter_defers Tryz.func29, Tryz.ntmps29
 go_wp2_with fail
 rw [<- hwA]
 clear hwA
 refine (implFtlOk_any z a n cap qs am m cm ps op st wA HSQ.out (by omega) hn HF.out HPL.out (by omega) hm hcl HTA.out HEA.out).mono ?_
 rintro e w1 ⟨rfl, b1⟩
 have K0 := hide (block_on H0.out b1)
 have K1 := hide (block_on H1.out b1)
 have K2 := hide (block_on H2.out b1)
 have K3 := hide (block_on H3.out b1)
 have HS1 := hide (HSQ.out.later b1 (by omega))
 have HP1 := hide (HPL.out.later b1 (by omega))
 have HB1 := hide (below_here HBA.out b1)
 have HT1 := hide (HTA.out.here b1)
 have HN1 := hide ((b1.cell (p := ⟨1, 0, none⟩) (by show 1 < _; omega)).trans HNA.out)
 have hs1 := b1.size
 clear b1 H0 H1 H2 H3 HSQ HPL HBA HTA HEA HNA c0 c1 c2 c3 c4
 obtain ⟨c0, c1, c2, c3, c4⟩ := five_cells K0.out
 obtain ⟨p0, p1, p2, p3⟩ := four_cells K1.out
 cases hok : ftlOk z qs ps op st with
 | false =>
  have HE : Hid (r = none) := by show _ = _; rw [HR.out]; unfold planR; rw [hok]; rfl
  have HFE : Hid (fv = ⟨0, [], [], 0, 0⟩) := by show _ = _; rw [HFV.out]; unfold entF; rw [hok]; rfl
  obtain ⟨d0, d1, d2, d3, d4⟩ := five_cells K2.out
  have g0 := four_frozen K2.out 0
  have g1 := four_frozen K2.out 1
  have g2 := four_frozen K2.out 2
  have g3 := four_frozen K2.out 3
  have g4 := four_frozen K2.out 4
  have e2 : w1.cell? ⟨w.heap.size + 1 + 1 + 1, 0, none⟩ = some (.bool false) := by simp [World.cell?, K3.out]
  have e3 := four_frozen K3.out 0
  have HEND := hide (endW_at (w := w) (w1 := w1) (by omega) HB1.out K2.out K3.out 0 none 0 0 none 0 0 0 0 false)
  unfold endW at HEND
  go_wp2_with fail
  refine ⟨_, results_cc rfl rfl rfl (run_loadVar_row _ _ _ _ _ _ _ HEND.out.1 Tryz.underlying29 rfl (by kernel_rfl)) (Tryz.loadOk HEND.out.2.1), _, by rw [HE.out]; rfl, none, 0, none, 0, by rw [HFE.out]; rfl, ⟨Nat.le_refl _, .inl ?_⟩, HEND.out.2.2.1, by rw [HFE.out]; exact Nat.le_refl _⟩
  rw [HFE.out]; exact ⟨rfl, rfl⟩
 | true =>
  obtain ⟨hmo, _, _, hst0, hst1, _, _⟩ := ftlOk_parts hok
  have hm64 : m <= 64 := by have := (mapOk_len hmo).2; rw [HLP.out] at this; exact this
  have hm1 : 1 <= m := by have := (mapOk_len hmo).1; rw [HLP.out] at this; exact this
  have HCK := hide (mapOk_chip hmo)
  have HKO := hide (kok_of hok [])
  have HRE : Hid (r = enterK z ⟨qs, ps, op, []⟩ st kd at_ tx) := by show _ = _; rw [HR.out]; unfold planR; rw [hok]; rfl
  have HFE : Hid (fv = (match enterK z ⟨qs, ps, op, []⟩ st kd at_ tx with | none => ⟨z, qs, ps, op, st⟩ | some s => ⟨z, s.qs, s.ps, s.op, st + 1⟩)) := by show _ = _; rw [HFV.out]; unfold entF; rw [hok]; rfl
  rw [<- HRE.out] at HFE
  clear hok hmo HR HFV
  go_wp2_with fail
  refine (mayEnter_any (.int .i64 z) (.slice a n cap) am m cm (.int .i64 op) st kd at_ sp tx ps w1 HLP.out hm ⟨hst0, hst1⟩).mono ?_
  rintro e w2 ⟨rfl, b2⟩
  have L0 := hide (block_on K0.out b2)
  have L1 := hide (block_on K1.out b2)
  have L2 := hide (block_on K2.out b2)
  have L3 := hide (block_on K3.out b2)
  have HS2 := hide (HS1.out.later b2 (by omega))
  have HP2 := hide (HP1.out.later b2 (by omega))
  have HB2 := hide (below_here HB1.out b2)
  have HT2 := hide (HT1.out.here b2)
  have HN2 := hide ((b2.cell (p := ⟨1, 0, none⟩) (by show 1 < _; omega)).trans HN1.out)
  have hs2 := b2.size
  clear b2 K0 K1 K2 K3 HS1 HP1 HB1 HT1 HN1 c0 c1 c2 c3 c4 p0 p1 p2 p3
  obtain ⟨c0, c1, c2, c3, c4⟩ := five_cells L0.out
  cases hme : mayEnt ps st kd at_ tx with
  | false =>
   have HE : Hid (r = none) := by show _ = _; rw [HRE.out]; exact enterK_no hme
   have HFN : Hid (fv = ⟨z, qs, ps, op, st⟩) := by show _ = _; rw [HFE.out, HE.out]
   go_wp2_with fail
   refine (copyOfFtl_any z a n cap qs am m cm ps op st w2 HS2.out (by omega) HCK.out HP2.out (by omega) hm1 hm64 HN2.out).mono ?_
   rintro e w5 ⟨v, rfl, a', c', am', cm', rfl, ho5, b5, hcap5⟩
   have M2 := hide (block_on L2.out b5)
   have M3 := hide (block_on L3.out b5)
   have HB5 := hide (below_here HB2.out b5)
   have HO5 := hide ho5
   have hs5 := b5.size
   have HCP5 := hide hcap5
   clear ho5 b5 hcap5 c0 c1 c2 c3 c4
   obtain ⟨d0, d1, d2, d3, d4⟩ := five_cells M2.out
   have g0 := four_frozen M2.out 0
   have g1 := four_frozen M2.out 1
   have g2 := four_frozen M2.out 2
   have g3 := four_frozen M2.out 3
   have g4 := four_frozen M2.out 4
   have e2 : w5.cell? ⟨w.heap.size + 1 + 1 + 1, 0, none⟩ = some (.bool false) := by simp [World.cell?, M3.out]
   have e3 := four_frozen M3.out 0
   unfold fvV
   dsimp only
   rw [HLQ.out, HLP.out]
   have HEND := hide (endW_at (w := w) (w1 := w5) (by omega) HB5.out M2.out M3.out z a' n c' am' m cm' op st false)
   unfold endW at HEND
   go_wp2_with fail
   refine ⟨_, results_cc rfl rfl rfl (run_loadVar_row _ _ _ _ _ _ _ HEND.out.1 Tryz.underlying29 rfl (by kernel_rfl)) (Tryz.loadOk HEND.out.2.1), _, by rw [HE.out]; rfl, a', c', am', cm', by rw [HFN.out]; unfold fvV; dsimp only; rw [HLQ.out, HLP.out], ?_, HEND.out.2.2.1, by rw [HFN.out]; exact HCP5.out⟩
   rw [HFN.out]
   exact (HO5.out.aside HEND.out.2.2.2 (.inl (by omega))).wide (by omega) HEND.out.2.2.2.size (Nat.le_refl _)
  | true =>
   go_wp2_with fail
   refine (keeperOf_any z a n cap qs am m cm ps op st w2 HS2.out (by omega) HCK.out HP2.out (by omega) hm1 hm64 HN2.out).mono ?_
   rintro e w3 ⟨pk, g, c, gm, cm', A, C, rfl, hK3, b3⟩
   have M0 := hide (block_on L0.out b3)
   have M1 := hide (block_on L1.out b3)
   have M2 := hide (block_on L2.out b3)
   have M3 := hide (block_on L3.out b3)
   have HB3 := hide (below_here HB2.out b3)
   have HT3 := hide (HT2.out.here b3)
   have HS3 := hide (HS2.out.later b3 (by omega))
   have HP3 := hide (HP2.out.later b3 (by omega))
   have HN3 := hide ((b3.cell (p := ⟨1, 0, none⟩) (by show 1 < _; omega)).trans HN2.out)
   have HK3 := hide hK3
   have hs3 := b3.size
   clear hK3 b3 c0 c1 c2 c3 c4
   obtain ⟨p0, p1, p2, p3⟩ := four_cells M1.out
   go_wp2_with fail
   refine (enter_any w2.heap.size pk z st n g c gm cm' A C _ ⟨qs, ps, op, []⟩ aN kd at_ sp tx w3 HK3.out hs3 HKO.out (by show 0 <= _; omega) ⟨hst0, hst1⟩ hme HT3.out (by omega)).mono ?_
   rintro e w4 ⟨hf4, hk4⟩
   have N0 : Hid (w4.heap[w.heap.size]? = some (.cells #[.int .i64 z, .slice a n cap, .slice am m cm, .int .i64 op, .int .i64 st] 29)) := (hf4.below.block _ (by omega)).trans M0.out
   have N2 : Hid (w4.heap[w.heap.size + 1 + 1]? = some (.cells #[.int .i64 0, .slice none 0 0, .slice none 0 0, .int .i64 0, .int .i64 0] 29)) := (hf4.below.block _ (by omega)).trans M2.out
   have N3 : Hid (w4.heap[w.heap.size + 1 + 1 + 1]? = some (.cells #[.bool false] 4)) := (hf4.below.block _ (by omega)).trans M3.out
   have HB4 := hide (HB3.out.trans (hf4.below.mono (show w.heap.size <= w2.heap.size by omega)))
   have HS4 := hide (HS3.out.later hf4.below (by omega))
   have HP4 := hide (HP3.out.later hf4.below (by omega))
   have HN4 := hide ((hf4.below.cell (p := ⟨1, 0, none⟩) (by show 1 < _; omega)).trans HN3.out)
   have hs4 := hf4.below.size
   clear hf4 p0 p1 p2 p3
   rw [<- HRE.out] at hk4
   cases hrr : r with
   | none =>
    have HRR := hide hrr
    have HFN : Hid (fv = ⟨z, qs, ps, op, st⟩) := by show _ = _; rw [HFE.out, hrr]
    rw [hrr] at hk4
    dsimp only at hk4
    subst hk4
    unfold noRoomV
    go_wp2_with fail
    show Leaves _ _ _ _ _ _ _
    refine leaves_cons (f := 103) (args := #[.pointer (some ⟨w.heap.size, 0, none⟩), .pointer (some ⟨w.heap.size + 1 + 1, 0, none⟩), .pointer (some ⟨w.heap.size + 1 + 1 + 1, 0, none⟩)]) (by simp) (by simp [go_sem]) ?_
    refine (enterCatch w.heap.size (w.heap.size + 1 + 1) (w.heap.size + 1 + 1 + 1) _ _ [] z a n cap qs am m cm ps op st w4 HS4.out (by omega) HCK.out HP4.out (by omega) hm1 hm64 HN4.out N0.out N2.out N3.out (by omega)).mono ?_
    rintro e u' w'' ⟨rfl, rfl, w5, a', c', am', cm2, hO5, b5, hcap5, rfl⟩
    have P2 := hide (block_on N2.out b5)
    have P3 := hide (block_on N3.out b5)
    have hs5 := b5.size
    have HEND := hide (endW_at (w := w) (w1 := w5) (by omega) (below_here HB4.out b5) P2.out P3.out z a' n c' am' m cm2 op st false)
    refine ⟨_, results_cc rfl rfl rfl (run_loadVar_row _ _ _ _ _ _ _ HEND.out.1 Tryz.underlying29 rfl (by kernel_rfl)) (Tryz.loadOk HEND.out.2.1), _, by rw [HRR.out]; rfl, a', c', am', cm2, by rw [HFN.out]; unfold fvV; dsimp only; rw [HLQ.out, HLP.out], ?_, HEND.out.2.2.1, by rw [HFN.out]; exact hcap5⟩
    rw [HFN.out]
    exact (hO5.aside HEND.out.2.2.2 (.inl (by omega))).wide (by omega) HEND.out.2.2.2.size (Nat.le_refl _)
   | some s' =>
    have HRR := hide hrr
    have HFN : Hid (fv = ⟨z, s'.qs, s'.ps, s'.op, st + 1⟩) := by show _ = _; rw [HFE.out, hrr]
    rw [hrr] at hk4
    dsimp only at hk4
    obtain ⟨rfl, A4, C4, V4, hA4, _⟩ := hk4
    have HA4 := hide hA4
    clear hA4 hrr
    go_wp2_with fail
    refine (ftl_any w2.heap.size pk z (st + 1) n g c gm cm' A4 C4 V4 s' aN w4 HA4.out (by omega)).mono ?_
    rintro e w5 ⟨rfl, b5⟩
    have P2 := hide (block_on N2.out b5)
    have P3 := hide (block_on N3.out b5)
    have HB5 := hide (below_here HB4.out b5)
    have HO5 := hide (own_of_kp (HA4.out.mem.later b5))
    have HLN := hide HA4.out.mem.sq.len
    have hs5 := b5.size
    clear b5
    obtain ⟨d0, d1, d2, d3, d4⟩ := five_cells P2.out
    have g0 := four_frozen P2.out 0
    have g1 := four_frozen P2.out 1
    have g2 := four_frozen P2.out 2
    have g3 := four_frozen P2.out 3
    have g4 := four_frozen P2.out 4
    have e2 : w5.cell? ⟨w.heap.size + 1 + 1 + 1, 0, none⟩ = some (.bool false) := by simp [World.cell?, P3.out]
    have e3 := four_frozen P3.out 0
    have HEND := hide (endW_at (w := w) (w1 := w5) (by omega) HB5.out P2.out P3.out z (some ⟨g, 0, none⟩) n c (some ⟨gm, 0, none⟩) s'.ps.length cm' s'.op (st + 1) true)
    unfold endW at HEND
    go_wp2_with fail
    show Leaves _ _ _ _ _ _ _
    refine leaves_cons (f := 103) (args := #[.pointer (some ⟨w.heap.size, 0, none⟩), .pointer (some ⟨w.heap.size + 1 + 1, 0, none⟩), .pointer (some ⟨w.heap.size + 1 + 1 + 1, 0, none⟩)]) (by simp) (by simp [go_sem]) ?_
    refine (enterIdle _ _ _ _).mono ?_
    rintro e u' w'' ⟨rfl, rfl, rfl⟩
    refine ⟨_, results_cc rfl rfl rfl (run_loadVar_row _ _ _ _ _ _ _ HEND.out.1 Tryz.underlying29 rfl (by kernel_rfl)) (Tryz.loadOk HEND.out.2.1), _, by rw [HRR.out]; rfl, some ⟨g, 0, none⟩, c, some ⟨gm, 0, none⟩, cm', by rw [HFN.out]; unfold fvV; dsimp only; rw [HLN.out], ?_, HEND.out.2.2.1, by rw [HFN.out]; exact pl_cap HA4.out.mem.pl⟩
    rw [HFN.out]
    exact (HO5.out.aside HEND.out.2.2.2 (.inl (by omega))).wide (by omega) HEND.out.2.2.2.size (Nat.le_refl _)
end Go.Proofs.YtkbhcdkfjniafaaGreatDoor
end

section
namespace Go.Proofs.YtkbhcdkfjniafaaGreatDoor
open Go.RowKit
set_option linter.unusedVariables false
set_option maxRecDepth 20000
def BackTo (w : World) (f : Fv) (x : Hd) (v : Value) (w' : World) (a : Option Addr) (cap : Nat) (am : Option Addr) (cm : Nat) : Prop :=
 (x.2.2 = false ∧ v = .tuple #[fvV f a cap am cm, .bool true] ∧ Below w.heap.size w w') ∨ (x.2.2 = true ∧ ∃ u, v = .tuple #[u, .bool (backF f x).isSome] ∧ FtlAns w ((backF f x).getD f) u w')
set_option maxHeartbeats 1600000 in
theorem writtenBack_any (f : Fv) (a : Option Addr) (n cap : Nat) (am : Option Addr) (m cm : Nat) (xa : Int) (xt : ByteArray) (xd : Bool) (w : World) {lo hi lo' hi' : Nat} (h : Squares lo hi w a n f.qs) (hhi : hi <= w.heap.size) (hp : Places lo' hi' w am m f.ps) (hhi' : hi' <= w.heap.size) (hfo : ftlOkF f = true) (hcl : m <= cm) (hT : Tab w) {aB aL aS aC aF aN : Addr} (E : Errs w aB aL aS aC aF) (hN : w.cell? ⟨1, 0, none⟩ = some (noRoomV aN)) :
  Calls Tryz.prog 121 #[.agg #[.int .i64 f.z, .slice a n cap, .slice am m cm, .int .i64 f.op, .int .i64 f.st], .agg #[.int .i64 xa, .string xt, .bool xd]] w fun e w' => ∃ v, e = .returned v ∧ BackTo w f (xa, xt, xd) v w' a cap am cm := by
 have hlq := h.1
 have hlp := hp.1
 have hfo' := hfo
 unfold ftlOkF at hfo'
 obtain ⟨hmo, _, _, _, _, _, _⟩ := ftlOk_parts hfo'
 have hm64 : m <= 64 := by have := (mapOk_len hmo).2; rw [hlp] at this; exact this
 have hn12 : n <= 12 := by have := (chipOk_parts (mapOk_chip hmo)).2.2.2.1; omega
 have HPB := hide (planR_back (f := f) (x := (xa, xt, xd)) hfo)
 have HEB := hide (fun f' hb => entF_back (f := f) (f' := f') (x := (xa, xt, xd)) hfo hb)
 have HEN : Hid (backF f (xa, xt, xd) = none -> entF f.z f.qs f.ps f.op f.st 1 xa xt = f) := fun hb => by
  unfold backF at hb
  rw [Option.map_eq_none_iff] at hb
  unfold entF
  rw [hfo', hb]
  rfl
 dsimp only at HPB HEB
 obtain ⟨wA, hwA⟩ : ∃ wA, wA = ((w.alloc (.cells #[.int .i64 f.z, .slice a n cap, .slice am m cm, .int .i64 f.op, .int .i64 f.st] 29)).alloc (.cells #[.int .i64 xa, .string xt, .bool xd] 83)).alloc (.cells #[.int .i64 0, .slice none 0 0, .slice none 0 0, .int .i64 0, .int .i64 0] 29) := ⟨_, rfl⟩
 have hzA : wA.heap.size = w.heap.size + 1 + 1 + 1 := by rw [hwA]; simp
 have HBA : Hid (Below w.heap.size w wA) := by rw [hwA]; exact (((Below.refl _ _).alloc (Nat.le_refl _) _).alloc (by simp) _).alloc (by simp; omega) _
 have H0 : Hid (wA.heap[w.heap.size]? = some (.cells #[.int .i64 f.z, .slice a n cap, .slice am m cm, .int .i64 f.op, .int .i64 f.st] 29)) := by rw [hwA]; exact heap_old (heap_old (heap_new _ _))
 have H1 : Hid (wA.heap[w.heap.size + 1]? = some (.cells #[.int .i64 xa, .string xt, .bool xd] 83)) := by rw [hwA]; exact heap_old (heap_at (by simp))
 have H2 : Hid (wA.heap[w.heap.size + 1 + 1]? = some (.cells #[.int .i64 0, .slice none 0 0, .slice none 0 0, .int .i64 0, .int .i64 0] 29)) := by rw [hwA]; exact heap_at (by simp)
 have HSA := hide (h.later HBA.out hhi)
 have HPA := hide (hp.later HBA.out hhi')
 have HTA := hide (hT.here HBA.out)
 have HEA := hide (E.here HBA.out)
 have hGl : 1 < w.heap.size := World.block_lt_of_cell? _ _ hN
 have HNA := hide ((HBA.out.cell (p := ⟨1, 0, none⟩) hGl).trans hN)
 have HCK := hide (chipOk_fits (mapOk_chip hmo))
 clear h hp hT E hN hmo hfo hfo'
 obtain ⟨c0, c1, c2, c3, c4⟩ := five_cells H0.out
 obtain ⟨x0, x1, x2⟩ := three_cells H1.out
 obtain ⟨p0, p1, p2, p3, p4⟩ := five_cells H2.out
 have f0 := four_frozen H2.out 0
 have f1 := four_frozen H2.out 1
 have f2 := four_frozen H2.out 2
 have f3 := four_frozen H2.out 3
 have f4 := four_frozen H2.out 4
 cases xd with
 | false =>
  have HRS := hide (five_set H2.out (.int .i64 f.z) (.slice a n cap) (.slice am m cm) (.int .i64 f.op) (.int .i64 f.st))
  have HAS := hide (five_aside (b := w.heap.size + 1 + 1) (Aside.refl (w.heap.size + 1 + 1) (w.heap.size + 1 + 1 + 1) wA) (Nat.le_refl _) (Nat.lt_succ_self _) (.int .i64 f.z) (.slice a n cap) (.slice am m cm) (.int .i64 f.op) (.int .i64 f.st))
  have HBF := hide (HBA.out.trans (HAS.out.below (B := w.heap.size) (by omega) (by omega)))
  go_enter Tryz.func121, Tryz.ntmps121
  go_upto_region 1 with fail
  rw [<- hwA]
  clear hwA
  go_wp2_with fail
  exact bodyPost_ret (results_ct rfl rfl (run_loadVar_row _ _ _ _ _ _ _ HRS.out Tryz.underlying29 rfl (by kernel_rfl))) rfl ⟨_, rfl, .inl ⟨rfl, by unfold fvV; rw [hlq, hlp]; rfl, HBF.out⟩⟩
 | true =>
  clear p0 p1 p2 p3 p4 f0 f1 f2 f3 f4
  go_enter Tryz.func121, Tryz.ntmps121
  go_upto_region 1 with fail
  rw [<- hwA]
  clear hwA
  go_wp2_with fail
  refine (implEnter_any f.z a n cap f.qs am m cm f.ps f.op f.st 1 xa 0 xt wA HSA.out (by omega) (by omega) HCK.out HPA.out (by omega) (by omega) hcl HTA.out HEA.out HNA.out).mono ?_
  rintro e w5 ⟨v, rfl, a', c', am', cm', rfl, ho5, b5, hcap5⟩
  rw [HPB.out]
  obtain ⟨fv, hfv⟩ : ∃ fv, fv = entF f.z f.qs f.ps f.op f.st 1 xa xt := ⟨_, rfl⟩
  rw [<- hfv] at ho5 hcap5
  rw [<- hfv]
  have HFV : Hid ((backF f (xa, xt, true)).getD f = fv) := by
   show _ = _
   rw [hfv]
   cases hb : backF f (xa, xt, true) with
   | none => exact (HEN.out hb).symm
   | some f' => exact (HEB.out f' hb).symm
  have K2 := hide (block_on H2.out b5)
  have HB5 := hide (below_here HBA.out b5)
  have HO5 := hide ho5
  have HC5 := hide hcap5
  have hs5 := b5.size
  clear ho5 b5 hcap5 hfv c0 c1 c2 c3 c4 x0 x1 x2
  obtain ⟨Z, Q, PS, OP, ST⟩ := fv
  unfold fvV
  dsimp only at HO5 HC5 ⊢
  obtain ⟨p0, p1, p2, p3, p4⟩ := five_cells K2.out
  have f0 := four_frozen K2.out 0
  have f1 := four_frozen K2.out 1
  have f2 := four_frozen K2.out 2
  have f3 := four_frozen K2.out 3
  have f4 := four_frozen K2.out 4
  have HRS := hide (five_set K2.out (.int .i64 Z) (.slice a' Q.length c') (.slice am' PS.length cm') (.int .i64 OP) (.int .i64 ST))
  have HAS := hide (five_aside (b := w.heap.size + 1 + 1) (Aside.refl (w.heap.size + 1 + 1) (w.heap.size + 1 + 1 + 1) w5) (Nat.le_refl _) (Nat.lt_succ_self _) (.int .i64 Z) (.slice a' Q.length c') (.slice am' PS.length cm') (.int .i64 OP) (.int .i64 ST))
  have HBF := hide (HB5.out.trans (HAS.out.below (B := w.heap.size) (by omega) (by omega)))
  have HOF := hide ((HO5.out.aside HAS.out (.inl (by omega))).wide (show w.heap.size <= wA.heap.size by omega) HAS.out.size (Nat.le_refl _))
  obtain ⟨bs, hbs⟩ : ∃ bs, bs = (backF f (xa, xt, true)).isSome := ⟨_, rfl⟩
  have HBS := hide hbs
  rw [<- hbs]
  clear hbs
  go_wp2_with fail
  refine bodyPost_ret (results_ct rfl rfl (run_loadVar_row _ _ _ _ _ _ _ HRS.out Tryz.underlying29 rfl (by kernel_rfl))) rfl ⟨_, rfl, .inr ⟨rfl, .agg #[.int .i64 Z, .slice a' Q.length c', .slice am' PS.length cm', .int .i64 OP, .int .i64 ST], ?_, a', c', am', cm', ?_, ?_, HBF.out, ?_⟩⟩
  ·rw [<- HBS.out]; rfl
  ·rw [HFV.out]; rfl
  ·rw [HFV.out]; exact HOF.out
  ·rw [HFV.out]; exact HC5.out
end Go.Proofs.YtkbhcdkfjniafaaGreatDoor
end

section
namespace Go.Proofs.YtkbhcdkfjniafaaGreatDoor
open Go.RowKit
set_option linter.unusedVariables false
set_option maxRecDepth 20000
theorem seven_set5 {W : World} {b : Nat} {c0 c1 c2 c3 c4 c5 c6 : Value} {t : TypeId} {fr : Nat × Nat} (h : W.heap[b]? = some (.cells #[c0, c1, c2, c3, c4, c5, c6] t fr)) (v2 v3 v4 v5 v6 : Value) :
  (((((W.setCell ⟨b, 2, none⟩ v2).setCell ⟨b, 3, none⟩ v3).setCell ⟨b, 4, none⟩ v4).setCell ⟨b, 5, none⟩ v5).setCell ⟨b, 6, none⟩ v6).heap[b]? = some (.cells #[c0, c1, v2, v3, v4, v5, v6] t fr) :=
 set_block (set_block (set_block (set_block (set_block h 2 v2 (by simp)) 3 v3 (by simp)) 4 v4 (by simp)) 5 v5 (by simp)) 6 v6 (by simp)
theorem seven_aside5 {lo hi b : Nat} {a w : World} (h : Aside lo hi a w) (h1 : lo <= b) (h2 : b < hi) (v2 v3 v4 v5 v6 : Value) :
  Aside lo hi a (((((w.setCell ⟨b, 2, none⟩ v2).setCell ⟨b, 3, none⟩ v3).setCell ⟨b, 4, none⟩ v4).setCell ⟨b, 5, none⟩ v5).setCell ⟨b, 6, none⟩ v6) :=
 ((((h.setCell (p := ⟨b, 2, none⟩) h1 h2 v2).setCell (p := ⟨b, 3, none⟩) h1 h2 v3).setCell (p := ⟨b, 4, none⟩) h1 h2 v4).setCell (p := ⟨b, 5, none⟩) h1 h2 v5).setCell (p := ⟨b, 6, none⟩) h1 h2 v6
end Go.Proofs.YtkbhcdkfjniafaaGreatDoor
end

