/- The program's Plan: with what it defers. -/
import Derived.Test.YtoocbagnfkgbfaaGreatDoorBFtlImplH
import Derived.Test.YtoocbagnfkgbfaaGreatDoorBFtlImplA
import Derived.Defers
import Derived.Recover
import Derived.Laws.Pointers
namespace Go.Proofs.YtoocbagnfkgbfaaGreatDoor
open Go.RowKit
set_option linter.unusedVariables false
set_option maxRecDepth 20000

theorem planCatch (pj po : Nat) (u : TypeId) (pv : Value) (older : List PanicEntry) (w : World) {x y : Value} {t t' : TypeId} (hj : w.heap[pj]? = some (.cells #[x] t)) (ho : w.heap[po]? = some (.cells #[y] t')) (hne : pj ≠ po) :
    CallsD Tryz.prog 140 #[.pointer (some ⟨pj, 0, none⟩), .pointer (some ⟨po, 0, none⟩)] (.panicking ({ v := .iface u pv, recovered := false } :: older)) w fun e u' w' =>
      e = .returned (.tuple #[]) ∧ u' = .panicking ({ v := .iface u pv, recovered := true } :: older) ∧ w' = ((w.setCell ⟨pj, 0, none⟩ (.slice (some ⟨w.heap.size, 0, none⟩) 0 0)).setCell ⟨po, 0, none⟩ (.bool false)).alloc (.cells #[] 119) := by
  have hjl : pj < w.heap.size := (Array.getElem?_eq_some_iff.1 hj).1
  have hol : po < w.heap.size := (Array.getElem?_eq_some_iff.1 ho).1
  have c0 : w.cell? ⟨pj, 0, none⟩ = some x := by simp [World.cell?, hj]
  have f0 := four_frozen hj 0
  have ho2 := set_other (o := 0) ho hne (.slice (some ⟨w.heap.size, 0, none⟩) 0 0)
  have c1 : (w.setCell ⟨pj, 0, none⟩ (.slice (some ⟨w.heap.size, 0, none⟩) 0 0)).cell? ⟨po, 0, none⟩ = some y := by simp [World.cell?, ho2]
  have f1 := four_frozen ho2 0
  refine callsD_of_wpS Tryz.func140 rfl fun c₀ cs hu => ?_
  apply wpS_seq
  apply wpS_region
  simp [wpOpsS, go_sem, recoverD, hu, Tryz.ntmps140, Exit.thenS]
  refine wpS_cond (t := true) (by simp [Act.eval, Array.replicate]) ?_
  simp only [if_true]
  refine wpS_of_wp ?_
  go_wp2_with fail
  simp [bodyPostS, results, Tryz.results140]

theorem planIdle (p q : Value) (w : World) :
    CallsD Tryz.prog 140 #[p, q] .returning w fun e u' w' => e = .returned (.tuple #[]) ∧ u' = .returning ∧ w' = w := by
  refine callsD_of_wpS Tryz.func140 rfl fun c₀ cs hu => ?_
  apply wpS_seq
  apply wpS_region
  simp [wpOpsS, go_sem, recoverD, hu, Tryz.ntmps140, Exit.thenS]
  refine wpS_cond (t := false) (by simp [Act.eval, Array.replicate]) ?_
  simp only [Bool.false_eq_true, if_false]
  refine wpS_of_wp (wp_skip ?_)
  cases c₀
  simp_all [bodyPostS, results, Tryz.results140]

/-- Nothing is told: an empty list that is new, and false. -/
theorem planEnd {w w1 : World} (hs : w.heap.size + 1 + 1 + 1 < w1.heap.size) (hb : Below w.heap.size w w1) {x y : Value} (hj : w1.heap[w.heap.size + 1 + 1]? = some (.cells #[x] 99)) (ho : w1.heap[w.heap.size + 1 + 1 + 1]? = some (.cells #[y] 4)) :
    (((w1.setCell ⟨w.heap.size + 1 + 1, 0, none⟩ (.slice (some ⟨w1.heap.size, 0, none⟩) 0 0)).setCell ⟨w.heap.size + 1 + 1 + 1, 0, none⟩ (.bool false)).alloc (.cells #[] 119)).heap[w.heap.size + 1 + 1]? = some (.cells #[.slice (some ⟨w1.heap.size, 0, none⟩) 0 0] 99) ∧
    (((w1.setCell ⟨w.heap.size + 1 + 1, 0, none⟩ (.slice (some ⟨w1.heap.size, 0, none⟩) 0 0)).setCell ⟨w.heap.size + 1 + 1 + 1, 0, none⟩ (.bool false)).alloc (.cells #[] 119)).heap[w.heap.size + 1 + 1 + 1]? = some (.cells #[.bool false] 4) ∧
    JbOwn w.heap.size (((w1.setCell ⟨w.heap.size + 1 + 1, 0, none⟩ (.slice (some ⟨w1.heap.size, 0, none⟩) 0 0)).setCell ⟨w.heap.size + 1 + 1 + 1, 0, none⟩ (.bool false)).alloc (.cells #[] 119)) (.slice (some ⟨w1.heap.size, 0, none⟩) 0 0) [] ∧
    Below w.heap.size w (((w1.setCell ⟨w.heap.size + 1 + 1, 0, none⟩ (.slice (some ⟨w1.heap.size, 0, none⟩) 0 0)).setCell ⟨w.heap.size + 1 + 1 + 1, 0, none⟩ (.bool false)).alloc (.cells #[] 119)) := by
  have hz : ((w1.setCell ⟨w.heap.size + 1 + 1, 0, none⟩ (.slice (some ⟨w1.heap.size, 0, none⟩) 0 0)).setCell ⟨w.heap.size + 1 + 1 + 1, 0, none⟩ (.bool false)).heap.size = w1.heap.size := by rw [Go.Deep.nblk_setCell, Go.Deep.nblk_setCell]
  refine ⟨heap_old (set_other (set_block hj 0 _ (by simp)) (by omega) _), heap_old (set_block (set_other (o := 0) ho (by omega) _) 0 _ (by simp)), ?_, ?_⟩
  · have h9 := jb_made0 ((w1.setCell ⟨w.heap.size + 1 + 1, 0, none⟩ (.slice (some ⟨w1.heap.size, 0, none⟩) 0 0)).setCell ⟨w.heap.size + 1 + 1 + 1, 0, none⟩ (.bool false))
    rw [hz] at h9
    exact h9.mono (by omega)
  · exact ((hb.setCell (p := ⟨w.heap.size + 1 + 1, 0, none⟩) (by show w.heap.size ≤ w.heap.size + 1 + 1; omega) _).setCell (p := ⟨w.heap.size + 1 + 1 + 1, 0, none⟩) (by show w.heap.size ≤ w.heap.size + 1 + 1 + 1; omega) _).alloc (by rw [hz]; omega) _
theorem Tryz.loadJobs {w : World} {b : Nat} {v : Value} {t : TypeId} {fr : Nat × Nat} (h : w.heap[b]? = some (.cells #[v] t fr)) : (loadVar 99 ⟨b, 0, none⟩).run Tryz.prog w = .ok v w := by
  have hc : w.cell? ⟨b, 0, none⟩ = some v := by simp [World.cell?, h]
  simp [loadVar, go_sem, hc]
theorem Tryz.loadOk {w : World} {b : Nat} {v : Value} {t : TypeId} {fr : Nat × Nat} (h : w.heap[b]? = some (.cells #[v] t fr)) : (loadVar 4 ⟨b, 0, none⟩).run Tryz.prog w = .ok v w := by
  have hc : w.cell? ⟨b, 0, none⟩ = some v := by simp [World.cell?, h]
  simp [loadVar, go_sem, hc]
theorem results_cc {fn : Func} {P : Program} {w : World} {t u : Tmp} {ty tz : TypeId} {tmps : Array Value} {a b : Addr} {v x : Value} (h : fn.results = #[.cell t ty, .cell u tz]) (ht : tmps.getD t undef = .pointer (some a)) (hu : tmps.getD u undef = .pointer (some b)) (hl : (loadVar ty a).run P w = .ok v w) (hx : (loadVar tz b).run P w = .ok x w) :
    (results fn tmps).run P w = .ok (.tuple #[v, x]) w := by
  have ht' : tmps[t]?.getD undef = .pointer (some a) := by simpa using ht
  have hu' : tmps[u]?.getD undef = .pointer (some b) := by simpa using hu
  simp [results, h, ht', hu', asAddr, hl, hx]

set_option maxRecDepth 100000 in
set_option maxHeartbeats 6400000 in
theorem implPlan_any (z : Int) (a : Option Addr) (n cap : Nat) (qs : List Sq) (am : Option Addr) (m cm : Nat) (ps : List Pl) (op st kd at_ sp : Int) (tx : ByteArray) (w : World) {lo hi lo' hi' : Nat} (h : Squares lo hi w a n qs) (hhi : hi ≤ w.heap.size) (hn : n ≤ 1048576) (hf : ∀ x ∈ qs, sqFits x) (hp : Places lo' hi' w am m ps) (hhi' : hi' ≤ w.heap.size) (hm : m ≤ 1048576) (hcl : m ≤ cm) (hT : Tab w) {aB aL aS aC aF aN : Addr} (E : Errs w aB aL aS aC aF) (hN : w.cell? ⟨1, 0, none⟩ = some (noRoomV aN)) :
    Calls Tryz.prog 84 #[.agg #[.int .i64 z, .slice a n cap, .slice am m cm, .int .i64 op, .int .i64 st], .agg #[.int .i64 kd, .int .i64 at_, .int .i64 sp, .string tx]] w fun e w' => ∃ aj cj, e = .returned (.tuple #[.slice aj (jobsOf (planR z qs ps op st kd at_ tx)).length cj, .bool (planR z qs ps op st kd at_ tx).isSome]) ∧ JbOwn w.heap.size w' (.slice aj (jobsOf (planR z qs ps op st kd at_ tx)).length cj) (jobsOf (planR z qs ps op st kd at_ tx)) ∧ Below w.heap.size w w' := by
  obtain ⟨r, hr⟩ : ∃ r, r = planR z qs ps op st kd at_ tx := ⟨_, rfl⟩
  have HR := hide hr
  rw [← hr]
  clear hr
  obtain ⟨wA, hwA⟩ : ∃ wA, wA = (((w.alloc (.cells #[.int .i64 z, .slice a n cap, .slice am m cm, .int .i64 op, .int .i64 st] 29)).alloc (.cells #[.int .i64 kd, .int .i64 at_, .int .i64 sp, .string tx] 31)).alloc (.cells #[.slice none 0 0] 99)).alloc (.cells #[.bool false] 4) := ⟨_, rfl⟩
  have hzA : wA.heap.size = w.heap.size + 1 + 1 + 1 + 1 := by rw [hwA]; simp
  have HBA : Hid (Below w.heap.size w wA) := by rw [hwA]; exact ((((Below.refl _ _).alloc (Nat.le_refl _) _).alloc (by simp) _).alloc (by simp; omega) _).alloc (by simp; omega) _
  have H0 : Hid (wA.heap[w.heap.size]? = some (.cells #[.int .i64 z, .slice a n cap, .slice am m cm, .int .i64 op, .int .i64 st] 29)) := by rw [hwA]; exact heap_old (heap_old (heap_old (heap_new _ _)))
  have H1 : Hid (wA.heap[w.heap.size + 1]? = some (.cells #[.int .i64 kd, .int .i64 at_, .int .i64 sp, .string tx] 31)) := by rw [hwA]; exact heap_old (heap_old (heap_at (by simp)))
  have H2 : Hid (wA.heap[w.heap.size + 1 + 1]? = some (.cells #[.slice none 0 0] 99)) := by rw [hwA]; exact heap_old (heap_at (by simp))
  have H3 : Hid (wA.heap[w.heap.size + 1 + 1 + 1]? = some (.cells #[.bool false] 4)) := by rw [hwA]; exact heap_at (by simp)
  have HSQ := hide (h.later HBA.out hhi)
  have HPL := hide (hp.later HBA.out hhi')
  have HLP := hide hp.1
  have HF := hide hf
  have HTA := hide (hT.here HBA.out)
  have HEA := hide (E.here HBA.out)
  have hGl : 1 < w.heap.size := World.block_lt_of_cell? _ _ hN
  have hGt : 7 < w.heap.size := World.block_lt_of_cell? _ _ (hT 0 (by omega))
  have HNA := hide ((HBA.out.cell (p := ⟨1, 0, none⟩) hGl).trans hN)
  have hmf : ∀ (fn : Fn) (first cap : Array Value) (w : World), (Instr.makeFunc fn first cap).run Tryz.prog w = .ok (.func fn first cap) w := fun _ _ _ _ => rfl
  clear h hf hp hT E hN
  obtain ⟨c0, c1, c2, c3, c4⟩ := five_cells H0.out
  go_enter_defers Tryz.func84, Tryz.ntmps84
  go_wp2_with fail
  rw [← hwA]
  clear hwA
  refine (implFtlOk_any z a n cap qs am m cm ps op st wA HSQ.out (by omega) hn HF.out HPL.out (by omega) hm hcl HTA.out HEA.out).mono ?_
  rintro e w1 ⟨rfl, b1⟩
  have K0 := hide (block_on H0.out b1)
  have K1 := hide (block_on H1.out b1)
  have K2 := hide (block_on H2.out b1)
  have K3 := hide (block_on H3.out b1)
  have HS1 := hide (HSQ.out.later b1 (by omega))
  have HP1 := hide (HPL.out.later b1 (by omega))
  have HB1 := hide (below_here HBA.out b1)
  have HT1 := hide (HTA.out.here b1)
  have HN1 := hide ((b1.cell (p := ⟨1, 0, none⟩) (by show 1 < _; omega)).trans HNA.out)
  have hs1 := b1.size
  clear b1 H0 H1 H2 H3 HSQ HPL HBA HTA HEA HNA c0 c1 c2 c3 c4
  obtain ⟨c0, c1, c2, c3, c4⟩ := five_cells K0.out
  obtain ⟨p0, p1, p2, p3⟩ := four_cells K1.out
  cases hok : ftlOk z qs ps op st with
  | false =>
    have HE : Hid (r = none) := by show _ = _; rw [HR.out]; unfold planR; rw [hok]; rfl
    have d0 : w1.cell? ⟨w.heap.size + 1 + 1, 0, none⟩ = some (.slice none 0 0) := by simp [World.cell?, K2.out]
    have d1 := four_frozen K2.out 0
    have K3s := set_other (o := 0) K3.out (show w.heap.size + 1 + 1 ≠ w.heap.size + 1 + 1 + 1 by omega) (.slice (some ⟨w1.heap.size, 0, none⟩) 0 0)
    have e0 : (w1.setCell ⟨w.heap.size + 1 + 1, 0, none⟩ (.slice (some ⟨w1.heap.size, 0, none⟩) 0 0)).cell? ⟨w.heap.size + 1 + 1 + 1, 0, none⟩ = some (.bool false) := by simp [World.cell?, K3s]
    have e1 := four_frozen K3s 0
    have e2 : w1.cell? ⟨w.heap.size + 1 + 1 + 1, 0, none⟩ = some (.bool false) := by simp [World.cell?, K3.out]
    have e3 := four_frozen K3.out 0
    have hl2 : w.heap.size + 1 + 1 < w1.heap.size := by omega
    have hl3 : w.heap.size + 1 + 1 + 1 < w1.heap.size := by omega
    have HEND := hide (planEnd (w := w) (w1 := w1) (by omega) HB1.out K2.out K3.out)
    go_wp2_with fail
    refine ⟨_, results_cc rfl rfl rfl (Tryz.loadJobs HEND.out.1) (Tryz.loadOk HEND.out.2.1), _, 0, by rw [HE.out]; rfl, by rw [HE.out]; exact HEND.out.2.2.1, HEND.out.2.2.2⟩
  | true =>
    obtain ⟨hmo, _, _, hst0, hst1, _, _⟩ := ftlOk_parts hok
    have hm64 : m ≤ 64 := by have := (mapOk_len hmo).2; rw [HLP.out] at this; exact this
    have hm1 : 1 ≤ m := by have := (mapOk_len hmo).1; rw [HLP.out] at this; exact this
    have HCK := hide (mapOk_chip hmo)
    have HKO := hide (kok_of hok [])
    have HRE : Hid (r = enterK z ⟨qs, ps, op, []⟩ st kd at_ tx) := by show _ = _; rw [HR.out]; unfold planR; rw [hok]; rfl
    clear hok hmo HR
    go_wp2_with fail
    refine (mayEnter_any (.int .i64 z) (.slice a n cap) am m cm (.int .i64 op) st kd at_ sp tx ps w1 HLP.out hm ⟨hst0, hst1⟩).mono ?_
    rintro e w2 ⟨rfl, b2⟩
    have L0 := hide (block_on K0.out b2)
    have L1 := hide (block_on K1.out b2)
    have L2 := hide (block_on K2.out b2)
    have L3 := hide (block_on K3.out b2)
    have HS2 := hide (HS1.out.later b2 (by omega))
    have HP2 := hide (HP1.out.later b2 (by omega))
    have HB2 := hide (below_here HB1.out b2)
    have HT2 := hide (HT1.out.here b2)
    have HN2 := hide ((b2.cell (p := ⟨1, 0, none⟩) (by show 1 < _; omega)).trans HN1.out)
    have hs2 := b2.size
    clear b2 K0 K1 K2 K3 HS1 HP1 HB1 HT1 HN1 c0 c1 c2 c3 c4 p0 p1 p2 p3
    have d0 : w2.cell? ⟨w.heap.size + 1 + 1, 0, none⟩ = some (.slice none 0 0) := by simp [World.cell?, L2.out]
    have d1 := four_frozen L2.out 0
    have e2 : w2.cell? ⟨w.heap.size + 1 + 1 + 1, 0, none⟩ = some (.bool false) := by simp [World.cell?, L3.out]
    have e3 := four_frozen L3.out 0
    have hl2 : w.heap.size + 1 + 1 < w2.heap.size := by omega
    have hl3 : w.heap.size + 1 + 1 + 1 < w2.heap.size := by omega
    cases hme : mayEnt ps st kd at_ tx with
    | false =>
      have HE : Hid (r = none) := by show _ = _; rw [HRE.out]; exact enterK_no hme
      have K3s := set_other (o := 0) L3.out (show w.heap.size + 1 + 1 ≠ w.heap.size + 1 + 1 + 1 by omega) (.slice (some ⟨w2.heap.size, 0, none⟩) 0 0)
      have e0 : (w2.setCell ⟨w.heap.size + 1 + 1, 0, none⟩ (.slice (some ⟨w2.heap.size, 0, none⟩) 0 0)).cell? ⟨w.heap.size + 1 + 1 + 1, 0, none⟩ = some (.bool false) := by simp [World.cell?, K3s]
      have e1 := four_frozen K3s 0
      have HEND := hide (planEnd (w := w) (w1 := w2) (by omega) HB2.out L2.out L3.out)
      go_wp2_with fail
      refine ⟨_, results_cc rfl rfl rfl (Tryz.loadJobs HEND.out.1) (Tryz.loadOk HEND.out.2.1), _, 0, by rw [HE.out]; rfl, by rw [HE.out]; exact HEND.out.2.2.1, HEND.out.2.2.2⟩
    | true =>
      obtain ⟨c0, c1, c2, c3, c4⟩ := five_cells L0.out
      go_wp2_with fail
      refine (keeperOf_any z a n cap qs am m cm ps op st w2 HS2.out (by omega) HCK.out HP2.out (by omega) hm1 hm64 HN2.out).mono ?_
      rintro e w3 ⟨pk, g, c, gm, cm', A, C, rfl, hK3, b3⟩
      have M1 := hide (block_on L1.out b3)
      have M2 := hide (block_on L2.out b3)
      have M3 := hide (block_on L3.out b3)
      have HB3 := hide (below_here HB2.out b3)
      have HT3 := hide (HT2.out.here b3)
      have HK3 := hide hK3
      have hs3 := b3.size
      clear hK3 b3 c0 c1 c2 c3 c4 d0 d1 e2 e3
      obtain ⟨p0, p1, p2, p3⟩ := four_cells M1.out
      go_wp2_with fail
      refine (enter_any w2.heap.size pk z st n g c gm cm' A C _ ⟨qs, ps, op, []⟩ aN kd at_ sp tx w3 HK3.out hs3 HKO.out (by show 0 ≤ _; omega) ⟨hst0, hst1⟩ hme HT3.out (by omega)).mono ?_
      rintro e w4 ⟨hf4, hk4⟩
      have N2 : Hid (w4.heap[w.heap.size + 1 + 1]? = some (.cells #[.slice none 0 0] 99)) := (hf4.below.block _ (by omega)).trans M2.out
      have N3 : Hid (w4.heap[w.heap.size + 1 + 1 + 1]? = some (.cells #[.bool false] 4)) := (hf4.below.block _ (by omega)).trans M3.out
      have HB4 := hide (HB3.out.trans (hf4.below.mono (show w.heap.size ≤ w2.heap.size by omega)))
      have hs4 := hf4.below.size
      clear hf4 p0 p1 p2 p3
      rw [← HRE.out] at hk4
      cases hrr : r with
      | none =>
        have HRR := hide hrr
        rw [hrr] at hk4
        dsimp only at hk4
        subst hk4
        unfold noRoomV
        have HEND := hide (planEnd (w := w) (w1 := w4) (by omega) HB4.out N2.out N3.out)
        go_wp2_with fail
        show Leaves _ _ _ _ _ _ _
        refine leaves_cons (f := 140) (args := #[.pointer (some ⟨w.heap.size + 1 + 1, 0, none⟩), .pointer (some ⟨w.heap.size + 1 + 1 + 1, 0, none⟩)]) (by simp) (by simp [go_sem]) ?_
        refine (planCatch (w.heap.size + 1 + 1) (w.heap.size + 1 + 1 + 1) _ _ [] w4 N2.out N3.out (by omega)).mono ?_
        rintro e u' w'' ⟨rfl, rfl, rfl⟩
        refine ⟨_, results_cc rfl rfl rfl (Tryz.loadJobs HEND.out.1) (Tryz.loadOk HEND.out.2.1), _, 0, by rw [HRR.out]; rfl, by rw [HRR.out]; exact HEND.out.2.2.1, HEND.out.2.2.2⟩
      | some s' =>
        have HRR := hide hrr
        rw [hrr] at hk4
        dsimp only at hk4
        obtain ⟨rfl, A4, C4, V4, hA4, _⟩ := hk4
        obtain ⟨aj, cj, rfl, hcj⟩ := jb_form hA4.mem.jb
        obtain ⟨x0, x1, x2, x3, x4, x5⟩ := six_cells hA4.box
        have d0 : w4.cell? ⟨w.heap.size + 1 + 1, 0, none⟩ = some (.slice none 0 0) := by simp [World.cell?, N2.out]
        have d1 := four_frozen N2.out 0
        have e2 : w4.cell? ⟨w.heap.size + 1 + 1 + 1, 0, none⟩ = some (.bool false) := by simp [World.cell?, N3.out]
        have e3 := four_frozen N3.out 0
        have HJ4 := hide (ownsRow_setCell_below (ownsRow_setCell_below hA4.mem.jb (a := ⟨w.heap.size + 1 + 1, 0, none⟩) (by show w.heap.size + 1 + 1 < _; omega) (.slice aj s'.js.length cj)) (a := ⟨w.heap.size + 1 + 1 + 1, 0, none⟩) (by show w.heap.size + 1 + 1 + 1 < _; omega) (.bool true))
        have HJ5 := hide (HJ4.out.mono (show w.heap.size ≤ w2.heap.size by omega))
        have P2 := hide (set_other (o := 0) (set_block N2.out 0 (.slice aj s'.js.length cj) (by simp)) (show w.heap.size + 1 + 1 + 1 ≠ w.heap.size + 1 + 1 by omega) (.bool true))
        have P3 := hide (set_block (set_other (o := 0) N3.out (show w.heap.size + 1 + 1 ≠ w.heap.size + 1 + 1 + 1 by omega) (.slice aj s'.js.length cj)) 0 (.bool true) (by simp))
        have HBF := hide ((HB4.out.setCell (p := ⟨w.heap.size + 1 + 1, 0, none⟩) (by show w.heap.size ≤ w.heap.size + 1 + 1; omega) (.slice aj s'.js.length cj)).setCell (p := ⟨w.heap.size + 1 + 1 + 1, 0, none⟩) (by show w.heap.size ≤ w.heap.size + 1 + 1 + 1; omega) (.bool true))
        clear hA4 x0 x1 x2 x3 x4 hrr
        go_wp2_with fail
        show Leaves _ _ _ _ _ _ _
        refine leaves_cons (f := 140) (args := #[.pointer (some ⟨w.heap.size + 1 + 1, 0, none⟩), .pointer (some ⟨w.heap.size + 1 + 1 + 1, 0, none⟩)]) (by simp) (by simp [go_sem]) ?_
        refine (planIdle _ _ _).mono ?_
        rintro e u' w'' ⟨rfl, rfl, rfl⟩
        refine ⟨_, results_cc rfl rfl rfl (Tryz.loadJobs P2.out) (Tryz.loadOk P3.out), aj, cj, by rw [HRR.out]; rfl, by rw [HRR.out]; exact HJ5.out, HBF.out⟩
end Go.Proofs.YtoocbagnfkgbfaaGreatDoor
