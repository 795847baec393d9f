/- The program's Broken. -/
import Derived.Test.YtoocbagnfkgbfaaGreatDoorBBrokeMath
import Derived.Test.YtoocbagnfkgbfaaGreatDoorBFtlImplI
import Derived.Test.YtoocbagnfkgbfaaGreatDoorBChipImplG
import Derived.Test.YtoocbagnfkgbfaaGreatDoorBChipAns
import Derived.Deep.RegionWith
namespace Go.Proofs.YtoocbagnfkgbfaaGreatDoor
open Go.RowKit
set_option linter.unusedVariables false
set_option maxRecDepth 20000

theorem slice_first3 {P : Program} (t e : TypeId) (ht : P.underlying t = some (.slice e)) (hs : ∀ w, (sizeOf e).run P w = .ok 3 w) (b off n cap k : Nat) (hk : k ≤ n) (hn : n ≤ cap) :
    ∀ w, (Instr.sliceAt t (.slice (some ⟨b, off, none⟩) n cap) none (some (.int .i64 (k : Int))) none).run P w = .ok (.slice (some ⟨b, off, none⟩) k cap) w := by
  intro w
  have he : P.elem t = e := by simp [Program.elem, ht]
  have ht' : P.underlying t = some (.slice (P.elem t)) := by rw [he]; exact ht
  rw [run_sliceAt_slice w t _ _ _ _ ht', run_slice_h (P := P) w t _ n cap ht' .i64 (k : Int) (by omega) (by omega), he, hs]
  simp [sliced, Result.andThen, Addr.add]
theorem OwnJobs.jobs {lo hi n : Nat} {w : World} {a : Option Addr} {js : List Jb} (h : OwnJobs lo hi w a n js) : Jobs lo hi w a n js := ⟨h.1, h.2.reads⟩
theorem OwnJobs.later {lo hi n : Nat} {w w' : World} {a : Option Addr} {js : List Jb} (h : OwnJobs lo hi w a n js) {B : Nat} (hb : Below B w w') (hB : hi ≤ B) : OwnJobs lo hi w' a n js := ⟨h.1, h.2.later hb hB⟩
theorem Jobs.later {lo hi n : Nat} {w w' : World} {a : Option Addr} {js : List Jb} (h : Jobs lo hi w a n js) {B : Nat} (hb : Below B w w') (hB : hi ≤ B) : Jobs lo hi w' a n js := ⟨h.1, h.2.later hb hB⟩
theorem done_min (jobs : Int) (L : Nat) : min (max jobs 0) (L : Int) = (doneN jobs L : Int) := by
  unfold doneN
  by_cases h0 : jobs < 0
  · rw [if_pos h0]; omega
  · rw [if_neg h0]
    by_cases h1 : jobs < (L : Int)
    · rw [if_pos h1]; omega
    · rw [if_neg h1]; omega
theorem jobs_take {lo hi n k : Nat} {w : World} {a : Option Addr} {js : List Jb} (h : Jobs lo hi w a n js) (hk : k ≤ n) : Jobs lo hi w a k (js.take k) := by
  obtain ⟨h1, h2, h3⟩ := h
  refine ⟨by rw [List.length_take, h1]; omega, h2, fun h0 => ?_⟩
  obtain ⟨b, off, e, k1, k2, k3⟩ := h3 (by omega)
  refine ⟨b, off, e, k1, k2, fun i hi => ?_⟩
  rw [k3 i (by omega)]
  have hq : i / 3 < k := by omega
  have e9 : jbAt (js.take k) (i / 3) = jbAt js (i / 3) := by
    unfold jbAt
    rw [List.getD_eq_getElem?_getD, List.getD_eq_getElem?_getD, List.getElem?_take_of_lt hq]
  unfold cellJ
  rw [e9]
/-- Jobs of one's own: nil, or a row. -/
theorem jb_where {B L c : Nat} {w : World} {a : Option Addr} {js : List Jb} (h : JbOwn B w (.slice a L c) js) : (a = none ∧ L = 0 ∧ c = 0 ∧ js = []) ∨ ∃ p, a = some ⟨p, 0, none⟩ ∧ L = js.length ∧ L ≤ c := by
  obtain ⟨h1, ⟨e2, e3⟩ | ⟨p, c2, cs, e2, hp, hb, hr, _⟩⟩ := h
  · simp only [Value.slice.injEq] at e2
    exact .inl ⟨e2.1, e2.2.1, e2.2.2, List.eq_nil_of_length_eq_zero e3⟩
  · simp only [Value.slice.injEq] at e2
    exact .inr ⟨p, e2.1, e2.2.1, by omega⟩
theorem all_of {z : Int} {qs qk : List Sq} {js : List Jb} (hc : chipOk z qs = true) (h : allQ z qs js = some qk) : allB z qs js = true ∧ allZ z qs js = z ∧ allS z qs js = qk := by
  have e : allB z qs js = true := by unfold allB; rw [hc, h]; rfl
  refine ⟨e, ?_, ?_⟩
  · unfold allZ; rw [e]; rfl
  · unfold allS; rw [hc, h]; rfl
theorem cut_of {z : Int} {qk : List Sq} {j : Jb} {b : Int} (hc : chipOk z qk = true) : didZ z qk = z ∧ cutQ z qk j b = cutJ z qk j b := by
  unfold didZ cutQ; rw [hc]; exact ⟨rfl, rfl⟩
theorem one_belowB {B b : Nat} {w w' : World} (h : Below B w w') (hb : B ≤ b) (u : Value) : Below B w (w'.setCell ⟨b, 0, none⟩ u) := h.setCell (p := ⟨b, 0, none⟩) hb u
set_option maxHeartbeats 8000000 in
theorem implBroken_any (z : Int) (a : Option Addr) (n cap : Nat) (qs : List Sq) (am : Option Addr) (m cm : Nat) (ps : List Pl) (op st kd at_ sp : Int) (tx : ByteArray) (jobs by_ : Int) (w : World) {lo hi lo' hi' : Nat} (h : Squares lo hi w a n qs) (hhi : hi ≤ w.heap.size) (hn : n ≤ 1048576) (hf : ∀ x ∈ qs, sqFits x) (hp : Places lo' hi' w am m ps) (hhi' : hi' ≤ w.heap.size) (hm : m ≤ 1048576) (hcl : m ≤ cm) (hT : Tab w) {aB aL aS aC aF aN : Addr} (E : Errs w aB aL aS aC aF) (hN : w.cell? ⟨1, 0, none⟩ = some (noRoomV aN)) :
    Calls Tryz.prog 24 #[.agg #[.int .i64 z, .slice a n cap, .slice am m cm, .int .i64 op, .int .i64 st], .agg #[.int .i64 kd, .int .i64 at_, .int .i64 sp, .string tx], .int .i64 jobs, .int .i64 by_] w fun e w' => ∃ v, e = .returned v ∧ ChipAns w (brokenZ z qs ps op st) (brokenQ z qs ps op st kd at_ tx jobs by_) v w' := by
  obtain ⟨bz, hbz⟩ : ∃ x, x = brokenZ z qs ps op st := ⟨_, rfl⟩
  obtain ⟨bq, hbq⟩ : ∃ x, x = brokenQ z qs ps op st kd at_ tx jobs by_ := ⟨_, rfl⟩
  have HBZ := hide hbz
  have HBQ := hide hbq
  rw [← hbz, ← hbq]
  clear hbz hbq
  obtain ⟨wA, hwA⟩ : ∃ wA, wA = ((w.alloc (.cells #[.int .i64 z, .slice a n cap, .slice am m cm, .int .i64 op, .int .i64 st] 29)).alloc (.cells #[.int .i64 kd, .int .i64 at_, .int .i64 sp, .string tx] 31)).alloc (.cells #[.int .i64 0, .slice none 0 0] 26) := ⟨_, rfl⟩
  have hzA : wA.heap.size = w.heap.size + 1 + 1 + 1 := by rw [hwA]; simp
  have HBA : Hid (Below w.heap.size w wA) := by rw [hwA]; exact (((Below.refl _ _).alloc (Nat.le_refl _) _).alloc (by simp) _).alloc (by simp; omega) _
  have H0 : Hid (wA.heap[w.heap.size]? = some (.cells #[.int .i64 z, .slice a n cap, .slice am m cm, .int .i64 op, .int .i64 st] 29)) := by rw [hwA]; exact heap_old (heap_old (heap_new _ _))
  have H1 : Hid (wA.heap[w.heap.size + 1]? = some (.cells #[.int .i64 kd, .int .i64 at_, .int .i64 sp, .string tx] 31)) := by rw [hwA]; exact heap_old (heap_at (by simp))
  have H2 : Hid (wA.heap[w.heap.size + 1 + 1]? = some (.cells #[.int .i64 0, .slice none 0 0] 26)) := by rw [hwA]; exact heap_at (by simp)
  have hgN : 1 < w.heap.size := by
    rcases Nat.lt_or_ge 1 w.heap.size with hc | hc
    · exact hc
    · unfold World.cell? at hN
      have : w.heap[1]? = none := Array.getElem?_eq_none_iff.2 (by omega)
      simp [this] at hN
  have HSQ := hide (h.later HBA.out hhi)
  have HPL := hide (hp.later HBA.out hhi')
  have HLQ := hide h.1
  have HF := hide hf
  have HT0 := hide hT
  have HE0 := hide E
  have HN0 : ∀ w9, Hid (Below w.heap.size w w9 → w9.cell? ⟨1, 0, none⟩ = some (noRoomV aN)) := fun w9 h9 => (h9.cell (p := ⟨1, 0, none⟩) hgN).trans hN
  clear h hf hp hT E hN hgN
  obtain ⟨c0, c1, c2, c3, c4⟩ := five_cells H0.out
  go_enter Tryz.func24, Tryz.ntmps24
  go_wp2_with fail
  rw [← hwA]
  clear hwA
  refine (implFtlOk_any z a n cap qs am m cm ps op st wA HSQ.out (by omega) hn HF.out HPL.out (by omega) hm hcl (HT0.out.here HBA.out) (HE0.out.here HBA.out)).mono ?_
  rintro e w1 ⟨rfl, b1⟩
  have K0 := hide (block_on H0.out b1)
  have K1 := hide (block_on H1.out b1)
  have K2 := hide (block_on H2.out b1)
  have HS1 := hide (HSQ.out.later b1 (by omega))
  have HP1 := hide (HPL.out.later b1 (by omega))
  have HB1 := hide (below_here HBA.out b1)
  have hs1 := b1.size
  clear b1 H0 H1 H2 HSQ HPL HBA c0 c1 c2 c3 c4
  cases hok : ftlOk z qs ps op st with
  | false =>
    have HE : Hid (bz = 0 ∧ bq = []) := by rw [HBZ.out, HBQ.out]; unfold brokenZ brokenQ; rw [hok]; exact ⟨rfl, rfl⟩
    obtain ⟨p0, p1⟩ := two_cells K2.out
    have f0 := four_frozen K2.out 0
    have f1 := four_frozen K2.out 1
    have HRS := hide (two_set K2.out (.int .i64 0) (.slice none 0 0))
    have HAS := hide (two_aside (b := w.heap.size + 1 + 1) (Aside.refl (w.heap.size + 1 + 1) (w.heap.size + 1 + 1 + 1) w1) (Nat.le_refl _) (Nat.lt_succ_self _) (.int .i64 0) (.slice none 0 0))
    have HBF := hide (HB1.out.trans (HAS.out.below (B := w.heap.size) (by omega) (by omega)))
    go_wp2_with fail
    refine bodyPost_ret (results_cell rfl rfl (run_loadVar_row _ _ _ _ _ _ _ HRS.out Tryz.underlying26 rfl (by kernel_rfl))) rfl ⟨.agg #[.int .i64 0, .slice none 0 0], rfl, none, 0, ?_, ⟨Nat.le_refl _, .inl ?_⟩, HBF.out⟩
    · rw [HE.out.1, HE.out.2]; rfl
    · rw [HE.out.2]; exact ⟨rfl, rfl⟩
  | true =>
    have HCK := hide (mapOk_chip (ftlOk_map hok))
    have HE : Hid (bz = z ∧ bq = brokeQ z qs (jobsOf (planR z qs ps op st kd at_ tx)) (doneN jobs (jobsOf (planR z qs ps op st kd at_ tx)).length) by_) := by rw [HBZ.out, HBQ.out]; unfold brokenZ brokenQ; rw [hok]; exact ⟨rfl, rfl⟩
    clear hok HBZ HBQ
    obtain ⟨c0, c1, c2, c3, c4⟩ := five_cells K0.out
    obtain ⟨p0, p1, p2, p3⟩ := four_cells K1.out
    go_wp2_with fail
    refine (implPlan_any z a n cap qs am m cm ps op st kd at_ sp tx w1 HS1.out (by omega) hn HF.out HP1.out (by omega) hm hcl (HT0.out.here HB1.out) (HE0.out.here HB1.out) ((HN0 _).out HB1.out)).mono ?_
    rintro e w3 ⟨aj, cj, rfl, hJ, b3⟩
    obtain ⟨q9, hq9, hkind⟩ := plan_all (z := z) (qs := qs) (ps := ps) (op := op) (st := st) (kd := kd) (a := at_) (tx := tx)
    have hjl := jobsOf_len z qs ps op st kd at_ tx
    obtain ⟨js, hjs⟩ : ∃ js, js = jobsOf (planR z qs ps op st kd at_ tx) := ⟨_, rfl⟩
    rw [← hjs] at hJ HE hq9 hkind hjl
    rw [← hjs]
    clear hjs
    obtain ⟨fl, hfl⟩ : ∃ fl, fl = (planR z qs ps op st kd at_ tx).isSome := ⟨_, rfl⟩
    rw [← hfl]
    clear hfl
    obtain ⟨L, hL⟩ : ∃ L, L = js.length := ⟨_, rfl⟩
    rw [← hL] at HE hjl
    rw [← hL]
    have HLJ := hide hL
    have hJ3 : JbOwn w1.heap.size w3 (.slice aj L cj) js := by rw [hL]; exact hJ
    have HJO := hide (jb_jobs (by rw [← hL]; exact hJ3))
    rw [← hL] at HJO
    have HJW := hide (jb_where hJ3)
    have HQ9 := hide hq9
    have HKD := hide hkind
    have K03 := hide (block_on K0.out b3)
    have K23 := hide (block_on K2.out b3)
    have HS3 := hide (HS1.out.later b3 (by omega))
    have HB3 := hide (below_here HB1.out b3)
    have hs3 := b3.size
    clear hL hJ hJ3 hq9 hkind b3 K0 K1 K2 HS1 HP1 HB1 c0 c1 c2 c3 c4 p0 p1 p2 p3
    obtain ⟨K, hK⟩ : ∃ K, K = doneN jobs L := ⟨_, rfl⟩
    have hKL : K ≤ L := by rw [hK]; exact doneN_le jobs L
    have HKK := hide hK
    rw [← hK] at HE
    clear hK
    obtain ⟨qk, hqk⟩ := allQ_front HQ9.out K
    have HQK := hide hqk
    have HCQ := hide (allQ_ok HCK.out hqk)
    have hlk := allQ_length hqk
    rw [HLQ.out] at hlk
    have HLK := hide hlk
    clear hlk
    have HALL := hide (all_of HCK.out hqk)
    clear hqk
    have HFJ : Hid (∀ x ∈ js, jbFits x) := fun x hx => by
      obtain ⟨i, hi, rfl⟩ := List.mem_iff_getElem.1 hx
      obtain ⟨qi, hqi⟩ := allQ_front HQ9.out i
      have e9 : jbAt js i = js[i] := by unfold jbAt; rw [List.getD_eq_getElem?_getD, List.getElem?_eq_getElem hi]; rfl
      have hcan := allQ_can HQ9.out hi hqi
      rw [e9] at hcan
      exact can_small hcan (allQ_ok HCK.out hqi) (HKD.out _ (List.getElem_mem hi))
    have HSL : Hid (∀ w9, (Instr.sliceAt 99 (.slice aj L cj) none (some (.int .i64 (K : Int))) none).run Tryz.prog w9 = .ok (.slice aj K cj) w9) := by
      rcases HJW.out with ⟨rfl, e1, rfl, _⟩ | ⟨p, rfl, _, e2⟩
      · have e3 : K = 0 := by omega
        rw [e1, e3]
        exact fun w9 => by kernel_rfl
      · exact slice_first3 (P := Tryz.prog) 99 119 Tryz.underlying99 (fun _ => by kernel_rfl) p 0 L cj K hKL e2
    have HJT := hide (jobs_take HJO.out.jobs hKL)
    have HJX : Hid (∀ x ∈ js.take K, jbFits x) := fun x hx => HFJ.out x (List.mem_of_mem_take hx)
    go_upto_region 4 with fail
    go_cut [11] (fun v wx => v = .int .i64 (K : Int) ∧ Below w3.heap.size w3 wx)
    case first =>
      go_wp2_with fail
      go_meet
      exact ⟨by rw [done_min, ← HKK.out], Below.refl _ _⟩
    case rest =>
      obtain ⟨rfl, hb4⟩ := hcut
      obtain ⟨w4, hw4⟩ : ∃ w4, w4 = wc := ⟨_, rfl⟩
      subst hw4
      have K04 := hide (block_on K03.out hb4)
      have K24 := hide (block_on K23.out hb4)
      have HS4 := hide (HS3.out.later hb4 (by omega))
      have HB4 := hide (below_here HB3.out hb4)
      have HJ4 := hide (HJO.out.later hb4 (Nat.le_refl _))
      have HT4 : Hid (Jobs w1.heap.size w3.heap.size w4 aj K (js.take K)) := HJT.out.later hb4 (Nat.le_refl _)
      have hs4 := hb4.size
      clear hb4 K03 K23 HS3 HB3 HJO HJT
      have HCL : ∀ w', Hid (Below w4.heap.size w4 w' → Calls Tryz.prog 85 #[.agg #[.int .i64 z, .slice a n cap], .slice aj K cj] w' fun e w'' => ∃ v, e = .returned (.tuple #[v, .bool true]) ∧ ChipAns w' z qk v w'') := fun w' hb' => by
        have hs' := hb'.size
        have h9 := implDidAll_ans z a n cap qs aj K cj (js.take K) w' (HS4.out.later hb' (by omega)) (by omega) hn HF.out (HT4.out.later hb' (by omega)) (by omega) (by omega) HJX.out
        rw [HALL.out.1, HALL.out.2.1, HALL.out.2.2] at h9
        exact h9
      obtain ⟨c0, c1, c2, c3, c4⟩ := five_cells K04.out
      have hwz : w.heap.size < w4.heap.size := by omega
      have HK : ∀ w', Hid (Below w4.heap.size w4 w' → w'.cell? ⟨w.heap.size, 0, none⟩ = some (.int .i64 z) ∧ w'.cell? ⟨w.heap.size, 1, none⟩ = some (.slice a n cap)) := fun w' hb' => ⟨(hb'.cell (p := ⟨_, _, none⟩) hwz).trans c0, (hb'.cell (p := ⟨_, _, none⟩) hwz).trans c1⟩
      have hsl := HSL.out
      go_upto_region 5 with fail
      go_cut [12] (fun v wx => ∃ b l h a5 c5, v = .pointer (some ⟨b, 0, none⟩) ∧ VarC w4.heap.size b l h z qk a5 c5 wx ∧ Below w4.heap.size w4 wx)
      case first =>
        have HB0 : Hid (Below w4.heap.size w4 w4.drew) := (Below.refl w4.heap.size w4).drew
        have HBa : Hid (Below w4.heap.size w4 (w4.alloc zC).drew) := ((Below.refl w4.heap.size w4).alloc (Nat.le_refl _) _).drew
        have HEa : Hid ((w4.alloc zC).drew.heap[w4.heap.size]? = some zC) := heap_new w4 _
        have hza : (w4.alloc zC).drew.heap.size = w4.heap.size + 1 := by simp
        go_region_held3 (fun w' => w'.cell? ⟨w.heap.size, 0, none⟩ = some (.int .i64 z) ∧ w'.cell? ⟨w.heap.size, 1, none⟩ = some (.slice a n cap))
          (first | exact (HK _).out HB0.out | exact (HK _).out HBa.out | exact (HK _).out HB5.out | exact (HK _).out HBS.out | exact (HK _).out HB6.out | exact (HK _).out (one_belowB HB5.out (Nat.le_refl _) _) | exact ⟨c0, c1⟩ | fail)
          (first
            | (go_at_call 85; refine ((HCL _).out HB0.out).mono ?_; rintro e w5 ⟨v, rfl, a5, k5, rfl, q5, b5⟩; have HB5 := hide (below_here HB0.out b5); have hs5 := b5.size; have HB6 := hide (HB5.out.alloc HB5.out.size zC); have HBS := hide (HB5.out.alloc HB5.out.size (.cells #[.int .i64 z, .slice a5 qk.length k5] 26)); have HVV : Hid (VarC w4.heap.size w5.heap.size w4.heap.size w5.heap.size z qk a5 k5 (w5.alloc (.cells #[.int .i64 z, .slice a5 qk.length k5] 26))) := varC_new (w1 := w4) q5 (Nat.le_refl _) HB5.out.size)
            | (go_at_call 85; refine ((HCL _).out HBa.out).mono ?_; rintro e w5 ⟨v, rfl, a5, k5, rfl, q5, b5⟩; have HB5 := hide (below_here HBa.out b5); have hs5 := b5.size; have E5 := hide (block_on HEa.out b5); obtain ⟨e0, e1⟩ := two_cells E5.out; have f0 := four_frozen E5.out 0; have f1 := four_frozen E5.out 1; have HBS := hide (store_below (b := w4.heap.size) HB5.out (Nat.le_refl _) (.int .i64 z) (.slice a5 qk.length k5)); have HVV := hide (varC_store (s := w4.heap.size) (z := z) (c := k5) (w1 := (w4.alloc zC).drew) E5.out q5 (Nat.le_refl _) (by rw [hza]; omega) (by rw [hza]; omega))))
        all_goals
          clear HB0 HBa HEa HK HCL c0 c1 c2 c3 c4 b5 HB5 hs5 q5
          go_wp2_with fail
          go_meet
          exact ⟨_, _, _, _, _, rfl, HVV.out, HBS.out⟩
      case rest =>
        obtain ⟨bv, lv, hv, av, cv, rfl, hV, hb5⟩ := hcut
        obtain ⟨w5, hw5⟩ : ∃ w5, w5 = wc := ⟨_, rfl⟩
        subst hw5
        have HV5 := hide hV
        have K25 := hide (block_on K24.out hb5)
        have HB5 := hide (below_here HB4.out hb5)
        have HJ5 := hide (HJ4.out.later hb5 (by omega))
        have hs5 := hb5.size
        clear hV hb5 K24 K04 HB4 HJ4 HS4 HT4 HK HCL c0 c1 c2 c3 c4 hsl
        obtain ⟨x0, x1⟩ := HV5.out.cells
        obtain ⟨p0, p1⟩ := two_cells K25.out
        have f0 := four_frozen K25.out 0
        have f1 := four_frozen K25.out 1
        have hbv := HV5.out.lt
        have hbv2 := HV5.out.atB
        have hlv2 := HV5.out.atL
        by_cases hlt : K < L
        · have hkl : K < js.length := by rw [← HLJ.out]; exact hlt
          have hkL : (K : Int) < (L : Int) := by omega
          have hfj := HFJ.out (jbAt js K) (by unfold jbAt; rw [List.getD_eq_getElem?_getD, List.getElem?_eq_getElem hkl]; exact List.getElem_mem hkl)
          have htx := hfj.2.2
          have HE2 : Hid (bq = cutJ z qk (jbAt js K) by_) := by
            show _ = _
            rw [HE.out.2]
            unfold brokeQ
            rw [if_pos hkl, HQK.out]
            rfl
          have HC2 := hide (cut_of (j := jbAt js K) (b := by_) HCQ.out)
          obtain ⟨b, off, rfl, _, hb, hc⟩ := HJ5.out.2.2 (by omega)
          obtain ⟨j0, j1, j2⟩ := job_cells (fun i hi => (hc i hi).1) (Below.refl w5.heap.size w5) (show b < w5.heap.size by omega) hlt
          clear hc hfj
          generalize jbAt js K = y at *
          obtain ⟨kd', sq', tx'⟩ := y
          dsimp only at j0 j1 j2 htx
          have HCC : Hid (Calls Tryz.prog 86 #[.agg #[.int .i64 z, .slice av qk.length cv], .agg #[.int .i64 kd', .int .i64 sq', .string tx'], .int .i64 by_] w5.drew fun e w'' => ∃ v, e = .returned v ∧ ChipAns w5.drew z (cutJ z qk (kd', sq', tx') by_) v w'') := by
            have h9 := implCut_ans z av qk.length cv qk kd' sq' tx' by_ w5.drew (HV5.out.squares.later (Below.refl w5.heap.size w5).drew HV5.out.hi_le) HV5.out.hi_le (by have := HLK.out; omega) (fun x hx => chipOk_fits HCQ.out x hx) htx
            rw [HC2.out.1, HC2.out.2] at h9
            exact h9
          go_upto_region 7 with fail
          go_region_with ((go_at_call 86; refine HCC.out.mono ?_; rintro e w6 ⟨v, rfl, a6, k6, rfl, q6, b6⟩; have K26 := hide (block_on (w := w5.drew) K25.out b6); have HB6 := hide (below_here HB5.out.drew b6); have HQ6 := hide q6; have hs6 : w5.heap.size ≤ w6.heap.size := b6.size; clear q6 b6; obtain ⟨p0, p1⟩ := two_cells K26.out; have f0 := four_frozen K26.out 0; have f1 := four_frozen K26.out 1))
          all_goals
            have HRS := hide (two_set K26.out (.int .i64 z) (.slice a6 (cutJ z qk (kd', sq', tx') by_).length k6))
            have HAS := hide (two_aside (b := w.heap.size + 1 + 1) (Aside.refl (w.heap.size + 1 + 1) (w.heap.size + 1 + 1 + 1) w6) (Nat.le_refl _) (Nat.lt_succ_self _) (.int .i64 z) (.slice a6 (cutJ z qk (kd', sq', tx') by_).length k6))
            have HBF := hide (HB6.out.trans (HAS.out.below (B := w.heap.size) (by omega) (by omega)))
            have HQF := hide (HQ6.out.aside HAS.out (.inl (by show w.heap.size + 1 + 1 + 1 ≤ w5.heap.size; omega)))
            go_wp2_with fail
            refine bodyPost_ret (results_cell rfl rfl (run_loadVar_row _ _ _ _ _ _ _ HRS.out Tryz.underlying26 rfl (by kernel_rfl))) rfl ⟨.agg #[.int .i64 z, .slice a6 (cutJ z qk (kd', sq', tx') by_).length k6], rfl, ?_⟩
            rw [HE.out.1, HE2.out]
            exact ⟨a6, k6, rfl, HQF.out.wide (by show w.heap.size ≤ w5.heap.size; omega) HAS.out.size (Nat.le_refl _), HBF.out⟩
        · obtain rfl : K = L := by omega
          have HE2 : Hid (bq = qk) := by
            show _ = _
            rw [HE.out.2]
            unfold brokeQ
            rw [if_neg (by rw [← HLJ.out]; omega), HQK.out]
            rfl
          have HRS := hide (two_set K25.out (.int .i64 z) (.slice av qk.length cv))
          have HAS := hide (two_aside (b := w.heap.size + 1 + 1) (Aside.refl (w.heap.size + 1 + 1) (w.heap.size + 1 + 1 + 1) w5) (Nat.le_refl _) (Nat.lt_succ_self _) (.int .i64 z) (.slice av qk.length cv))
          have HBF := hide (HB5.out.trans (HAS.out.below (B := w.heap.size) (by omega) (by omega)))
          have HQF := hide (HV5.out.ans.aside HAS.out (.inl (by omega)))
          have hhl := HV5.out.hi_le
          go_wp2_with fail
          refine bodyPost_ret (results_cell rfl rfl (run_loadVar_row _ _ _ _ _ _ _ HRS.out Tryz.underlying26 rfl (by kernel_rfl))) rfl ⟨.agg #[.int .i64 z, .slice av qk.length cv], rfl, ?_⟩
          rw [HE.out.1, HE2.out]
          exact ⟨av, cv, rfl, HQF.out.wide (by omega) (Nat.le_trans hhl HAS.out.size) (Nat.le_refl _), HBF.out⟩
end Go.Proofs.YtoocbagnfkgbfaaGreatDoor
