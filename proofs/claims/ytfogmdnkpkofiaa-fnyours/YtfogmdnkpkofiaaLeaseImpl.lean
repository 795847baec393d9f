/- Chapter 16's program: a lease behind an interface, its drift by an assertion; Right, Least, Mine, Yours, Holds. -/
import Derived.Test.YtfogmdnkpkofiaaLeaseSpec
import Derived.Stop.Asserts
import Derived.RowKitTokens
namespace Go.Proofs.Ytfogmdnkpkofiaa
open Go.RowKit Go.Extern.Stop Go.Stop Go.Extern
set_option linter.unusedVariables false
set_option linter.unusedSimpArgs false
set_option maxRecDepth 20000

theorem isTime_any (n : Int) (w : World) : Calls Try.prog 39 #[.int .i64 n] w fun r w' => r = .returned (.bool (tmOk n)) ∧ w = w' := by
  by_cases h : 0 ≤ n
  · go_enter Try.func39, Try.ntmps39
    go_wp2_with fail
    go_ret
    exact ⟨by simp [tmOk, inB, h], rfl⟩
  · go_enter Try.func39, Try.ntmps39
    go_wp2_with fail
    go_ret
    exact ⟨by simp [tmOk, inB] <;> omega, rfl⟩
theorem isDrift_any (n : Int) (w : World) : Calls Try.prog 40 #[.int .i64 n] w fun r w' => r = .returned (.bool (drOk n)) ∧ w = w' := by
  by_cases h : 0 ≤ n
  · go_enter Try.func40, Try.ntmps40
    go_wp2_with fail
    go_ret
    exact ⟨by simp [drOk, inB, h], rfl⟩
  · go_enter Try.func40, Try.ntmps40
    go_wp2_with fail
    go_ret
    exact ⟨by simp [drOk, inB] <;> omega, rfl⟩
theorem slowest_any {d : Int} (h0 : 0 ≤ d) (h1 : d ≤ 100000) (w : World) : Calls Try.prog 64 #[.int .i64 d] w fun r w' => r = .returned (.int .i64 (1000000 - d)) ∧ w = w' := by
  go_enter Try.func64, Try.ntmps64
  go_wp2_with fail
  go_ret
  exact ⟨rfl, rfl⟩
theorem fastest_any {d : Int} (h0 : 0 ≤ d) (h1 : d ≤ 100000) (w : World) : Calls Try.prog 63 #[.int .i64 d] w fun r w' => r = .returned (.int .i64 (1000000 + d)) ∧ w = w' := by
  go_enter Try.func63, Try.ntmps63
  go_wp2_with fail
  go_ret
  exact ⟨rfl, rfl⟩

theorem leastI_neg {r d : Int} (h : ¬ 0 ≤ leastI r d) : (tmOk r && drOk d) = false := by
  cases hok : tmOk r && drOk d with
  | false => rfl
  | true =>
    rw [leastI_at hok] at h
    simp only [Bool.and_eq_true] at hok
    obtain ⟨r0, r1⟩ := tmOk_in hok.1
    obtain ⟨d0, d1⟩ := drOk_in hok.2
    have hp := prod_small r0 r1 (c := 1000000 - d) (by omega) (by omega)
    omega
/-- Right, told by the least count and a quotient. -/
theorem right_least {r n d : Int} (hok : (tmOk r && drOk d) = true) : rightB r n d = (decide (leastI r d ≤ n) && decide (n ≤ r * (1000000 + d) / 1000000)) := by
  rw [leastI_at hok]
  have hok' := hok
  simp only [Bool.and_eq_true] at hok
  obtain ⟨r0, r1⟩ := tmOk_in hok.1
  obtain ⟨d0, d1⟩ := drOk_in hok.2
  have hp := prod_small r0 r1 (c := 1000000 - d) (by omega) (by omega)
  have hq := prod_small r0 r1 (c := 1000000 + d) (by omega) (by omega)
  have hq2 : r * (1000000 + d) ≤ 1099511627776 * 1100000 := hq.2
  unfold rightB
  rw [hok.1, hok.2]
  generalize r * (1000000 - d) = x at *
  generalize r * (1000000 + d) = y at *
  rw [Bool.eq_iff_iff]
  simp only [inB, Bool.true_and, Bool.and_eq_true, decide_eq_true_eq]
  constructor
  · rintro ⟨⟨a, b⟩, c, e⟩
    exact ⟨by omega, by omega⟩
  · rintro ⟨a, b⟩
    exact ⟨⟨by omega, by omega⟩, by omega, by omega⟩
theorem noDriftX (v : Value) (xT : TypeId) (w : World) : (Instr.typeAssert (.iface 94 v) xT 104 true).run Try.prog w = .ok (.tuple #[.nilIface, .bool false]) w := run_typeAssert_lacksB Try.underlying104 (by kernel_rfl) (by kernel_rfl) v xT w
theorem hasDriftD (v : Value) (xT : TypeId) (w : World) : (Instr.typeAssert (.iface 96 v) xT 104 true).run Try.prog w = .ok (.tuple #[.iface 96 v, .bool true]) w := run_typeAssert_hasB Try.underlying104 (by kernel_rfl) v xT w
theorem methodDrift (v : Value) (w : World) : (Go.method 232 96 v "loop.example/g00223/impl.drift").run Try.prog w = .ok (104, v) w := by kernel_rfl
theorem methodSpanX (v : Value) (w : World) : (Go.method 232 94 v "loop.example/g00223/impl.span").run Try.prog w = .ok (103, v) w := by kernel_rfl
theorem methodSpanD (v u : Value) (w : World) : (Go.method 232 96 (.agg #[v, u]) "loop.example/g00223/impl.span").run Try.prog w = .ok (103, .agg #[v]) w := by kernel_rfl
theorem span_any (l : Int) (w : World) : Calls Try.prog 103 #[.agg #[.int .i64 l]] w fun e w' => e = .returned (.int .i64 l) ∧ Below w.heap.size w w' := by
  go_enter Try.func103, Try.ntmps103
  go_wp2_with fail
  go_ret
  exact ⟨rfl, (Below.refl _ _).alloc (Nat.le_refl _) _⟩
theorem drift_any (l d : Int) (w : World) : Calls Try.prog 104 #[.agg #[.int .i64 l, .int .i64 d]] w fun e w' => e = .returned (.int .i64 d) ∧ Below w.heap.size w w' := by
  go_enter Try.func104, Try.ntmps104
  go_wp2_with fail
  go_ret
  exact ⟨rfl, (Below.refl _ _).alloc (Nat.le_refl _) _⟩
/-- A lease of a length and a drift. -/
def leaseV (l d : Int) : Value := if d = 0 then .iface 94 (.agg #[.int .i64 l]) else .iface 96 (.agg #[.int .i64 l, .int .i64 d])
theorem leaseOf_any (l d : Int) (w : World) : Calls Try.prog 42 #[.int .i64 l, .int .i64 d] w fun e w' => e = .returned (leaseV l d) ∧ Below w.heap.size w w' := by
  by_cases h : d = 0
  · subst h
    have HB0 : Hid (Below w.heap.size w (w.alloc (.cells #[.int .i64 l] 94))) := (Below.refl _ _).alloc (Nat.le_refl _) _
    go_enter Try.func42, Try.ntmps42
    go_wp2_with fail
    go_ret
    exact ⟨by unfold leaseV; rfl, HB0.out⟩
  · go_enter Try.func42, Try.ntmps42
    go_wp2_with fail
    go_ret
    refine ⟨by unfold leaseV; rw [if_neg h]; rfl, ?_⟩
    exact (Below.refl _ _).alloc (Nat.le_refl _) _
set_option maxHeartbeats 1600000 in
theorem driftOf_any (l d : Int) (w : World) : Calls Try.prog 62 #[leaseV l d] w fun e w' => e = .returned (.int .i64 d) ∧ Below w.heap.size w w' := by
  have nX := noDriftX
  have hD := hasDriftD
  have mD := methodDrift
  by_cases h : d = 0
  · subst h
    rw [show leaseV l 0 = .iface 94 (.agg #[.int .i64 l]) from rfl]
    go_enter Try.func62, Try.ntmps62
    go_wp2_with fail
    go_ret
    exact ⟨rfl, Below.refl _ _⟩
  · rw [show leaseV l d = .iface 96 (.agg #[.int .i64 l, .int .i64 d]) by unfold leaseV; rw [if_neg h]]
    go_enter Try.func62, Try.ntmps62
    go_wp2_with fail
    refine (drift_any _ _ _).mono ?_
    rintro e w1 ⟨rfl, b1⟩
    have HB := hide b1
    clear b1
    go_wp2_with fail
    go_ret
    exact ⟨rfl, HB.out⟩
set_option maxHeartbeats 1600000 in
theorem heldFor_any {l d : Int} (l0 : 0 ≤ l) (l1 : l ≤ 1099511627776) (d0 : 0 ≤ d) (d1 : d ≤ 100000) (w : World) : Calls Try.prog 46 #[leaseV l d] w fun e w' => e = .returned (.int .i64 (max (l * (1000000 - d) / (1000000 + d) - 1) 0)) ∧ Below w.heap.size w w' := by
  have hp := prod_small l0 l1 (c := 1000000 - d) (by omega) (by omega)
  have hd := div_between hp.1 (show 0 < 1000000 + d by omega)
  have hne : ¬ (1000000 : Int) + d = 0 := by omega
  have cD := hide (driftOf_any l d)
  have mX := methodSpanX
  have mS := methodSpanD
  by_cases h : d = 0
  · skip
    have hv : leaseV l d = .iface 94 (.agg #[.int .i64 l]) := by unfold leaseV; rw [if_pos h]
    rw [hv] at cD ⊢
    clear hv h
    by_cases hm : l * (1000000 - d) / (1000000 + d) - 1 < 0
    · have HE : Hid (max (l * (1000000 - d) / (1000000 + d) - 1) 0 = 0) := by show _ = _; omega
      go_enter Try.func46, Try.ntmps46
      go_wp2_with fail
      refine (cD.out _).mono ?_
      rintro e w1 ⟨rfl, b1⟩
      have HB1 := hide b1
      clear b1
      go_wp2_with fail
      refine (span_any _ _).mono ?_
      rintro e w2 ⟨rfl, b2⟩
      have HB2 := hide b2
      clear b2
      go_wp2_with fail
      refine (slowest_any d0 d1 _).mono ?_
      rintro e w1 ⟨rfl, rfl⟩
      go_wp2_with fail
      refine (fastest_any d0 d1 _).mono ?_
      rintro e w1 ⟨rfl, rfl⟩
      go_wp2_with fail
      go_ret
      exact ⟨by rw [HE.out]; rfl, HB1.out.trans (HB2.out.mono HB1.out.size)⟩
    · have HE : Hid (max (l * (1000000 - d) / (1000000 + d) - 1) 0 = l * (1000000 - d) / (1000000 + d) - 1) := by show _ = _; omega
      go_enter Try.func46, Try.ntmps46
      go_wp2_with fail
      refine (cD.out _).mono ?_
      rintro e w1 ⟨rfl, b1⟩
      have HB1 := hide b1
      clear b1
      go_wp2_with fail
      refine (span_any _ _).mono ?_
      rintro e w2 ⟨rfl, b2⟩
      have HB2 := hide b2
      clear b2
      go_wp2_with fail
      refine (slowest_any d0 d1 _).mono ?_
      rintro e w1 ⟨rfl, rfl⟩
      go_wp2_with fail
      refine (fastest_any d0 d1 _).mono ?_
      rintro e w1 ⟨rfl, rfl⟩
      go_wp2_with fail
      go_ret
      exact ⟨by rw [HE.out]; rfl, HB1.out.trans (HB2.out.mono HB1.out.size)⟩
  · skip
    have hv : leaseV l d = .iface 96 (.agg #[.int .i64 l, .int .i64 d]) := by unfold leaseV; rw [if_neg h]
    rw [hv] at cD ⊢
    clear hv h
    by_cases hm : l * (1000000 - d) / (1000000 + d) - 1 < 0
    · have HE : Hid (max (l * (1000000 - d) / (1000000 + d) - 1) 0 = 0) := by show _ = _; omega
      go_enter Try.func46, Try.ntmps46
      go_wp2_with fail
      refine (cD.out _).mono ?_
      rintro e w1 ⟨rfl, b1⟩
      have HB1 := hide b1
      clear b1
      go_wp2_with fail
      refine (span_any _ _).mono ?_
      rintro e w2 ⟨rfl, b2⟩
      have HB2 := hide b2
      clear b2
      go_wp2_with fail
      refine (slowest_any d0 d1 _).mono ?_
      rintro e w1 ⟨rfl, rfl⟩
      go_wp2_with fail
      refine (fastest_any d0 d1 _).mono ?_
      rintro e w1 ⟨rfl, rfl⟩
      go_wp2_with fail
      go_ret
      exact ⟨by rw [HE.out]; rfl, HB1.out.trans (HB2.out.mono HB1.out.size)⟩
    · have HE : Hid (max (l * (1000000 - d) / (1000000 + d) - 1) 0 = l * (1000000 - d) / (1000000 + d) - 1) := by show _ = _; omega
      go_enter Try.func46, Try.ntmps46
      go_wp2_with fail
      refine (cD.out _).mono ?_
      rintro e w1 ⟨rfl, b1⟩
      have HB1 := hide b1
      clear b1
      go_wp2_with fail
      refine (span_any _ _).mono ?_
      rintro e w2 ⟨rfl, b2⟩
      have HB2 := hide b2
      clear b2
      go_wp2_with fail
      refine (slowest_any d0 d1 _).mono ?_
      rintro e w1 ⟨rfl, rfl⟩
      go_wp2_with fail
      refine (fastest_any d0 d1 _).mono ?_
      rintro e w1 ⟨rfl, rfl⟩
      go_wp2_with fail
      go_ret
      exact ⟨by rw [HE.out]; rfl, HB1.out.trans (HB2.out.mono HB1.out.size)⟩
set_option maxHeartbeats 1600000 in
theorem waitedFor_any {l d : Int} (l0 : 0 ≤ l) (l1 : l ≤ 1099511627776) (d0 : 0 ≤ d) (d1 : d ≤ 100000) (w : World) : Calls Try.prog 41 #[leaseV l d] w fun e w' => e = .returned (.int .i64 (l * (1000000 + d) / (1000000 - d) + 1)) ∧ Below w.heap.size w w' := by
  have hp := prod_small l0 l1 (c := 1000000 + d) (by omega) (by omega)
  have hd := div_between hp.1 (show 0 < 1000000 - d by omega)
  have hne : ¬ (1000000 : Int) - d = 0 := by omega
  have cD := hide (driftOf_any l d)
  have mX := methodSpanX
  have mS := methodSpanD
  by_cases h : d = 0
  · skip
    have hv : leaseV l d = .iface 94 (.agg #[.int .i64 l]) := by unfold leaseV; rw [if_pos h]
    rw [hv] at cD ⊢
    clear hv h
    go_enter Try.func41, Try.ntmps41
    go_wp2_with fail
    refine (cD.out _).mono ?_
    rintro e w1 ⟨rfl, b1⟩
    have HB1 := hide b1
    clear b1
    go_wp2_with fail
    refine (span_any _ _).mono ?_
    rintro e w2 ⟨rfl, b2⟩
    have HB2 := hide b2
    clear b2
    go_wp2_with fail
    refine (fastest_any d0 d1 _).mono ?_
    rintro e w1 ⟨rfl, rfl⟩
    go_wp2_with fail
    refine (slowest_any d0 d1 _).mono ?_
    rintro e w1 ⟨rfl, rfl⟩
    go_wp2_with fail
    go_ret
    exact ⟨rfl, HB1.out.trans (HB2.out.mono HB1.out.size)⟩
  · skip
    have hv : leaseV l d = .iface 96 (.agg #[.int .i64 l, .int .i64 d]) := by unfold leaseV; rw [if_neg h]
    rw [hv] at cD ⊢
    clear hv h
    go_enter Try.func41, Try.ntmps41
    go_wp2_with fail
    refine (cD.out _).mono ?_
    rintro e w1 ⟨rfl, b1⟩
    have HB1 := hide b1
    clear b1
    go_wp2_with fail
    refine (span_any _ _).mono ?_
    rintro e w2 ⟨rfl, b2⟩
    have HB2 := hide b2
    clear b2
    go_wp2_with fail
    refine (fastest_any d0 d1 _).mono ?_
    rintro e w1 ⟨rfl, rfl⟩
    go_wp2_with fail
    refine (slowest_any d0 d1 _).mono ?_
    rintro e w1 ⟨rfl, rfl⟩
    go_wp2_with fail
    go_ret
    exact ⟨rfl, HB1.out.trans (HB2.out.mono HB1.out.size)⟩
set_option maxHeartbeats 800000 in
theorem implMine_any (r d : Int) (w : World) : Calls Try.prog 21 #[.int .i64 r, .int .i64 d] w fun e w' => e = .returned (.int .i64 (mineI r d)) ∧ Below w.heap.size w w' := by
  go_enter Try.func21, Try.ntmps21
  go_wp2_with fail
  refine (isTime_any _ _).mono ?_
  rintro e w1 ⟨rfl, rfl⟩
  cases h1 : tmOk r
  · have HE : Hid (mineI r d = -1) := mineI_no (by rw [h1]; rfl)
    go_wp2_with fail
    go_ret
    exact ⟨by rw [HE.out]; rfl, Below.refl _ _⟩
  · go_wp2_with fail
    refine (isDrift_any _ _).mono ?_
    rintro e w1 ⟨rfl, rfl⟩
    cases h2 : drOk d
    · have HE : Hid (mineI r d = -1) := mineI_no (by rw [h1, h2]; rfl)
      go_wp2_with fail
      go_ret
      exact ⟨by rw [HE.out]; rfl, Below.refl _ _⟩
    · have HE : Hid (mineI r d = max 0 (r * (1000000 - d) / (1000000 + d) - 1)) := mineI_at (by rw [h1, h2]; rfl)
      obtain ⟨r0, r1⟩ := tmOk_in h1
      obtain ⟨d0, d1⟩ := drOk_in h2
      clear h1 h2
      go_wp2_with fail
      refine (leaseOf_any _ _ _).mono ?_
      rintro e w1 ⟨rfl, b1⟩
      have HB1 := hide b1
      clear b1
      generalize hL : leaseV r d = L
      have HL := hide hL
      clear hL
      go_wp2_with fail
      rw [← HL.out]
      refine (heldFor_any r0 r1 d0 d1 _).mono ?_
      rintro e w2 ⟨rfl, b2⟩
      have HB2 := hide b2
      clear b2
      go_wp2_with fail
      go_ret
      exact ⟨by rw [HE.out, Int.max_comm]; rfl, HB1.out.trans (HB2.out.mono HB1.out.size)⟩
set_option maxHeartbeats 800000 in
theorem implYours_any (r d : Int) (w : World) : Calls Try.prog 17 #[.int .i64 r, .int .i64 d] w fun e w' => e = .returned (.int .i64 (yoursI r d)) ∧ Below w.heap.size w w' := by
  go_enter Try.func17, Try.ntmps17
  go_wp2_with fail
  refine (isTime_any _ _).mono ?_
  rintro e w1 ⟨rfl, rfl⟩
  cases h1 : tmOk r
  · have HE : Hid (yoursI r d = -1) := yoursI_no (by rw [h1]; rfl)
    go_wp2_with fail
    go_ret
    exact ⟨by rw [HE.out]; rfl, Below.refl _ _⟩
  · go_wp2_with fail
    refine (isDrift_any _ _).mono ?_
    rintro e w1 ⟨rfl, rfl⟩
    cases h2 : drOk d
    · have HE : Hid (yoursI r d = -1) := yoursI_no (by rw [h1, h2]; rfl)
      go_wp2_with fail
      go_ret
      exact ⟨by rw [HE.out]; rfl, Below.refl _ _⟩
    · have HE : Hid (yoursI r d = r * (1000000 + d) / (1000000 - d) + 1) := yoursI_at (by rw [h1, h2]; rfl)
      obtain ⟨r0, r1⟩ := tmOk_in h1
      obtain ⟨d0, d1⟩ := drOk_in h2
      clear h1 h2
      go_wp2_with fail
      refine (leaseOf_any _ _ _).mono ?_
      rintro e w1 ⟨rfl, b1⟩
      have HB1 := hide b1
      clear b1
      generalize hL : leaseV r d = L
      have HL := hide hL
      clear hL
      go_wp2_with fail
      rw [← HL.out]
      refine (waitedFor_any r0 r1 d0 d1 _).mono ?_
      rintro e w2 ⟨rfl, b2⟩
      have HB2 := hide b2
      clear b2
      go_wp2_with fail
      go_ret
      exact ⟨by rw [HE.out]; rfl, HB1.out.trans (HB2.out.mono HB1.out.size)⟩
theorem holds_no {f n l d : Int} (h : (tmOk f && (tmOk n && decide (f ≤ n))) = false) : holdsB f n l d = false := by
  unfold holdsB
  cases h1 : tmOk f
  · rfl
  · cases h2 : tmOk n
    · rfl
    · rw [h1, h2] at h
      simp only [Bool.true_and] at h ⊢
      rw [h]
      simp
theorem holds_at {f n l d : Int} (h1 : tmOk f = true) (h2 : tmOk n = true) (h3 : f ≤ n) : holdsB f n l d = decide (n - f < mineI l d) := by
  unfold holdsB
  rw [h1, h2, decide_eq_true h3]
  cases h : tmOk l && drOk d with
  | false =>
    rw [mineI_no h]
    rw [decide_eq_false (by omega : ¬ n - f < -1)]
    cases h4 : tmOk l
    · rfl
    · rw [h4, Bool.true_and] at h
      rw [h]; rfl
  | true =>
    simp only [Bool.and_eq_true] at h
    rw [h.1, h.2]
    simp
end Go.Proofs.Ytfogmdnkpkofiaa
