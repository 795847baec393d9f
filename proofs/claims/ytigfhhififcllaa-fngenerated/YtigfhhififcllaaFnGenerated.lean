/- For every slice of bytes the law FnGenerated returns true and leaves its argument as it was; no condition. -/
import Derived.Test.YtigfhhififcllaaRows
import Derived.Test.YtigfhhififcllaaFieldLaw
import Derived.Test.YtigfhhififcllaaLawBase
import Derived.WalkKit
import Derived.ProofKit
import Derived.OpenShut
import Derived.ShutString
import Derived.ChangeOld
import Derived.Below
namespace Go.Proofs.Ytigfhhififcllaa.fnGenerated
open Go.ChangeShapes Go.WideShapes Go.ChangeAt Go.RowKit
open Go.ChangeMaps (open_string shut_string)
set_option linter.unusedVariables false

theorem own : ownKnob Try.prog.godebug = none := by kernel_rfl
theorem laidOut : laidOutB Try.prog = true := by kernel_rfl

/-- WHAT THE WALK IS TOLD OF A SLICE OF INTEGERS THAT CAME IN: it is nil; or it leads to a row of 'cap' cells, the numbers 'zs' (the first 'len' are its elements, the rest its spare room), each fitting its kind. -/
def IsRow (k : IntKind) (w : World) (a : Option Addr) (len cap : Nat) (zs : List Int) : Prop :=
  (a = none ∧ len = 0 ∧ cap = 0 ∧ zs = []) ∨
  ∃ x, a = some x ∧ len ≤ cap ∧ cap ≤ maxLen ∧ zs.length = cap ∧ (∀ i, i < zs.length → w.cell? (x.add i) = some (.int k (zs.getD i 0))) ∧ ∀ n ∈ zs, (Lit.int k n).wf = true

theorem infoBool : (Try.prog.info? 4).map (fun i => (i.zero, i.size, i.bytes)) = some (some (.bool false), 1, 1) := by kernel_rfl
/-- Which numbers have been among the first powers of 2. -/
def ups (k : Nat) : List Nat := (List.range k).map Field.up
def seenAt (k j : Nat) : Value := .bool ((ups k).contains j)
theorem seen_no {k : Nat} (hk : k < 255) : seenAt k (Field.up k) = .bool false := by
  unfold seenAt ups
  congr 1
  rw [List.contains_eq_mem, decide_eq_false_iff_not, List.mem_map]
  rintro ⟨i, hi, e⟩
  rw [List.mem_range] at hi
  exact Field.up_apart hi hk e
theorem seen_step (k j : Nat) : (if j = Field.up k then Value.bool true else seenAt k j) = seenAt (k + 1) j := by
  have h : ups (k + 1) = ups k ++ [Field.up k] := by unfold ups; rw [List.range_succ, List.map_append]; rfl
  unfold seenAt
  rw [h, List.contains_eq_mem, List.contains_eq_mem]
  by_cases e : j = Field.up k
  · rw [if_pos e, decide_eq_true (by rw [List.mem_append, e]; exact .inr (List.mem_singleton.2 rfl))]
  · rw [if_neg e]
    by_cases m : j ∈ ups k
    · rw [decide_eq_true m, decide_eq_true (List.mem_append.2 (.inl m))]
    · rw [decide_eq_false m, decide_eq_false]
      intro m'
      rcases List.mem_append.1 m' with m' | m'
      · exact m m'
      · exact e (List.mem_singleton.1 m')
theorem seen_none (j : Nat) : seenAt 0 j = .bool false := rfl
theorem pow2_to (k : Nat) (hk : k < 255) (w : World) :
    Calls Try.prog 36 #[.int .i64 2, .int .i64 (k : Int)] w fun e w' => e = .returned (.int .i64 (Field.up k : Nat)) ∧ Below w.heap.size w w' := by
  refine power_to 2 k _ (by omega) ?_ w
  have := powI_nat (a := 2) (n := k) (by omega)
  rw [Field.pow_two] at this
  exact this
theorem twice_to (k : Nat) (w : World) :
    Calls Try.prog 30 #[.int .i64 (Field.up k : Nat), .int .i64 2] w fun e w' => e = .returned (.int .i64 (Field.up (k + 1) : Nat)) ∧ Below w.heap.size w w' := by
  refine prod_to _ 2 _ ?_ w
  have := mulI_nat (a := Field.up k) (b := 2) (Field.up_lt k) (by omega)
  rw [Field.mul_twice' ⟨_, Field.up_lt k⟩] at this
  exact this
set_option maxHeartbeats 1600000 in
set_option maxRecDepth 100000 in

theorem walk (a0 : Option Addr) (len0 cap0 : Nat) (z0 : List Int) (w : World) (w0 : IsRow .u8 w a0 len0 cap0 z0) :
    Calls Try.prog 5 #[.slice a0 len0 cap0] w fun e w' => e = .returned (.bool true) ∧ Below w.heap.size w w' := by
  have hlen : len0 ≤ 9223372036854775807 := by
    rcases w0 with ⟨_, rfl, _, _⟩ | ⟨x, _, hl, hm, _⟩
    · omega
    · unfold maxLen at hm; omega
  clear w0
  by_cases hbig : 4096 < len0
  · have hb' : decide (4096 < len0) = true := by simpa using hbig
    go_enter Try.func5, Try.ntmps5
    go_wp2_with fail
    refine (big_any a0 len0 cap0 w hlen).mono ?_
    rintro e w1 ⟨rfl, rfl⟩
    go_wp2_with fail
    go_ret
    exact ⟨rfl, Below.refl _ _⟩
  · have hb' : decide (4096 < len0) = false := by simpa using hbig
    clear hbig
    have hmk := make_row (P := Try.prog) 46 4 (.bool false) 1 Try.underlying46 infoBool rfl 256 256 256 256 rfl rfl (by omega) (by omega) (by omega) w
    go_enter Try.func5, Try.ntmps5
    go_wp2_with fail
    refine (big_any a0 len0 cap0 w hlen).mono ?_
    rintro e w1 ⟨rfl, rfl⟩
    go_wp2_with fail
    go_loopw [4, 5] (fun x i wr => ∃ k : Nat, k ≤ 255 ∧ i = .int .i64 (k : Int) ∧ x = .int .i64 (Field.up k : Nat) ∧ Hid (Owned w.heap.size (w.heap.size + 1) wr (some ⟨w.heap.size, 0, none⟩) 256 (seenAt k) ∧ Below w.heap.size w wr)) (fun _ i _ => 255 - (intOf i).toNat)
    case atStart =>
      refine ⟨0, by omega, rfl, rfl, ?_, (Below.refl _ _).alloc (Nat.le_refl _) _⟩
      exact owned_of_row ((World.rowIs_made w (.bool false) 256 4).congr (fun j _ => (seen_none j).symm)) (Nat.le_refl _) (Nat.lt_succ_self _) (by simp)
    case round =>
      obtain ⟨k, hk, rfl, rfl, HR⟩ := hrel
      by_cases hlt : k < 255
      · have hu1 := Field.up_lt k
        have hu0 := Field.up_pos k
        obtain ⟨u, hu⟩ : ∃ u, u = Field.up k := ⟨_, rfl⟩
        have HU := hide hu
        rw [← hu] at hu1 hu0 ⊢
        clear hu
        have hcell : wr.cell? ⟨w.heap.size, u, none⟩ = some (.bool false) := by
          rw [(HR.out.1.at0 hu1).1, HU.out, seen_no hlt]
        have hfr := (HR.out.1.at0 hu1).2.1
        have h1 : ¬ (u : Int) < 1 := by omega
        have h2 : ¬ (255 : Int) < (u : Int) := by omega
        clear hu0
        go_wp2_with fail
        refine Calls.mono (show Calls Try.prog 36 #[.int .i64 2, .int .i64 (k : Int)] wr (fun e w' => e = .returned (.int .i64 (u : Int)) ∧ Below wr.heap.size wr w') from HU.out ▸ pow2_to k hlt wr) ?_
        rintro e w2 ⟨rfl, b2⟩
        have hsz : w.heap.size < wr.heap.size := HR.out.1.1
        have HO := hide (HR.out.1.later b2 (by omega))
        have HB := hide (below_here HR.out.2 b2)
        have hcell2 : w2.cell? ⟨w.heap.size, u, none⟩ = some (.bool false) := by
          rw [(HO.out.at0 hu1).1, HU.out, seen_no hlt]
        have hfr2 := (HO.out.at0 hu1).2.1
        clear hcell hfr b2
        have HS : Hid (Owned w.heap.size (w.heap.size + 1) (w2.setCell ⟨w.heap.size, u, none⟩ (.bool true)) (some ⟨w.heap.size, 0, none⟩) 256 (seenAt (k + 1))) :=
          (HO.out.set0 hu1 (.bool true)).congr (fun j _ => by rw [HU.out]; exact seen_step k j)
        have HBS := hide (HB.out.setCell (p := ⟨w.heap.size, u, none⟩) (Nat.le_refl _) (.bool true))
        have hsz3 : w.heap.size < (w2.setCell ⟨w.heap.size, u, none⟩ (.bool true)).heap.size := HS.out.1
        clear HO HB
        go_wp2_with fail
        refine Calls.mono (show Calls Try.prog 30 #[.int .i64 (u : Int), .int .i64 2] (w2.setCell ⟨w.heap.size, u, none⟩ (.bool true)) (fun e w' => e = .returned (.int .i64 (Field.up (k + 1) : Nat)) ∧ Below (w2.setCell ⟨w.heap.size, u, none⟩ (.bool true)).heap.size (w2.setCell ⟨w.heap.size, u, none⟩ (.bool true)) w') from HU.out ▸ twice_to k _) ?_
        rintro e w4 ⟨rfl, b4⟩
        have HS4 := hide (HS.out.later b4 (by omega))
        have HB4 := hide (below_here HBS.out b4)
        clear b4 HS HBS
        go_wp2_with fail
        go_roundw
        case rel => exact ⟨k + 1, by omega, by go_num, rfl, HS4.out, HB4.out⟩
        case measure => simp [intOf]; omega
      · obtain rfl : k = 255 := by omega
        have h255 : ((Field.up 255 : Nat) : Int) = 1 := by rw [Field.up_255]; rfl
        rw [h255]
        clear h255
        go_wp2_with fail
        go_ret
        exact ⟨rfl, HR.out.2⟩

/-! ### THE ROW's STEP: WRITTEN OUT: LEAVE IT -/
set_option maxRecDepth 100000 in
theorem lifted (os : Os) (started : os.Started) (H : Type) (enc : TypeId × Value → H) :
    ReturnsInHanded {} Try.checked os 5 .any (Rows.fnGeneratedSpec.pre6 enc Try.prog Try.f5 Rows.fnGeneratedRow.domain false) (Rows.fnGeneratedSpec.post enc Try.prog Try.f5 false true false false) := by
  refine returnsInHanded_of_change (C := Try.checked) own started (by kernel_rfl) Try.func5
    (ChangeSpec.witness6 (enc := enc) (C := Try.checked) false ⟨#[], #[.slice none 0 0], []⟩ 8 (by kernel_rfl) (by kernel_rfl) (by kernel_rfl) (by kernel_rfl)) ?_
  intro W base args ds gs before hval0 hW hcnd _
  have hval : ∀ (j : Nat) t v, Try.f5.params[j]? = some t → args[j]? = some v → Value.okWide Try.prog W .any base t v := hval0
  have hW' := hW
  obtain ⟨p, q, hA0, hV, rfl, hfz, hnd⟩ := hW
  have hA : DataW.TrodAll enc Try.prog W 0 (fun _ => true) true Try.f5.params.toList args.toList ds p := hA0
  rw [Try.params5] at hA hval
  obtain ⟨v0, vs0, d0, ds0, p0, q0, hargs, rfl, rfl, h0, r0⟩ := trodAll_cons hA
  obtain ⟨rfl, rfl, rfl⟩ := trodAll_nil r0
  obtain rfl : args = #[v0] := by cases args; simp_all
  obtain ⟨rfl, rfl⟩ := trodVars_none hV
  obtain ⟨a0, len0, cap0, rfl⟩ := okWide_slice Try.underlying22 (hval 0 22 v0 rfl rfl)
  have k0 := h0
  have lt0 : ∀ x ∈ p0, x.block < W.heap.size := by obtain ⟨m, hm⟩ := k0; exact DataW.trod_lt m _ _ _ hm
  obtain ⟨z0, w0⟩ : ∃ zs, IsRow .u8 W a0 len0 cap0 zs := by
    obtain ⟨fuel, hf⟩ := h0
    rcases open_ints Try.underlying22 Try.underlying5 (by kernel_rfl) hf with ⟨hcs, _⟩ | ⟨x, l, c, zs, hcs, _, hl, hm, hz, _, hcell, hwz⟩
    · simp [Value.cells] at hcs
      obtain ⟨rfl, rfl, rfl⟩ := hcs
      exact ⟨[], .inl ⟨rfl, rfl, rfl, rfl⟩⟩
    · simp [Value.cells] at hcs
      obtain ⟨rfl, rfl, rfl⟩ := hcs
      exact ⟨zs, .inr ⟨_, rfl, hl, hm, by simpa using hz, hcell, hwz⟩⟩
  clear hA0 hval0
  refine (walk a0 len0 cap0 z0 W w0).mono fun e W' ⟨he, bel⟩ => ?_
  subst he
  exact ⟨_, rfl, _, _, _, [], _, [], hW', trodAll_mk1 (shut_bool Try.underlying4 _), (trodAll_cons_mk (Below.trod laidOut (by kernel_rfl) (of_decide_eq_true (by kernel_rfl)) k0 bel lt0) trodAll_mk0), rfl, bel.frame _, fun h => by cases h⟩

theorem over : Rows.fnGeneratedRow.holds Try.pinned (OpenSpec.ofChange Rows.fnGeneratedSpec) :=
  OpenClaim.holds_of_wide 5 Try.f5 rfl rfl rfl rfl rfl rfl rfl ⟨rfl, rfl, rfl, rfl, rfl⟩ rfl rfl rfl rfl rfl (by kernel_rfl) Try.func5 (by kernel_rfl)
    (of_decide_eq_true (by kernel_rfl)) (by unfold Func.isWrapper; first | (rw [if_pos (by decide +kernel)]; kernel_rfl) | (rw [if_neg (by decide +kernel)]; exact ⟨rfl, rfl⟩))
    (fun os started H enc _ => lifted os started H enc)

/-- ████ THE STATEMENT ████ -/
theorem proved : Rows.FnGeneratedSaid := over
#print axioms proved
end Go.Proofs.Ytigfhhififcllaa.fnGenerated
