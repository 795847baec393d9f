/- For every string the law FnExactReadNote returns true and leaves its argument as it was; the library's tables and errors that its row lists read as they are laid. -/
import Derived.Test.YthldcfiemfccpaaDoorRows
import Derived.Test.YthldcfiemfccpaaDoorRNoteSpecB
import Derived.Test.YthldcfiemfccpaaDoorRNoteImplG
import Derived.Test.YthldcfiemfccpaaDoorRSpareSpec3
import Derived.Test.YthldcfiemfccpaaDoorRNoteLaid
import Derived.WalkKit
import Derived.ProofKit
import Derived.OpenShut
import Derived.ShutString
namespace Go.Proofs.YthldcfiemfccpaaDoor.fnExactReadNote
open Go.ChangeShapes Go.WideShapes Go.ChangeAt Go.RowKit
open Go.ChangeMaps (open_string shut_string)
set_option linter.unusedVariables false      -- a walk need not use every 'w<i>' (that an integer argument fits its kind)

theorem own : ownKnob Tryd.prog.godebug = none := by kernel_rfl

set_option maxHeartbeats 4000000 in
set_option maxRecDepth 20000 in

theorem walk (a0 : ByteArray) (w0 : a0.size ≤ maxLen) (w : World) (hE : NEnv w) :
    Calls Tryd.prog 4 #[.string a0] w fun e w' => e = .returned (.bool true) ∧ Below w.heap.size w w' := by
  have HE := hide hE
  clear hE
  by_cases hs : (a0.size : Int) ≤ 1048576
  · have hs2 : a0.size ≤ 1048576 := by omega
    have HSP : ∀ W, Hid (Calls Tryd.prog 10 #[.string a0] W fun r w' => NoteAns W.heap.size w'.heap.size w' r (readY a0) (readNt a0).isSome ∧ Below W.heap.size W w') := fun W => specReadNote_any a0 hs2 W
    have HIM : ∀ W, Hid (Below w.heap.size w W → Calls Tryd.prog 11 #[.string a0] W fun r w' => (∃ av cap, r = .returned (.tuple #[noteV (readY a0) av (readY a0).vs.length cap, .bool (readNt a0).isSome]) ∧ (readY a0).vs.length ≤ cap ∧ OwnTexts W.heap.size w'.heap.size w' av (readY a0).vs.length (readY a0).vs) ∧ Below W.heap.size W w') := fun W hb => implReadNote_any a0 hs2 W (HE.out.here hb)
    have HVL : Hid ((readY a0).vs.length ≤ 1048576) := by
      show _ ≤ _
      unfold readY
      rw [readNt_guess]
      split
      · have := (guessN_small hs2).1
        show (guessN a0).vs.length ≤ _
        omega
      · exact Nat.zero_le _
    obtain ⟨ok, hok⟩ : ∃ ok, ok = (readNt a0).isSome := ⟨_, rfl⟩
    obtain ⟨⟨k, tt, e, q, a, tx, vs⟩, hy⟩ : ∃ y, y = readY a0 := ⟨_, rfl⟩
    rw [← hok, ← hy] at HSP HIM
    rw [← hy] at HVL
    clear hok hy
    unfold NoteAns at HSP
    unfold noteV at HSP HIM
    dsimp only at HSP HIM HVL
    obtain ⟨n, hn⟩ : ∃ n, n = vs.length := ⟨_, rfl⟩
    rw [← hn] at HSP HIM HVL
    have hn1 : n ≤ 1048576 := HVL.out
    clear hn
    have hokb : (ok != ok) = false := by cases ok <;> rfl
    go_enter Tryd.func4, Tryd.ntmps4
    go_wp2_with fail
    refine (HSP _).out.mono ?_
    rintro r v1 ⟨⟨p1, c1, rfl, hc1, ht1⟩, b1⟩
    obtain ⟨v2, hv2⟩ : ∃ v2, v2 = v1.alloc (.cells #[.int .i64 k, .int .i64 tt, .int .i64 e, .int .i64 q, .int .i64 a, .string tx, .slice p1 n c1] 27) := ⟨_, rfl⟩
    have hb2 : Below v1.heap.size v1 v2 := by rw [hv2]; exact (Below.refl _ _).alloc (Nat.le_refl _) _
    have HM2 : Hid (v2.heap[v1.heap.size]? = some (.cells #[.int .i64 k, .int .i64 tt, .int .i64 e, .int .i64 q, .int .i64 a, .string tx, .slice p1 n c1] 27)) := by rw [hv2]; exact heap_new _ _
    have HB2 := hide (below_here b1 hb2)
    have HT2 := hide (ht1.later hb2 (Nat.le_refl _))
    have HZ2 : Hid (v1.heap.size + 1 = v2.heap.size) := by show _ = _; rw [hv2]; simp
    have HZ1 : Hid (w.heap.size ≤ v1.heap.size) := b1.size
    clear hc1 ht1 b1 hb2
    go_upto_region 4 with fail
    rw [← hv2]
    clear hv2
    go_wp2_with fail
    refine ((HIM _).out HB2.out).mono ?_
    rintro r v3 ⟨⟨p3, c3, rfl, hc3, ht3⟩, b3⟩
    obtain ⟨v4, hv4⟩ : ∃ v4, v4 = v3.alloc (.cells #[.int .i64 k, .int .i64 tt, .int .i64 e, .int .i64 q, .int .i64 a, .string tx, .slice p3 n c3] 27) := ⟨_, rfl⟩
    have hb4 : Below v3.heap.size v3 v4 := by rw [hv4]; exact (Below.refl _ _).alloc (Nat.le_refl _) _
    have HG4 : Hid (v4.heap[v3.heap.size]? = some (.cells #[.int .i64 k, .int .i64 tt, .int .i64 e, .int .i64 q, .int .i64 a, .string tx, .slice p3 n c3] 27)) := by rw [hv4]; exact heap_new _ _
    have HB4 := hide (below_here (below_here HB2.out b3) hb4)
    have HM4 := hide (block_on (block_on HM2.out b3) hb4)
    have HT4 := hide ((HT2.out.later b3 HT2.out.2.1).later hb4 (Nat.le_trans HT2.out.2.1 b3.size))
    have HO4 := hide (ht3.later hb4 (Nat.le_refl _))
    have HZ3 : Hid (v2.heap.size ≤ v3.heap.size) := b3.size
    have HZ4 : Hid (v3.heap.size + 1 = v4.heap.size) := by show _ = _; rw [hv4]; simp
    clear hc3 ht3 b3 hb4 HB2 HM2 HT2
    obtain ⟨x0, x1, x2, x3, x4, x5, x6⟩ := note_cells HG4.out
    obtain ⟨y0, y1, y2, y3, y4, y5, y6⟩ := note_cells HM4.out
    go_upto_region 5 with fail
    rw [← hv4]
    clear hv4
    go_wp2_with fail
    refine (eqNote_same k tt e q a tx vs p3 p1 n c3 c1 v4 HO4.out.texts HT4.out hn1).mono ?_
    rintro r v5 ⟨rfl, b5⟩
    have HB5 := hide (below_here HB4.out b5)
    have HM5 := hide (block_on HM4.out b5)
    have HG5 := hide (block_on HG4.out b5)
    have HT5 := hide (HT4.out.later b5 HT4.out.2.1)
    have HO5 := hide (HO4.out.later b5 HO4.out.2.1)
    have HZ5 : Hid (v4.heap.size ≤ v5.heap.size) := b5.size
    clear b5 HB4 HM4 HG4 HT4 HO4 x0 x1 x2 x3 x4 x5 x6 y0 y1 y2 y3 y4 y5 y6
    obtain ⟨x0, x1, x2, x3, x4, x5, x6⟩ := note_cells HG5.out
    go_wp2_with fail
    refine (markNote_any k tt e q a tx vs p3 n c3 v5 HO5.out hn1).mono ?_
    rintro r v6 ⟨rfl, o6, a6⟩
    have HB6 : Hid (Below w.heap.size w v6) := HB5.out.trans (a6.below (B := w.heap.size) (by have := HZ1.out; have := HZ2.out; omega) HB5.out.size)
    have HM6 : Hid (v6.heap[v1.heap.size]? = some (.cells #[.int .i64 k, .int .i64 tt, .int .i64 e, .int .i64 q, .int .i64 a, .string tx, .slice p1 n c1] 27)) := (a6.block _ (Array.getElem?_eq_some_iff.1 HM5.out).1 (.inl (by have := HZ2.out; omega))).trans HM5.out
    have HG6 : Hid (v6.heap[v3.heap.size]? = some (.cells #[.int .i64 k, .int .i64 tt, .int .i64 e, .int .i64 q, .int .i64 a, .string tx, .slice p3 n c3] 27)) := (a6.block _ (Array.getElem?_eq_some_iff.1 HG5.out).1 (.inr (Nat.le_refl _))).trans HG5.out
    have HT6 := hide (HT5.out.aside a6 (.inl (by have := HZ2.out; omega)))
    have HO6 := hide o6
    have HZ6 : Hid (v5.heap.size ≤ v6.heap.size) := a6.size
    clear o6 a6 HB5 HM5 HG5 HT5 HO5 x0 x1 x2 x3 x4 x5 x6
    obtain ⟨x0, x1, x2, x3, x4, x5, x6⟩ := note_cells HG6.out
    have hp : ¬ ((1 + n : Nat) : Int) < 0 := by omega
    go_wp2_with fail
    refine (heldNote_any k tt e q a tx p3 n c3 v6 HO6.out.texts hn1).mono ?_
    rintro r v7 ⟨rfl, b7⟩
    have HB7 := hide (below_here HB6.out b7)
    have HM7 := hide (block_on HM6.out b7)
    have HG7 := hide (block_on HG6.out b7)
    have HT7 := hide (HT6.out.later b7 HT6.out.2.1)
    have HO7 := hide (HO6.out.later b7 HO6.out.2.1)
    clear b7 HB6 HM6 HG6 HT6 HO6 x0 x1 x2 x3 x4 x5 x6
    go_wp2_with fail
    refine ((HIM _).out HB7.out).mono ?_
    rintro r v8 ⟨⟨p8, c8, rfl, hc8, ht8⟩, b8⟩
    obtain ⟨v9, hv9⟩ : ∃ v9, v9 = v8.alloc (.cells #[.int .i64 k, .int .i64 tt, .int .i64 e, .int .i64 q, .int .i64 a, .string tx, .slice p8 n c8] 27) := ⟨_, rfl⟩
    have hb9 : Below v8.heap.size v8 v9 := by rw [hv9]; exact (Below.refl _ _).alloc (Nat.le_refl _) _
    have HH9 : Hid (v9.heap[v8.heap.size]? = some (.cells #[.int .i64 k, .int .i64 tt, .int .i64 e, .int .i64 q, .int .i64 a, .string tx, .slice p8 n c8] 27)) := by rw [hv9]; exact heap_new _ _
    have HB9 := hide (below_here (below_here HB7.out b8) hb9)
    have HM9 := hide (block_on (block_on HM7.out b8) hb9)
    have HG9 := hide (block_on (block_on HG7.out b8) hb9)
    have HT9 := hide ((HT7.out.later b8 HT7.out.2.1).later hb9 (Nat.le_trans HT7.out.2.1 b8.size))
    have HO9 := hide ((HO7.out.later b8 HO7.out.2.1).later hb9 (Nat.le_trans HO7.out.2.1 b8.size))
    have HQ9 := hide (ht8.later hb9 (Nat.le_refl _))
    clear hc8 ht8 b8 hb9 HB7 HM7 HG7 HT7 HO7
    obtain ⟨x0, x1, x2, x3, x4, x5, x6⟩ := note_cells HH9.out
    obtain ⟨y0, y1, y2, y3, y4, y5, y6⟩ := note_cells HM9.out
    go_upto_region 16 with fail
    rw [← hv9]
    clear hv9
    go_wp2_with fail
    refine (eqNote_same k tt e q a tx vs p8 p1 n c8 c1 v9 HQ9.out.texts HT9.out hn1).mono ?_
    rintro r vA ⟨rfl, bA⟩
    have HBA := hide (below_here HB9.out bA)
    have HGA := hide (block_on HG9.out bA)
    have HOA := hide (HO9.out.later bA HO9.out.2.1)
    clear bA x0 x1 x2 x3 x4 x5 x6 y0 y1 y2 y3 y4 y5 y6 HB9 HM9 HG9 HT9 HO9 HQ9 HH9
    obtain ⟨x0, x1, x2, x3, x4, x5, x6⟩ := note_cells HGA.out
    go_wp2_with fail
    refine (heldNote_any k tt e q a tx p3 n c3 vA HOA.out.texts hn1).mono ?_
    rintro r vB ⟨rfl, bB⟩
    have HBB := hide (below_here HBA.out bB)
    clear bB x0 x1 x2 x3 x4 x5 x6
    go_wp2_with fail
    go_ret
    exact ⟨rfl, HBB.out⟩
  · have hs1 : ¬ (a0.size : Int) ≤ 1048576 := hs
    go_enter Tryd.func4, Tryd.ntmps4
    go_wp2_with fail
    go_ret
    exact ⟨rfl, Below.refl _ _⟩

/-! ### THE ROW's STEP: WRITTEN OUT: LEAVE IT -/
theorem laid_met (os : Os) : laidMet Tryd.prog Rows.fnExactReadNoteRow.laid ((World.doorLaid Tryd.prog 62 os).forCall (fun _ _ => 0) ⟨#[], #[.string ByteArray.empty], []⟩).memory :=
  laidMet_of_run' 8 (by kernel_rfl) (by kernel_rfl)
theorem reads (os : Os) {H : Type} (enc : TypeId × Value → H) : (DataW.whole enc Tryd.prog ((World.doorLaid Tryd.prog 62 os).forCall (fun _ _ => 0) ⟨#[], #[.string ByteArray.empty], []⟩).memory Tryd.f4.params.toList Rows.fnExactReadNoteSpec.vars false (#[.string ByteArray.empty] : Array Value).toList 8).isSome = true := by kernel_rfl

set_option maxRecDepth 100000 in
theorem lifted (os : Os) (started : os.Started) (H : Type) (enc : TypeId × Value → H) (F : Stop.Interp) :
    ReturnsInHanded {} Tryd.checked os 4 .any ((OpenSpec.ofChange Rows.fnExactReadNoteSpec).preRow enc Tryd.prog Tryd.f4 Rows.fnExactReadNoteRow.domain false Rows.fnExactReadNoteRow.laid) (((OpenSpec.ofChange Rows.fnExactReadNoteSpec).at F).post enc Tryd.prog Tryd.f4 false true false false) := by
  obtain ⟨x, hx⟩ := Option.isSome_iff_exists.1 (reads os enc)
  refine returnsInHanded_of_row (C := Tryd.checked) (s := OpenSpec.ofChange Rows.fnExactReadNoteSpec) own started (by kernel_rfl) Tryd.func4
    (witness_row_atRef (enc := enc) (C := Tryd.checked) false (World.doorLaid Tryd.prog 62 os) #[.string ByteArray.empty] rfl (by kernel_rfl) (by kernel_rfl) (by kernel_rfl)
      (OpenSpec.preRow_of_cond 8 hx rfl (fun k hk => by cases hk) (by kernel_rfl) (laid_met os))) ?_
  intro W base args ds gs before hval0 hW _ _ _ hL hsh _
  have hval : ∀ (j : Nat) t v, Tryd.f4.params[j]? = some t → args[j]? = some v → Value.okWide Tryd.prog W .any base t v := hval0
  have hW' := hW
  obtain ⟨p, q, hA0, hV, rfl, hfz, hnd⟩ := hW
  have hA : DataW.TrodAll enc Tryd.prog W 0 (fun _ => true) true Tryd.f4.params.toList args.toList ds p := hA0
  rw [Tryd.params4] at hA hval
  obtain ⟨v0, vs0, d0, ds0, p0, q0, hargs, rfl, rfl, h0, r0⟩ := trodAll_cons hA
  obtain ⟨rfl, rfl, rfl⟩ := trodAll_nil r0
  obtain rfl : args = #[v0] := by cases args; simp_all
  obtain ⟨rfl, rfl⟩ := trodVars_none hV
  obtain ⟨a0, rfl, rfl, rfl, w0⟩ := open_string Tryd.underlying9 (hval 0 9 v0 rfl rfl) h0
  clear hA0 hval0
  simp only [List.append_nil] at hW'
  refine (walk a0 w0 W (env_of_laid hL hsh)).mono fun e W' ⟨he, hg⟩ => ?_
  subst he
  exact ⟨_, rfl, _, _, _, [], [], [], hW', (trodAll_cons_mk (shut_bool Tryd.underlying4 _) trodAll_mk0), (trodAll_cons_mk (shut_string Tryd.underlying9 w0) trodAll_mk0), rfl, hg.frame _, fun h => by cases h⟩

theorem and_of {a b : Bool} (h : a = true) (k : b = true) : (a && b) = true := by rw [h, k]; rfl
set_option maxHeartbeats 16000000 in
theorem facts : joinedFacts Tryd.pinned.checked.prog 4 Tryd.f4 (OpenSpec.ofChange Rows.fnExactReadNoteSpec).bare Rows.fnExactReadNoteRow = true := by
  unfold joinedFacts
  repeat (refine and_of ?_ (by as_aux_lemma => kernel_rfl))
  as_aux_lemma => kernel_rfl
theorem over : Rows.FnExactReadNoteSaid :=
  OpenClaim.holds_of_cond 4 Tryd.f4 rfl rfl rfl rfl rfl rfl rfl ⟨rfl, rfl, rfl, rfl, rfl⟩ rfl rfl rfl rfl rfl (by kernel_rfl) Tryd.func4 facts
    (of_decide_eq_true (by kernel_rfl)) (by unfold Func.isWrapper; first | (rw [if_pos (by decide +kernel)]; kernel_rfl) | (rw [if_neg (by decide +kernel)]; exact ⟨rfl, rfl⟩))
    (fun os started H enc _ F => by rw [OpenClaim.pre_eq_preRow]; exact lifted os started H enc F)
theorem plain (f : FuncId) (fn : Func) (hf : Tryd.pinned.checked.prog.funcNamed "loop.example/g00223/laws.FnExactReadNote" = some f) (hfn : Tryd.pinned.checked.prog.funcs[f]? = some fn) :
    true = Tryd.pinned.checked.prog.looks [] ∧ ∀ (j : Nat) t, fn.params[j]? = some t → Tryd.pinned.checked.prog.wantsStandIn t = false := by
  obtain rfl : f = 4 := Option.some.inj ((show Tryd.prog.funcNamed "loop.example/g00223/laws.FnExactReadNote" = some 4 by kernel_rfl).symm.trans hf) |>.symm
  obtain rfl : fn = Tryd.f4 := (Option.some.inj (Tryd.func4.symm.trans hfn)).symm
  refine ⟨by kernel_rfl, fun j t ht => ?_⟩
  have hall : (Tryd.f4.params.toList.all fun u => !Tryd.prog.wantsStandIn u) = true := by kernel_rfl
  have hm : t ∈ Tryd.f4.params.toList := by simpa using Array.mem_of_getElem? ht
  exact (show Tryd.prog.wantsStandIn t = false by simpa using List.all_eq_true.1 hall t hm)

/-- ████ THE CARD ████ -/
theorem proved : Rows.FnExactReadNoteCardSaid :=
  Claim7.holds_tied_plain_at .later [] _ _ _ _ over (fun _ h => by cases h) (by as_aux_lemma => kernel_rfl) (fun _ h => by cases h) fnExactReadNote_row_tie rfl ⟨rfl, rfl⟩ (by as_aux_lemma => kernel_rfl) rfl plain (by as_aux_lemma => kernel_rfl)
#print axioms proved
end Go.Proofs.YthldcfiemfccpaaDoor.fnExactReadNote
