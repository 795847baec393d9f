/- For every slice of texts, every Mark and every int64 the law FnExactMarkCut returns true and leaves its arguments as they were; the library's tables that its row lists read as they are laid. -/
import Derived.Test.YteooaljhdmmooaaDoorRows
import Derived.Test.YteooaljhdmmooaaDoorMDMarkCutS
import Derived.Test.YteooaljhdmmooaaDoorMDMarkPutI
import Derived.Test.YteooaljhdmmooaaDoorMDMarkLaw
import Derived.Test.YteooaljhdmmooaaDoorMDReadBase
import Derived.Test.YteooaljhdmmooaaDoorMDPowLaid
import Derived.Test.YteooaljhdmmooaaDoorMDTextWalk
import Derived.Deep.RegionHeld3
import Derived.Deep.Cut
import Derived.WalkKit
import Derived.ProofKit
import Derived.OpenShut
import Derived.ShutString
import Derived.ChangeOld
import Derived.Below
namespace Go.Proofs.YteooaljhdmmooaaDoor.fnExactMarkCut
open Go.ChangeShapes Go.WideShapes Go.ChangeAt Go.RowKit
open Go.ChangeMaps (open_string shut_string)
set_option linter.unusedVariables false

theorem own : ownKnob Tryd.prog.godebug = none := by kernel_rfl
theorem laidOut : laidOutB Tryd.prog = true := by kernel_rfl

set_option maxHeartbeats 3200000 in

theorem walk (a0 : Option Addr) (len0 cap0 : Nat) (z0 : List ByteArray) (e1 q1 : Int) (b1 : Bool) (a2 : Int) (w : World) (w0 : Texts 0 w.heap.size w a0 len0 z0 ∧ (∀ s ∈ z0, s.size ≤ maxLen) ∧ len0 ≤ maxLen) (w1 : (Lit.int .i64 e1).wf = true ∧ (Lit.int .i64 q1).wf = true) (w2 : (Lit.int .i64 a2).wf = true) (hP : Pow w) :
    Calls Tryd.prog 5 #[.slice a0 len0 cap0, .agg #[.int .i64 e1, .int .i64 q1, .bool b1], .int .i64 a2] w fun e w' => e = .returned (.bool true) ∧ Below w.heap.size w w' := by
  have HP := hide hP
  obtain ⟨hA, hsz, hm⟩ := w0
  have HT := hide hA
  obtain ⟨v0, hv0⟩ : ∃ v0, v0 = w.alloc (.cells #[.int .i64 e1, .int .i64 q1, .bool b1] 23) := ⟨_, rfl⟩
  have HB0 : Hid (Below w.heap.size w v0) := by rw [hv0]; exact (Below.refl _ _).alloc (Nat.le_refl _) _
  have HK0 : Hid (v0.heap[w.heap.size]? = some (.cells #[.int .i64 e1, .int .i64 q1, .bool b1] 23)) := by rw [hv0]; exact heap_new _ _
  have HS := hide (szT_any a0 len0 cap0 z0 v0 (hA.later HB0.out (Nat.le_refl _)) hm hsz)
  have HL := hide hA.1
  clear hA hsz hm hP
  go_enter Tryd.func5, Tryd.ntmps5
  go_upto_region 1 with fail
  rw [← hv0]
  clear hv0
  go_wp2_with fail
  refine HS.out.mono ?_
  rintro e x0 ⟨⟨r, rfl, r1, r2, hr⟩, rfl⟩
  clear HS
  by_cases h0 : 0 ≤ r
  · have htot := hr h0
    have hbig : len0 ≤ 1048576 := by omega
    have HZ : Hid (∀ s ∈ z0, s.size ≤ 1048576) := fun s hs => by have := total_le hs; omega
    clear hr htot
    obtain ⟨R, hR⟩ : ∃ R, R = markCutF z0 (e1, q1, b1) a2 := ⟨_, rfl⟩
    have HCS : ∀ (a : Option Addr) (lo : Nat) (W : World), Hid (Below w.heap.size w W → OwnTexts lo W.heap.size W a len0 z0 → Calls Tryd.prog 16 #[.slice a len0 len0, markV e1 q1 b1, .int .i64 a2] W fun r w' => ∃ a' c', r = .returned (.slice a' len0 c') ∧ OwnTexts W.heap.size w'.heap.size w' a' len0 R ∧ Below W.heap.size W w') := fun a lo W hb ho => by
      have := specMarkCut_any a len0 len0 z0 e1 q1 b1 a2 W ho.texts hbig HZ.out
      rw [← hR] at this
      exact this
    have HCI : ∀ (a : Option Addr) (lo : Nat) (W : World), Hid (Below w.heap.size w W → OwnTexts lo W.heap.size W a len0 z0 → Calls Tryd.prog 17 #[.slice a len0 len0, markV e1 q1 b1, .int .i64 a2] W fun r w' => ∃ a' c', r = .returned (.slice a' len0 c') ∧ OwnTexts W.heap.size w'.heap.size w' a' len0 R ∧ Below W.heap.size W w') := fun a lo W hb ho => by
      have := implMarkCut_any a len0 len0 z0 e1 q1 b1 a2 W ho.texts hbig HZ.out (HP.out.here hb)
      rw [← hR] at this
      exact this
    have hn2 := hbig
    clear hR HL
    have HSC : ∀ W, Hid (Below v0.heap.size v0 W → (W.cell? ⟨w.heap.size, 0, none⟩ = some (.int .i64 e1) ∧ W.cell? ⟨w.heap.size, 1, none⟩ = some (.int .i64 q1) ∧ W.cell? ⟨w.heap.size, 2, none⟩ = some (.bool b1))) := fun W hb => mk_cells (block_on HK0.out hb)
    have HTO : ∀ W, Hid (Below v0.heap.size v0 W → Calls Tryd.prog 11 #[.slice a0 len0 cap0] W fun e w' => ∃ a', e = .returned (.slice a' len0 len0) ∧ OwnTexts W.heap.size w'.heap.size w' a' len0 z0 ∧ Below W.heap.size W w') := fun W hb => toT_any a0 len0 cap0 z0 W (HT.out.later (below_here HB0.out hb) (Nat.le_refl _)) hbig
    have HR0 : Hid (Below v0.heap.size v0 v0.drew) := (Below.refl v0.heap.size v0).drew
    go_upto_region 5 with fail
    go_region_held3 (fun W => W.cell? ⟨w.heap.size, 0, none⟩ = some (.int .i64 e1) ∧ W.cell? ⟨w.heap.size, 1, none⟩ = some (.int .i64 q1) ∧ W.cell? ⟨w.heap.size, 2, none⟩ = some (.bool b1))
      (first | with_reducible exact (HSC _).out HR0.out | with_reducible exact (HSC _).out HR1.out | with_reducible exact (HSC _).out HR2.out | with_reducible exact (HSC _).out HR3.out | fail)
      (first
        | (go_at_call 11; refine ((HTO _).out HR0.out).mono ?_; rintro e y1 ⟨p1, rfl, oo, bb⟩; have HR1 := hide (below_here HR0.out bb); have HO1 := hide oo; clear oo bb)
        | (go_at_call 7; refine (toMark_any e1 q1 b1 _).mono ?_; rintro e y2 ⟨rfl, bb⟩; have HR2 := hide (below_here HR1.out bb); have HO2 := hide (own_end (HO1.out.later bb (Nat.le_refl _))); clear bb)
        | (go_at_call 16; refine ((HCS _ _ _).out (below_here HB0.out HR2.out) HO2.out).mono ?_; rintro e y3 ⟨p3, pc, rfl, oo, bb⟩; have HR3 := hide (below_here HR2.out bb); have HO3 := hide oo; have HZ3 := hide HR2.out.size; have HZ4 := hide bb.size; clear oo bb)
        | fail)
    have B2 := below_here HB0.out HR3.out
    have K2 := block_on HK0.out HR3.out
    have o2 := HO3.out
    clear HSC HTO HR0 HR1 HR2 HR3 HO1 HO2 HO3 HCS
    have HB2 := hide B2
    have HK2 := hide K2
    clear B2 K2 HZ3 HZ4
    go_wp2_with fail
    refine (toT_any a0 len0 cap0 z0 y3 (HT.out.later HB2.out (Nat.le_refl _)) hbig).mono ?_
    rintro e x3 ⟨q3, rfl, o3, b3⟩
    have HB3 := hide (below_here HB2.out b3)
    have HK3 := hide (block_on HK2.out b3)
    have o23 := o2.later b3 (Nat.le_refl _)
    have s23 := b3.size
    obtain ⟨k0, k1, k2⟩ := mk_cells HK3.out
    clear b3
    go_wp2_with fail
    refine (toMark_any e1 q1 b1 x3).mono ?_
    rintro e x4 ⟨rfl, b4⟩
    have HB4 := hide (below_here HB3.out b4)
    have HK4 := hide (block_on HK3.out b4)
    have o24 := o23.later b4 (by omega)
    have o34 := o3.later b4 (Nat.le_refl _)
    have s34 := b4.size
    clear b4 k0 k1 k2
    go_wp2_with fail
    refine ((HCI q3 _ x4).out HB4.out (own_end o34)).mono ?_
    rintro e x5 ⟨p4, c4, rfl, o4, b5⟩
    have HB5 := hide (below_here HB4.out b5)
    have HK5 := hide (block_on HK4.out b5)
    have o25 := o24.later b5 (by omega)
    have o35 := o34.later b5 (by omega)
    have s45 := b5.size
    clear b5 HB3 HB4 HK3 HK4 o23 o24 o34 o3 o2
    go_wp2_with fail
    refine (eqT_any p4 len0 c4 R p3 len0 pc R x5 o4.texts o25.texts hn2 hn2).mono ?_
    rintro e x6 ⟨rfl, b6⟩
    have HB6 := hide (below_here HB5.out b6)
    have HK6 := hide (block_on HK5.out b6)
    have o26 := o25.later b6 (by omega)
    have o36 := o35.later b6 (by omega)
    have o46 := o4.later b6 (Nat.le_refl _)
    have s56 := b6.size
    clear b6 HB5 HK5 o25 o35 o4
    simp only [decide_true]
    go_wp2_with fail
    refine (toT_any a0 len0 cap0 z0 x6 (HT.out.later HB6.out (Nat.le_refl _)) hbig).mono ?_
    rintro e x7 ⟨q7, rfl, o7, b7⟩
    have HB7 := hide (below_here HB6.out b7)
    have HK7 := hide (block_on HK6.out b7)
    have o27 := o26.later b7 (by omega)
    have o37 := o36.later b7 (by omega)
    have o47 := o46.later b7 (by omega)
    have s67 := b7.size
    clear b7 HB6 HK6 o26 o36 o46
    go_wp2_with fail
    refine (eqT_any q3 len0 len0 z0 q7 len0 len0 z0 x7 o37.texts o7.texts hbig hbig).mono ?_
    rintro e x8 ⟨rfl, b8⟩
    have HB8 := hide (below_here HB7.out b8)
    have HK8 := hide (block_on HK7.out b8)
    have o28 := o27.later b8 (by omega)
    have o38 := o37.later b8 (by omega)
    have o48 := o47.later b8 (by omega)
    have s78 := b8.size
    clear b8 HB7 HK7 o27 o37 o47 o7
    simp only [decide_true]
    have hlow := HB2.out.size
    have hkb := (Array.getElem?_eq_some_iff.1 HK2.out).1
    go_wp2_with fail
    refine (markTS_any q3 len0 len0 z0 1 x8 o38 hbig (by omega) (by omega)).mono ?_
    rintro e x9 ⟨rfl, o39, d9⟩
    have HB9 : Hid (Below w.heap.size w x9) := HB8.out.trans (d9.below hlow HB8.out.size)
    have HK9 : Hid (x9.heap[w.heap.size]? = some (.cells #[.int .i64 e1, .int .i64 q1, .bool b1] 23)) := (d9.block w.heap.size (by have := (Array.getElem?_eq_some_iff.1 HK8.out).1; omega) (.inl hkb)).trans HK8.out
    have o29 := o28.aside d9 (.inl (Nat.le_refl _))
    have o49 := o48.aside d9 (.inr (by omega))
    have s89 := d9.size
    clear d9 HB8 HK8 o28 o48 o38 o39
    go_wp2_with fail
    refine (eqT_any p4 len0 c4 R p3 len0 pc R x9 o49.texts o29.texts hn2 hn2).mono ?_
    rintro e xa ⟨rfl, ba⟩
    have HBa := hide (below_here HB9.out ba)
    have HKa := hide (block_on HK9.out ba)
    have o2a := o29.later ba (by omega)
    have o4a := o49.later ba (by omega)
    have s9a := ba.size
    clear ba HB9 HK9 o29 o49
    simp only [decide_true]
    go_wp2_with fail
    refine (markTS_any p4 len0 c4 R 1 xa o4a hn2 (by omega) (by omega)).mono ?_
    rintro e xb ⟨rfl, o4b, db⟩
    have HBb : Hid (Below w.heap.size w xb) := HBa.out.trans (db.below (by omega) HBa.out.size)
    have HKb : Hid (xb.heap[w.heap.size]? = some (.cells #[.int .i64 e1, .int .i64 q1, .bool b1] 23)) := (db.block w.heap.size (by have := (Array.getElem?_eq_some_iff.1 HKa.out).1; omega) (.inl (by omega))).trans HKa.out
    have o2b := o2a.aside db (.inl (by omega))
    have sab := db.size
    clear db HBa HKa o2a o4a
    go_wp2_with fail
    refine (heldTS_any p4 len0 c4 1 xb o4b.texts hn2 (by omega) (by omega)).mono ?_
    rintro e xc ⟨rfl, bc⟩
    have HBc := hide (below_here HBb.out bc)
    have HKc := hide (block_on HKb.out bc)
    have o2c := o2b.later bc (by omega)
    have o4c := o4b.later bc (by omega)
    have sbc := bc.size
    clear bc HBb HKb o2b o4b
    have HSC : ∀ W, Hid (Below xc.heap.size xc W → (W.cell? ⟨w.heap.size, 0, none⟩ = some (.int .i64 e1) ∧ W.cell? ⟨w.heap.size, 1, none⟩ = some (.int .i64 q1) ∧ W.cell? ⟨w.heap.size, 2, none⟩ = some (.bool b1))) := fun W hb => mk_cells (block_on HKc.out hb)
    have HTO : ∀ W, Hid (Below xc.heap.size xc W → Calls Tryd.prog 11 #[.slice a0 len0 cap0] W fun e w' => ∃ a', e = .returned (.slice a' len0 len0) ∧ OwnTexts W.heap.size w'.heap.size w' a' len0 z0 ∧ Below W.heap.size W w') := fun W hb => toT_any a0 len0 cap0 z0 W (HT.out.later (below_here HBc.out hb) (Nat.le_refl _)) hbig
    have HR0 : Hid (Below xc.heap.size xc xc.drew) := (Below.refl xc.heap.size xc).drew
    go_upto_region 24 with fail
    go_region_held3 (fun W => W.cell? ⟨w.heap.size, 0, none⟩ = some (.int .i64 e1) ∧ W.cell? ⟨w.heap.size, 1, none⟩ = some (.int .i64 q1) ∧ W.cell? ⟨w.heap.size, 2, none⟩ = some (.bool b1))
      (first | with_reducible exact (HSC _).out HR0.out | with_reducible exact (HSC _).out HR1.out | with_reducible exact (HSC _).out HR2.out | with_reducible exact (HSC _).out HR3.out | fail)
      (first
        | (go_at_call 11; refine ((HTO _).out HR0.out).mono ?_; rintro e t1 ⟨r1, rfl, oo, bb⟩; have HR1 := hide (below_here HR0.out bb); have HO1 := hide oo; clear oo bb)
        | (go_at_call 7; refine (toMark_any e1 q1 b1 _).mono ?_; rintro e t2 ⟨rfl, bb⟩; have HR2 := hide (below_here HR1.out bb); have HO2 := hide (own_end (HO1.out.later bb (Nat.le_refl _))); clear bb)
        | (go_at_call 17; refine ((HCI _ _ _).out (below_here HBc.out HR2.out) HO2.out).mono ?_; rintro e t3 ⟨r3, rc, rfl, oo, bb⟩; have HR3 := hide (below_here HR2.out bb); have HO3 := hide oo; have HZ3 := hide HR2.out.size; have HZ4 := hide bb.size; clear oo bb)
        | fail)
    have HBd := hide (below_here HBc.out HR3.out)
    have o2d := o2c.later HR3.out (by omega)
    have o4d := o4c.later HR3.out (by omega)
    have o8 := HO3.out
    have scd := HR3.out.size
    have scd3 := HZ3.out
    have scd4 := HZ4.out
    clear HSC HTO HR0 HR1 HR2 HR3 HO1 HO2 HO3 HCI HZ3 HZ4 HBc HKc o2c o4c
    go_wp2_with fail
    refine (eqT_any r3 len0 rc R p3 len0 pc R t3 o8.texts o2d.texts hn2 hn2).mono ?_
    rintro e xe ⟨rfl, be⟩
    have HBe := hide (below_here HBd.out be)
    have o4e := o4d.later be (by omega)
    clear be HBd o2d o4d o8
    simp only [decide_true]
    go_wp2_with fail
    refine (heldTS_any p4 len0 c4 1 xe o4e.texts hn2 (by omega) (by omega)).mono ?_
    rintro e xf ⟨rfl, bf⟩
    have HBf := hide (below_here HBe.out bf)
    clear bf HBe o4e
    go_wp2_with fail
    go_ret
    exact ⟨rfl, HBf.out⟩
  · clear hr
    go_wp2_with fail
    go_ret
    exact ⟨rfl, HB0.out⟩

/-! ### THE ROW's STEP: WRITTEN OUT: LEAVE IT -/
theorem laid_met (os : Os) : laidMet Tryd.prog Rows.fnExactMarkCutRow.laid ((powWorld os).forCall (fun _ _ => 0) ⟨#[], #[.slice none 0 0, .agg #[.int .i64 0, .int .i64 0, .bool false], .int .i64 0], []⟩).memory :=
  laidMet_of_run' 8 (by kernel_rfl) (by kernel_rfl)
theorem reads (os : Os) {H : Type} (enc : TypeId × Value → H) : (DataW.whole enc Tryd.prog ((powWorld os).forCall (fun _ _ => 0) ⟨#[], #[.slice none 0 0, .agg #[.int .i64 0, .int .i64 0, .bool false], .int .i64 0], []⟩).memory Tryd.f5.params.toList Rows.fnExactMarkCutSpec.vars false (#[.slice none 0 0, .agg #[.int .i64 0, .int .i64 0, .bool false], .int .i64 0] : Array Value).toList 8).isSome = true := by kernel_rfl

set_option maxRecDepth 100000 in
theorem lifted (os : Os) (started : os.Started) (H : Type) (enc : TypeId × Value → H) (F : Stop.Interp) :
    ReturnsInHanded {} Tryd.checked os 5 .any ((OpenSpec.ofChange Rows.fnExactMarkCutSpec).preRow enc Tryd.prog Tryd.f5 Rows.fnExactMarkCutRow.domain false Rows.fnExactMarkCutRow.laid) (((OpenSpec.ofChange Rows.fnExactMarkCutSpec).at F).post enc Tryd.prog Tryd.f5 false true false false) := by
  obtain ⟨x, hx⟩ := Option.isSome_iff_exists.1 (reads os enc)
  refine returnsInHanded_of_row (C := Tryd.checked) (s := OpenSpec.ofChange Rows.fnExactMarkCutSpec) own started (by kernel_rfl) Tryd.func5
    (witness_row_at (enc := enc) (C := Tryd.checked) false (powWorld os) #[.slice none 0 0, .agg #[.int .i64 0, .int .i64 0, .bool false], .int .i64 0] rfl (by kernel_rfl) (by kernel_rfl) (by kernel_rfl)
      (OpenSpec.preRow_of_cond 8 hx rfl (fun k hk => by cases hk) (by kernel_rfl) (laid_met os))) ?_
  intro W base args ds gs before hval0 hW _ _ _ hL _ _
  have hval : ∀ (j : Nat) t v, Tryd.f5.params[j]? = some t → args[j]? = some v → Value.okWide Tryd.prog W .any base t v := hval0
  have hW' := hW
  obtain ⟨p, q, hA0, hV, rfl, hfz, hnd⟩ := hW
  have hA : DataW.TrodAll enc Tryd.prog W 0 (fun _ => true) true Tryd.f5.params.toList args.toList ds p := hA0
  rw [Tryd.params5] at hA hval
  obtain ⟨v0, vs0, d0, ds0, p0, q0, hargs, rfl, rfl, h0, r0⟩ := trodAll_cons hA
  obtain ⟨v1, vs1, d1, ds1, p1, q1, rfl, rfl, rfl, h1, r1⟩ := trodAll_cons r0
  obtain ⟨v2, vs2, d2, ds2, p2, q2, rfl, rfl, rfl, h2, r2⟩ := trodAll_cons r1
  obtain ⟨rfl, rfl, rfl⟩ := trodAll_nil r2
  obtain rfl : args = #[v0, v1, v2] := by cases args; simp_all
  obtain ⟨rfl, rfl⟩ := trodVars_none hV
  obtain ⟨a0, len0, cap0, rfl⟩ := okWide_slice Tryd.underlying28 (hval 0 28 v0 rfl rfl)
  have k0 := h0
  have lt0 : ∀ x ∈ p0, x.block < W.heap.size := by obtain ⟨m, hm⟩ := k0; exact DataW.trod_lt m _ _ _ hm
  obtain ⟨z0, w0⟩ := texts_read Tryd.underlying28 Tryd.underlying9 (by kernel_rfl) h0
  have kk1 := h1
  have lt1 : ∀ x ∈ p1, x.block < W.heap.size := by obtain ⟨m, hm⟩ := kk1; exact DataW.trod_lt m _ _ _ hm
  obtain ⟨e1, q1, b1, rfl, w1⟩ := mark_read Tryd.underlying23 (by kernel_rfl) (by kernel_rfl) Tryd.underlying2 Tryd.underlying2 Tryd.underlying4 (hval 1 23 v1 rfl rfl) h1
  obtain ⟨a2, rfl, rfl, rfl, w2⟩ := open_int Tryd.underlying2 (hval 2 2 v2 rfl rfl) h2
  clear hA0 hval0
  refine (walk a0 len0 cap0 z0 e1 q1 b1 a2 W w0 w1 w2 (pow_of_laid hL)).mono fun e W' ⟨he, bel⟩ => ?_
  subst he
  exact ⟨_, rfl, _, _, _, [], _, [], hW', trodAll_mk1 (shut_bool Tryd.underlying4 _), (trodAll_cons_mk (Below.trod laidOut (by kernel_rfl) (of_decide_eq_true (by kernel_rfl)) k0 bel lt0) (trodAll_cons_mk (Below.trod laidOut (by kernel_rfl) (of_decide_eq_true (by kernel_rfl)) kk1 bel lt1) (trodAll_cons_mk (shut_int Tryd.underlying2 w2) trodAll_mk0))), rfl, bel.frame _, fun h => by cases h⟩

theorem and_of {a b : Bool} (h : a = true) (k : b = true) : (a && b) = true := by rw [h, k]; rfl
set_option maxHeartbeats 16000000 in
theorem facts : joinedFacts Tryd.pinned.checked.prog 5 Tryd.f5 (OpenSpec.ofChange Rows.fnExactMarkCutSpec).bare Rows.fnExactMarkCutRow = true := by
  unfold joinedFacts
  repeat (refine and_of ?_ (by as_aux_lemma => kernel_rfl))
  as_aux_lemma => kernel_rfl
theorem over : Rows.FnExactMarkCutSaid :=
  OpenClaim.holds_of_cond 5 Tryd.f5 rfl rfl rfl rfl rfl rfl rfl ⟨rfl, rfl, rfl, rfl, rfl⟩ rfl rfl rfl rfl rfl (by kernel_rfl) Tryd.func5 facts
    (of_decide_eq_true (by kernel_rfl)) (by unfold Func.isWrapper; first | (rw [if_pos (by decide +kernel)]; kernel_rfl) | (rw [if_neg (by decide +kernel)]; exact ⟨rfl, rfl⟩))
    (fun os started H enc _ F => by rw [OpenClaim.pre_eq_preRow]; exact lifted os started H enc F)
theorem plain (f : FuncId) (fn : Func) (hf : Tryd.pinned.checked.prog.funcNamed "loop.example/g00223/laws.FnExactMarkCut" = some f) (hfn : Tryd.pinned.checked.prog.funcs[f]? = some fn) :
    false = Tryd.pinned.checked.prog.looks [] ∧ ∀ (j : Nat) t, fn.params[j]? = some t → Tryd.pinned.checked.prog.wantsStandIn t = false := by
  obtain rfl : f = 5 := Option.some.inj ((show Tryd.prog.funcNamed "loop.example/g00223/laws.FnExactMarkCut" = some 5 by kernel_rfl).symm.trans hf) |>.symm
  obtain rfl : fn = Tryd.f5 := (Option.some.inj (Tryd.func5.symm.trans hfn)).symm
  refine ⟨by kernel_rfl, fun j t ht => ?_⟩
  have hall : (Tryd.f5.params.toList.all fun u => !Tryd.prog.wantsStandIn u) = true := by kernel_rfl
  have hm : t ∈ Tryd.f5.params.toList := by simpa using Array.mem_of_getElem? ht
  exact (show Tryd.prog.wantsStandIn t = false by simpa using List.all_eq_true.1 hall t hm)

/-- ████ THE CARD ████ -/
theorem proved : Rows.FnExactMarkCutCardSaid :=
  Claim7.holds_tied_plain_at .later [] _ _ _ _ over (fun _ h => by cases h) (by as_aux_lemma => kernel_rfl) (fun _ h => by cases h) fnExactMarkCut_row_tie rfl ⟨rfl, rfl⟩ (by as_aux_lemma => kernel_rfl) rfl plain (by as_aux_lemma => kernel_rfl)
#print axioms proved
end Go.Proofs.YteooaljhdmmooaaDoor.fnExactMarkCut
