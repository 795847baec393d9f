/- Several texts in one: MountMap, FindImpl. -/
import Derived.Test.YtfabojbkhicpmaaGreatDoorXFtlOwnP
import Derived.Test.YtfabojbkhicpmaaGreatDoorXFtlMath
import Derived.Maps.OwnSet
import Derived.DeepKeys4
import Derived.BigRegion
section
namespace Go.Proofs.YtfabojbkhicpmaaGreatDoor
open Go.RowKit Go.Maps
set_option linter.unusedVariables false
set_option maxRecDepth 20000

theorem Tryz.laidOut : laidOutB Tryz.prog = true := by kernel_rfl
theorem Tryz.rowLabel : (151 : TypeId) < Tryz.prog.types.size := of_decide_eq_true (by kernel_rfl)
theorem Tryz.wideLabel : (match Tryz.prog.underlying 151 with | some (.array _ _) | some (.struct _) => true | _ => false) = true := by kernel_rfl
theorem Tryz.keyedLabel : Keyed Tryz.prog 151 := Keyed.of_law (deep_law_laid Tryz.laidOut (m := 2) (by omega) Tryz.rowLabel (by kernel_rfl) Tryz.wideLabel)
theorem Tryz.mapType : Tryz.prog.underlying 145 = some (.map 151 48) := by kernel_rfl
theorem Tryz.zeroPl (w : World) : (zeroValue 48).run Tryz.prog w = .ok (.agg #[.int .i64 0, .int .i64 0]) w := by kernel_rfl
/-- What a key reads as. -/
def lbK (a s : Int) : Lit := .string (keyBytes [.int .i64 a, .int .i64 s])
theorem keyOf_label {a s : Int} (ha : (Lit.int .i64 a).wf = true) (hs : (Lit.int .i64 s).wf = true) : keyOf Tryz.prog 151 (.agg #[.int .i64 a, .int .i64 s]) = some (lbK a s) := by
  have h1 : Tryz.prog.keyType 151 = true := by kernel_rfl
  have h3 : Tryz.prog.cellsOf 151 = 2 := by kernel_rfl
  have h4 : Tryz.prog.cellsOf 2 = 1 := by kernel_rfl
  have hf : (Value.agg #[.int .i64 a, .int .i64 s]).formed Tryz.prog 151 = true := by simp [Value.formed, Tryz.underlying151, h3]
  obtain ⟨d, hd⟩ : ∃ d, Tryz.prog.types.size = d + 1 := ⟨Tryz.prog.types.size - 1, (Nat.sub_add_cancel (Nat.lt_of_le_of_lt (Nat.zero_le _) Tryz.rowLabel)).symm⟩
  have hi : ∀ x : Int, (Lit.int .i64 x).wf = true → Tryz.prog.keyLits (d + 1) 2 [.int .i64 x] = some [.int .i64 x] := fun x hx => by
    unfold Program.keyLits
    rw [Tryz.underlying2]
    simp [hx]
  have hk : Tryz.prog.keyLits (d + 1 + 1) 151 [.int .i64 a, .int .i64 s] = some [.int .i64 a, .int .i64 s] := by
    unfold Program.keyLits
    rw [Tryz.underlying151]
    simp only [h3, List.length_cons, List.length_nil]
    simp [hi a ha, hi s hs, h4]
  unfold keyOf
  rw [Tryz.underlying151]
  dsimp only
  rw [h1, hf, hd]
  show (if (true && true) = true then (Tryz.prog.keyLits (d + 1 + 1) 151 [.int .i64 a, .int .i64 s]).map (fun ls => Lit.string (keyBytes ls)) else none) = _
  rw [hk]
  rfl
theorem lbK_inj {a s a' s' : Int} (ha : (Lit.int .i64 a).wf = true) (hs : (Lit.int .i64 s).wf = true) (ha' : (Lit.int .i64 a').wf = true) (hs' : (Lit.int .i64 s').wf = true) (h : lbK a s = lbK a' s') : a = a' ∧ s = s' := by
  have h1 := keyOf_label ha hs
  have h2 := keyOf_label ha' hs'
  rw [h] at h1
  have h3 := Tryz.keyedLabel.inj h1 h2
  simp only [Value.agg.injEq, Array.mk.injEq, List.cons.injEq, Value.int.injEq, true_and, and_true] at h3
  exact h3
/-- How a Place reads. -/
def plD (p : Pl) : DataW Unit := .agg [.lit (.int .i64 p.1), .lit (.int .i64 p.2)]
def plV (p : Pl) : Value := .agg #[.int .i64 p.1, .int .i64 p.2]
theorem plV_inj {p q : Pl} (h : plV p = plV q) : p = q := by
  unfold plV at h
  simp only [Value.agg.injEq, Array.mk.injEq, List.cons.injEq, Value.int.injEq, true_and, and_true] at h
  exact Prod.ext h.1 h.2
open Classical in
noncomputable def plR (v : Value) : Option (DataW Unit × List MemPlace) := if h : ∃ p, v = plV p then some (plD h.choose, []) else none
theorem plR_of (p : Pl) : plR (plV p) = some (plD p, []) := by
  have h : ∃ q, plV p = plV q := ⟨p, rfl⟩
  unfold plR
  rw [dif_pos h, ← plV_inj h.choose_spec]
theorem plD_inj {p q : Pl} (h : plD p = plD q) : p = q := by
  unfold plD at h
  simp only [DataW.agg.injEq, List.cons.injEq, DataW.lit.injEq, Lit.int.injEq, true_and, and_true] at h
  exact Prod.ext h.1 h.2
theorem plR_inv {v : Value} {z : DataW Unit × List MemPlace} (h : plR v = some z) : ∃ p, v = plV p ∧ z = (plD p, []) := by
  by_cases hh : ∃ p, v = plV p
  · obtain ⟨p, rfl⟩ := hh
    rw [plR_of, Option.some.injEq] at h
    exact ⟨p, rfl, h.symm⟩
  · unfold plR at h
    rw [dif_neg hh] at h
    cases h
/-- A finding's map in block b: it says F. -/
def MapAt (w : World) (b n : Nat) (F : Fnd) : Prop := ∃ D : DataW Unit, w.ownsMap Tryz.prog 151 plR b n D ∧ ∀ a s, (Lit.int .i64 a).wf = true → (Lit.int .i64 s).wf = true → match F a s with | none => Maps.has D (lbK a s) = false | some p => Maps.has D (lbK a s) = true ∧ ∀ z, D.atKey (lbK a s) z = plD p
theorem mapAt_made (w : World) : MapAt (w.alloc (.map #[] 0)) w.heap.size 0 (fun _ _ => none) :=
  ⟨.map [], World.ownsMap_made w _ _ _, fun a s _ _ => rfl⟩
theorem MapAt.kept {w w' : World} {b n : Nat} {F : Fnd} (h : MapAt w b n F) (hb : w'.heap[b]? = w.heap[b]?) : MapAt w' b n F := by
  obtain ⟨D, ⟨es, c, h1, h2⟩, h3⟩ := h
  exact ⟨D, ⟨es, c, hb.trans h1, h2⟩, h3⟩
theorem MapAt.lt {w : World} {b n : Nat} {F : Fnd} (h : MapAt w b n F) : b < w.heap.size := by
  obtain ⟨D, h1, _⟩ := h
  exact h1.lt
/-- 'v, ok := m[k]'. -/
theorem MapAt.look {w : World} {b n : Nat} {F : Fnd} (h : MapAt w b n F) {a s : Int} (ha : (Lit.int .i64 a).wf = true) (hs : (Lit.int .i64 s).wf = true) :
    (Instr.lookup 145 (.map (some b)) (.agg #[.int .i64 a, .int .i64 s]) true).run Tryz.prog w = .ok (.tuple #[plV ((F a s).getD (0, 0)), .bool (F a s).isSome]) w := by
  obtain ⟨D, h1, h2⟩ := h
  obtain ⟨v, ps, hrun, hv⟩ := h1.look_ok Tryz.keyedLabel Tryz.mapType (Tryz.zeroPl w) (plR_of (0, 0)) (keyOf_label ha hs)
  have h3 := h2 a s ha hs
  rw [hrun]
  cases hF : F a s with
  | none =>
    rw [hF] at h3
    dsimp only at h3
    rw [atKey_of_not_has h3] at hv
    obtain ⟨p, rfl, e⟩ := plR_inv hv
    simp only [Prod.mk.injEq] at e
    rw [← plD_inj e.1, h3]
    rfl
  | some p =>
    rw [hF] at h3
    dsimp only at h3
    rw [h3.2] at hv
    obtain ⟨q, rfl, e⟩ := plR_inv hv
    simp only [Prod.mk.injEq] at e
    rw [← plD_inj e.1, h3.1]
    rfl
/-- 'm[k] = v'. -/
theorem MapAt.put {w : World} {b n : Nat} {F : Fnd} (h : MapAt w b n F) (hn : n < maxLen) {a s : Int} (ha : (Lit.int .i64 a).wf = true) (hs : (Lit.int .i64 s).wf = true) (p : Pl) :
    ∃ w', (Instr.mapUpdate 145 (.map (some b)) (.agg #[.int .i64 a, .int .i64 s]) (plV p)).run Tryz.prog w = .ok () w' ∧ MapAt w' b (n + 1) (fndPut F a s p) ∧ Aside b (b + 1) w w' := by
  obtain ⟨D, h1, h2⟩ := h
  have hk := keyOf_label ha hs
  obtain ⟨w', hrun, h3, h4⟩ := h1.store Tryz.keyedLabel Tryz.mapType hn hk (plR_of p)
  refine ⟨w', hrun, ⟨_, h3, fun a' s' ha' hs' => ?_⟩, ?_⟩
  · unfold fndPut
    by_cases e : a' = a ∧ s' = s
    · rw [if_pos e, e.1, e.2]
      exact ⟨has_put_same h1.isMap (Tryz.keyedLabel.key hk) _, fun z => atKey_put_same h1.isMap (Tryz.keyedLabel.key hk) _ z⟩
    · rw [if_neg e]
      have hne : lbK a' s' ≠ lbK a s := fun e' => e (lbK_inj ha' hs' ha hs e')
      have h5 := h2 a' s' ha' hs'
      cases hF : F a' s' with
      | none => rw [hF] at h5; dsimp only at h5 ⊢; rw [has_put_other hne]; exact h5
      | some q => rw [hF] at h5; dsimp only at h5 ⊢; rw [has_put_other hne]; exact ⟨h5.1, fun z => by rw [atKey_put_other hne]; exact h5.2 z⟩
  · have hg := h4.grown
    exact ⟨hg.os, hg.tape, hg.output, hg.size, fun k hk' hh => hg.block k hk' (by simp only [ne_eq, Option.some.injEq]; omega)⟩
end Go.Proofs.YtfabojbkhicpmaaGreatDoor
end

section
namespace Go.Proofs.YtfabojbkhicpmaaGreatDoor
open Go.RowKit
set_option linter.unusedVariables false
set_option maxRecDepth 20000

/-- Only two blocks were written, and new ones made. -/
structure Two (b G : Nat) (w w' : World) : Prop where
  os : w'.os = w.os
  tape : w'.tape = w.tape
  output : w'.output = w.output
  size : w.heap.size ≤ w'.heap.size
  block : ∀ k, k < w.heap.size → k ≠ b → k ≠ G → w'.heap[k]? = w.heap[k]?
theorem Two.refl (b G : Nat) (w : World) : Two b G w w := ⟨rfl, rfl, rfl, Nat.le_refl _, fun _ _ _ _ => rfl⟩
theorem Two.trans {b G : Nat} {w w1 w2 : World} (h : Two b G w w1) (k : Two b G w1 w2) : Two b G w w2 :=
  ⟨k.os.trans h.os, k.tape.trans h.tape, k.output.trans h.output, Nat.le_trans h.size k.size, fun x h1 h2 h3 => (k.block x (Nat.lt_of_lt_of_le h1 h.size) h2 h3).trans (h.block x h1 h2 h3)⟩
theorem Two.of_below {b G : Nat} {w w' : World} (h : Below w.heap.size w w') : Two b G w w' := ⟨h.os, h.tape, h.output, h.size, fun k h1 _ _ => h.block k h1⟩
theorem Two.of_one {b G : Nat} {w w' : World} (h : Aside b (b + 1) w w') : Two b G w w' := ⟨h.os, h.tape, h.output, h.size, fun k h1 h2 _ => h.block k h1 (by omega)⟩
theorem Two.of_two {b G : Nat} {w w' : World} (h : Aside G (G + 1) w w') : Two b G w w' := ⟨h.os, h.tape, h.output, h.size, fun k h1 _ h2 => h.block k h1 (by omega)⟩
theorem Two.below {b G B : Nat} {w w' : World} (h : Two b G w w') (hb : B ≤ b) (hG : B ≤ G) (hB : B ≤ w.heap.size) : Below B w w' := ⟨h.os, h.tape, h.output, h.size, fun k hk => h.block k (by omega) (by omega) (by omega)⟩
theorem Two.drew {b G : Nat} {w w' : World} (h : Two b G w w') : Two b G w w'.drew := ⟨h.os, h.tape, h.output, h.size, h.block⟩
/-- A finding in memory. -/
structure FdAt (w : World) (b G N cnt : Nat) (st : List Int) (F : Fnd) : Prop where
  map : MapAt w b cnt F
  row : Owned G (G + 1) w (some ⟨G, 0, none⟩) N (fun j => .int .i64 (stAt st j))
  len : st.length = N
  ne : b ≠ G
theorem FdAt.later {w w' : World} {b G N cnt : Nat} {st : List Int} {F : Fnd} (h : FdAt w b G N cnt st F) (hb : Below w.heap.size w w') : FdAt w' b G N cnt st F :=
  ⟨h.map.kept (hb.block b h.map.lt), h.row.later hb h.row.1, h.len, h.ne⟩
theorem set_max (st : List Int) {a : Nat} (t : Int) (h : a < st.length) : st.set a (max (stAt st a) t) = if t > stAt st a then st.set a t else st := by
  split
  · rename_i hg; rw [show max (stAt st a) t = t by omega]
  · rename_i hg
    rw [show max (stAt st a) t = stAt st a by omega]
    unfold stAt
    rw [List.getD_eq_getElem?_getD, List.getElem?_eq_getElem h]
    simp

theorem mapAt_mono {w : World} {b n : Nat} {F : Fnd} (h : MapAt w b n F) : MapAt w b (n + 1) F := by
  obtain ⟨D, h1, h2⟩ := h
  exact ⟨D, h1.mono (Nat.le_succ _), h2⟩

set_option maxHeartbeats 3200000 in
theorem add_any (b G N cnt a : Nat) (st : List Int) (F : Fnd) (kd t : Int) (tx : ByteArray) (p q : Int) (w : World) (h : FdAt w b G N cnt st F) (ha : a < N) (hN : N ≤ 64) (ht1 : 1 ≤ t) (ht2 : t ≤ 1000000) (hcnt : cnt ≤ 1000) :
    Calls Tryz.prog 184 #[.agg #[.map (some b), .slice (some ⟨G, 0, none⟩) N N], .agg #[.int .i64 kd, .int .i64 (a : Int), .int .i64 t, .string tx], .agg #[.int .i64 p, .int .i64 q]] w fun e w' => e = .returned (.tuple #[]) ∧ FdAt w' b G N (cnt + 1) (st.set a (max (stAt st a) t)) (fndAdd F (a : Int) t (p, q)) ∧ Two b G w w' := by
  have hwa : (Lit.int .i64 (a : Int)).wf = true := WalkArith.wf_i64 (by omega)
  have hwt : (Lit.int .i64 t).wf = true := WalkArith.wf_i64 (by omega)
  obtain ⟨wA, hwA⟩ : ∃ wA, wA = (((w.alloc (.cells #[.map (some b), .slice (some ⟨G, 0, none⟩) N N] 147)).alloc (.cells #[.int .i64 kd, .int .i64 (a : Int), .int .i64 t, .string tx] 31)).alloc (.cells #[.int .i64 p, .int .i64 q] 48)).alloc (.cells #[.int .i64 (a : Int), .int .i64 t] 151) := ⟨_, rfl⟩
  have hzA : wA.heap.size = w.heap.size + 1 + 1 + 1 + 1 := by rw [hwA]; simp
  have HBA : Hid (Below w.heap.size w wA) := by rw [hwA]; exact ((((Below.refl _ _).alloc (Nat.le_refl _) _).alloc (by simp) _).alloc (by simp; omega) _).alloc (by simp; omega) _
  have H0 : Hid (wA.heap[w.heap.size]? = some (.cells #[.map (some b), .slice (some ⟨G, 0, none⟩) N N] 147)) := by rw [hwA]; exact heap_old (heap_old (heap_old (heap_new _ _)))
  have H1 : Hid (wA.heap[w.heap.size + 1]? = some (.cells #[.int .i64 kd, .int .i64 (a : Int), .int .i64 t, .string tx] 31)) := by rw [hwA]; exact heap_old (heap_old (heap_at (by simp)))
  have H2 : Hid (wA.heap[w.heap.size + 1 + 1]? = some (.cells #[.int .i64 p, .int .i64 q] 48)) := by rw [hwA]; exact heap_old (heap_at (by simp))
  have H3 : Hid (wA.heap[w.heap.size + 1 + 1 + 1]? = some (.cells #[.int .i64 (a : Int), .int .i64 t] 151)) := by rw [hwA]; exact heap_at (by simp)
  have HFA := hide (h.later HBA.out)
  have hbl := h.map.lt
  have hGl : G < w.heap.size := by have := h.row.1; omega
  clear h
  go_enter Tryz.func184, Tryz.ntmps184
  go_upto_region 2 with fail
  rw [← hwA]
  clear hwA
  obtain ⟨c0, c1⟩ := two_cells H0.out
  obtain ⟨l0, l1⟩ := two_cells H3.out
  have hlook := HFA.out.map.look hwa hwt
  obtain ⟨v, hv⟩ : ∃ v, v = F (a : Int) t := ⟨_, rfl⟩
  have HV := hide hv
  rw [← hv] at hlook
  clear hv
  have haN : (a : Int) < (N : Int) := by omega
  cases v with
  | none =>
    have HFP : Hid (fndAdd F (a : Int) t (p, q) = fndPut F (a : Int) t (p, q)) := by show _ = _; unfold fndAdd; rw [← HV.out]; rfl
    unfold plV at hlook
    simp only [Option.getD_none, Option.isSome_none] at hlook
    obtain ⟨wB, hwB⟩ : ∃ wB, wB = wA.alloc (.cells #[.int .i64 0, .int .i64 0] 48) := ⟨_, rfl⟩
    have hzB : wB.heap.size = wA.heap.size + 1 := by rw [hwB]; simp
    have HBB : Hid (Below wA.heap.size wA wB) := by rw [hwB]; exact (Below.refl _ _).alloc (Nat.le_refl _) _
    have HZB := hide hzB
    clear hzB
    go_upto_region 4 with fail
    rw [← hwB]
    clear hwB c0 c1 l0 l1 hlook
    have HFB := hide (HFA.out.later HBB.out)
    obtain ⟨w2, hput, hm2, hA2⟩ := HFB.out.map.put (by unfold maxLen; omega) hwa hwt (p, q)
    unfold plV at hput
    have HM2 := hide hm2
    have K0 : Hid (w2.heap[w.heap.size]? = some (.cells #[.map (some b), .slice (some ⟨G, 0, none⟩) N N] 147)) := (hA2.block _ (by have := HZB.out; omega) (by omega)).trans (block_on H0.out HBB.out)
    have K1 : Hid (w2.heap[w.heap.size + 1]? = some (.cells #[.int .i64 kd, .int .i64 (a : Int), .int .i64 t, .string tx] 31)) := (hA2.block _ (by have := HZB.out; omega) (by omega)).trans (block_on H1.out HBB.out)
    have HR2 := hide (HFB.out.row.aside hA2 (by have := HFB.out.ne; omega))
    have HT2 := hide ((Two.of_below (b := b) (G := G) (below_here HBA.out HBB.out)).trans (Two.of_one hA2))
    have HLN := hide HFB.out.len
    have HNE := hide HFB.out.ne
    obtain ⟨c0, c1⟩ := two_cells (block_on H0.out HBB.out)
    obtain ⟨l0, l1⟩ := two_cells (block_on H3.out HBB.out)
    obtain ⟨q0, q1⟩ := two_cells (block_on H2.out HBB.out)
    clear hm2 hA2
    go_upto_region 5 with fail
    clear c0 c1 l0 l1 q0 q1 hput
    obtain ⟨d0, d1⟩ := two_cells K0.out
    obtain ⟨e0, e1, e2, e3⟩ := four_cells K1.out
    obtain ⟨g0, g1⟩ := HR2.out.at0 ha
    have HSET := hide ((HR2.out.set0 ha (.int .i64 (max (stAt st a) t))).congr (g := fun j => .int .i64 (stAt (st.set a (max (stAt st a) t)) j)) (fun j _ => by
      show (if j = a then Value.int .i64 (max (stAt st a) t) else .int .i64 (stAt st j)) = _
      rw [stAt_set st _ (by rw [HLN.out]; exact ha)]
      split <;> rfl))
    have HTS := hide (HT2.out.trans (Two.of_two (b := b) ((Aside.refl G (G + 1) w2).setCell (p := ⟨G, a, none⟩) (Nat.le_refl _) (Nat.lt_succ_self _) (.int .i64 (max (stAt st a) t)))))
    have HMS := hide (HM2.out.kept (show (w2.setCell ⟨G, a, none⟩ (.int .i64 (max (stAt st a) t))).heap[b]? = w2.heap[b]? from ((Aside.refl G (G + 1) w2).setCell (p := ⟨G, a, none⟩) (Nat.le_refl _) (Nat.lt_succ_self _) (.int .i64 (max (stAt st a) t))).block b HM2.out.lt (by have := HNE.out; omega)))
    obtain ⟨X, hX⟩ : ∃ X, X = stAt st a := ⟨_, rfl⟩
    rw [← hX] at g0 HSET HTS HMS
    have HX := hide hX
    clear hX
    go_region
    go_wp2_with fail
    go_end0
    rw [← HX.out]
    refine ⟨rfl, ⟨?_, HSET.out, by rw [List.length_set]; exact HLN.out, HNE.out⟩, HTS.out.drew⟩
    rw [HFP.out]
    exact HMS.out
  | some v =>
    have HFP : Hid (fndAdd F (a : Int) t (p, q) = F) := by show _ = _; unfold fndAdd; rw [← HV.out]; rfl
    unfold plV at hlook
    simp only [Option.getD_some, Option.isSome_some] at hlook
    obtain ⟨w2, hwB⟩ : ∃ wB, wB = wA.alloc (.cells #[.int .i64 v.1, .int .i64 v.2] 48) := ⟨_, rfl⟩
    have hzB : w2.heap.size = wA.heap.size + 1 := by rw [hwB]; simp
    have HBB : Hid (Below wA.heap.size wA w2) := by rw [hwB]; exact (Below.refl _ _).alloc (Nat.le_refl _) _
    have HZB := hide hzB
    clear hzB
    go_upto_region 5 with fail
    rw [← hwB]
    clear hwB c0 c1 l0 l1 hlook
    have HFB := hide (HFA.out.later HBB.out)
    have HM2 := hide HFB.out.map
    have K0 := hide (block_on H0.out HBB.out)
    have K1 := hide (block_on H1.out HBB.out)
    have HR2 := hide HFB.out.row
    have HT2 := hide (Two.of_below (b := b) (G := G) (below_here HBA.out HBB.out))
    have HLN := hide HFB.out.len
    have HNE := hide HFB.out.ne
    obtain ⟨d0, d1⟩ := two_cells K0.out
    obtain ⟨e0, e1, e2, e3⟩ := four_cells K1.out
    obtain ⟨g0, g1⟩ := HR2.out.at0 ha
    have HSET := hide ((HR2.out.set0 ha (.int .i64 (max (stAt st a) t))).congr (g := fun j => .int .i64 (stAt (st.set a (max (stAt st a) t)) j)) (fun j _ => by
      show (if j = a then Value.int .i64 (max (stAt st a) t) else .int .i64 (stAt st j)) = _
      rw [stAt_set st _ (by rw [HLN.out]; exact ha)]
      split <;> rfl))
    have HTS := hide (HT2.out.trans (Two.of_two (b := b) ((Aside.refl G (G + 1) w2).setCell (p := ⟨G, a, none⟩) (Nat.le_refl _) (Nat.lt_succ_self _) (.int .i64 (max (stAt st a) t)))))
    have HMS := hide (HM2.out.kept (show (w2.setCell ⟨G, a, none⟩ (.int .i64 (max (stAt st a) t))).heap[b]? = w2.heap[b]? from ((Aside.refl G (G + 1) w2).setCell (p := ⟨G, a, none⟩) (Nat.le_refl _) (Nat.lt_succ_self _) (.int .i64 (max (stAt st a) t))).block b HM2.out.lt (by have := HNE.out; omega)))
    obtain ⟨X, hX⟩ : ∃ X, X = stAt st a := ⟨_, rfl⟩
    rw [← hX] at g0 HSET HTS HMS
    have HX := hide hX
    clear hX
    go_region
    go_wp2_with fail
    go_end0
    rw [← HX.out]
    refine ⟨rfl, ⟨?_, HSET.out, by rw [List.length_set]; exact HLN.out, HNE.out⟩, HTS.out.drew⟩
    rw [HFP.out]
    exact mapAt_mono HMS.out
end Go.Proofs.YtfabojbkhicpmaaGreatDoor
end

