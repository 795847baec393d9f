/- Chapter 19: a map whose keys are standings, in memory. -/
import Derived.Test.YtnemncmaaejajaaHistImplE
import Derived.Maps.OwnSet
import Derived.DeepKeys4
namespace Go.Proofs.Ytnemncmaaejajaa
open Go.RowKit Go.Maps
set_option linter.unusedVariables false
set_option linter.unusedSimpArgs false
set_option maxRecDepth 20000

theorem Try.laidOut9 : laidOutB Try.prog = true := by kernel_rfl
theorem Try.rowStanding : (60 : TypeId) < Try.prog.types.size := of_decide_eq_true (by kernel_rfl)
theorem Try.wideStanding : (match Try.prog.underlying 60 with | some (.array _ _) | some (.struct _) => true | _ => false) = true := by kernel_rfl
theorem Try.keyedStanding : Keyed Try.prog 60 := Keyed.of_law (deep_law_laid Try.laidOut9 (m := 4) (by omega) Try.rowStanding (by kernel_rfl) Try.wideStanding)
theorem Try.mapType9 : Try.prog.underlying 66 = some (.map 60 77) := by kernel_rfl
theorem Try.zeroU (w : World) : (zeroValue 77).run Try.prog w = .ok (.agg #[]) w := by kernel_rfl
theorem Try.arr3 : Try.prog.underlying 58 = some (.array 3 2) := by kernel_rfl
/-- What a key reads as. -/
def stK (p a b c : Int) : Lit := .string (keyBytes [.int .i64 p, .int .i64 a, .int .i64 b, .int .i64 c])
theorem keyOf_standing {p a b c : Int} (hp : (Lit.int .i64 p).wf = true) (ha : (Lit.int .i64 a).wf = true) (hb : (Lit.int .i64 b).wf = true) (hc : (Lit.int .i64 c).wf = true) : keyOf Try.prog 60 (stV p a b c) = some (stK p a b c) := by
  have h1 : Try.prog.keyType 60 = true := by kernel_rfl
  have h3 : Try.prog.cellsOf 60 = 4 := by kernel_rfl
  have h4 : Try.prog.cellsOf 2 = 1 := by kernel_rfl
  have h5 : Try.prog.cellsOf 58 = 3 := by kernel_rfl
  have hf : (stV p a b c).formed Try.prog 60 = true := by simp [stV, Value.formed, Try.underlying60, h3]
  obtain ⟨d, hd⟩ : ∃ d, Try.prog.types.size = d + 1 := ⟨Try.prog.types.size - 1, (Nat.sub_add_cancel (Nat.lt_of_le_of_lt (Nat.zero_le _) Try.rowStanding)).symm⟩
  obtain ⟨f, hdf⟩ : ∃ f, d = f + 1 := by
    have : 1 < Try.prog.types.size := Nat.lt_of_le_of_lt (by decide) Try.rowStanding
    exact ⟨d - 1, by omega⟩
  subst hdf
  have hi : ∀ (g : Nat) (x : Int), (Lit.int .i64 x).wf = true → Try.prog.keyLits (g + 1) 2 [.int .i64 x] = some [.int .i64 x] := fun g x hx => by
    unfold Program.keyLits
    rw [Try.underlying2]
    simp [hx]
  have h3k : Try.prog.keyLits (f + 1 + 1) 58 [.int .i64 a, .int .i64 b, .int .i64 c] = some [.int .i64 a, .int .i64 b, .int .i64 c] := by
    unfold Program.keyLits
    rw [Try.arr3]
    simp only [h5, List.length_cons, List.length_nil]
    simp [h4, List.range, List.range.loop, hi f a ha, hi f b hb, hi f c hc]
  have hk : Try.prog.keyLits (f + 1 + 1 + 1) 60 [.int .i64 p, .int .i64 a, .int .i64 b, .int .i64 c] = some [.int .i64 p, .int .i64 a, .int .i64 b, .int .i64 c] := by
    unfold Program.keyLits
    rw [Try.underlying60]
    simp only [h3, List.length_cons, List.length_nil]
    simp [hi (f + 1) p hp, h3k, h4, h5]
  unfold keyOf
  rw [Try.underlying60]
  dsimp only
  rw [h1, hf, hd]
  show (if (true && true) = true then (Try.prog.keyLits (f + 1 + 1 + 1) 60 [.int .i64 p, .int .i64 a, .int .i64 b, .int .i64 c]).map (fun ls => Lit.string (keyBytes ls)) else none) = _
  rw [hk]
  rfl
theorem stK_inj {p a b c p' a' b' c' : Int} (hp : (Lit.int .i64 p).wf = true) (ha : (Lit.int .i64 a).wf = true) (hb : (Lit.int .i64 b).wf = true) (hc : (Lit.int .i64 c).wf = true) (hp' : (Lit.int .i64 p').wf = true) (ha' : (Lit.int .i64 a').wf = true) (hb' : (Lit.int .i64 b').wf = true) (hc' : (Lit.int .i64 c').wf = true) (h : stK p a b c = stK p' a' b' c') : p = p' ∧ a = a' ∧ b = b' ∧ c = c' := by
  have h1 := keyOf_standing hp ha hb hc
  have h2 := keyOf_standing hp' ha' hb' hc'
  rw [h] at h1
  have h3 := Try.keyedStanding.inj h1 h2
  simp only [stV, Value.agg.injEq, Array.mk.injEq, List.cons.injEq, Value.int.injEq, true_and, and_true] at h3
  exact h3
open Classical in
noncomputable def unR (v : Value) : Option (DataW Unit × List MemPlace) := if v = .agg #[] then some (.agg [], []) else none
theorem unR_of : unR (.agg #[]) = some (.agg [], []) := by unfold unR; rw [if_pos rfl]
theorem unR_inv {v : Value} {z : DataW Unit × List MemPlace} (h : unR v = some z) : v = .agg #[] := by
  unfold unR at h
  split at h
  · assumption
  · cases h
/-- Numbers that fit. -/
def FitS (p a b c : Int) : Prop := (Lit.int .i64 p).wf = true ∧ (Lit.int .i64 a).wf = true ∧ (Lit.int .i64 b).wf = true ∧ (Lit.int .i64 c).wf = true
abbrev SetS := Int → Int → Int → Int → Bool
def putS (F : SetS) (p a b c : Int) : SetS := fun p' a' b' c' => if p' = p ∧ a' = a ∧ b' = b ∧ c' = c then true else F p' a' b' c'
/-- A set of standings in block b. -/
def SetAt (w : World) (b n : Nat) (F : SetS) : Prop := ∃ D : DataW Unit, w.ownsMap Try.prog 60 unR b n D ∧ ∀ p a b c, FitS p a b c → Maps.has D (stK p a b c) = F p a b c
theorem setAt_made (w : World) : SetAt (w.alloc (.map #[] 0)) w.heap.size 0 (fun _ _ _ _ => false) :=
  ⟨.map [], World.ownsMap_made w _ _ _, fun _ _ _ _ _ => rfl⟩
theorem SetAt.kept {w w' : World} {b n : Nat} {F : SetS} (h : SetAt w b n F) (hb : w'.heap[b]? = w.heap[b]?) : SetAt w' b n F := by
  obtain ⟨D, ⟨es, c, h1, h2⟩, h3⟩ := h
  exact ⟨D, ⟨es, c, hb.trans h1, h2⟩, h3⟩
theorem SetAt.lt {w : World} {b n : Nat} {F : SetS} (h : SetAt w b n F) : b < w.heap.size := by
  obtain ⟨D, h1, _⟩ := h
  exact h1.lt
theorem SetAt.isMap {w : World} {b n : Nat} {F : SetS} (h : SetAt w b n F) : ∃ es c, w.heap[b]? = some (.map es c) := by
  obtain ⟨D, ⟨es, c, h1, _⟩, _⟩ := h
  exact ⟨es, c, h1⟩
theorem SetAt.look {w : World} {g n : Nat} {F : SetS} (h : SetAt w g n F) {p a b c : Int} (hf : FitS p a b c) :
    (Instr.lookup 66 (.map (some g)) (stV p a b c) true).run Try.prog w = .ok (.tuple #[.agg #[], .bool (F p a b c)]) w := by
  obtain ⟨D, h1, h2⟩ := h
  obtain ⟨v, ps, hrun, hv⟩ := h1.look_ok Try.keyedStanding Try.mapType9 (Try.zeroU w) unR_of (keyOf_standing hf.1 hf.2.1 hf.2.2.1 hf.2.2.2)
  rw [hrun, h2 p a b c hf, unR_inv hv]
theorem SetAt.put {w : World} {g n : Nat} {F : SetS} (h : SetAt w g n F) (hn : n < maxLen) {p a b c : Int} (hf : FitS p a b c) :
    ∃ w', (Instr.mapUpdate 66 (.map (some g)) (stV p a b c) (.agg #[])).run Try.prog w = .ok () w' ∧ SetAt w' g (n + 1) (putS F p a b c) ∧ Aside g (g + 1) w w' := by
  obtain ⟨D, h1, h2⟩ := h
  have hk := keyOf_standing hf.1 hf.2.1 hf.2.2.1 hf.2.2.2
  obtain ⟨w', hrun, h3, h4⟩ := h1.store Try.keyedStanding Try.mapType9 hn hk unR_of
  refine ⟨w', hrun, ⟨_, h3, fun p' a' b' c' hf' => ?_⟩, ?_⟩
  · unfold putS
    by_cases e : p' = p ∧ a' = a ∧ b' = b ∧ c' = c
    · rw [if_pos e, e.1, e.2.1, e.2.2.1, e.2.2.2]
      exact has_put_same h1.isMap (Try.keyedStanding.key hk) _
    · rw [if_neg e]
      have hne : stK p' a' b' c' ≠ stK p a b c := fun e' => e (stK_inj hf'.1 hf'.2.1 hf'.2.2.1 hf'.2.2.2 hf.1 hf.2.1 hf.2.2.1 hf.2.2.2 e')
      rw [has_put_other hne]
      exact h2 p' a' b' c' hf'
  · have hg := h4.grown
    exact ⟨hg.os, hg.tape, hg.output, hg.size, fun k hk' hh => hg.block k hk' (by simp only [ne_eq, Option.some.injEq]; omega)⟩
end Go.Proofs.Ytnemncmaaejajaa
