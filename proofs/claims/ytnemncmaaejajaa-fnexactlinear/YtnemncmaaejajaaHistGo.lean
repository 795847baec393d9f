/- Chapter 19, the program: what its search holds in memory. -/
import Derived.Test.YtnemncmaaejajaaHistVain
import Derived.Test.YtnemncmaaejajaaHistImplF
namespace Go.Proofs.Ytnemncmaaejajaa
open Go.RowKit
set_option linter.unusedVariables false
set_option linter.unusedSimpArgs false
set_option maxRecDepth 20000

structure GAt (B gs gm : Nat) (vl vt : Value) (W : World) (v : Value) (ps : List Int) (c : Nat) (F : SetS) : Prop where
  s : W.heap[gs]? = some (.cells #[vl, vt, v, .map (some gm)] 68)
  o : W.ownsRow B 2 1 v ps.length (ps.map (Value.int .i64))
  m : SetAt W gm c F
  bs : B ≤ gs
  bm : B ≤ gm
/-- What changes from one world to a later one: the search, its map, its order; and where the order then lies. -/
structure GStep (gs gm : Nat) (v v' : Value) (w w' : World) : Prop where
  os : w'.os = w.os
  tape : w'.tape = w.tape
  output : w'.output = w.output
  size : w.heap.size ≤ w'.heap.size
  block : ∀ k, k < w.heap.size → k ≠ gs → k ≠ gm → v.ownBlock ≠ some k → w'.heap[k]? = w.heap[k]?
  at_ : v'.ownBlock = v.ownBlock ∨ ∀ k, v'.ownBlock = some k → w.heap.size ≤ k
theorem GStep.refl (gs gm : Nat) (v : Value) (w : World) : GStep gs gm v v w w := ⟨rfl, rfl, rfl, Nat.le_refl _, fun _ _ _ _ _ => rfl, .inl rfl⟩
theorem GStep.trans {gs gm : Nat} {v v' v'' : Value} {a b c : World} (h : GStep gs gm v v' a b) (k : GStep gs gm v' v'' b c) : GStep gs gm v v'' a c := by
  refine ⟨k.os.trans h.os, k.tape.trans h.tape, k.output.trans h.output, Nat.le_trans h.size k.size, fun i hi h1 h2 h3 => ?_, ?_⟩
  · refine (k.block i (Nat.lt_of_lt_of_le hi h.size) h1 h2 ?_).trans (h.block i hi h1 h2 h3)
    rcases h.at_ with e | e
    · rw [e]; exact h3
    · intro e2; have := e i e2; omega
  · rcases k.at_ with e | e
    · rcases h.at_ with e' | e'
      · exact .inl (e.trans e')
      · exact .inr fun i hi => e' i (e ▸ hi)
    · exact .inr fun i hi => Nat.le_trans h.size (e i hi)
theorem GStep.of_below {gs gm : Nat} {v : Value} {w w' : World} (h : Below w.heap.size w w') : GStep gs gm v v w w' := ⟨h.os, h.tape, h.output, h.size, fun k hk _ _ _ => h.block k hk, .inl rfl⟩
theorem GStep.below {gs gm B : Nat} {v v' : Value} {w w' : World} (h : GStep gs gm v v' w w') (h1 : B ≤ gs) (h2 : B ≤ gm) (h3 : ∀ k, v.ownBlock = some k → B ≤ k) (hB : B ≤ w.heap.size) : Below B w w' :=
  ⟨h.os, h.tape, h.output, h.size, fun k hk => h.block k (by omega) (by omega) (by omega) (fun e => by have := h3 k e; omega)⟩
theorem GAt.own {B gs gm : Nat} {vl vt : Value} {W : World} {v : Value} {ps : List Int} {c : Nat} {F : SetS} (h : GAt B gs gm vl vt W v ps c F) : ∀ k, v.ownBlock = some k → B ≤ k := fun k e => (World.ownsRow.lt h.o k e).1
theorem GAt.later {B gs gm : Nat} {vl vt : Value} {W W' : World} {v : Value} {ps : List Int} {c : Nat} {F : SetS} (h : GAt B gs gm vl vt W v ps c F) (b : Below W.heap.size W W') : GAt B gs gm vl vt W' v ps c F :=
  ⟨block_on h.s b, own_keepS h.o (fun j hj => b.block j hj), h.m.kept (b.block _ h.m.lt), h.bs, h.bm⟩
/-- The order lies in neither of the other two. -/
theorem GAt.apart {B gs gm : Nat} {vl vt : Value} {W : World} {v : Value} {ps : List Int} {c : Nat} {F : SetS} (h : GAt B gs gm vl vt W v ps c F) : v.ownBlock ≠ some gs ∧ v.ownBlock ≠ some gm ∧ gs ≠ gm := by
  obtain ⟨es, cl, hm⟩ := h.m.isMap
  refine ⟨?_, ?_, ?_⟩
  · intro e
    rcases h.o.2 with ⟨e1, _⟩ | ⟨g, cap, cur, e1, _, hg, _⟩
    · rw [e1] at e; cases e
    · rw [e1] at e
      have e' : some g = some gs := e
      simp only [Option.some.injEq] at e'
      subst e'
      rw [h.s] at hg
      simp at hg
  · intro e
    rcases h.o.2 with ⟨e1, _⟩ | ⟨g, cap, cur, e1, _, hg, _⟩
    · rw [e1] at e; cases e
    · rw [e1] at e
      have e' : some g = some gm := e
      simp only [Option.some.injEq] at e'
      subst e'
      rw [hm] at hg
      cases hg
  · intro e
    have := h.s
    rw [e, hm] at this
    cases this
/-- One number behind the order, told in the order of the program: made, appended, stored. -/
theorem added9 {W : World} {B g n c : Nat} {v : Value} {zs : List Int} {x : Int} {t : TypeId} {fz : Nat × Nat} (ho : W.ownsRow B 2 1 v n (zs.map (Value.int .i64))) (hg : W.heap[g]? = some (.cells #[.int .i64 x] t fz)) (hn : n ≤ 1048576) (hB : B ≤ W.heap.size) :
    ∃ v' w', (Builtin.append_ #[31, 31] 31 #[v, .slice (some ⟨g, 0, none⟩) 1 c]).run Try.prog W = .ok v' w' ∧ w'.ownsRow B 2 1 v' (n + 1) ((zs ++ [x]).map (Value.int .i64)) ∧ W.grownBy w' v.ownBlock ∧ (v'.ownBlock = v.ownBlock ∨ v'.ownBlock = some W.heap.size) := by
  obtain ⟨i0, hi0, hz0, hz1, hz2⟩ := info_parts Try.infoI64
  obtain ⟨v', w', h1, h2, h3, _, h5⟩ := run_append_own_at (P := Try.prog) W B 31 31 2 i0 (.int .i64 0) 1 8 Try.underlying31 hi0 hz0 hz1 hz2 rfl (by decide) _ n _ ho ⟨g, 0, none⟩ 1 c [.int .i64 x] rfl
    (fun j u hj => by
      match j, hj with
      | 0, hj => simp only [List.getElem?_cons_zero, Option.some.injEq] at hj; subst hj; simp [Addr.add, World.cell?, hg])
    (by intro u hu; simp only [List.mem_singleton] at hu; subst hu; rfl) (by unfold maxLen; omega) (by omega) hB
  rw [List.map_append]
  exact ⟨v', w', h1, h2, h3, h5⟩
theorem GAt.push {B gs gm : Nat} {vl vt : Value} {W : World} {v : Value} {ps : List Int} {c : Nat} {F : SetS} (h : GAt B gs gm vl vt W v ps c F) (x : Int) (hn : ps.length ≤ 1000) (hB : B ≤ W.heap.size) :
    ∃ a5 c5 w5, (Builtin.append_ #[31, 31] 31 #[v, .slice (some ⟨W.heap.size, 0, none⟩) 1 1]).run Try.prog (W.alloc (.cells #[.int .i64 x] 2)) = .ok (.slice a5 (ps.length + 1) c5) w5 ∧ w5.heap[gs]? = some (.cells #[vl, vt, v, .map (some gm)] 68) ∧
      GAt B gs gm vl vt (w5.setCell ⟨gs, 2, none⟩ (.slice a5 (ps.length + 1) c5)) (.slice a5 (ps.length + 1) c5) (ps ++ [x]) c F ∧ GStep gs gm v (.slice a5 (ps.length + 1) c5) W (w5.setCell ⟨gs, 2, none⟩ (.slice a5 (ps.length + 1) c5)) := by
  have hap := h.apart
  obtain ⟨v5, w5, h1, h2, h3, h5⟩ := added9 (c := 1) (World.ownsRow.alloc h.o (.cells #[.int .i64 x] 2)) (heap_new W _) (by omega) (by simp; omega)
  obtain ⟨a5, c5, rfl, _⟩ := owned_of_own h2
  have hsz : (W.alloc (.cells #[.int .i64 x] 2)).heap.size = W.heap.size + 1 := by simp
  have hk : ∀ k, k < W.heap.size → v.ownBlock ≠ some k → w5.heap[k]? = W.heap[k]? := fun k hk hne => (h3.block k (by rw [hsz]; omega) (fun e => hne e.symm)).trans (by show (W.heap.push _)[k]? = _; rw [Array.getElem?_push_lt hk, Array.getElem?_eq_getElem hk])
  have hgs : gs < W.heap.size := (Array.getElem?_eq_some_iff.1 h.s).1
  have hs5 := (hk gs hgs hap.1).trans h.s
  have hset := set_block hs5 2 (.slice a5 (ps.length + 1) c5) (by simp)
  have has : Aside gs (gs + 1) w5 (w5.setCell ⟨gs, 2, none⟩ (.slice a5 (ps.length + 1) c5)) := (Aside.refl _ _ _).setCell (p := ⟨gs, 2, none⟩) (Nat.le_refl _) (Nat.lt_succ_self _) _
  have hvb : ∀ k, (Value.slice a5 (ps.length + 1) c5).ownBlock = some k → k ≠ gs := fun k e => by
    intro e2
    rcases h5 with e5 | e5
    · exact hap.1 (e5 ▸ e2 ▸ e)
    · rw [e5] at e; simp only [Option.some.injEq, hsz] at e; omega
  have hsl := h3.size
  refine ⟨a5, c5, w5, h1, hs5, ⟨hset, ?_, ?_, h.bs, h.bm⟩, ⟨?_, ?_, ?_, ?_, fun k hk' h1' h2' h3' => ?_, ?_⟩⟩
  · rw [List.length_append]
    refine ⟨h2.1, ?_⟩
    rcases h2.2 with e | ⟨g, cap, cur, e1, e2, hg, e3⟩
    · exact .inl e
    · exact .inr ⟨g, cap, cur, e1, e2, (has.block g (Array.getElem?_eq_some_iff.1 hg).1 (by have := hvb g (by rw [e1]; rfl); omega)).trans hg, e3⟩
  · exact h.m.kept ((has.block gm (by have := h.m.lt; omega) (by have := hap.2.2; omega)).trans (hk gm h.m.lt hap.2.1))
  · exact has.os.trans h3.os
  · exact has.tape.trans h3.tape
  · exact has.output.trans h3.output
  · have := has.size; omega
  · exact (has.block k (by omega) (by omega)).trans (hk k hk' h3')
  · rcases h5 with e | e
    · exact .inl e
    · exact .inr fun k hk' => by rw [e] at hk'; simp only [Option.some.injEq, hsz] at hk'; omega
/-- The last number taken away. -/
theorem GAt.pop {B gs gm : Nat} {vl vt : Value} {W : World} {v : Value} {ps : List Int} {x : Int} {c : Nat} {F : SetS} (h : GAt B gs gm vl vt W v (ps ++ [x]) c F) :
    ∃ g c5, v = .slice (some ⟨g, 0, none⟩) (ps.length + 1) c5 ∧ GAt B gs gm vl vt (W.setCell ⟨gs, 2, none⟩ (.slice (some ⟨g, 0, none⟩) ps.length c5)) (.slice (some ⟨g, 0, none⟩) ps.length c5) ps c F ∧ GStep gs gm v (.slice (some ⟨g, 0, none⟩) ps.length c5) W (W.setCell ⟨gs, 2, none⟩ (.slice (some ⟨g, 0, none⟩) ps.length c5)) ∧ ps.length + 1 ≤ c5 := by
  have hap := h.apart
  have ho := h.o
  rw [List.length_append] at ho
  rcases ho.2 with ⟨_, e⟩ | ⟨g, cap, cur, e1, e2, hg, e3, e4, e5, e6⟩
  · simp at e
  · have has : Aside gs (gs + 1) W (W.setCell ⟨gs, 2, none⟩ (.slice (some ⟨g, 0, none⟩) ps.length cap)) := (Aside.refl _ _ _).setCell (p := ⟨gs, 2, none⟩) (Nat.le_refl _) (Nat.lt_succ_self _) _
    have hgg : g ≠ gs := fun e => hap.1 (by rw [e1, ← e]; rfl)
    refine ⟨g, cap, e1, ⟨set_block h.s 2 _ (by simp), ⟨by simp, .inr ⟨g, cap, cur, rfl, e2, (has.block g (Array.getElem?_eq_some_iff.1 hg).1 (by omega)).trans hg, by simp at e3; omega, e4, e5, ?_⟩⟩, h.m.kept (has.block gm h.m.lt (by have := hap.2.2; omega)), h.bs, h.bm⟩, ⟨has.os, has.tape, has.output, has.size, fun k hk h1 _ _ => has.block k hk (by omega), .inl (by rw [e1]; rfl)⟩, by simpa using e3⟩
    have h7 := congrArg (List.take ps.length) e6
    rw [List.take_take] at h7
    simp only [List.length_singleton, Nat.mul_one, List.map_append] at h7 ⊢
    rw [show min ps.length (ps.length + 1) = ps.length by omega] at h7
    rw [h7, List.take_left' (by simp)]
/-- One standing more in the map. -/
theorem GAt.put {B gs gm : Nat} {vl vt : Value} {W : World} {v : Value} {ps : List Int} {c : Nat} {F : SetS} (h : GAt B gs gm vl vt W v ps c F) (hc : c < maxLen) {p m0 m1 m2 : Int} (hf : FitS p m0 m1 m2) :
    ∃ w', (Instr.mapUpdate 66 (.map (some gm)) (stV p m0 m1 m2) (.agg #[])).run Try.prog W = .ok () w' ∧ GAt B gs gm vl vt w' v ps (c + 1) (putS F p m0 m1 m2) ∧ GStep gs gm v v W w' := by
  have hap := h.apart
  obtain ⟨w', h1, h2, h3⟩ := h.m.put hc hf
  refine ⟨w', h1, ⟨(h3.block gs (Array.getElem?_eq_some_iff.1 h.s).1 (by have := hap.2.2; omega)).trans h.s, ?_, h2, h.bs, h.bm⟩, ⟨h3.os, h3.tape, h3.output, h3.size, fun k hk _ h5 _ => h3.block k hk (by omega), .inl rfl⟩⟩
  refine ⟨h.o.1, ?_⟩
  rcases h.o.2 with e | ⟨g, cap, cur, e1, e2, hg, e3⟩
  · exact .inl e
  · exact .inr ⟨g, cap, cur, e1, e2, (h3.block g (Array.getElem?_eq_some_iff.1 hg).1 (by have : g ≠ gm := fun e => hap.2.1 (by rw [e1, ← e]; rfl); omega)).trans hg, e3⟩
end Go.Proofs.Ytnemncmaaejajaa
