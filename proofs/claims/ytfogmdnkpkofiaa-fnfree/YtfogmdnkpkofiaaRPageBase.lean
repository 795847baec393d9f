/- Several texts in one: PageBase, HamAll, PageOkW. -/
import Derived.Test.YtfogmdnkpkofiaaRInfo
import Derived.Test.YtfogmdnkpkofiaaRBytesBase
import Derived.Lib.SmallJoins
section
namespace Go.Proofs.Ytfogmdnkpkofiaa
open Go.RowKit Go.ChangeShapes Go.WideShapes Go.ChangeAt
set_option linter.unusedVariables false
set_option maxRecDepth 20000
theorem page_read {H : Type} {enc : TypeId × Value -> H} {P : Program} {w : World} {base : Nat} {spare : Nat -> Bool} {held : Bool} {r : Reach} {b0 : Nat} {t : TypeId} {f0 f1 f2 f3 : Field} {v : Value} {d : DataW H} {p : List MemPlace}
  (hs : P.underlying t = some (.struct #[f0,f1,f2,f3])) (hone : Go.Deep.oneCellFields P #[f0,f1,f2,f3] = true) (hC : P.cellsOf t = 4)
  (h0 : P.underlying f0.type = some (.int .i64)) (h1 : P.underlying f1.type = some (.int .i64)) (h2 : P.underlying f2.type = some (.int .i64)) (h3 : P.underlying f3.type = some .string)
  (hv : Value.okWide P w r b0 t v) (h : DataW.Trod enc P w base spare held t v d p) :
  ∃ (k a s : Int) (x : ByteArray),v = .agg #[.int .i64 k,.int .i64 a,.int .i64 s,.string x] ∧ (Lit.int .i64 k).wf = true ∧ (Lit.int .i64 a).wf = true ∧ (Lit.int .i64 s).wf = true ∧ x.size <= maxLen := by
 obtain ⟨v0,v1,v2,v3,y0,y1,y2,y3,n,rfl,_,_,t0,t1,t2,t3⟩ := Go.Joins.open_agg4 hs hone hC hv h
 obtain ⟨k,e0,_,k0⟩ := DataW.trod_int h0 t0
 obtain ⟨a,e1,_,k1⟩ := DataW.trod_int h1 t1
 obtain ⟨s,e2,_,k2⟩ := DataW.trod_int h2 t2
 obtain ⟨x,e3,_,k3⟩ := DataW.trod_string h3 t3
 simp only [List.cons.injEq,and_true] at e0 e1 e2 e3
 subst e0; subst e1; subst e2; subst e3
 exact ⟨k,a,s,x,rfl,k0,k1,k2,k3⟩
def pageOk (k a s : Int) (x : ByteArray) : Bool := inB k 1 2 && (inB a 0 63 && (inB s 1 1000000 && (decide (x.size <= 24) && (k == 1 || decide (x.size = 0)))))
theorem pageOk_iff (k a s : Int) (x : ByteArray) : pageOk k a s x = decide ((1 <= k ∧ k <= 2) ∧ (0 <= a ∧ a <= 63) ∧ (1 <= s ∧ s <= 1000000) ∧ x.size <= 24 ∧ (k = 1 ∨ x.size = 0)) := by
 unfold pageOk inB
 rw [Bool.eq_iff_iff]
 simp
theorem text_empty (x : ByteArray) : x.toList.isEmpty = decide (x.size = 0) := by
 rw [ByteArray.toList_eq]
 by_cases h : x.size = 0
 ·have h' : x.data.size = 0 := h
  have : x.data = #[] := Array.eq_empty_of_size_eq_zero h'
  simp [this,h]
 ·have h' : ¬ x.data.size = 0 := h
  have : ¬ x.data = #[] := fun e => h' (by simp [e])
  simp [this,h]
end Go.Proofs.Ytfogmdnkpkofiaa
end

section
namespace Go.Proofs.Ytfogmdnkpkofiaa
open Go.RowKit
def wordB (x : Nat) : List UInt8 := [UInt8.ofNat (x / 256),UInt8.ofNat (x % 256)]
def spreadL (l : List UInt8) : List UInt8 := l.flatMap fun b => wordB (Ham.spread b.toNat)
theorem spreadL_snoc (l : List UInt8) (b : UInt8) : spreadL (l ++ [b]) = spreadL l ++ wordB (Ham.spread b.toNat) := by simp [spreadL,List.flatMap_append]
theorem spreadL_length (l : List UInt8) : (spreadL l).length = 2 * l.length := by
 induction l with
 | nil => rfl
 | cons b l ih => simp only [spreadL,List.flatMap_cons,List.length_append] at ih ⊢; rw [ih]; simp [wordB]; omega
def wordAt (s : ByteArray) (k : Nat) : Nat := 256 * (s.data.toList.getD (2 * k) 0).toNat + (s.data.toList.getD (2 * k + 1) 0).toNat
def goodTo (s : ByteArray) (k : Nat) : Prop := ∀ j,j < k -> (healedI (wordAt s j)).2 ≠ 2
instance goodToDec (s : ByteArray) (k : Nat) : Decidable (goodTo s k) := inferInstanceAs (Decidable (∀ j,j < k -> _))
end Go.Proofs.Ytfogmdnkpkofiaa
end

section
namespace Go.Proofs.Ytfogmdnkpkofiaa
open Go.RowKit
set_option linter.unusedVariables false
set_option maxRecDepth 20000
set_option maxHeartbeats 1600000 in
theorem specPageOk_any (k a s : Int) (x : ByteArray) (w : World) :
  Calls Try.prog 68 #[.agg #[.int .i64 k,.int .i64 a,.int .i64 s,.string x]] w fun e w' => e = .returned (.bool (pageOk k a s x)) ∧ Below w.heap.size w w' := by
 go_enter Try.func68,Try.ntmps68
 go_wp2_with (go_at_call 45; refine (l1In_any _ _ _ _).mono ?_; rintro e w' ⟨rfl,rfl⟩)
 all_goals go_ret
 all_goals refine ⟨ret_bool ?_,(Below.refl w.heap.size w).alloc (Nat.le_refl _) _⟩
 all_goals first
  | (simp_all [pageOk,text_empty]; done)
  | (simp_all [pageOk,inB]; omega)
end Go.Proofs.Ytfogmdnkpkofiaa
end

