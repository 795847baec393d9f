/- Several texts in one: ChipGrow, ChipCopyS. -/
import Derived.Test.YtdjifickdcnacaaDoorNChipOwn2
import Derived.Laws.OwnMore
import Derived.Maps.AppendAt
import Derived.OneCell
import Derived.Lib.OwnKind
import Derived.Deep.Onto
import Derived.RegionTactic
import Derived.Deep.DeepCutAuto
section
namespace Go.Proofs.YtdjifickdcnacaaDoor
open Go.RowKit
set_option linter.unusedVariables false
def oB (a : Option Addr) : Option Nat := a.map (·.block)
theorem ownBlock_slice (a : Option Addr) (n c : Nat) : (Value.slice a n c).ownBlock = oB a := by cases a <;> rfl
def pgV (ts : List ByteArray) : List Value := ts.map Value.string
abbrev PgOwn (B : Nat) (w : World) (a : Option Addr) (c : Nat) (ts : List ByteArray) : Prop := w.ownsRow B 9 1 (.slice a ts.length c) ts.length (pgV ts)
theorem pg_form {B : Nat} {w : World} {a : Option Addr} {c : Nat} {ts : List ByteArray} (h : PgOwn B w a c ts) : (a = none ∧ ts = [] ∧ c = 0) ∨ ∃ p,a = some ⟨p,0,none⟩ ∧ B <= p ∧ p < w.heap.size ∧ ts.length <= c := by
 rcases h.2 with ⟨e,h0⟩ | ⟨p,cap,cur,e,hb,hg,hn,_⟩
 ·simp only [Value.slice.injEq] at e
  exact .inl ⟨e.1,List.eq_nil_of_length_eq_zero h0,e.2.2⟩
 ·simp only [Value.slice.injEq] at e
  exact .inr ⟨p,e.1,hb,(Array.getElem?_eq_some_iff.1 hg).1,by omega⟩
theorem pg_room {B : Nat} {w : World} {a : Option Addr} {c : Nat} {ts : List ByteArray} (h : PgOwn B w a c ts) : ts.length <= c := by
 rcases pg_form h with ⟨_,rfl,rfl⟩ | ⟨_,_,_,_,h⟩
 ·exact Nat.le_refl _
 ·exact h
theorem pg_lt {B : Nat} {w : World} {a : Option Addr} {c : Nat} {ts : List ByteArray} (h : PgOwn B w a c ts) : ∀ k,oB a = some k -> B <= k ∧ k < w.heap.size := by
 intro k hk
 exact h.lt k (by rw [ownBlock_slice]; exact hk)
theorem pg_own {B g : Nat} {w : World} {a : Option Addr} {c : Nat} {ts : List ByteArray} (h : PgOwn B w a c ts) (hg : g < w.heap.size) : OwnTexts ((oB a).getD g) ((oB a).getD g + 1) w a ts.length ts := by
 rcases pg_form h with ⟨rfl,rfl,rfl⟩ | ⟨p,rfl,hb,hp,hc⟩
 ·exact ⟨rfl,by show g + 1 <= _; omega,fun h' => absurd h' (by simp)⟩
 ·refine ⟨rfl,by show p + 1 <= _; omega,fun _ => ⟨p,0,rfl,Nat.le_refl _,Nat.lt_succ_self _,fun i hi => ⟨?_,by rw [Nat.zero_add]; exact h.frozenAt i⟩⟩⟩
  rw [Nat.zero_add,h.cellAt i (by omega)]
  unfold pgV cellT
  rw [List.getElem?_map,List.getD_eq_getElem?_getD,List.getElem?_eq_getElem hi]
  rfl
theorem pg_keep {B : Nat} {w w' : World} {a : Option Addr} {c : Nat} {ts : List ByteArray} {row : Option Nat} (h : PgOwn B w a c ts) (hg : w.grownBy w' row) (hne : ∀ k,oB a = some k -> row ≠ some k) : PgOwn B w' a c ts := by
 refine h.kept hg ?_
 rw [ownBlock_slice]
 cases hb : oB a with
 | none => exact .inl rfl
 | some k => exact .inr (fun e => hne k hb e.symm)
theorem grown_below {w w' : World} (h : Below w.heap.size w w') (row : Option Nat) : w.grownBy w' row := ⟨h.os,h.tape,h.output,h.size,fun k hk _ => h.block k hk⟩
structure Pgs (B : Nat) (w : World) (k : Nat) (qs : List Sq) (A : Nat -> Option Addr) (C : Nat -> Nat) : Prop where
 own : ∀ i,i < k -> PgOwn B w (A i) (C i) (sqAt qs i).1
 apart : ∀ i j m,i < k -> j < k -> i ≠ j -> oB (A i) = some m -> oB (A j) ≠ some m
theorem Pgs.nil (B : Nat) (w : World) (qs : List Sq) (A : Nat -> Option Addr) (C : Nat -> Nat) : Pgs B w 0 qs A C := ⟨fun i hi => absurd hi (by omega),fun i j m hi => absurd hi (by omega)⟩
theorem Pgs.keep {B k : Nat} {w w' : World} {qs : List Sq} {A : Nat -> Option Addr} {C : Nat -> Nat} {row : Option Nat} (h : Pgs B w k qs A C) (hg : w.grownBy w' row) (hne : ∀ i m,i < k -> oB (A i) = some m -> row ≠ some m) : Pgs B w' k qs A C :=
 ⟨fun i hi => pg_keep (h.own i hi) hg (fun m hm => hne i m hi hm),h.apart⟩
theorem Pgs.later {B k : Nat} {w w' : World} {qs : List Sq} {A : Nat -> Option Addr} {C : Nat -> Nat} (h : Pgs B w k qs A C) (hb : Below w.heap.size w w') : Pgs B w' k qs A C :=
 h.keep (grown_below hb none) (fun i m hi hm => by simp)
structure GrowSqs (B : Nat) (w : World) (n : Nat) (qs : List Sq) (g : Nat) (A : Nat -> Option Addr) (C : Nat -> Nat) : Prop where
 len : qs.length = n
 row : Owned g (g + 1) w (some ⟨g,0,none⟩) (3 * n) (cellQ A C qs)
 pages : Pgs B w n qs A C
 atG : B <= g
 apartG : ∀ i,i < n -> oB (A i) ≠ some g
theorem GrowSqs.own {B n g : Nat} {w : World} {qs : List Sq} {A : Nat -> Option Addr} {C : Nat -> Nat} (h : GrowSqs B w n qs g A C) : OwnSqs B w.heap.size w (some ⟨g,0,none⟩) n qs g 0 A C (fun i => (oB (A i)).getD g) := by
 have hs := h.row.1
 have hP : ∀ i,i < n -> 0 < (sqAt qs i).1.length -> ∃ p,oB (A i) = some p := fun i hi hp => by
  rcases pg_form (h.pages.own i hi) with ⟨_,e,_⟩ | ⟨p,e,_⟩
  ·rw [e] at hp; exact absurd hp (by simp)
  ·exact ⟨p,by rw [e]; rfl⟩
 refine ⟨h.len,h.row,fun _ => rfl,fun i hi => pg_own (h.pages.own i hi) (by omega),fun i hi => pg_room (h.pages.own i hi),⟨h.atG,by omega⟩,fun i hi => ?_,fun i hi hp => ?_,fun i j hi hj hne hp hp' => ?_,Nat.le_refl _⟩
 ·cases hb : oB (A i) with
  | none => exact ⟨h.atG,by show g < _; omega⟩
  | some k => exact pg_lt (h.pages.own i hi) k hb
 ·obtain ⟨p,hb⟩ := hP i hi hp
  have := h.apartG i hi
  rw [hb] at this ⊢
  exact fun e => this (by rw [<- e]; rfl)
 ·obtain ⟨p,hb⟩ := hP i hi hp
  obtain ⟨q,hb'⟩ := hP j hj hp'
  have := h.pages.apart i j p hi hj hne hb
  rw [hb'] at this
  rw [hb,hb']
  exact fun e => this (by rw [show p = q from e])
theorem GrowSqs.later {B n g : Nat} {w w' : World} {qs : List Sq} {A : Nat -> Option Addr} {C : Nat -> Nat} (h : GrowSqs B w n qs g A C) (hb : Below w.heap.size w w') : GrowSqs B w' n qs g A C :=
 ⟨h.len,h.row.later hb h.row.1,h.pages.later hb,h.atG,h.apartG⟩
section
variable {B n g : Nat} {w w1 : World} {qs : List Sq} {A : Nat -> Option Addr} {C : Nat -> Nat}
theorem GrowSqs.cells (h : GrowSqs B w n qs g A C) {i : Nat} (hi : i < n) :
  w.cell? ⟨g,i * 3,none⟩ = some (.slice (A i) (sqAt qs i).1.length (C i)) ∧ w.cell? ⟨g,i * 3 + 1,none⟩ = some (.int .i64 (sqAt qs i).2.1) ∧ w.cell? ⟨g,i * 3 + 2,none⟩ = some (.bool (sqAt qs i).2.2) := by
 have c0 := (h.row.at0 (show 3 * i < 3 * n by omega)).1
 have c1 := (h.row.at0 (show 3 * i + 1 < 3 * n by omega)).1
 have c2 := (h.row.at0 (show 3 * i + 2 < 3 * n by omega)).1
 rw [cellQ0] at c0
 rw [cellQ1] at c1
 rw [cellQ2] at c2
 rw [Nat.mul_comm] at c0 c1 c2
 exact ⟨c0,c1,c2⟩
theorem GrowSqs.aside (h : GrowSqs B w n qs g A C) {l r : Nat} (hb : Aside l r w w1) (hr : r <= B ∨ w.heap.size <= l) : GrowSqs B w1 n qs g A C := by
 have hs := h.row.1
 have hG := h.atG
 have hbl : ∀ k,B <= k -> k < w.heap.size -> w1.heap[k]? = w.heap[k]? := fun k h1 h2 => hb.block k h2 (by omega)
 refine ⟨h.len,h.row.of hb.size (fun k h1 h2 => hbl k (by omega) (by omega)),⟨fun i hi => ?_,h.pages.apart⟩,h.atG,h.apartG⟩
 have ho := h.pages.own i hi
 refine ⟨ho.1,?_⟩
 rcases ho.2 with h' | ⟨p,cap,cur,e,h1,h2,h3⟩
 ·exact .inl h'
 ·exact .inr ⟨p,cap,cur,e,h1,(hbl p h1 (Array.getElem?_eq_some_iff.1 h2).1).trans h2,h3⟩
end
end Go.Proofs.YtdjifickdcnacaaDoor
end

section
namespace Go.Proofs.YtdjifickdcnacaaDoor
open Go.RowKit
set_option linter.unusedVariables false
set_option maxRecDepth 20000
theorem GrowSqs.mono {B B' n g : Nat} {w : World} {qs : List Sq} {A : Nat -> Option Addr} {C : Nat -> Nat} (h : GrowSqs B w n qs g A C) (hB : B' <= B) : GrowSqs B' w n qs g A C :=
 ⟨h.len,h.row,⟨fun i hi => (h.pages.own i hi).mono hB,h.pages.apart⟩,Nat.le_trans hB h.atG,h.apartG⟩
end Go.Proofs.YtdjifickdcnacaaDoor
end

