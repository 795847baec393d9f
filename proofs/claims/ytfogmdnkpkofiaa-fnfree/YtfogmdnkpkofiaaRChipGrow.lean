/- Several texts in one: ChipGrow, ChipCopyS, ChipOnly, ChipDoS, WearSpecA, PlaceOwn. -/
import Derived.Test.YtfogmdnkpkofiaaRChipOwn2
import Derived.Laws.OwnMore
import Derived.Maps.AppendAt
import Derived.OneCell
import Derived.Lib.OwnKind
import Derived.Deep.Onto
import Derived.RegionTactic
import Derived.Deep.DeepCutAuto
import Derived.Deep.RegionLaw
import Derived.Deep.AppendLies
import Derived.Deep.QuietTactic
import Derived.BigQuiet
section
namespace Go.Proofs.Ytfogmdnkpkofiaa
open Go.RowKit
set_option linter.unusedVariables false
def oB (a : Option Addr) : Option Nat := a.map (·.block)
theorem ownBlock_slice (a : Option Addr) (n c : Nat) : (Value.slice a n c).ownBlock = oB a := by cases a <;> rfl
def pgV (ts : List ByteArray) : List Value := ts.map Value.string
theorem pgV_snoc (ts : List ByteArray) (x : ByteArray) : pgV ts ++ [.string x] = pgV (ts ++ [x]) := by unfold pgV; simp
abbrev PgOwn (B : Nat) (w : World) (a : Option Addr) (c : Nat) (ts : List ByteArray) : Prop := w.ownsRow B 9 1 (.slice a ts.length c) ts.length (pgV ts)
theorem pg_form {B : Nat} {w : World} {a : Option Addr} {c : Nat} {ts : List ByteArray} (h : PgOwn B w a c ts) : (a = none ∧ ts = [] ∧ c = 0) ∨ ∃ p,a = some ⟨p,0,none⟩ ∧ B <= p ∧ p < w.heap.size ∧ ts.length <= c := by
 rcases h.2 with ⟨e,h0⟩ | ⟨p,cap,cur,e,hb,hg,hn,_⟩
 ·simp only [Value.slice.injEq] at e
  exact .inl ⟨e.1,List.eq_nil_of_length_eq_zero h0,e.2.2⟩
 ·simp only [Value.slice.injEq] at e
  exact .inr ⟨p,e.1,hb,(Array.getElem?_eq_some_iff.1 hg).1,by omega⟩
theorem pg_room {B : Nat} {w : World} {a : Option Addr} {c : Nat} {ts : List ByteArray} (h : PgOwn B w a c ts) : ts.length <= c := by
 rcases pg_form h with ⟨_,rfl,rfl⟩ | ⟨_,_,_,_,h⟩
 ·exact Nat.le_refl _
 ·exact h
theorem pg_lt {B : Nat} {w : World} {a : Option Addr} {c : Nat} {ts : List ByteArray} (h : PgOwn B w a c ts) : ∀ k,oB a = some k -> B <= k ∧ k < w.heap.size := by
 intro k hk
 exact h.lt k (by rw [ownBlock_slice]; exact hk)
theorem pg_own {B g : Nat} {w : World} {a : Option Addr} {c : Nat} {ts : List ByteArray} (h : PgOwn B w a c ts) (hg : g < w.heap.size) : OwnTexts ((oB a).getD g) ((oB a).getD g + 1) w a ts.length ts := by
 rcases pg_form h with ⟨rfl,rfl,rfl⟩ | ⟨p,rfl,hb,hp,hc⟩
 ·exact ⟨rfl,by show g + 1 <= _; omega,fun h' => absurd h' (by simp)⟩
 ·refine ⟨rfl,by show p + 1 <= _; omega,fun _ => ⟨p,0,rfl,Nat.le_refl _,Nat.lt_succ_self _,fun i hi => ⟨?_,by rw [Nat.zero_add]; exact h.frozenAt i⟩⟩⟩
  rw [Nat.zero_add,h.cellAt i (by omega)]
  unfold pgV cellT
  rw [List.getElem?_map,List.getD_eq_getElem?_getD,List.getElem?_eq_getElem hi]
  rfl
theorem pg_keep {B : Nat} {w w' : World} {a : Option Addr} {c : Nat} {ts : List ByteArray} {row : Option Nat} (h : PgOwn B w a c ts) (hg : w.grownBy w' row) (hne : ∀ k,oB a = some k -> row ≠ some k) : PgOwn B w' a c ts := by
 refine h.kept hg ?_
 rw [ownBlock_slice]
 cases hb : oB a with
 | none => exact .inl rfl
 | some k => exact .inr (fun e => hne k hb e.symm)
theorem grown_below {w w' : World} (h : Below w.heap.size w w') (row : Option Nat) : w.grownBy w' row := ⟨h.os,h.tape,h.output,h.size,fun k hk _ => h.block k hk⟩
theorem grown_set (w : World) (p : Addr) (v : Value) : w.grownBy (w.setCell p v) (some p.block) :=
 ⟨rfl,rfl,rfl,by rw [Go.Deep.nblk_setCell]; exact Nat.le_refl _,fun k _ hk => Go.Deep.blk_setCell_other _ _ _ _ (fun e => hk (by rw [e]))⟩
structure Pgs (B : Nat) (w : World) (k : Nat) (qs : List Sq) (A : Nat -> Option Addr) (C : Nat -> Nat) : Prop where
 own : ∀ i,i < k -> PgOwn B w (A i) (C i) (sqAt qs i).1
 apart : ∀ i j m,i < k -> j < k -> i ≠ j -> oB (A i) = some m -> oB (A j) ≠ some m
def upd {α : Type} (A : Nat -> α) (i : Nat) (a : α) : Nat -> α := fun j => if j = i then a else A j
theorem upd_same {α : Type} (A : Nat -> α) (i : Nat) (a : α) : upd A i a i = a := by unfold upd; rw [if_pos rfl]
theorem upd_other {α : Type} (A : Nat -> α) {i j : Nat} (a : α) (h : j ≠ i) : upd A i a j = A j := by unfold upd; rw [if_neg h]
theorem Pgs.nil (B : Nat) (w : World) (qs : List Sq) (A : Nat -> Option Addr) (C : Nat -> Nat) : Pgs B w 0 qs A C := ⟨fun i hi => absurd hi (by omega),fun i j m hi => absurd hi (by omega)⟩
theorem Pgs.keep {B k : Nat} {w w' : World} {qs : List Sq} {A : Nat -> Option Addr} {C : Nat -> Nat} {row : Option Nat} (h : Pgs B w k qs A C) (hg : w.grownBy w' row) (hne : ∀ i m,i < k -> oB (A i) = some m -> row ≠ some m) : Pgs B w' k qs A C :=
 ⟨fun i hi => pg_keep (h.own i hi) hg (fun m hm => hne i m hi hm),h.apart⟩
theorem Pgs.later {B k : Nat} {w w' : World} {qs : List Sq} {A : Nat -> Option Addr} {C : Nat -> Nat} (h : Pgs B w k qs A C) (hb : Below w.heap.size w w') : Pgs B w' k qs A C :=
 h.keep (grown_below hb none) (fun i m hi hm => by simp)
theorem Pgs.snoc {B k c' : Nat} {w w' : World} {qs : List Sq} {A : Nat -> Option Addr} {C : Nat -> Nat} {a' : Option Addr} (h : Pgs B w k qs A C) (hb : Below w.heap.size w w') (ho : PgOwn B w' a' c' (sqAt qs k).1) (hf : ∀ m,oB a' = some m -> w.heap.size <= m) : Pgs B w' (k + 1) qs (upd A k a') (upd C k c') := by
 refine ⟨fun i hi => ?_,fun i j m hi hj hne him hjm => ?_⟩
 ·by_cases e : i = k
  ·subst e; rw [upd_same,upd_same]; exact ho
  ·rw [upd_other _ _ e,upd_other _ _ e]; exact (h.later hb).own i (by omega)
 ·by_cases e : i = k
  ·subst e
   rw [upd_same] at him
   rw [upd_other _ _ (Ne.symm hne)] at hjm
   have h1 := hf m him
   have h2 := (pg_lt (h.own j (by omega)) m hjm).2
   omega
  ·rw [upd_other _ _ e] at him
   by_cases e' : j = k
   ·subst e'
    rw [upd_same] at hjm
    have h1 := hf m hjm
    have h2 := (pg_lt (h.own i (by omega)) m him).2
    omega
   ·rw [upd_other _ _ e'] at hjm
    exact h.apart i j m (by omega) (by omega) hne him hjm
structure GrowSqs (B : Nat) (w : World) (n : Nat) (qs : List Sq) (g : Nat) (A : Nat -> Option Addr) (C : Nat -> Nat) : Prop where
 len : qs.length = n
 row : Owned g (g + 1) w (some ⟨g,0,none⟩) (3 * n) (cellQ A C qs)
 pages : Pgs B w n qs A C
 atG : B <= g
 apartG : ∀ i,i < n -> oB (A i) ≠ some g
theorem GrowSqs.own {B n g : Nat} {w : World} {qs : List Sq} {A : Nat -> Option Addr} {C : Nat -> Nat} (h : GrowSqs B w n qs g A C) : OwnSqs B w.heap.size w (some ⟨g,0,none⟩) n qs g 0 A C (fun i => (oB (A i)).getD g) := by
 have hs := h.row.1
 have hP : ∀ i,i < n -> 0 < (sqAt qs i).1.length -> ∃ p,oB (A i) = some p := fun i hi hp => by
  rcases pg_form (h.pages.own i hi) with ⟨_,e,_⟩ | ⟨p,e,_⟩
  ·rw [e] at hp; exact absurd hp (by simp)
  ·exact ⟨p,by rw [e]; rfl⟩
 refine ⟨h.len,h.row,fun _ => rfl,fun i hi => pg_own (h.pages.own i hi) (by omega),fun i hi => pg_room (h.pages.own i hi),⟨h.atG,by omega⟩,fun i hi => ?_,fun i hi hp => ?_,fun i j hi hj hne hp hp' => ?_,Nat.le_refl _⟩
 ·cases hb : oB (A i) with
  | none => exact ⟨h.atG,by show g < _; omega⟩
  | some k => exact pg_lt (h.pages.own i hi) k hb
 ·obtain ⟨p,hb⟩ := hP i hi hp
  have := h.apartG i hi
  rw [hb] at this ⊢
  exact fun e => this (by rw [<- e]; rfl)
 ·obtain ⟨p,hb⟩ := hP i hi hp
  obtain ⟨q,hb'⟩ := hP j hj hp'
  have := h.pages.apart i j p hi hj hne hb
  rw [hb'] at this
  rw [hb,hb']
  exact fun e => this (by rw [show p = q from e])
theorem GrowSqs.ownS {B n g : Nat} {w : World} {qs : List Sq} {A : Nat -> Option Addr} {C : Nat -> Nat} (h : GrowSqs B w n qs g A C) : OwnSquares B w.heap.size w (some ⟨g,0,none⟩) n qs := ⟨_,_,_,_,_,h.own⟩
theorem GrowSqs.later {B n g : Nat} {w w' : World} {qs : List Sq} {A : Nat -> Option Addr} {C : Nat -> Nat} (h : GrowSqs B w n qs g A C) (hb : Below w.heap.size w w') : GrowSqs B w' n qs g A C :=
 ⟨h.len,h.row.later hb h.row.1,h.pages.later hb,h.atG,h.apartG⟩
theorem sqAt_set (qs : List Sq) {i : Nat} (x : Sq) (h : i < qs.length) (k : Nat) : sqAt (qs.set i x) k = if k = i then x else sqAt qs k := by
 unfold sqAt
 rw [List.getD_eq_getElem?_getD,List.getElem?_set]
 by_cases e : k = i
 ·subst e; simp [h]
 ·rw [if_neg e,if_neg (Ne.symm e),List.getD_eq_getElem?_getD]
def cell3 (a : Option Addr) (c : Nat) (x : Sq) (r : Nat) : Value := if r = 0 then .slice a x.1.length c else if r = 1 then .int .i64 x.2.1 else .bool x.2.2
theorem cellQ_cell3 (A : Nat -> Option Addr) (C : Nat -> Nat) (qs : List Sq) (j : Nat) : cellQ A C qs j = cell3 (A (j / 3)) (C (j / 3)) (sqAt qs (j / 3)) (j % 3) := rfl
theorem cellQ_put (A : Nat -> Option Addr) (C : Nat -> Nat) (qs : List Sq) {i : Nat} (h : i < qs.length) (a' : Option Addr) (c' : Nat) (x : Sq) (j : Nat) :
  cellQ (upd A i a') (upd C i c') (qs.set i x) j = if j / 3 = i then cell3 a' c' x (j % 3) else cellQ A C qs j := by
 rw [cellQ_cell3,cellQ_cell3,sqAt_set qs x h]
 by_cases e : j / 3 = i
 ·rw [if_pos e,if_pos e,e,upd_same,upd_same]
 ·rw [if_neg e,if_neg e,upd_other _ _ e,upd_other _ _ e]
theorem upd_id {α : Type} (A : Nat -> α) (i : Nat) : upd A i (A i) = A := by
 funext j; unfold upd; split
 ·rename_i e; rw [e]
 ·rfl
theorem cellQ_put' (A : Nat -> Option Addr) (C : Nat -> Nat) (qs : List Sq) {i : Nat} (h : i < qs.length) (x : Sq) (j : Nat) :
  cellQ A C (qs.set i x) j = if j / 3 = i then cell3 (A i) (C i) x (j % 3) else cellQ A C qs j := by
 have := cellQ_put A C qs h (A i) (C i) x j
 rwa [upd_id,upd_id] at this
section
variable {B n g : Nat} {w w1 : World} {qs : List Sq} {A : Nat -> Option Addr} {C : Nat -> Nat}
theorem GrowSqs.setPages (h : GrowSqs B w n qs g A C) {i : Nat} (hi : i < n) {a' : Option Addr} {c' : Nat} {ts' : List ByteArray} (hg : w.grownBy w1 (oB (A i))) (ho : PgOwn B w1 a' c' ts') (hat : ∀ m,oB a' = some m -> oB (A i) = some m ∨ w.heap.size <= m) :
  GrowSqs B (w1.setCell ⟨g,i * 3,none⟩ (.slice a' ts'.length c')) n (qs.set i (ts',(sqAt qs i).2.1,(sqAt qs i).2.2)) g (upd A i a') (upd C i c') := by
 have hs := h.row.1
 have hil : i < qs.length := by rw [h.len]; exact hi
 have hgw : ∀ j m,j < n -> j ≠ i -> oB (A j) = some m -> oB (A i) ≠ some m := fun j m hj hne hm => h.pages.apart j i m hj hi hne hm
 have hag : oB a' ≠ some g := fun e => by
  rcases hat g e with e' | e'
  ·exact h.apartG i hi e'
  ·omega
 have hrow1 : Owned g (g + 1) w1 (some ⟨g,0,none⟩) (3 * n) (cellQ A C qs) := h.row.of hg.size (fun k h1 h2 => hg.block k (by omega) (fun e => h.apartG i hi (by rw [<- e]; congr 1; omega)))
 refine ⟨by rw [List.length_set]; exact h.len,(hrow1.set0 (show i * 3 < 3 * n by omega) _).congr (fun j hj => ?_),⟨fun j hj => ?_,fun j k m hj hk hne hjm hkm => ?_⟩,h.atG,fun j hj => ?_⟩
 ·rw [cellQ_put A C qs hil]
  by_cases e : j = i * 3
  ·subst e
   rw [if_pos rfl,if_pos (by omega),show i * 3 % 3 = 0 by omega]
   rfl
  ·rw [if_neg e]
   by_cases e' : j / 3 = i
   ·rw [if_pos e',cellQ_cell3,e']
    unfold cell3
    have h3 : ¬ j % 3 = 0 := by omega
    rw [if_neg h3,if_neg h3]
   ·rw [if_neg e']
 ·rw [sqAt_set qs _ hil]
  by_cases e : j = i
  ·subst e
   rw [if_pos rfl,upd_same,upd_same]
   exact pg_keep ho (grown_set w1 ⟨g,j * 3,none⟩ _) (fun k hk e => hag (by rw [hk]; exact e.symm))
  ·rw [if_neg e,upd_other _ _ e,upd_other _ _ e]
   exact pg_keep (pg_keep (h.pages.own j hj) hg (fun k hk => hgw j k hj e hk)) (grown_set w1 ⟨g,i * 3,none⟩ _) (fun k hk e' => h.apartG j hj (by rw [hk]; exact e'.symm))
 ·by_cases e : j = i
  ·subst e
   rw [upd_same] at hjm
   rw [upd_other _ _ (Ne.symm hne)] at hkm
   rcases hat m hjm with e' | e'
   ·exact hgw k m hk (Ne.symm hne) hkm e'
   ·have := (pg_lt (h.pages.own k hk) m hkm).2; omega
  ·rw [upd_other _ _ e] at hjm
   by_cases e' : k = i
   ·subst e'
    rw [upd_same] at hkm
    rcases hat m hkm with e'' | e''
    ·exact hgw j m hj hne hjm e''
    ·have := (pg_lt (h.pages.own j hj) m hjm).2; omega
   ·rw [upd_other _ _ e'] at hkm
    exact h.pages.apart j k m hj hk hne hjm hkm
 ·by_cases e : j = i
  ·subst e; rw [upd_same]; exact hag
  ·rw [upd_other _ _ e]; exact h.apartG j hj
theorem GrowSqs.setOne (h : GrowSqs B w n qs g A C) {i r : Nat} (hi : i < n) (hr : r < 3) (hr0 : r ≠ 0) {x : Sq} {v : Value} (hx : x.1 = (sqAt qs i).1) (hv : cell3 (A i) (C i) x r = v) (hv' : ∀ s,s < 3 -> s ≠ r -> cell3 (A i) (C i) x s = cell3 (A i) (C i) (sqAt qs i) s) :
  GrowSqs B (w.setCell ⟨g,i * 3 + r,none⟩ v) n (qs.set i x) g A C := by
 have hil : i < qs.length := by rw [h.len]; exact hi
 refine ⟨by rw [List.length_set]; exact h.len,(h.row.set0 (show i * 3 + r < 3 * n by omega) _).congr (fun j hj => ?_),⟨fun j hj => ?_,h.pages.apart⟩,h.atG,h.apartG⟩
 ·rw [cellQ_put' A C qs hil]
  by_cases e : j = i * 3 + r
  ·subst e
   rw [if_pos rfl,if_pos (by omega),show (i * 3 + r) % 3 = r by omega,hv]
  ·rw [if_neg e]
   by_cases e' : j / 3 = i
   ·rw [if_pos e',hv' _ (by omega) (by omega),cellQ_cell3,e']
   ·rw [if_neg e']
 ·have hk := pg_keep (h.pages.own j hj) (grown_set w ⟨g,i * 3 + r,none⟩ v) (fun k hk e' => h.apartG j hj (by rw [hk]; exact e'.symm))
  rw [sqAt_set qs _ hil]
  by_cases e : j = i
  ·subst e
   rw [if_pos rfl,hx]
   exact hk
  ·rw [if_neg e]
   exact hk
theorem GrowSqs.setWipes (h : GrowSqs B w n qs g A C) {i : Nat} (hi : i < n) (z : Int) : GrowSqs B (w.setCell ⟨g,i * 3 + 1,none⟩ (.int .i64 z)) n (qs.set i ((sqAt qs i).1,z,(sqAt qs i).2.2)) g A C :=
 h.setOne hi (by omega) (by omega) rfl rfl (fun s hs hne => by unfold cell3; by_cases e : s = 0 <;> simp [e,hne])
theorem GrowSqs.setBad (h : GrowSqs B w n qs g A C) {i : Nat} (hi : i < n) (b : Bool) : GrowSqs B (w.setCell ⟨g,i * 3 + 2,none⟩ (.bool b)) n (qs.set i ((sqAt qs i).1,(sqAt qs i).2.1,b)) g A C :=
 h.setOne hi (by omega) (by omega) rfl rfl (fun s hs hne => by unfold cell3; by_cases e : s = 0 <;> by_cases e1 : s = 1 <;> simp [e,e1] <;> omega)
theorem GrowSqs.cells (h : GrowSqs B w n qs g A C) {i : Nat} (hi : i < n) :
  w.cell? ⟨g,i * 3,none⟩ = some (.slice (A i) (sqAt qs i).1.length (C i)) ∧ w.cell? ⟨g,i * 3 + 1,none⟩ = some (.int .i64 (sqAt qs i).2.1) ∧ w.cell? ⟨g,i * 3 + 2,none⟩ = some (.bool (sqAt qs i).2.2) := by
 have c0 := (h.row.at0 (show 3 * i < 3 * n by omega)).1
 have c1 := (h.row.at0 (show 3 * i + 1 < 3 * n by omega)).1
 have c2 := (h.row.at0 (show 3 * i + 2 < 3 * n by omega)).1
 rw [cellQ0] at c0
 rw [cellQ1] at c1
 rw [cellQ2] at c2
 rw [Nat.mul_comm] at c0 c1 c2
 exact ⟨c0,c1,c2⟩
theorem GrowSqs.open_ (h : GrowSqs B w n qs g A C) {j : Nat} (hj : j < 3 * n) : w.frozen? ⟨g,j,none⟩ = false := (h.row.at0 hj).2.1
theorem GrowSqs.aside (h : GrowSqs B w n qs g A C) {l r : Nat} (hb : Aside l r w w1) (hr : r <= B ∨ w.heap.size <= l) : GrowSqs B w1 n qs g A C := by
 have hs := h.row.1
 have hG := h.atG
 have hbl : ∀ k,B <= k -> k < w.heap.size -> w1.heap[k]? = w.heap[k]? := fun k h1 h2 => hb.block k h2 (by omega)
 refine ⟨h.len,h.row.of hb.size (fun k h1 h2 => hbl k (by omega) (by omega)),⟨fun i hi => ?_,h.pages.apart⟩,h.atG,h.apartG⟩
 have ho := h.pages.own i hi
 refine ⟨ho.1,?_⟩
 rcases ho.2 with h' | ⟨p,cap,cur,e,h1,h2,h3⟩
 ·exact .inl h'
 ·exact .inr ⟨p,cap,cur,e,h1,(hbl p h1 (Array.getElem?_eq_some_iff.1 h2).1).trans h2,h3⟩
end
end Go.Proofs.Ytfogmdnkpkofiaa
end

section
namespace Go.Proofs.Ytfogmdnkpkofiaa
open Go.RowKit
set_option linter.unusedVariables false
set_option maxRecDepth 20000
theorem pg_ne {B : Nat} {w : World} {a : Option Addr} {c : Nat} {ts : List ByteArray} (h : PgOwn B w a c ts) {p : Nat} {cs : Array Value} {T : TypeId} {fr : Nat × Nat} (hp : w.heap[p]? = some (.cells cs T fr)) (hT : T ≠ 9) : oB a ≠ some p := by
 intro e
 obtain ⟨c',fz,h2⟩ := Go.Lib.ownsRow_kind h p (by rw [ownBlock_slice]; exact e)
 rw [hp] at h2
 simp only [Option.some.injEq,Obj.cells.injEq] at h2
 exact hT h2.2.1
theorem Pgs.keepT {B k p : Nat} {w w' : World} {qs : List Sq} {A : Nat -> Option Addr} {C : Nat -> Nat} (h : Pgs B w k qs A C) (hg : w.grownBy w' (some p)) {cs : Array Value} {T : TypeId} {fr : Nat × Nat} (hp : w.heap[p]? = some (.cells cs T fr)) (hT : T ≠ 9) : Pgs B w' k qs A C :=
 h.keep hg (fun i m hi hm e => pg_ne (h.own i hi) hp hT (by rw [hm]; exact e.symm))
theorem GrowSqs.mono {B B' n g : Nat} {w : World} {qs : List Sq} {A : Nat -> Option Addr} {C : Nat -> Nat} (h : GrowSqs B w n qs g A C) (hB : B' <= B) : GrowSqs B' w n qs g A C :=
 ⟨h.len,h.row,⟨fun i hi => (h.pages.own i hi).mono hB,h.pages.apart⟩,Nat.le_trans hB h.atG,h.apartG⟩
def rowL (A : Nat -> Option Addr) (C : Nat -> Nat) (qs : List Sq) (k : Nat) : List Value := (List.range (3 * k)).map (cellQ A C qs)
theorem rowL_snoc (A : Nat -> Option Addr) (C : Nat -> Nat) (qs : List Sq) (k : Nat) (a' : Option Addr) (c' : Nat) :
  rowL A C qs k ++ [.slice a' (sqAt qs k).1.length c',.int .i64 (sqAt qs k).2.1,.bool (sqAt qs k).2.2] = rowL (upd A k a') (upd C k c') qs (k + 1) := by
 unfold rowL
 rw [show 3 * (k + 1) = 3 * k + 1 + 1 + 1 by omega,List.range_succ,List.range_succ,List.range_succ]
 simp only [List.map_append,List.map_cons,List.map_nil,List.append_assoc]
 rw [cellQ0,cellQ1,show 3 * k + 1 + 1 = 3 * k + 2 from rfl,cellQ2,upd_same,upd_same]
 have : (List.range (3 * k)).map (cellQ A C qs) = (List.range (3 * k)).map (cellQ (upd A k a') (upd C k c') qs) := by
  apply List.map_congr_left
  intro j hj
  rw [List.mem_range] at hj
  rw [cellQ_cell3,cellQ_cell3,upd_other _ _ (show j / 3 ≠ k by omega),upd_other _ _ (show j / 3 ≠ k by omega)]
 rw [this]
 rfl
theorem grow_of_row {B n : Nat} {w : World} {v : Value} {qs : List Sq} {A : Nat -> Option Addr} {C : Nat -> Nat} (hn : 0 < n) (hl : qs.length = n) (h : w.ownsRow B 37 3 v n (rowL A C qs n)) (hp : Pgs B w n qs A C) (hT : 37 ≠ 9) :
  ∃ g c,v = .slice (some ⟨g,0,none⟩) n c ∧ GrowSqs B w n qs g A C := by
 obtain ⟨g,c,rfl⟩ := Go.Joins.ownsRow_form h hn
 refine ⟨g,c,rfl,hl,?_,hp,(h.lt g rfl).1,fun i hi e => ?_⟩
 ·have := (h.lt g rfl).2
  refine ⟨by omega,fun _ => ⟨g,0,rfl,Nat.le_refl _,Nat.lt_succ_self _,fun j hj => ⟨?_,by rw [Nat.zero_add]; exact h.frozenAt j⟩⟩⟩
  rw [Nat.zero_add,h.cellAt j (by omega)]
  unfold rowL
  simp [hj]
 ·obtain ⟨cs,fz,h2⟩ := Go.Lib.ownsRow_kind h g rfl
  exact pg_ne (hp.own i hi) h2 hT e
theorem append_pages {P : Program} (hinfo : (P.info? 9).map (fun i => (i.zero,i.size,i.bytes)) = some (some (.string ByteArray.empty),1,16)) {t : TypeId} (ht : P.underlying t = some (.slice 9)) {B g : Nat} {w : World} (ho : w.ownsRow B 9 1 (.slice (some ⟨g,0,none⟩) 0 0) 0 []) (hB : B <= w.heap.size)
  {lo hi : Nat} {a : Option Addr} {c : Nat} {ts : List ByteArray} (hx : Texts lo hi w a ts.length ts) (hn : ts.length <= 1048576) :
  ∃ a' c' w',(Builtin.append_ #[t,t] t #[.slice (some ⟨g,0,none⟩) 0 0,.slice a ts.length c]).run P w = .ok (.slice a' ts.length c') w' ∧ PgOwn B w' a' c' ts ∧ w.grownBy w' (some g) ∧ (∀ m,oB a' = some m -> m = g ∨ m = w.heap.size) := by
 obtain ⟨i0,hi0,hz0,hz1,hz2⟩ := info_parts hinfo
 cases a with
 | none =>
  have h0 : ts.length = 0 := by
   rcases Nat.eq_zero_or_pos ts.length with h | h
   ·exact h
   ·obtain ⟨b,off,e,_⟩ := hx.2.2 h; cases e
  have hts : ts = [] := List.eq_nil_of_length_eq_zero h0
  subst hts
  refine ⟨some ⟨g,0,none⟩,0,w,?_,ho,⟨rfl,rfl,rfl,Nat.le_refl _,fun _ _ _ => rfl⟩,fun m hm => .inl (by have e : some g = some m := hm; simp at e; exact e.symm)⟩
  simp [Builtin.append_,run_underlying ht,sizeOf,typeInfo,hi0,Builtin.lenOf,Builtin.firstCells,storeCells]
 | some x =>
  have hnews : ∀ (j : Nat) u,(pgV ts)[j]? = some u -> w.cell? (x.add j) = some u := by
   intro j u hj
   have hjl : j < ts.length := by
    rcases Nat.lt_or_ge j ts.length with h | h
    ·exact h
    ·rw [List.getElem?_eq_none (by unfold pgV; simpa using h)] at hj; simp at hj
   obtain ⟨b,off,e,_,_,hc⟩ := hx.2.2 (by omega)
   simp only [Option.some.injEq] at e
   subst e
   have hadd : (⟨b,off,none⟩ : Addr).add j = ⟨b,off + j,none⟩ := by unfold Addr.add; split <;> simp_all
   rw [hadd,hc j hjl,<- hj]
   unfold pgV cellT
   rw [List.getElem?_map,List.getD_eq_getElem?_getD,List.getElem?_eq_getElem hjl]
   rfl
  obtain ⟨v',w',h1,h2,h3,h4,h5⟩ := run_append_own_at (P := P) w B t t 9 i0 (.string ByteArray.empty) 1 16 ht hi0 hz0 hz1 hz2 rfl (by decide) _ 0 [] ho x ts.length c (pgV ts) (by unfold pgV; simp) hnews
   (fun u hu => by unfold pgV at hu; rw [List.mem_map] at hu; obtain ⟨s,_,rfl⟩ := hu; rfl) (by unfold maxLen; omega) (by omega) hB
  rw [Nat.zero_add,List.nil_append] at h2
  obtain ⟨a',c',rfl⟩ : ∃ a' c',v' = .slice a' ts.length c' := by
   rcases Go.Joins.ownsRow_forms h2 with ⟨rfl,h0⟩ | ⟨g',c',rfl⟩
   ·exact ⟨none,0,by rw [h0]⟩
   ·exact ⟨_,c',rfl⟩
  refine ⟨a',c',w',h1,h2,h3,fun m hm => ?_⟩
  rw [ownBlock_slice,ownBlock_slice,hm] at h5
  rcases h5 with h5 | h5
  ·exact .inl (by have e : some m = some g := h5; simp at e; exact e)
  ·exact .inr (by simp at h5; exact h5)
theorem cell_three_new (w : World) (x y z : Value) (t : TypeId) : ∀ j u,[x,y,z][j]? = some u -> (w.alloc (.cells #[x,y,z] t)).cell? ((⟨w.heap.size,0,none⟩ : Addr).add j) = some u := by
 intro j u hj
 match j,hj with
 | 0,hj => simp at hj; subst hj; simp [Addr.add]
 | 1,hj => simp at hj; subst hj; simp [Addr.add]
 | 2,hj => simp at hj; subst hj; simp [Addr.add]
theorem three_one (a : Option Addr) (n c : Nat) (z : Int) (b : Bool) : ∀ u ∈ [Value.slice a n c,.int .i64 z,.bool b],u.oneCell' = true := by
 intro u hu
 simp only [List.mem_cons,List.not_mem_nil,or_false] at hu
 rcases hu with rfl | rfl | rfl <;> rfl
theorem chipOk_parts {z : Int} {qs : List Sq} (h : chipOk z qs = true) : 1 <= z ∧ z <= 8 ∧ 1 <= qs.length ∧ qs.length <= 12 ∧ ∀ q ∈ qs,sqOk z q = true := by
 unfold chipOk inB at h
 simp only [Bool.and_eq_true,decide_eq_true_eq,List.all_eq_true] at h
 exact ⟨h.1.1,h.1.2,h.2.1,h.2.2.1,h.2.2.2⟩
theorem sqOk_parts {z : Int} {q : Sq} (h : sqOk z q = true) : (q.1.length : Int) <= z ∧ 0 <= q.2.1 ∧ q.2.1 <= 1000000 ∧ ∀ s ∈ q.1,1 <= s.size ∧ s.size <= 200 := by
 unfold sqOk inB at h
 simp only [Bool.and_eq_true,decide_eq_true_eq,List.all_eq_true] at h
 refine ⟨h.1,h.2.1.1,h.2.1.2,fun s hs => ?_⟩
 have := h.2.2 s hs
 unfold txOk at this
 simpa using this
theorem sqAt_mem {qs : List Sq} {k : Nat} (h : k < qs.length) : sqAt qs k ∈ qs := by
 unfold sqAt; rw [List.getD_eq_getElem?_getD,List.getElem?_eq_getElem h]; exact List.getElem_mem h
theorem chipOk_at {z : Int} {qs : List Sq} (h : chipOk z qs = true) {k : Nat} (hk : k < qs.length) : sqOk z (sqAt qs k) = true := (chipOk_parts h).2.2.2.2 _ (sqAt_mem hk)
theorem chipOk_fits {z : Int} {qs : List Sq} (h : chipOk z qs = true) : ∀ x ∈ qs,sqFits x := by
 intro x hx
 obtain ⟨_,h2,_,_,h5⟩ := chipOk_parts h
 obtain ⟨k1,k2,k3,k4⟩ := sqOk_parts (h5 x hx)
 refine ⟨fun s hs => ?_,?_,?_⟩
 ·have := (k4 s hs).2; unfold maxLen; omega
 ·unfold maxLen; omega
 ·show (decide _ && decide _) = true; rw [Bool.and_eq_true,decide_eq_true_eq,decide_eq_true_eq]; refine ⟨Int.le_trans (by decide) k2,Int.le_trans k3 (by decide)⟩
theorem Try.infoStrC : (Try.prog.info? 9).map (fun i => (i.zero,i.size,i.bytes)) = some (some (.string ByteArray.empty),1,16) := by kernel_rfl
set_option maxHeartbeats 1600000 in
theorem l8Copy_any (z : Int) (a : Option Addr) (n cap : Nat) (qs : List Sq) (w : World) {lo hi : Nat} (h : Squares lo hi w a n qs) (hhi : hi <= w.heap.size) (hok : chipOk z qs = true) :
  Calls Try.prog 29 #[.agg #[.int .i64 z,.slice a n cap]] w fun e w' => ∃ g c A C,e = .returned (.agg #[.int .i64 z,.slice (some ⟨g,0,none⟩) n c]) ∧ GrowSqs w.heap.size w' n qs g A C ∧ Below w.heap.size w w' := by
 obtain ⟨wA,hwA⟩ : ∃ wA,wA = ((w.alloc (.cells #[.int .i64 z,.slice a n cap] 26)).alloc (.cells #[.int .i64 0,.slice none 0 0] 26)).alloc (.cells #[.int .i64 z,.slice none 0 0] 26) := ⟨_,rfl⟩
 have hzA : wA.heap.size = w.heap.size + 1 + 1 + 1 := by rw [hwA]; simp
 have HBA : Hid (Below w.heap.size w wA) := by rw [hwA]; exact ((((Below.refl _ _).alloc (Nat.le_refl _) _).alloc (by simp) _).alloc (by simp; omega) _)
 have H0 : Hid (wA.heap[w.heap.size]? = some (.cells #[.int .i64 z,.slice a n cap] 26)) := by rw [hwA]; exact heap_old (heap_old (heap_new _ _))
 have H1 : Hid (wA.heap[w.heap.size + 1]? = some (.cells #[.int .i64 0,.slice none 0 0] 26)) := by rw [hwA]; exact heap_old (heap_at (by simp))
 have H2 : Hid (wA.heap[w.heap.size + 1 + 1]? = some (.cells #[.int .i64 z,.slice none 0 0] 26)) := by rw [hwA]; exact heap_at (by simp)
 obtain ⟨hz1,hz8,hn1,hn12,_⟩ := chipOk_parts hok
 have HL := hide h.1
 have hnl := h.1
 rw [hnl] at hn1 hn12
 have HSQ := hide h
 have HOK := hide hok
 clear h hok hnl
 obtain ⟨i0,hi0,hzz0,hzz1,hzz2⟩ := info_parts Try.infoSq
 go_enter Try.func29,Try.ntmps29
 go_wp2_with fail
 rw [<- hwA]
 clear hwA
 go_loopw [4] (fun i wr => ∃ (k : Nat) (V : Value) (A : Nat -> Option Addr) (C : Nat -> Nat),k <= n ∧ i = .int .i64 (k : Int) ∧ wr.heap[w.heap.size]? = some (.cells #[.int .i64 z,.slice a n cap] 26) ∧ wr.heap[w.heap.size + 1]? = some (.cells #[.int .i64 0,.slice none 0 0] 26) ∧ wr.heap[w.heap.size + 1 + 1]? = some (.cells #[.int .i64 z,V] 26) ∧
  wr.ownsRow (w.heap.size + 3) 37 3 V k (rowL A C qs k) ∧ Pgs (w.heap.size + 3) wr k qs A C ∧ w.heap.size + 3 <= wr.heap.size ∧ Below w.heap.size w wr) (fun i _ => n - (intOf i).toNat)
 case atStart => exact ⟨0,.slice none 0 0,fun _ => none,fun _ => 0,Nat.zero_le _,rfl,H0.out,H1.out,H2.out,World.ownsRow_nil _ _ _ _,Pgs.nil _ _ _ _ _,by omega,HBA.out⟩
 case round =>
  obtain ⟨k,V,A,C,hk,rfl,hb0,hb1,hb2,hown,hpg,hsz,hbel⟩ := hrel
  clear H0 H1 H2 HBA
  obtain ⟨c0,c1⟩ := two_cells hb0
  have K0 := hide hb0
  have K1 := hide hb1
  have K2 := hide hb2
  have HOW := hide hown
  have HPG := hide hpg
  have HBB := hide hbel
  clear hb0 hb1 hb2 hown hpg
  by_cases hlt : k < n
  ·have hql : k < qs.length := by rw [HL.out]; exact hlt
   obtain ⟨_,A0,C0,hx,ht⟩ := HSQ.out
   obtain ⟨b,off,rfl,_,hb,hc⟩ := hx.2 (by omega)
   obtain ⟨d0,d1,d2⟩ := sq_cells hc hbel (show b < w.heap.size by omega) hlt
   have HTX := hide ((ht k hlt).later hbel (by omega))
   have hl8 : (sqAt qs k).1.length <= 8 := by have := (sqOk_parts (chipOk_at HOK.out hql)).1; omega
   have HSN := hide (fun a' c' => rowL_snoc A C qs k a' c')
   have HPS := hide (fun (a' : Option Addr) (c' : Nat) (w' : World) (hb : Below wr.heap.size wr w') (ho : PgOwn (w.heap.size + 3) w' a' c' (sqAt qs k).1) (hf : ∀ m,oB a' = some m -> wr.heap.size <= m) => HPG.out.snoc hb ho hf)
   clear hc hx ht hbel HPG
   generalize sqAt qs k = y at *
   obtain ⟨ts,zw,bd⟩ := y
   dsimp only at d0 d1 d2 hl8 HTX HSN HPS
   obtain ⟨wB,hwB⟩ : ∃ wB,wB = (wr.alloc (.cells #[.slice (A0 k) ts.length (C0 k),.int .i64 zw,.bool bd] 37)).alloc (.cells #[] 9) := ⟨_,rfl⟩
   have hzB : wB.heap.size = wr.heap.size + 1 + 1 := by rw [hwB]; simp
   have HB1 : Hid (Below wr.heap.size wr wB) := by rw [hwB]; exact (((Below.refl _ _).alloc (Nat.le_refl _) _).alloc (by simp) _)
   have HS0 : Hid (wB.heap[wr.heap.size]? = some (.cells #[.slice (A0 k) ts.length (C0 k),.int .i64 zw,.bool bd] 37)) := by rw [hwB]; exact heap_old (heap_new _ _)
   have hmade : wB.ownsRow (w.heap.size + 3) 9 1 (.slice (some ⟨wr.heap.size + 1,0,none⟩) 0 0) 0 [] := by
    have := own_made0 (wr.alloc (.cells #[.slice (A0 k) ts.length (C0 k),.int .i64 zw,.bool bd] 37)) 9
    rw [<- hwB] at this
    have e : (wr.alloc (.cells #[.slice (A0 k) ts.length (C0 k),.int .i64 zw,.bool bd] 37)).heap.size = wr.heap.size + 1 := by simp
    rw [e] at this
    exact this.mono (by omega)
   obtain ⟨a',c',w2,hap,hpo,hgr,hfr⟩ := append_pages (P := Try.prog) Try.infoStrC Try.underlying35 hmade (by omega) (c := C0 k) (HTX.out.later HB1.out HTX.out.2.1) (by omega)
   have hzB2 := hgr.size
   have HAP := hide hap
   have HB2 := hide (HB1.out.grown hgr (by omega) (fun m hm => by simp only [Option.some.injEq] at hm; omega))
   have HS2 : Hid (w2.heap[wr.heap.size]? = some (.cells #[.slice (A0 k) ts.length (C0 k),.int .i64 zw,.bool bd] 37)) := (hgr.block wr.heap.size (by omega) (fun e => by simp only [Option.some.injEq] at e; omega)).trans HS0.out
   have HP2 := hide (HPS.out a' c' w2 HB2.out hpo (fun m hm => by have := hfr m hm; omega))
   obtain ⟨s0,s1,s2⟩ := three_cells HS0.out
   obtain ⟨u0,u1,u2⟩ := three_cells HS2.out
   have fz := four_frozen HS2.out 0
   clear hap hpo hgr hfr HPS hmade
   rw [hwB] at s0 s1 s2
   go_upto_region 7 with (at_builtin; (first | rw [<- hwB] | skip); refine wpList_append_eq rfl (.tmp 21) (.tmp 23) 35 rfl _ _ _ w2 rfl rfl HAP.out ?_)
   have HS3 := hide (set_block HS2.out 0 (.slice a' ts.length c') (by simp))
   have K03 := hide (set_other (block_on K0.out HB2.out) (show wr.heap.size ≠ w.heap.size by omega) (o := 0) (.slice a' ts.length c'))
   have K13 := hide (set_other (block_on K1.out HB2.out) (show wr.heap.size ≠ w.heap.size + 1 by omega) (o := 0) (.slice a' ts.length c'))
   have K23 := hide (set_other (block_on K2.out HB2.out) (show wr.heap.size ≠ w.heap.size + 1 + 1 by omega) (o := 0) (.slice a' ts.length c'))
   have HP3 := hide (HP2.out.keepT (grown_set w2 ⟨wr.heap.size,0,none⟩ (.slice a' ts.length c')) HS2.out (by decide))
   have HO3 := hide (ownsRow_setCell_other (HOW.out.kept (grown_below HB2.out none) (by cases hv : V.ownBlock with | none => exact .inl rfl | some q => exact .inr (by simp))) (a := ⟨wr.heap.size,0,none⟩) (by intro e; have := (HOW.out.lt _ e).2; simp at this) (.slice a' ts.length c'))
   have HB3 := hide (HB2.out.setCell (p := ⟨wr.heap.size,0,none⟩) (Nat.le_refl _) (.slice a' ts.length c'))
   have hz3 : w2.heap.size = (w2.setCell ⟨wr.heap.size,0,none⟩ (.slice a' ts.length c')).heap.size := (Go.Deep.nblk_setCell _ _ _).symm
   clear HS2 HP2 K0 K1 K2 HOW HB2 HS0 HB1 HAP s0 s1 s2 u0 u1 u2 fz hwB c0 c1
   generalize w2.setCell ⟨wr.heap.size,0,none⟩ (.slice a' ts.length c') = w3 at *
   obtain ⟨s0,s1,s2⟩ := three_cells (show w3.heap[wr.heap.size]? = some (.cells #[.slice a' ts.length c',.int .i64 zw,.bool bd] 37) from HS3.out)
   obtain ⟨o0,o1⟩ := two_cells K23.out
   have HO4 := hide (HO3.out.alloc (.cells #[.slice a' ts.length c',.int .i64 zw,.bool bd] 37))
   have HB4 := hide ((Below.refl w3.heap.size w3).alloc (Nat.le_refl _) (.cells #[.slice a' ts.length c',.int .i64 zw,.bool bd] 37))
   have hz4 : (w3.alloc (.cells #[.slice a' ts.length c',.int .i64 zw,.bool bd] 37)).heap.size = w3.heap.size + 1 := by simp
   go_wp2_with (at_builtin; (refine wpList_append_own_at _ rfl (.tmp 27) (.tmp 29) 24 rfl (w.heap.size + 3) 37 i0 (.agg #[.slice none 0 0,.int .i64 0,.bool false]) 3 40 Try.underlying24 hi0 hzz0 hzz1 hzz2 rfl (by decide) V k (rowL A C qs k) rfl HO4.out ⟨w3.heap.size,0,none⟩ 1 1 [.slice a' ts.length c',.int .i64 zw,.bool bd] rfl rfl (cell_three_new _ _ _ _ _) (three_one _ _ _ _ _) (by unfold maxLen; omega) (by omega) (by omega) ?_); intro v' w5 hown5 hgr5 _ _; obtain ⟨g',q',rfl⟩ := Go.Joins.ownsRow_form hown5 (Nat.succ_pos k); have HOW5 := hide hown5; have HGR5 := hide hgr5; have K25 : Hid (w5.heap[w.heap.size + 1 + 1]? = some (.cells #[.int .i64 z,V] 26)) := (hgr5.block _ (by omega) (fun e => by have := (HO4.out.lt _ e.symm).1; omega)).trans (block_on K23.out HB4.out); obtain ⟨o2,o3⟩ := two_cells K25.out; have f5 := four_frozen K25.out 1; clear hown5 hgr5)
   have hz5 := HGR5.out.size
   have hV : ∀ m,V.ownBlock = some m -> w.heap.size + 3 <= m := fun m hm => (HO4.out.lt m hm).1
   obtain ⟨v',hv'⟩ : ∃ v',v' = Value.slice (some ⟨g',0,none⟩) (k + 1) q' := ⟨_,rfl⟩
   rw [<- hv'] at HOW5 ⊢
   refine ⟨⟨k + 1,v',upd A k a',upd C k c',by omega,by go_num,?_,?_,set_block K25.out 1 v' (by simp),?_,?_,?_,?_⟩,by simp [intOf]; omega⟩
   ·exact set_other ((HGR5.out.block _ (by omega) (fun e => by have := hV _ e.symm; omega)).trans (block_on K03.out HB4.out)) (by omega) _
   ·exact set_other ((HGR5.out.block _ (by omega) (fun e => by have := hV _ e.symm; omega)).trans (block_on K13.out HB4.out)) (by omega) _
   ·rw [<- HSN.out]; exact ownsRow_setCell_below HOW5.out (a := ⟨w.heap.size + 1 + 1,1,none⟩) (by show w.heap.size + 1 + 1 < _; omega) v'
   ·refine ((HP3.out.later HB4.out).keep HGR5.out (fun i m hi hm e => ?_)).keepT (grown_set w5 ⟨w.heap.size + 1 + 1,1,none⟩ v') K25.out (by decide)
    obtain ⟨cs,fz,h2⟩ := Go.Lib.ownsRow_kind HO4.out m e
    exact pg_ne ((HP3.out.later HB4.out).own i hi) h2 (by decide) hm
   ·rw [Go.Deep.nblk_setCell]; omega
   ·exact ((below_here (HBB.out.trans (HB3.out.mono (by omega))) HB4.out).grown HGR5.out (by omega) (fun m hm => by have := hV m hm; omega)).setCell (p := ⟨w.heap.size + 1 + 1,1,none⟩) (by show w.heap.size <= w.heap.size + 1 + 1; omega) v'
  ·obtain rfl : k = n := by omega
   obtain ⟨g,c,rfl,hG⟩ := grow_of_row (by omega) HL.out HOW.out HPG.out (by decide)
   obtain ⟨o0,o1⟩ := two_cells K2.out
   obtain ⟨p0,p1⟩ := two_cells K1.out
   have f0 := four_frozen K1.out 0
   have f1 := four_frozen K1.out 1
   have HRS := hide (two_set K1.out (.int .i64 z) (.slice (some ⟨g,0,none⟩) k c))
   have HAS := hide (two_aside (b := w.heap.size + 1) (Aside.refl (w.heap.size + 1) (w.heap.size + 2) wr) (by omega) (by omega) (.int .i64 z) (.slice (some ⟨g,0,none⟩) k c))
   have HGG := hide ((hG.aside HAS.out (.inl (by omega))).mono (show w.heap.size <= w.heap.size + 3 by omega))
   have HBF := hide (HBB.out.trans (HAS.out.below (B := w.heap.size) (by omega) (by omega)))
   clear hG
   go_wp2_with fail
   refine bodyPost_ret (results_cell rfl rfl (run_loadVar_row _ _ _ _ _ _ _ HRS.out Try.underlying26 rfl (by kernel_rfl))) rfl ⟨g,c,A,C,rfl,HGG.out,HBF.out⟩
end Go.Proofs.Ytfogmdnkpkofiaa
end

section
namespace Go.Proofs.Ytfogmdnkpkofiaa
open Go.RowKit
set_option linter.unusedVariables false
structure Only (B g : Nat) (w w' : World) : Prop where
 below : Below B w w'
 other : ∀ k cs T fr,k ≠ g -> T ≠ 9 -> w.heap[k]? = some (.cells cs T fr) -> w'.heap[k]? = some (.cells cs T fr)
section
variable {B g : Nat} {w w1 w2 : World}
theorem Only.refl (B g : Nat) (w : World) : Only B g w w := ⟨Below.refl _ _,fun _ _ _ _ _ _ h => h⟩
theorem Only.trans (h : Only B g w w1) (k : Only B g w1 w2) : Only B g w w2 := ⟨h.below.trans k.below,fun q cs T fr h1 h2 h3 => k.other q cs T fr h1 h2 (h.other q cs T fr h1 h2 h3)⟩
theorem Only.on (h : Only B g w w1) (hb : Below w1.heap.size w1 w2) (hB : B <= w1.heap.size) : Only B g w w2 :=
 ⟨h.below.trans (hb.mono hB),fun q cs T fr h1 h2 h3 => block_on (h.other q cs T fr h1 h2 h3) hb⟩
theorem only_of_below (h : Below w.heap.size w w1) (hB : B <= w.heap.size) : Only B g w w1 := (Only.refl B g w).on h hB
theorem Only.grown (h : Only B g w w1) {a : Option Addr} {c : Nat} {ts : List ByteArray} (hp : PgOwn B w1 a c ts) (hg : w1.grownBy w2 (oB a)) (hB : B <= w1.heap.size) : Only B g w w2 :=
 ⟨h.below.grown hg hB (fun k hk => (pg_lt hp k hk).1),fun q cs T fr h1 h2 h3 => by
  have h4 := h.other q cs T fr h1 h2 h3
  rw [hg.block q (Array.getElem?_eq_some_iff.1 h4).1 (fun e => pg_ne hp h4 h2 e.symm)]
  exact h4⟩
theorem Only.set (h : Only B g w w1) (hg : B <= g) (j : Nat) (v : Value) : Only B g w (w1.setCell ⟨g,j,none⟩ v) :=
 ⟨h.below.setCell (p := ⟨g,j,none⟩) hg v,fun q cs T fr h1 h2 h3 => set_other (h.other q cs T fr h1 h2 h3) (Ne.symm h1) v⟩
end
def sqDo (q : Sq) (kd : Int) (tx : ByteArray) : Sq := if kd = 1 then (q.1 ++ [tx],q.2.1,q.2.2) else if kd = 2 then ([],q.2.1 + 1,q.2.2) else (q.1,q.2.1,true)
def doJ (z : Int) (qs : List Sq) (j : Jb) : List Sq := if canJ z qs j then qs.set j.2.1.toNat (sqDo (sqAt qs j.2.1.toNat) j.1 j.2.2) else qs
theorem canJ_parts {z : Int} {qs : List Sq} {j : Jb} (h : canJ z qs j = true) : ∃ i : Nat,j.2.1 = (i : Int) ∧ i < qs.length ∧ (sqAt qs i).2.2 = false ∧ canK z (sqAt qs i) j.1 j.2.2 = true := by
 unfold canJ inB at h
 simp only [Bool.and_eq_true,decide_eq_true_eq,Bool.not_eq_true'] at h
 obtain ⟨⟨h1,h2⟩,h3,h4⟩ := h
 exact ⟨j.2.1.toNat,by omega,by omega,h3,h4⟩
theorem canK_kind {z : Int} {q : Sq} {kd : Int} {tx : ByteArray} (h : canK z q kd tx = true) : (kd = 1 ∧ (q.1.length : Int) < z ∧ 1 <= tx.size ∧ tx.size <= 200) ∨ (kd = 2 ∧ q.2.1 < 1000000) ∨ kd = 3 := by
 unfold canK txOk at h
 by_cases h1 : kd = 1
 ·rw [if_pos h1] at h
  simp only [Bool.and_eq_true,decide_eq_true_eq] at h
  exact .inl ⟨h1,h.1,h.2.1,h.2.2⟩
 ·rw [if_neg h1] at h
  by_cases h2 : kd = 2
  ·rw [if_pos h2] at h
   exact .inr (.inl ⟨h2,by simpa using h⟩)
  ·rw [if_neg h2] at h
   exact .inr (.inr (by simpa using h))
theorem doJ_yes {z : Int} {qs : List Sq} {kd : Int} {i : Nat} {tx : ByteArray} (h : canJ z qs (kd,(i : Int),tx) = true) : doJ z qs (kd,(i : Int),tx) = qs.set i (sqDo (sqAt qs i) kd tx) := by
 unfold doJ; rw [if_pos h]; simp
theorem doJ_no {z : Int} {qs : List Sq} {j : Jb} (h : canJ z qs j = false) : doJ z qs j = qs := by
 unfold doJ; rw [if_neg (by rw [h]; simp)]
theorem set_ok {z : Int} {qs : List Sq} {i : Nat} {x : Sq} (h : chipOk z qs = true) (hx : sqOk z x = true) : chipOk z (qs.set i x) = true := by
 obtain ⟨h1,h2,h3,h4,h5⟩ := chipOk_parts h
 unfold chipOk inB
 simp only [Bool.and_eq_true,decide_eq_true_eq,List.all_eq_true,List.length_set]
 refine ⟨⟨h1,h2⟩,h3,h4,fun q hq => ?_⟩
 rcases List.mem_or_eq_of_mem_set hq with h | h
 ·exact h5 q h
 ·rw [h]; exact hx
theorem sqDo_ok {z : Int} {q : Sq} {kd : Int} {tx : ByteArray} (h : sqOk z q = true) (hk : canK z q kd tx = true) (hz : 1 <= z) : sqOk z (sqDo q kd tx) = true := by
 have h0 := h
 unfold sqOk inB at h ⊢
 simp only [Bool.and_eq_true,decide_eq_true_eq,List.all_eq_true] at h ⊢
 obtain ⟨h1,⟨h2,h3⟩,h4⟩ := h
 rcases canK_kind hk with ⟨rfl,k1,k2,k3⟩ | ⟨rfl,k1⟩ | rfl
 ·unfold sqDo
  rw [if_pos rfl]
  refine ⟨by simp; omega,⟨h2,h3⟩,fun s hs => ?_⟩
  simp only [List.mem_append,List.mem_singleton] at hs
  rcases hs with hs | rfl
  ·exact h4 s hs
  ·unfold txOk; simp [k2,k3]
 ·unfold sqDo
  rw [if_neg (by decide),if_pos rfl]
  exact ⟨by simp; omega,⟨by show 0 <= q.2.1 + 1; omega,by show q.2.1 + 1 <= 1000000; omega⟩,fun s hs => absurd hs (by simp)⟩
 ·unfold sqDo
  rw [if_neg (by decide),if_neg (by decide)]
  exact ⟨h1,⟨h2,h3⟩,h4⟩
theorem doJ_ok {z : Int} {qs : List Sq} {j : Jb} (h : chipOk z qs = true) : chipOk z (doJ z qs j) = true := by
 cases hc : canJ z qs j with
 | false => rw [doJ_no hc]; exact h
 | true =>
  obtain ⟨i,hi,hl,_,hk⟩ := canJ_parts hc
  obtain ⟨kd,sq,tx⟩ := j
  dsimp only at hi hk
  subst hi
  rw [doJ_yes hc]
  exact set_ok h (sqDo_ok (chipOk_at h hl) hk (chipOk_parts h).1)
end Go.Proofs.Ytfogmdnkpkofiaa
end

section
namespace Go.Proofs.Ytfogmdnkpkofiaa
open Go.RowKit
set_option linter.unusedVariables false
set_option maxRecDepth 20000
theorem GrowSqs.wrote {B n g i g' c' : Nat} {w w1 : World} {qs : List Sq} {A : Nat -> Option Addr} {C : Nat -> Nat} {tx : ByteArray} (h : GrowSqs B w n qs g A C) (hi : i < n) (hg : w.grownBy w1 (oB (A i)))
  (ho : w1.ownsRow B 9 1 (.slice (some ⟨g',0,none⟩) ((sqAt qs i).1.length + 1) c') ((sqAt qs i).1.length + 1) (pgV (sqAt qs i).1 ++ [.string tx])) (hat : oB (A i) = some g' ∨ w.heap.size <= g') :
  GrowSqs B (w1.setCell ⟨g,i * 3,none⟩ (.slice (some ⟨g',0,none⟩) ((sqAt qs i).1.length + 1) c')) n (qs.set i ((sqAt qs i).1 ++ [tx],(sqAt qs i).2.1,(sqAt qs i).2.2)) g (upd A i (some ⟨g',0,none⟩)) (upd C i c') := by
 have e : (sqAt qs i).1.length + 1 = ((sqAt qs i).1 ++ [tx]).length := by simp
 rw [e,pgV_snoc] at ho
 rw [e]
 exact h.setPages hi hg ho (fun m hm => by have e' : some g' = some m := hm; simp only [Option.some.injEq] at e'; subst e'; exact hat)
theorem two_moved (w : World) (o : Obj) (g j k : Nat) (u v : Value) (h : g < w.heap.size) : ((w.alloc o).setCell ⟨g,j,none⟩ u).setCell ⟨g,k,none⟩ v = ((w.setCell ⟨g,j,none⟩ u).setCell ⟨g,k,none⟩ v).alloc o := by
 rw [World.setCell_alloc_past _ _ _ _ h,World.setCell_alloc_past _ _ _ _ (by rw [Go.Deep.nblk_setCell]; exact h)]
theorem cells01 {W : World} {b : Nat} {cs : Array Value} {t : TypeId} {fr : Nat × Nat} {c0 c1 : Value} (h : W.heap[b]? = some (.cells cs t fr)) (h0 : cs[0]? = some c0) (h1 : cs[1]? = some c1) : W.cell? ⟨b,0,none⟩ = some c0 ∧ W.cell? ⟨b,1,none⟩ = some c1 := by
 simp [World.cell?,h,h0,h1]
set_option maxHeartbeats 1600000 in
theorem l8Do_at (p c B : Nat) (z : Int) (n : Nat) (qs : List Sq) (g : Nat) (A : Nat -> Option Addr) (C : Nat -> Nat) (kd sq : Int) (tx : ByteArray) (w : World) (hG : GrowSqs B w n qs g A C) (hB : B <= w.heap.size) {ca : Array Value} {ct : TypeId} {cf : Nat × Nat}
  (hp : w.heap[p]? = some (.cells ca ct cf)) (hc0 : ca[0]? = some (.int .i64 z)) (hc1 : ca[1]? = some (.slice (some ⟨g,0,none⟩) n c)) (hpg : p ≠ g) (hok : chipOk z qs = true) (htx : tx.size <= maxLen) :
  Calls Try.prog 30 #[.pointer (some ⟨p,0,none⟩),.agg #[.int .i64 kd,.int .i64 sq,.string tx]] w fun e w' => e = .returned (.bool (canJ z qs (kd,sq,tx))) ∧ ∃ A' C',GrowSqs B w' n (doJ z qs (kd,sq,tx)) g A' C' ∧ Only B g w w' := by
 obtain ⟨wA,hwA⟩ : ∃ wA,wA = w.alloc (.cells #[.int .i64 kd,.int .i64 sq,.string tx] 30) := ⟨_,rfl⟩
 have hzA : wA.heap.size = w.heap.size + 1 := by rw [hwA]; simp
 have HBA : Hid (Below w.heap.size w wA) := by rw [hwA]; exact (Below.refl _ _).alloc (Nat.le_refl _) _
 have HJ : Hid (wA.heap[w.heap.size]? = some (.cells #[.int .i64 kd,.int .i64 sq,.string tx] 30)) := by rw [hwA]; exact heap_new _ _
 have HP := hide (block_on hp HBA.out)
 have HGA := hide (hG.later HBA.out)
 have hpl : p < w.heap.size := (Array.getElem?_eq_some_iff.1 hp).1
 have hgl : g < w.heap.size := by have := hG.row.1; omega
 have HL := hide hG.len
 have HOK := hide hok
 have hn12 : n <= 12 := by have := (chipOk_parts hok).2.2.2.1; rw [hG.len] at this; exact this
 have HC : ∀ w9,Hid (Below wA.heap.size wA w9 -> Calls Try.prog 54 #[.agg #[.int .i64 z,.slice (some ⟨g,0,none⟩) n c],.agg #[.int .i64 kd,.int .i64 sq,.string tx]] w9 fun e w' => e = .returned (.bool (canJ z qs (kd,sq,tx))) ∧ Below w9.heap.size w9 w') := fun w9 h9 =>
  l8Can_any z (some ⟨g,0,none⟩) n c qs kd sq tx w9 ((HGA.out.later h9).ownS.squares) (Nat.le_refl _) (by omega) (chipOk_fits HOK.out) htx
 clear hG hp hok
 obtain ⟨a0,a1⟩ := cells01 HP.out hc0 hc1
 obtain ⟨j0,j1,j2⟩ := three_cells HJ.out
 go_enter Try.func30,Try.ntmps30
 go_upto_region 1 with fail
 rw [<- hwA]
 clear hwA
 go_cut [11] (fun d wx => d = .bool (!canJ z qs (kd,sq,tx)) ∧ Below wA.heap.size wA wx)
 case first =>
  go_region_with (go_at_call 54; refine ((HC _).out (by exact (Below.refl _ wA).drew)).mono ?_; rintro e w1 ⟨rfl,b1⟩; have HB1 := hide ((Below.refl wA.heap.size wA).drew.trans b1); clear b1)
  all_goals
   go_wp2_with fail
   go_meet
   exact ⟨rfl,HB1.out⟩
 obtain ⟨rfl,hcb⟩ := hcut
 obtain ⟨w1,hw1⟩ : ∃ w1,w1 = wc := ⟨_,rfl⟩
 subst hw1
 have HB1 := hide hcb
 clear hcb
 have hs1 := HB1.out.size
 have HP1 := hide (block_on HP.out HB1.out)
 have HJ1 := hide (block_on HJ.out HB1.out)
 have HG1 := hide (HGA.out.later HB1.out)
 have HW1 := hide (below_here HBA.out HB1.out)
 clear a0 a1 j0 j1 j2 HP HJ HGA HC HB1
 obtain ⟨a0,a1⟩ := cells01 HP1.out hc0 hc1
 obtain ⟨j0,j1,j2⟩ := three_cells HJ1.out
 cases hcan : canJ z qs (kd,sq,tx) with
 | false =>
  go_wp2_with fail
  go_ret
  exact ⟨ret_bool hcan.symm,A,C,by rw [doJ_no hcan]; exact HG1.out,only_of_below HW1.out hB⟩
 | true =>
  obtain ⟨i,hi,hil,hbad,hkk⟩ := canJ_parts hcan
  dsimp only at hi hkk
  subst hi
  have hin : i < n := by rw [<- HL.out]; exact hil
  have HDO := hide (doJ_yes hcan)
  obtain ⟨c0,c1,c2⟩ := HG1.out.cells hin
  have hsq := sqOk_parts (chipOk_at HOK.out hil)
  have hl8 : (sqAt qs i).1.length <= 8 := by have := hsq.1; have := (chipOk_parts HOK.out).2.1; omega
  have hzw0 := hsq.2.1
  have hzw1 := hsq.2.2.1
  have HKK := hide (canK_kind hkk)
  have hlt2 : (i : Int) < (n : Int) := by omega
  have HCAN := hide hcan
  clear hcan hkk hsq
  go_upto_region 3 with fail
  go_quiet (fail)
  have HBQ : Hid (Below w1.heap.size w1 (w1.drewN nq)) := ⟨rfl,rfl,rfl,Nat.le_refl _,fun _ _ => rfl⟩
  have hsq : w1.heap.size = (w1.drewN nq).heap.size := rfl
  generalize w1.drewN nq = wq at *
  have HPQ := hide (block_on HP1.out HBQ.out)
  have HJQ := hide (block_on HJ1.out HBQ.out)
  have HGQ := hide (HG1.out.later HBQ.out)
  have HWQ := hide (below_here HW1.out HBQ.out)
  clear a0 a1 j0 j1 j2 c0 c1 c2 HP1 HJ1 HG1 HW1 HBQ
  obtain ⟨j0,j1,j2⟩ := three_cells HJQ.out
  obtain ⟨c0,c1,c2⟩ := HGQ.out.cells hin
  have f0 := HGQ.out.open_ (show i * 3 < 3 * n by omega)
  have f1 := HGQ.out.open_ (show i * 3 + 1 < 3 * n by omega)
  have f2 := HGQ.out.open_ (show i * 3 + 2 < 3 * n by omega)
  have HCT : Hid (canJ z qs (kd,(i : Int),tx) = true) := HCAN.out
  have hgq : g < wq.heap.size := by omega
  rcases HKK.out with ⟨rfl,k1,k2,k3⟩ | ⟨rfl,k1⟩ | rfl
  ·have HSQ : Hid (sqDo (sqAt qs i) 1 tx = ((sqAt qs i).1 ++ [tx],(sqAt qs i).2.1,(sqAt qs i).2.2)) := rfl
   clear HKK c1 c2 f1 f2 j1
   obtain ⟨i0,hi0,hzz0,hzz1,hzz2⟩ := info_parts Try.infoStrC
   have HBB := hide ((Below.refl wq.heap.size wq).alloc (Nat.le_refl _) (.cells #[.string tx] 9))
   have HGB := hide (HGQ.out.later HBB.out)
   have HPB := hide (HGB.out.pages.own i hin)
   have HPD : Hid (World.ownsRow (wq.alloc (.cells #[.string tx] 9)).drew B 9 1 (.slice (A i) (sqAt qs i).1.length (C i)) (sqAt qs i).1.length (pgV (sqAt qs i).1)) := (HPB.out).drew
   have hzB : (wq.alloc (.cells #[.string tx] 9)).heap.size = wq.heap.size + 1 := by simp
   have c0' := (HBB.out.cell (p := ⟨g,i * 3,none⟩) hgq).trans c0
   have f0' := (HBB.out.frozen (p := ⟨g,i * 3,none⟩) hgq).trans f0
   have HNE : Hid (some g ≠ (Value.slice (A i) (sqAt qs i).1.length (C i)).ownBlock) := by show _ ≠ _; rw [ownBlock_slice]; exact fun e => HGQ.out.apartG i hin e.symm
   go_upto_region 6 with fail
   go_region_law (refine step_append_lies _ (by rfl) _ _ _ (by rfl) B 9 i0 (.string ByteArray.empty) 1 16 Try.underlying35 hi0 hzz0 hzz1 hzz2 rfl (by decide) (.slice (A i) (sqAt qs i).1.length (C i)) (sqAt qs i).1.length (pgV (sqAt qs i).1) (by rfl) HPD.out ⟨wq.heap.size,0,none⟩ 1 1 [.string tx] (by rfl) rfl (cell_one_new _ _ _) (by simp [Value.oneCell']) (by omega) (by unfold maxLen; omega) (by omega) (by simp; omega) (wq.heap.size + 1) (by simp) ?_; intro g' c' w5 hown5 hgr5 hat5 hlt5; have c5 := (hgr5.cell_far ⟨g,i * 3,none⟩ (by simp; omega) HNE.out).trans c0'; have f5 := (hgr5.frozen_far ⟨g,i * 3,none⟩ (by simp; omega) HNE.out).trans f0'; have HO5 := hide hown5; have HR5 := hide hgr5; have HA5 := hide hat5; clear hown5 hgr5 hat5)
   all_goals
    have HR6 : Hid ((wq.alloc (.cells #[.string tx] 9)).grownBy w5 (oB (A i))) := ⟨HR5.out.os,HR5.out.tape,HR5.out.output,HR5.out.size,fun k hk hne => HR5.out.block k hk (by rw [ownBlock_slice]; exact hne)⟩
    have HGF := hide (HGB.out.wrote hin HR6.out HO5.out (HA5.out.imp (fun e => by rw [ownBlock_slice] at e; exact e) (fun e => by omega)))
    have HON := hide ((((only_of_below (B := B) (g := g) HWQ.out hB).on HBB.out (by omega)).grown HPB.out HR6.out (by omega)).set HGQ.out.atG (i * 3) (.slice (some ⟨g',0,none⟩) ((sqAt qs i).1.length + 1) c'))
    go_wp2_with fail
    go_ret
    exact ⟨ret_bool HCT.out.symm,_,_,by rw [HDO.out,HSQ.out]; exact HGF.out,HON.out⟩
  ·have HSQ : Hid (sqDo (sqAt qs i) 2 tx = ([],(sqAt qs i).2.1 + 1,(sqAt qs i).2.2)) := rfl
   clear HKK
   have HBB := hide ((Below.refl wq.heap.size wq).alloc (Nat.le_refl _) (.cells #[] 9))
   have HPB := hide ((own_made0 wq 9).mono (show B <= wq.heap.size by omega))
   have HG2 := hide (HGQ.out.setPages hin (w1 := wq.alloc (.cells #[] 9)) (a' := some ⟨wq.heap.size,0,none⟩) (c' := 0) (ts' := []) (grown_below HBB.out _) HPB.out (fun m hm => .inr (by have e : some wq.heap.size = some m := hm; simp only [Option.some.injEq] at e; omega)))
   have HG3 := hide (HG2.out.setWipes hin ((sqAt qs i).2.1 + 1))
   have HON := hide ((((only_of_below (B := B) (g := g) HWQ.out hB).on HBB.out (by omega)).set HGQ.out.atG (i * 3) (.slice (some ⟨wq.heap.size,0,none⟩) 0 0)).set HGQ.out.atG (i * 3 + 1) (.int .i64 ((sqAt qs i).2.1 + 1)))
   have HSS : Hid ((qs.set i ([],(sqAt qs i).2.1,(sqAt qs i).2.2)).set i ((sqAt (qs.set i ([],(sqAt qs i).2.1,(sqAt qs i).2.2)) i).1,(sqAt qs i).2.1 + 1,(sqAt (qs.set i ([],(sqAt qs i).2.1,(sqAt qs i).2.2)) i).2.2) = qs.set i ([],(sqAt qs i).2.1 + 1,(sqAt qs i).2.2)) := by
    show _ = _
    rw [List.set_set,sqAt_set qs _ hil,if_pos rfl]
   have HEQ := hide (two_moved wq (.cells #[] 9) g (i * 3) (i * 3 + 1) (.slice (some ⟨wq.heap.size,0,none⟩) 0 0) (.int .i64 ((sqAt qs i).2.1 + 1)) hgq)
   have d0 := (HBB.out.cell (p := ⟨g,i * 3,none⟩) hgq).trans c0
   have e0 := (HBB.out.frozen (p := ⟨g,i * 3,none⟩) hgq).trans f0
   have d1 := (HBB.out.cell (p := ⟨g,i * 3 + 1,none⟩) hgq).trans c1
   have e1 := (HBB.out.frozen (p := ⟨g,i * 3 + 1,none⟩) hgq).trans f1
   generalize hzw : (sqAt qs i).2.1 = zw at *
   go_wp2_with fail
   go_ret
   exact ⟨ret_bool HCT.out.symm,upd A i (some ⟨wq.heap.size,0,none⟩),upd C i 0,by rw [HDO.out,HSQ.out,<- HSS.out,<- HEQ.out]; exact HG3.out,by rw [<- HEQ.out]; exact HON.out⟩
  ·have HSQ : Hid (sqDo (sqAt qs i) 3 tx = ((sqAt qs i).1,(sqAt qs i).2.1,true)) := rfl
   clear HKK
   have HGF := hide (HGQ.out.setBad hin true)
   have HON := hide ((only_of_below (B := B) (g := g) HWQ.out hB).set HGQ.out.atG (i * 3 + 2) (.bool true))
   go_wp2_with fail
   go_ret
   exact ⟨ret_bool HCT.out.symm,A,C,by rw [HDO.out,HSQ.out]; exact HGF.out,HON.out⟩
theorem l8Do_any (p c B : Nat) (z : Int) (n : Nat) (qs : List Sq) (g : Nat) (A : Nat -> Option Addr) (C : Nat -> Nat) (kd sq : Int) (tx : ByteArray) (w : World) (hG : GrowSqs B w n qs g A C) (hB : B <= w.heap.size)
  (hp : w.heap[p]? = some (.cells #[.int .i64 z,.slice (some ⟨g,0,none⟩) n c] 26)) (hpg : p ≠ g) (hok : chipOk z qs = true) (htx : tx.size <= maxLen) :
  Calls Try.prog 30 #[.pointer (some ⟨p,0,none⟩),.agg #[.int .i64 kd,.int .i64 sq,.string tx]] w fun e w' => e = .returned (.bool (canJ z qs (kd,sq,tx))) ∧ ∃ A' C',GrowSqs B w' n (doJ z qs (kd,sq,tx)) g A' C' ∧ Only B g w w' :=
 l8Do_at p c B z n qs g A C kd sq tx w hG hB hp rfl rfl hpg hok htx
end Go.Proofs.Ytfogmdnkpkofiaa
end

section
namespace Go.Proofs.Ytfogmdnkpkofiaa
open Go.RowKit
set_option linter.unusedVariables false
set_option maxRecDepth 20000
theorem freeK_bound {z : Int} {qs : List Sq} (h : chipOk z qs = true) : ∀ k,k <= qs.length -> 0 <= freeK z qs k ∧ freeK z qs k <= 8 * (k : Int)
 | 0,_ => by simp [freeK]
 | k + 1,hk => by
  have h1 := freeK_bound h k (by omega)
  have h2 := sqOk_parts (chipOk_at h (show k < qs.length by omega))
  have h3 := (chipOk_parts h).2.1
  rw [freeK_step (by omega)]
  split
  ·omega
  ·omega
set_option maxHeartbeats 1600000 in
theorem specFree_any (z : Int) (a : Option Addr) (n cap : Nat) (qs : List Sq) (w : World) {lo hi : Nat} (h : Squares lo hi w a n qs) (hhi : hi <= w.heap.size) (hn : n <= 1048576) (hf : ∀ x ∈ qs,sqFits x) :
  Calls Try.prog 9 #[.agg #[.int .i64 z,.slice a n cap]] w fun e w' => e = .returned (.int .i64 (free z qs)) ∧ Below w.heap.size w w' := by
 obtain ⟨wA,hwA⟩ : ∃ wA,wA = w.alloc (.cells #[.int .i64 z,.slice a n cap] 26) := ⟨_,rfl⟩
 have hzA : wA.heap.size = w.heap.size + 1 := by rw [hwA]; simp
 have HBA : Hid (Below w.heap.size w wA) := by rw [hwA]; exact (Below.refl _ _).alloc (Nat.le_refl _) _
 have H1 : Hid (wA.heap[w.heap.size]? = some (.cells #[.int .i64 z,.slice a n cap] 26)) := by rw [hwA]; exact heap_new _ _
 have HSQ := hide (h.later HBA.out hhi)
 have HL := hide h.1
 have HF := hide hf
 clear h hf
 obtain ⟨a0,a1⟩ := two_cells H1.out
 go_enter Try.func9,Try.ntmps9
 go_upto_region 1 with fail
 rw [<- hwA]
 clear hwA
 go_wp2_with fail
 refine (specChipOk_any z a n cap qs wA HSQ.out (by omega) hn HF.out).mono ?_
 rintro e w1 ⟨rfl,b1⟩
 have K1 := hide (block_on H1.out b1)
 have HS1 := hide (HSQ.out.later b1 (by omega))
 have HB1 := hide (below_here HBA.out b1)
 have hs1 := b1.size
 clear b1 H1 HSQ HBA a0 a1
 cases hok : chipOk z qs with
 | false =>
  have HE : Hid (free z qs = -1) := by show _ = _; unfold free; rw [hok]; rfl
  go_wp2_with fail
  go_ret
  exact ⟨by rw [HE.out]; rfl,HB1.out⟩
 | true =>
  have HE : Hid (free z qs = freeK z qs qs.length) := by show _ = _; unfold free; rw [hok]; rfl
  have HFB := hide (freeK_bound hok)
  have HOK := hide hok
  have hz8 := (chipOk_parts hok).2.1
  have hz1 := (chipOk_parts hok).1
  have hn12 : n <= 12 := by have := (chipOk_parts hok).2.2.2.1; rw [HL.out] at this; exact this
  clear hok
  go_wp2_with fail
  go_loopw [3,4] (fun t i wr => ∃ k : Nat,k <= n ∧ i = .int .i64 (k : Int) ∧ t = .int .i64 (freeK z qs k) ∧ Below w1.heap.size w1 wr) (fun _ i _ => n - (intOf i).toNat)
  case atStart => exact ⟨0,Nat.zero_le _,rfl,by simp [freeK],Below.refl _ _⟩
  case round =>
   obtain ⟨k,hk,rfl,rfl,hbel⟩ := hrel
   obtain ⟨a0,a1⟩ := two_cells (block_on K1.out hbel)
   have HBB := hide hbel
   by_cases hlt : k < n
   ·have hql : k < qs.length := by rw [HL.out]; exact hlt
    obtain ⟨_,A,C,hx,ht⟩ := HS1.out
    obtain ⟨b,off,rfl,_,hb,hc⟩ := hx.2 (by omega)
    obtain ⟨c0,c1,c2⟩ := sq_cells hc hbel (show b < w1.heap.size by omega) hlt
    have HST := hide (freeK_step (z := z) hql)
    have hfb := HFB.out k (by omega)
    have hl8 : (sqAt qs k).1.length <= 8 := by have := (sqOk_parts (chipOk_at HOK.out hql)).1; omega
    clear hc hx ht hbel c1
    generalize freeK z qs k = q at *
    generalize sqAt qs k = y at *
    obtain ⟨ts,zw,bd⟩ := y
    dsimp only at c0 c2 hl8 HST
    cases bd with
    | true =>
     go_wp2_with fail
     exact ⟨⟨k + 1,by omega,by go_num,by rw [HST.out]; simp,HBB.out⟩,by simp [intOf]; omega⟩
    | false =>
     have HST2 : Hid (freeK z qs (k + 1) = q + z - (ts.length : Int)) := by show _ = _; rw [HST.out]; simp; omega
     go_wp2_with fail
     go_quiet (fail)
     go_wp2_with fail
     go_roundw
     case rel => exact ⟨k + 1,by omega,by go_num,by rw [HST2.out],⟨HBB.out.os,HBB.out.tape,HBB.out.output,HBB.out.size,HBB.out.block⟩⟩
     case measure => simp [intOf]; omega
   ·obtain rfl : k = n := by omega
    have HE2 : Hid (free z qs = freeK z qs k) := by show _ = _; rw [HE.out,HL.out]
    generalize freeK z qs k = q at *
    go_wp2_with fail
    go_ret
    exact ⟨by rw [HE2.out]; rfl,below_here HB1.out HBB.out⟩
end Go.Proofs.Ytfogmdnkpkofiaa
end

section
namespace Go.Proofs.Ytfogmdnkpkofiaa
open Go.RowKit
set_option linter.unusedVariables false
def plL (ps : List Pl) : List Value := (List.range (ps.length * 2)).map (cellP ps)
theorem Places.wide {lo lo' hi n : Nat} {w : World} {a : Option Addr} {ps : List Pl} (h : Places lo hi w a n ps) (h1 : lo' <= lo) : Places lo' hi w a n ps :=
 ⟨h.1,h.2.1,fun hn => by obtain ⟨b,off,e,h4,h5,h6⟩ := h.2.2 hn; exact ⟨b,off,e,by omega,h5,h6⟩⟩
theorem own_aside2 {w w' : World} {base e s n : Nat} {v : Value} {xs : List Value} (h : w.ownsRow base e s v n xs) {l r : Nat} (hb : Aside l r w w') (hr : r <= base) : w'.ownsRow base e s v n xs := by
 obtain ⟨h1,h2⟩ := h
 refine ⟨h1,?_⟩
 rcases h2 with hn | ⟨g,cap,cur,rfl,hbg,hgg,rest⟩
 ·exact .inl hn
 ·exact .inr ⟨g,cap,cur,rfl,hbg,(hb.block g (Array.getElem?_eq_some_iff.1 hgg).1 (.inr (by omega))).trans hgg,rest⟩
end Go.Proofs.Ytfogmdnkpkofiaa
end

