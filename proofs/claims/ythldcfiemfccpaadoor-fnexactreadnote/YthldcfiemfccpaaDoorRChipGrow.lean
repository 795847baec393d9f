/- Several texts in one: ChipGrow, ChipCopyS. -/
import Derived.Test.YthldcfiemfccpaaDoorRPutOwn
import Derived.Laws.OwnMore
import Derived.Maps.AppendAt
import Derived.OneCell
import Derived.Lib.OwnKind
import Derived.Deep.Onto
import Derived.RegionTactic
import Derived.Deep.DeepCutAuto
section
namespace Go.Proofs.YthldcfiemfccpaaDoor
open Go.RowKit
set_option linter.unusedVariables false

/-- The block of a slice's address. -/
def oB (a : Option Addr) : Option Nat := a.map (·.block)
theorem ownBlock_slice (a : Option Addr) (n c : Nat) : (Value.slice a n c).ownBlock = oB a := by cases a <;> rfl
def pgV (ts : List ByteArray) : List Value := ts.map Value.string
theorem pgV_set (ts : List ByteArray) (k : Nat) (x : ByteArray) : (pgV ts).set k (.string x) = pgV (ts.set k x) := by unfold pgV; rw [List.map_set]
theorem pgV_snoc (ts : List ByteArray) (x : ByteArray) : pgV ts ++ [.string x] = pgV (ts ++ [x]) := by unfold pgV; simp
/-- Pages of one's own. -/
abbrev PgOwn (B : Nat) (w : World) (a : Option Addr) (c : Nat) (ts : List ByteArray) : Prop := w.ownsRow B 9 1 (.slice a ts.length c) ts.length (pgV ts)
theorem pg_form {B : Nat} {w : World} {a : Option Addr} {c : Nat} {ts : List ByteArray} (h : PgOwn B w a c ts) : (a = none ∧ ts = [] ∧ c = 0) ∨ ∃ p, a = some ⟨p, 0, none⟩ ∧ B ≤ p ∧ p < w.heap.size ∧ ts.length ≤ c := by
  rcases h.2 with ⟨e, h0⟩ | ⟨p, cap, cur, e, hb, hg, hn, _⟩
  · simp only [Value.slice.injEq] at e
    exact .inl ⟨e.1, List.eq_nil_of_length_eq_zero h0, e.2.2⟩
  · simp only [Value.slice.injEq] at e
    exact .inr ⟨p, e.1, hb, (Array.getElem?_eq_some_iff.1 hg).1, by omega⟩
theorem pg_room {B : Nat} {w : World} {a : Option Addr} {c : Nat} {ts : List ByteArray} (h : PgOwn B w a c ts) : ts.length ≤ c := by
  rcases pg_form h with ⟨_, rfl, rfl⟩ | ⟨_, _, _, _, h⟩
  · exact Nat.le_refl _
  · exact h
theorem pg_lt {B : Nat} {w : World} {a : Option Addr} {c : Nat} {ts : List ByteArray} (h : PgOwn B w a c ts) : ∀ k, oB a = some k → B ≤ k ∧ k < w.heap.size := by
  intro k hk
  exact h.lt k (by rw [ownBlock_slice]; exact hk)
theorem pg_own {B g : Nat} {w : World} {a : Option Addr} {c : Nat} {ts : List ByteArray} (h : PgOwn B w a c ts) (hg : g < w.heap.size) : OwnTexts ((oB a).getD g) ((oB a).getD g + 1) w a ts.length ts := by
  rcases pg_form h with ⟨rfl, rfl, rfl⟩ | ⟨p, rfl, hb, hp, hc⟩
  · exact ⟨rfl, by show g + 1 ≤ _; omega, fun h' => absurd h' (by simp)⟩
  · refine ⟨rfl, by show p + 1 ≤ _; omega, fun _ => ⟨p, 0, rfl, Nat.le_refl _, Nat.lt_succ_self _, fun i hi => ⟨?_, by rw [Nat.zero_add]; exact h.frozenAt i⟩⟩⟩
    rw [Nat.zero_add, h.cellAt i (by omega)]
    unfold pgV cellT
    rw [List.getElem?_map, List.getD_eq_getElem?_getD, List.getElem?_eq_getElem hi]
    rfl
theorem pg_keep {B : Nat} {w w' : World} {a : Option Addr} {c : Nat} {ts : List ByteArray} {row : Option Nat} (h : PgOwn B w a c ts) (hg : w.grownBy w' row) (hne : ∀ k, oB a = some k → row ≠ some k) : PgOwn B w' a c ts := by
  refine h.kept hg ?_
  rw [ownBlock_slice]
  cases hb : oB a with
  | none => exact .inl rfl
  | some k => exact .inr (fun e => hne k hb e.symm)
theorem grown_below {w w' : World} (h : Below w.heap.size w w') (row : Option Nat) : w.grownBy w' row := ⟨h.os, h.tape, h.output, h.size, fun k hk _ => h.block k hk⟩
theorem grown_set (w : World) (p : Addr) (v : Value) : w.grownBy (w.setCell p v) (some p.block) :=
  ⟨rfl, rfl, rfl, by rw [Go.Deep.nblk_setCell]; exact Nat.le_refl _, fun k _ hk => Go.Deep.blk_setCell_other _ _ _ _ (fun e => hk (by rw [e]))⟩

/-- The Pages of the first k Squares, each in a block of its own. -/
structure Pgs (B : Nat) (w : World) (k : Nat) (qs : List Sq) (A : Nat → Option Addr) (C : Nat → Nat) : Prop where
  own : ∀ i, i < k → PgOwn B w (A i) (C i) (sqAt qs i).1
  apart : ∀ i j m, i < k → j < k → i ≠ j → oB (A i) = some m → oB (A j) ≠ some m
def upd {α : Type} (A : Nat → α) (i : Nat) (a : α) : Nat → α := fun j => if j = i then a else A j
theorem upd_same {α : Type} (A : Nat → α) (i : Nat) (a : α) : upd A i a i = a := by unfold upd; rw [if_pos rfl]
theorem upd_other {α : Type} (A : Nat → α) {i j : Nat} (a : α) (h : j ≠ i) : upd A i a j = A j := by unfold upd; rw [if_neg h]
theorem Pgs.nil (B : Nat) (w : World) (qs : List Sq) (A : Nat → Option Addr) (C : Nat → Nat) : Pgs B w 0 qs A C := ⟨fun i hi => absurd hi (by omega), fun i j m hi => absurd hi (by omega)⟩
theorem Pgs.keep {B k : Nat} {w w' : World} {qs : List Sq} {A : Nat → Option Addr} {C : Nat → Nat} {row : Option Nat} (h : Pgs B w k qs A C) (hg : w.grownBy w' row) (hne : ∀ i m, i < k → oB (A i) = some m → row ≠ some m) : Pgs B w' k qs A C :=
  ⟨fun i hi => pg_keep (h.own i hi) hg (fun m hm => hne i m hi hm), h.apart⟩
theorem Pgs.later {B k : Nat} {w w' : World} {qs : List Sq} {A : Nat → Option Addr} {C : Nat → Nat} (h : Pgs B w k qs A C) (hb : Below w.heap.size w w') : Pgs B w' k qs A C :=
  h.keep (grown_below hb none) (fun i m hi hm => by simp)
theorem Pgs.snoc {B k c' : Nat} {w w' : World} {qs : List Sq} {A : Nat → Option Addr} {C : Nat → Nat} {a' : Option Addr} (h : Pgs B w k qs A C) (hb : Below w.heap.size w w') (ho : PgOwn B w' a' c' (sqAt qs k).1) (hf : ∀ m, oB a' = some m → w.heap.size ≤ m) : Pgs B w' (k + 1) qs (upd A k a') (upd C k c') := by
  refine ⟨fun i hi => ?_, fun i j m hi hj hne him hjm => ?_⟩
  · by_cases e : i = k
    · subst e; rw [upd_same, upd_same]; exact ho
    · rw [upd_other _ _ e, upd_other _ _ e]; exact (h.later hb).own i (by omega)
  · by_cases e : i = k
    · subst e
      rw [upd_same] at him
      rw [upd_other _ _ (Ne.symm hne)] at hjm
      have h1 := hf m him
      have h2 := (pg_lt (h.own j (by omega)) m hjm).2
      omega
    · rw [upd_other _ _ e] at him
      by_cases e' : j = k
      · subst e'
        rw [upd_same] at hjm
        have h1 := hf m hjm
        have h2 := (pg_lt (h.own i (by omega)) m him).2
        omega
      · rw [upd_other _ _ e'] at hjm
        exact h.apart i j m (by omega) (by omega) hne him hjm

/-- Squares of one's own: the row in block g, all Pages in other blocks. -/
structure GrowSqs (B : Nat) (w : World) (n : Nat) (qs : List Sq) (g : Nat) (A : Nat → Option Addr) (C : Nat → Nat) : Prop where
  len : qs.length = n
  row : Owned g (g + 1) w (some ⟨g, 0, none⟩) (3 * n) (cellQ A C qs)
  pages : Pgs B w n qs A C
  atG : B ≤ g
  apartG : ∀ i, i < n → oB (A i) ≠ some g
theorem GrowSqs.own {B n g : Nat} {w : World} {qs : List Sq} {A : Nat → Option Addr} {C : Nat → Nat} (h : GrowSqs B w n qs g A C) : OwnSqs B w.heap.size w (some ⟨g, 0, none⟩) n qs g 0 A C (fun i => (oB (A i)).getD g) := by
  have hs := h.row.1
  have hP : ∀ i, i < n → 0 < (sqAt qs i).1.length → ∃ p, oB (A i) = some p := fun i hi hp => by
    rcases pg_form (h.pages.own i hi) with ⟨_, e, _⟩ | ⟨p, e, _⟩
    · rw [e] at hp; exact absurd hp (by simp)
    · exact ⟨p, by rw [e]; rfl⟩
  refine ⟨h.len, h.row, fun _ => rfl, fun i hi => pg_own (h.pages.own i hi) (by omega), fun i hi => pg_room (h.pages.own i hi), ⟨h.atG, by omega⟩, fun i hi => ?_, fun i hi hp => ?_, fun i j hi hj hne hp hp' => ?_, Nat.le_refl _⟩
  · cases hb : oB (A i) with
    | none => exact ⟨h.atG, by show g < _; omega⟩
    | some k => exact pg_lt (h.pages.own i hi) k hb
  · obtain ⟨p, hb⟩ := hP i hi hp
    have := h.apartG i hi
    rw [hb] at this ⊢
    exact fun e => this (by rw [← e]; rfl)
  · obtain ⟨p, hb⟩ := hP i hi hp
    obtain ⟨q, hb'⟩ := hP j hj hp'
    have := h.pages.apart i j p hi hj hne hb
    rw [hb'] at this
    rw [hb, hb']
    exact fun e => this (by rw [show p = q from e])
theorem GrowSqs.ownS {B n g : Nat} {w : World} {qs : List Sq} {A : Nat → Option Addr} {C : Nat → Nat} (h : GrowSqs B w n qs g A C) : OwnSquares B w.heap.size w (some ⟨g, 0, none⟩) n qs := ⟨_, _, _, _, _, h.own⟩
theorem GrowSqs.later {B n g : Nat} {w w' : World} {qs : List Sq} {A : Nat → Option Addr} {C : Nat → Nat} (h : GrowSqs B w n qs g A C) (hb : Below w.heap.size w w') : GrowSqs B w' n qs g A C :=
  ⟨h.len, h.row.later hb h.row.1, h.pages.later hb, h.atG, h.apartG⟩

theorem sqAt_set (qs : List Sq) {i : Nat} (x : Sq) (h : i < qs.length) (k : Nat) : sqAt (qs.set i x) k = if k = i then x else sqAt qs k := by
  unfold sqAt
  rw [List.getD_eq_getElem?_getD, List.getElem?_set]
  by_cases e : k = i
  · subst e; simp [h]
  · rw [if_neg e, if_neg (Ne.symm e), List.getD_eq_getElem?_getD]
/-- The three cells of a Square. -/
def cell3 (a : Option Addr) (c : Nat) (x : Sq) (r : Nat) : Value := if r = 0 then .slice a x.1.length c else if r = 1 then .int .i64 x.2.1 else .bool x.2.2
theorem cellQ_cell3 (A : Nat → Option Addr) (C : Nat → Nat) (qs : List Sq) (j : Nat) : cellQ A C qs j = cell3 (A (j / 3)) (C (j / 3)) (sqAt qs (j / 3)) (j % 3) := rfl
theorem cellQ_put (A : Nat → Option Addr) (C : Nat → Nat) (qs : List Sq) {i : Nat} (h : i < qs.length) (a' : Option Addr) (c' : Nat) (x : Sq) (j : Nat) :
    cellQ (upd A i a') (upd C i c') (qs.set i x) j = if j / 3 = i then cell3 a' c' x (j % 3) else cellQ A C qs j := by
  rw [cellQ_cell3, cellQ_cell3, sqAt_set qs x h]
  by_cases e : j / 3 = i
  · rw [if_pos e, if_pos e, e, upd_same, upd_same]
  · rw [if_neg e, if_neg e, upd_other _ _ e, upd_other _ _ e]
theorem upd_id {α : Type} (A : Nat → α) (i : Nat) : upd A i (A i) = A := by
  funext j; unfold upd; split
  · rename_i e; rw [e]
  · rfl
theorem cellQ_put' (A : Nat → Option Addr) (C : Nat → Nat) (qs : List Sq) {i : Nat} (h : i < qs.length) (x : Sq) (j : Nat) :
    cellQ A C (qs.set i x) j = if j / 3 = i then cell3 (A i) (C i) x (j % 3) else cellQ A C qs j := by
  have := cellQ_put A C qs h (A i) (C i) x j
  rwa [upd_id, upd_id] at this

section
variable {B n g : Nat} {w w1 : World} {qs : List Sq} {A : Nat → Option Addr} {C : Nat → Nat}
/-- New Pages for Square i. -/
theorem GrowSqs.setPages (h : GrowSqs B w n qs g A C) {i : Nat} (hi : i < n) {a' : Option Addr} {c' : Nat} {ts' : List ByteArray} (hg : w.grownBy w1 (oB (A i))) (ho : PgOwn B w1 a' c' ts') (hat : ∀ m, oB a' = some m → oB (A i) = some m ∨ w.heap.size ≤ m) :
    GrowSqs B (w1.setCell ⟨g, i * 3, none⟩ (.slice a' ts'.length c')) n (qs.set i (ts', (sqAt qs i).2.1, (sqAt qs i).2.2)) g (upd A i a') (upd C i c') := by
  have hs := h.row.1
  have hil : i < qs.length := by rw [h.len]; exact hi
  have hgw : ∀ j m, j < n → j ≠ i → oB (A j) = some m → oB (A i) ≠ some m := fun j m hj hne hm => h.pages.apart j i m hj hi hne hm
  have hag : oB a' ≠ some g := fun e => by
    rcases hat g e with e' | e'
    · exact h.apartG i hi e'
    · omega
  have hrow1 : Owned g (g + 1) w1 (some ⟨g, 0, none⟩) (3 * n) (cellQ A C qs) := h.row.of hg.size (fun k h1 h2 => hg.block k (by omega) (fun e => h.apartG i hi (by rw [← e]; congr 1; omega)))
  refine ⟨by rw [List.length_set]; exact h.len, (hrow1.set0 (show i * 3 < 3 * n by omega) _).congr (fun j hj => ?_), ⟨fun j hj => ?_, fun j k m hj hk hne hjm hkm => ?_⟩, h.atG, fun j hj => ?_⟩
  · rw [cellQ_put A C qs hil]
    by_cases e : j = i * 3
    · subst e
      rw [if_pos rfl, if_pos (by omega), show i * 3 % 3 = 0 by omega]
      rfl
    · rw [if_neg e]
      by_cases e' : j / 3 = i
      · rw [if_pos e', cellQ_cell3, e']
        unfold cell3
        have h3 : ¬ j % 3 = 0 := by omega
        rw [if_neg h3, if_neg h3]
      · rw [if_neg e']
  · rw [sqAt_set qs _ hil]
    by_cases e : j = i
    · subst e
      rw [if_pos rfl, upd_same, upd_same]
      exact pg_keep ho (grown_set w1 ⟨g, j * 3, none⟩ _) (fun k hk e => hag (by rw [hk]; exact e.symm))
    · rw [if_neg e, upd_other _ _ e, upd_other _ _ e]
      exact pg_keep (pg_keep (h.pages.own j hj) hg (fun k hk => hgw j k hj e hk)) (grown_set w1 ⟨g, i * 3, none⟩ _) (fun k hk e' => h.apartG j hj (by rw [hk]; exact e'.symm))
  · by_cases e : j = i
    · subst e
      rw [upd_same] at hjm
      rw [upd_other _ _ (Ne.symm hne)] at hkm
      rcases hat m hjm with e' | e'
      · exact hgw k m hk (Ne.symm hne) hkm e'
      · have := (pg_lt (h.pages.own k hk) m hkm).2; omega
    · rw [upd_other _ _ e] at hjm
      by_cases e' : k = i
      · subst e'
        rw [upd_same] at hkm
        rcases hat m hkm with e'' | e''
        · exact hgw j m hj hne hjm e''
        · have := (pg_lt (h.pages.own j hj) m hjm).2; omega
      · rw [upd_other _ _ e'] at hkm
        exact h.pages.apart j k m hj hk hne hjm hkm
  · by_cases e : j = i
    · subst e; rw [upd_same]; exact hag
    · rw [upd_other _ _ e]; exact h.apartG j hj
theorem GrowSqs.setOne (h : GrowSqs B w n qs g A C) {i r : Nat} (hi : i < n) (hr : r < 3) (hr0 : r ≠ 0) {x : Sq} {v : Value} (hx : x.1 = (sqAt qs i).1) (hv : cell3 (A i) (C i) x r = v) (hv' : ∀ s, s < 3 → s ≠ r → cell3 (A i) (C i) x s = cell3 (A i) (C i) (sqAt qs i) s) :
    GrowSqs B (w.setCell ⟨g, i * 3 + r, none⟩ v) n (qs.set i x) g A C := by
  have hil : i < qs.length := by rw [h.len]; exact hi
  refine ⟨by rw [List.length_set]; exact h.len, (h.row.set0 (show i * 3 + r < 3 * n by omega) _).congr (fun j hj => ?_), ⟨fun j hj => ?_, h.pages.apart⟩, h.atG, h.apartG⟩
  · rw [cellQ_put' A C qs hil]
    by_cases e : j = i * 3 + r
    · subst e
      rw [if_pos rfl, if_pos (by omega), show (i * 3 + r) % 3 = r by omega, hv]
    · rw [if_neg e]
      by_cases e' : j / 3 = i
      · rw [if_pos e', hv' _ (by omega) (by omega), cellQ_cell3, e']
      · rw [if_neg e']
  · have hk := pg_keep (h.pages.own j hj) (grown_set w ⟨g, i * 3 + r, none⟩ v) (fun k hk e' => h.apartG j hj (by rw [hk]; exact e'.symm))
    rw [sqAt_set qs _ hil]
    by_cases e : j = i
    · subst e
      rw [if_pos rfl, hx]
      exact hk
    · rw [if_neg e]
      exact hk
theorem GrowSqs.setWipes (h : GrowSqs B w n qs g A C) {i : Nat} (hi : i < n) (z : Int) : GrowSqs B (w.setCell ⟨g, i * 3 + 1, none⟩ (.int .i64 z)) n (qs.set i ((sqAt qs i).1, z, (sqAt qs i).2.2)) g A C :=
  h.setOne hi (by omega) (by omega) rfl rfl (fun s hs hne => by unfold cell3; by_cases e : s = 0 <;> simp [e, hne])
theorem GrowSqs.setBad (h : GrowSqs B w n qs g A C) {i : Nat} (hi : i < n) (b : Bool) : GrowSqs B (w.setCell ⟨g, i * 3 + 2, none⟩ (.bool b)) n (qs.set i ((sqAt qs i).1, (sqAt qs i).2.1, b)) g A C :=
  h.setOne hi (by omega) (by omega) rfl rfl (fun s hs hne => by unfold cell3; by_cases e : s = 0 <;> by_cases e1 : s = 1 <;> simp [e, e1] <;> omega)
/-- One page of Square i written over. -/
theorem GrowSqs.setText (h : GrowSqs B w n qs g A C) {i k p : Nat} (hi : i < n) (hp : A i = some ⟨p, 0, none⟩) (x : ByteArray) :
    GrowSqs B (w.setCell ⟨p, k, none⟩ (.string x)) n (qs.set i ((sqAt qs i).1.set k x, (sqAt qs i).2.1, (sqAt qs i).2.2)) g A C := by
  have hil : i < qs.length := by rw [h.len]; exact hi
  have hob : oB (A i) = some p := by rw [hp]; rfl
  have hpg : p ≠ g := fun e => h.apartG i hi (by rw [hob, e])
  have ho := h.pages.own i hi
  have ho' : w.ownsRow B 9 1 (.slice (some ⟨p, 0, none⟩) (sqAt qs i).1.length (C i)) (sqAt qs i).1.length (pgV (sqAt qs i).1) := by rw [← hp]; exact ho
  obtain ⟨hst, hgr⟩ := ho'.stored k (.string x)
  refine ⟨by rw [List.length_set]; exact h.len, (h.row.of hgr.size (fun k h1 h2 => hgr.block k (by have := h.row.1; omega) (fun e => hpg (by simp only [Option.some.injEq] at e; omega)))).congr (fun j hj => ?_), ⟨fun j hj => ?_, h.pages.apart⟩, h.atG, h.apartG⟩
  · rw [cellQ_put' A C qs hil]
    by_cases e' : j / 3 = i
    · rw [if_pos e', cellQ_cell3, e']
      unfold cell3
      rw [List.length_set]
    · rw [if_neg e']
  · rw [sqAt_set qs _ hil]
    by_cases e : j = i
    · subst e
      rw [if_pos rfl]
      show World.ownsRow _ _ _ _ (.slice (A j) ((sqAt qs j).1.set k x).length (C j)) ((sqAt qs j).1.set k x).length (pgV ((sqAt qs j).1.set k x))
      rw [List.length_set, ← pgV_set, hp]
      exact hst
    · rw [if_neg e]
      exact pg_keep (h.pages.own j hj) hgr (fun m hm e' => h.pages.apart j i m hj hi e hm (by rw [hob]; exact e'))
/-- The cells of Square i. -/
theorem GrowSqs.cells (h : GrowSqs B w n qs g A C) {i : Nat} (hi : i < n) :
    w.cell? ⟨g, i * 3, none⟩ = some (.slice (A i) (sqAt qs i).1.length (C i)) ∧ w.cell? ⟨g, i * 3 + 1, none⟩ = some (.int .i64 (sqAt qs i).2.1) ∧ w.cell? ⟨g, i * 3 + 2, none⟩ = some (.bool (sqAt qs i).2.2) := by
  have c0 := (h.row.at0 (show 3 * i < 3 * n by omega)).1
  have c1 := (h.row.at0 (show 3 * i + 1 < 3 * n by omega)).1
  have c2 := (h.row.at0 (show 3 * i + 2 < 3 * n by omega)).1
  rw [cellQ0] at c0
  rw [cellQ1] at c1
  rw [cellQ2] at c2
  rw [Nat.mul_comm] at c0 c1 c2
  exact ⟨c0, c1, c2⟩
theorem GrowSqs.open_ (h : GrowSqs B w n qs g A C) {j : Nat} (hj : j < 3 * n) : w.frozen? ⟨g, j, none⟩ = false := (h.row.at0 hj).2.1
theorem GrowSqs.aside (h : GrowSqs B w n qs g A C) {l r : Nat} (hb : Aside l r w w1) (hr : r ≤ B ∨ w.heap.size ≤ l) : GrowSqs B w1 n qs g A C := by
  have hs := h.row.1
  have hG := h.atG
  have hbl : ∀ k, B ≤ k → k < w.heap.size → w1.heap[k]? = w.heap[k]? := fun k h1 h2 => hb.block k h2 (by omega)
  refine ⟨h.len, h.row.of hb.size (fun k h1 h2 => hbl k (by omega) (by omega)), ⟨fun i hi => ?_, h.pages.apart⟩, h.atG, h.apartG⟩
  have ho := h.pages.own i hi
  refine ⟨ho.1, ?_⟩
  rcases ho.2 with h' | ⟨p, cap, cur, e, h1, h2, h3⟩
  · exact .inl h'
  · exact .inr ⟨p, cap, cur, e, h1, (hbl p h1 (Array.getElem?_eq_some_iff.1 h2).1).trans h2, h3⟩
end
end Go.Proofs.YthldcfiemfccpaaDoor
end

section
namespace Go.Proofs.YthldcfiemfccpaaDoor
open Go.RowKit
set_option linter.unusedVariables false
set_option maxRecDepth 20000

theorem pg_ne {B : Nat} {w : World} {a : Option Addr} {c : Nat} {ts : List ByteArray} (h : PgOwn B w a c ts) {p : Nat} {cs : Array Value} {T : TypeId} {fr : Nat × Nat} (hp : w.heap[p]? = some (.cells cs T fr)) (hT : T ≠ 9) : oB a ≠ some p := by
  intro e
  obtain ⟨c', fz, h2⟩ := Go.Lib.ownsRow_kind h p (by rw [ownBlock_slice]; exact e)
  rw [hp] at h2
  simp only [Option.some.injEq, Obj.cells.injEq] at h2
  exact hT h2.2.1
theorem Pgs.keepT {B k p : Nat} {w w' : World} {qs : List Sq} {A : Nat → Option Addr} {C : Nat → Nat} (h : Pgs B w k qs A C) (hg : w.grownBy w' (some p)) {cs : Array Value} {T : TypeId} {fr : Nat × Nat} (hp : w.heap[p]? = some (.cells cs T fr)) (hT : T ≠ 9) : Pgs B w' k qs A C :=
  h.keep hg (fun i m hi hm e => pg_ne (h.own i hi) hp hT (by rw [hm]; exact e.symm))
theorem GrowSqs.mono {B B' n g : Nat} {w : World} {qs : List Sq} {A : Nat → Option Addr} {C : Nat → Nat} (h : GrowSqs B w n qs g A C) (hB : B' ≤ B) : GrowSqs B' w n qs g A C :=
  ⟨h.len, h.row, ⟨fun i hi => (h.pages.own i hi).mono hB, h.pages.apart⟩, Nat.le_trans hB h.atG, h.apartG⟩
/-- The cells of the first k Squares. -/
def rowL (A : Nat → Option Addr) (C : Nat → Nat) (qs : List Sq) (k : Nat) : List Value := (List.range (3 * k)).map (cellQ A C qs)
theorem rowL_length (A : Nat → Option Addr) (C : Nat → Nat) (qs : List Sq) (k : Nat) : (rowL A C qs k).length = k * 3 := by unfold rowL; simp; omega
theorem rowL_snoc (A : Nat → Option Addr) (C : Nat → Nat) (qs : List Sq) (k : Nat) (a' : Option Addr) (c' : Nat) :
    rowL A C qs k ++ [.slice a' (sqAt qs k).1.length c', .int .i64 (sqAt qs k).2.1, .bool (sqAt qs k).2.2] = rowL (upd A k a') (upd C k c') qs (k + 1) := by
  unfold rowL
  rw [show 3 * (k + 1) = 3 * k + 1 + 1 + 1 by omega, List.range_succ, List.range_succ, List.range_succ]
  simp only [List.map_append, List.map_cons, List.map_nil, List.append_assoc]
  rw [cellQ0, cellQ1, show 3 * k + 1 + 1 = 3 * k + 2 from rfl, cellQ2, upd_same, upd_same]
  have : (List.range (3 * k)).map (cellQ A C qs) = (List.range (3 * k)).map (cellQ (upd A k a') (upd C k c') qs) := by
    apply List.map_congr_left
    intro j hj
    rw [List.mem_range] at hj
    rw [cellQ_cell3, cellQ_cell3, upd_other _ _ (show j / 3 ≠ k by omega), upd_other _ _ (show j / 3 ≠ k by omega)]
  rw [this]
  rfl
/-- 'append([]string{}, s...)': new Pages. -/
theorem append_pages {P : Program} (hinfo : (P.info? 9).map (fun i => (i.zero, i.size, i.bytes)) = some (some (.string ByteArray.empty), 1, 16)) {t : TypeId} (ht : P.underlying t = some (.slice 9)) {B g : Nat} {w : World} (ho : w.ownsRow B 9 1 (.slice (some ⟨g, 0, none⟩) 0 0) 0 []) (hB : B ≤ w.heap.size)
    {lo hi : Nat} {a : Option Addr} {c : Nat} {ts : List ByteArray} (hx : Texts lo hi w a ts.length ts) (hn : ts.length ≤ 1048576) :
    ∃ a' c' w', (Builtin.append_ #[t, t] t #[.slice (some ⟨g, 0, none⟩) 0 0, .slice a ts.length c]).run P w = .ok (.slice a' ts.length c') w' ∧ PgOwn B w' a' c' ts ∧ w.grownBy w' (some g) ∧ (∀ m, oB a' = some m → m = g ∨ m = w.heap.size) := by
  obtain ⟨i0, hi0, hz0, hz1, hz2⟩ := info_parts hinfo
  cases a with
  | none =>
    have h0 : ts.length = 0 := by
      rcases Nat.eq_zero_or_pos ts.length with h | h
      · exact h
      · obtain ⟨b, off, e, _⟩ := hx.2.2 h; cases e
    have hts : ts = [] := List.eq_nil_of_length_eq_zero h0
    subst hts
    refine ⟨some ⟨g, 0, none⟩, 0, w, ?_, ho, ⟨rfl, rfl, rfl, Nat.le_refl _, fun _ _ _ => rfl⟩, fun m hm => .inl (by have e : some g = some m := hm; simp at e; exact e.symm)⟩
    simp [Builtin.append_, run_underlying ht, sizeOf, typeInfo, hi0, Builtin.lenOf, Builtin.firstCells, storeCells]
  | some x =>
    have hnews : ∀ (j : Nat) u, (pgV ts)[j]? = some u → w.cell? (x.add j) = some u := by
      intro j u hj
      have hjl : j < ts.length := by
        rcases Nat.lt_or_ge j ts.length with h | h
        · exact h
        · rw [List.getElem?_eq_none (by unfold pgV; simpa using h)] at hj; simp at hj
      obtain ⟨b, off, e, _, _, hc⟩ := hx.2.2 (by omega)
      simp only [Option.some.injEq] at e
      subst e
      have hadd : (⟨b, off, none⟩ : Addr).add j = ⟨b, off + j, none⟩ := by unfold Addr.add; split <;> simp_all
      rw [hadd, hc j hjl, ← hj]
      unfold pgV cellT
      rw [List.getElem?_map, List.getD_eq_getElem?_getD, List.getElem?_eq_getElem hjl]
      rfl
    obtain ⟨v', w', h1, h2, h3, h4, h5⟩ := run_append_own_at (P := P) w B t t 9 i0 (.string ByteArray.empty) 1 16 ht hi0 hz0 hz1 hz2 rfl (by decide) _ 0 [] ho x ts.length c (pgV ts) (by unfold pgV; simp) hnews
      (fun u hu => by unfold pgV at hu; rw [List.mem_map] at hu; obtain ⟨s, _, rfl⟩ := hu; rfl) (by unfold maxLen; omega) (by omega) hB
    rw [Nat.zero_add, List.nil_append] at h2
    obtain ⟨a', c', rfl⟩ : ∃ a' c', v' = .slice a' ts.length c' := by
      rcases Go.Joins.ownsRow_forms h2 with ⟨rfl, h0⟩ | ⟨g', c', rfl⟩
      · exact ⟨none, 0, by rw [h0]⟩
      · exact ⟨_, c', rfl⟩
    refine ⟨a', c', w', h1, h2, h3, fun m hm => ?_⟩
    rw [ownBlock_slice, ownBlock_slice, hm] at h5
    rcases h5 with h5 | h5
    · exact .inl (by have e : some m = some g := h5; simp at e; exact e)
    · exact .inr (by simp at h5; exact h5)
theorem cell_three_new (w : World) (x y z : Value) (t : TypeId) : ∀ j u, [x, y, z][j]? = some u → (w.alloc (.cells #[x, y, z] t)).cell? ((⟨w.heap.size, 0, none⟩ : Addr).add j) = some u := by
  intro j u hj
  match j, hj with
  | 0, hj => simp at hj; subst hj; simp [Addr.add]
  | 1, hj => simp at hj; subst hj; simp [Addr.add]
  | 2, hj => simp at hj; subst hj; simp [Addr.add]
theorem three_one (a : Option Addr) (n c : Nat) (z : Int) (b : Bool) : ∀ u ∈ [Value.slice a n c, .int .i64 z, .bool b], u.oneCell' = true := by
  intro u hu
  simp only [List.mem_cons, List.not_mem_nil, or_false] at hu
  rcases hu with rfl | rfl | rfl <;> rfl
theorem chipOk_parts {z : Int} {qs : List Sq} (h : chipOk z qs = true) : 1 ≤ z ∧ z ≤ 8 ∧ 1 ≤ qs.length ∧ qs.length ≤ 12 ∧ ∀ q ∈ qs, sqOk z q = true := by
  unfold chipOk inB at h
  simp only [Bool.and_eq_true, decide_eq_true_eq, List.all_eq_true] at h
  exact ⟨h.1.1, h.1.2, h.2.1, h.2.2.1, h.2.2.2⟩
theorem sqOk_parts {z : Int} {q : Sq} (h : sqOk z q = true) : (q.1.length : Int) ≤ z ∧ 0 ≤ q.2.1 ∧ q.2.1 ≤ 1000000 ∧ ∀ s ∈ q.1, 1 ≤ s.size ∧ s.size ≤ 200 := by
  unfold sqOk inB at h
  simp only [Bool.and_eq_true, decide_eq_true_eq, List.all_eq_true] at h
  refine ⟨h.1, h.2.1.1, h.2.1.2, fun s hs => ?_⟩
  have := h.2.2 s hs
  unfold txOk at this
  simpa using this
theorem sqAt_mem {qs : List Sq} {k : Nat} (h : k < qs.length) : sqAt qs k ∈ qs := by
  unfold sqAt; rw [List.getD_eq_getElem?_getD, List.getElem?_eq_getElem h]; exact List.getElem_mem h
theorem chipOk_at {z : Int} {qs : List Sq} (h : chipOk z qs = true) {k : Nat} (hk : k < qs.length) : sqOk z (sqAt qs k) = true := (chipOk_parts h).2.2.2.2 _ (sqAt_mem hk)
theorem chipOk_fits {z : Int} {qs : List Sq} (h : chipOk z qs = true) : ∀ x ∈ qs, sqFits x := by
  intro x hx
  obtain ⟨_, h2, _, _, h5⟩ := chipOk_parts h
  obtain ⟨k1, k2, k3, k4⟩ := sqOk_parts (h5 x hx)
  refine ⟨fun s hs => ?_, ?_, ?_⟩
  · have := (k4 s hs).2; unfold maxLen; omega
  · unfold maxLen; omega
  · show (decide _ && decide _) = true; rw [Bool.and_eq_true, decide_eq_true_eq, decide_eq_true_eq]; refine ⟨Int.le_trans (by decide) k2, Int.le_trans k3 (by decide)⟩
theorem Tryd.infoStrC : (Tryd.prog.info? 9).map (fun i => (i.zero, i.size, i.bytes)) = some (some (.string ByteArray.empty), 1, 16) := by kernel_rfl

end Go.Proofs.YthldcfiemfccpaaDoor
end

