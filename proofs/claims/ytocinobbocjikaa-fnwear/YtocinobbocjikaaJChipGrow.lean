/- Several texts in one: ChipGrow, HeapGath, PlaceOwn, HeapBase, HeapImplA. -/
import Derived.Test.YtocinobbocjikaaJChipOkS
import Derived.Laws.OwnMore
import Derived.Maps.AppendAt
import Derived.OneCell
import Derived.Lib.OwnKind
import Derived.Deep.Onto
import Derived.Test.YtocinobbocjikaaJChipOwn2
import Derived.Test.YtocinobbocjikaaResCell
import Derived.BigRegion
import Derived.Deep.QuietTactic
import Derived.BigQuiet
section
namespace Go.Proofs.Ytocinobbocjikaa
open Go.RowKit
set_option linter.unusedVariables false

/-- The block of a slice's address. -/
def oB (a : Option Addr) : Option Nat := a.map (·.block)
theorem ownBlock_slice (a : Option Addr) (n c : Nat) : (Value.slice a n c).ownBlock = oB a := by cases a <;> rfl
def pgV (ts : List ByteArray) : List Value := ts.map Value.string
theorem pgV_set (ts : List ByteArray) (k : Nat) (x : ByteArray) : (pgV ts).set k (.string x) = pgV (ts.set k x) := by unfold pgV; rw [List.map_set]
theorem pgV_snoc (ts : List ByteArray) (x : ByteArray) : pgV ts ++ [.string x] = pgV (ts ++ [x]) := by unfold pgV; simp
/-- Pages of one's own. -/
abbrev PgOwn (B : Nat) (w : World) (a : Option Addr) (c : Nat) (ts : List ByteArray) : Prop := w.ownsRow B 9 1 (.slice a ts.length c) ts.length (pgV ts)
theorem pg_form {B : Nat} {w : World} {a : Option Addr} {c : Nat} {ts : List ByteArray} (h : PgOwn B w a c ts) : (a = none ∧ ts = [] ∧ c = 0) ∨ ∃ p, a = some ⟨p, 0, none⟩ ∧ B ≤ p ∧ p < w.heap.size ∧ ts.length ≤ c := by
  rcases h.2 with ⟨e, h0⟩ | ⟨p, cap, cur, e, hb, hg, hn, _⟩
  · simp only [Value.slice.injEq] at e
    exact .inl ⟨e.1, List.eq_nil_of_length_eq_zero h0, e.2.2⟩
  · simp only [Value.slice.injEq] at e
    exact .inr ⟨p, e.1, hb, (Array.getElem?_eq_some_iff.1 hg).1, by omega⟩
theorem pg_room {B : Nat} {w : World} {a : Option Addr} {c : Nat} {ts : List ByteArray} (h : PgOwn B w a c ts) : ts.length ≤ c := by
  rcases pg_form h with ⟨_, rfl, rfl⟩ | ⟨_, _, _, _, h⟩
  · exact Nat.le_refl _
  · exact h
theorem pg_lt {B : Nat} {w : World} {a : Option Addr} {c : Nat} {ts : List ByteArray} (h : PgOwn B w a c ts) : ∀ k, oB a = some k → B ≤ k ∧ k < w.heap.size := by
  intro k hk
  exact h.lt k (by rw [ownBlock_slice]; exact hk)
theorem pg_own {B g : Nat} {w : World} {a : Option Addr} {c : Nat} {ts : List ByteArray} (h : PgOwn B w a c ts) (hg : g < w.heap.size) : OwnTexts ((oB a).getD g) ((oB a).getD g + 1) w a ts.length ts := by
  rcases pg_form h with ⟨rfl, rfl, rfl⟩ | ⟨p, rfl, hb, hp, hc⟩
  · exact ⟨rfl, by show g + 1 ≤ _; omega, fun h' => absurd h' (by simp)⟩
  · refine ⟨rfl, by show p + 1 ≤ _; omega, fun _ => ⟨p, 0, rfl, Nat.le_refl _, Nat.lt_succ_self _, fun i hi => ⟨?_, by rw [Nat.zero_add]; exact h.frozenAt i⟩⟩⟩
    rw [Nat.zero_add, h.cellAt i (by omega)]
    unfold pgV cellT
    rw [List.getElem?_map, List.getD_eq_getElem?_getD, List.getElem?_eq_getElem hi]
    rfl
theorem pg_keep {B : Nat} {w w' : World} {a : Option Addr} {c : Nat} {ts : List ByteArray} {row : Option Nat} (h : PgOwn B w a c ts) (hg : w.grownBy w' row) (hne : ∀ k, oB a = some k → row ≠ some k) : PgOwn B w' a c ts := by
  refine h.kept hg ?_
  rw [ownBlock_slice]
  cases hb : oB a with
  | none => exact .inl rfl
  | some k => exact .inr (fun e => hne k hb e.symm)
theorem grown_below {w w' : World} (h : Below w.heap.size w w') (row : Option Nat) : w.grownBy w' row := ⟨h.os, h.tape, h.output, h.size, fun k hk _ => h.block k hk⟩
theorem grown_set (w : World) (p : Addr) (v : Value) : w.grownBy (w.setCell p v) (some p.block) :=
  ⟨rfl, rfl, rfl, by rw [Go.Deep.nblk_setCell]; exact Nat.le_refl _, fun k _ hk => Go.Deep.blk_setCell_other _ _ _ _ (fun e => hk (by rw [e]))⟩

/-- The Pages of the first k Squares, each in a block of its own. -/
structure Pgs (B : Nat) (w : World) (k : Nat) (qs : List Sq) (A : Nat → Option Addr) (C : Nat → Nat) : Prop where
  own : ∀ i, i < k → PgOwn B w (A i) (C i) (sqAt qs i).1
  apart : ∀ i j m, i < k → j < k → i ≠ j → oB (A i) = some m → oB (A j) ≠ some m
def upd {α : Type} (A : Nat → α) (i : Nat) (a : α) : Nat → α := fun j => if j = i then a else A j
theorem upd_same {α : Type} (A : Nat → α) (i : Nat) (a : α) : upd A i a i = a := by unfold upd; rw [if_pos rfl]
theorem upd_other {α : Type} (A : Nat → α) {i j : Nat} (a : α) (h : j ≠ i) : upd A i a j = A j := by unfold upd; rw [if_neg h]
theorem Pgs.nil (B : Nat) (w : World) (qs : List Sq) (A : Nat → Option Addr) (C : Nat → Nat) : Pgs B w 0 qs A C := ⟨fun i hi => absurd hi (by omega), fun i j m hi => absurd hi (by omega)⟩
theorem Pgs.keep {B k : Nat} {w w' : World} {qs : List Sq} {A : Nat → Option Addr} {C : Nat → Nat} {row : Option Nat} (h : Pgs B w k qs A C) (hg : w.grownBy w' row) (hne : ∀ i m, i < k → oB (A i) = some m → row ≠ some m) : Pgs B w' k qs A C :=
  ⟨fun i hi => pg_keep (h.own i hi) hg (fun m hm => hne i m hi hm), h.apart⟩
theorem Pgs.later {B k : Nat} {w w' : World} {qs : List Sq} {A : Nat → Option Addr} {C : Nat → Nat} (h : Pgs B w k qs A C) (hb : Below w.heap.size w w') : Pgs B w' k qs A C :=
  h.keep (grown_below hb none) (fun i m hi hm => by simp)
theorem Pgs.snoc {B k c' : Nat} {w w' : World} {qs : List Sq} {A : Nat → Option Addr} {C : Nat → Nat} {a' : Option Addr} (h : Pgs B w k qs A C) (hb : Below w.heap.size w w') (ho : PgOwn B w' a' c' (sqAt qs k).1) (hf : ∀ m, oB a' = some m → w.heap.size ≤ m) : Pgs B w' (k + 1) qs (upd A k a') (upd C k c') := by
  refine ⟨fun i hi => ?_, fun i j m hi hj hne him hjm => ?_⟩
  · by_cases e : i = k
    · subst e; rw [upd_same, upd_same]; exact ho
    · rw [upd_other _ _ e, upd_other _ _ e]; exact (h.later hb).own i (by omega)
  · by_cases e : i = k
    · subst e
      rw [upd_same] at him
      rw [upd_other _ _ (Ne.symm hne)] at hjm
      have h1 := hf m him
      have h2 := (pg_lt (h.own j (by omega)) m hjm).2
      omega
    · rw [upd_other _ _ e] at him
      by_cases e' : j = k
      · subst e'
        rw [upd_same] at hjm
        have h1 := hf m hjm
        have h2 := (pg_lt (h.own i (by omega)) m him).2
        omega
      · rw [upd_other _ _ e'] at hjm
        exact h.apart i j m (by omega) (by omega) hne him hjm

/-- Squares of one's own: the row in block g, all Pages in other blocks. -/
structure GrowSqs (B : Nat) (w : World) (n : Nat) (qs : List Sq) (g : Nat) (A : Nat → Option Addr) (C : Nat → Nat) : Prop where
  len : qs.length = n
  row : Owned g (g + 1) w (some ⟨g, 0, none⟩) (3 * n) (cellQ A C qs)
  pages : Pgs B w n qs A C
  atG : B ≤ g
  apartG : ∀ i, i < n → oB (A i) ≠ some g
theorem GrowSqs.own {B n g : Nat} {w : World} {qs : List Sq} {A : Nat → Option Addr} {C : Nat → Nat} (h : GrowSqs B w n qs g A C) : OwnSqs B w.heap.size w (some ⟨g, 0, none⟩) n qs g 0 A C (fun i => (oB (A i)).getD g) := by
  have hs := h.row.1
  have hP : ∀ i, i < n → 0 < (sqAt qs i).1.length → ∃ p, oB (A i) = some p := fun i hi hp => by
    rcases pg_form (h.pages.own i hi) with ⟨_, e, _⟩ | ⟨p, e, _⟩
    · rw [e] at hp; exact absurd hp (by simp)
    · exact ⟨p, by rw [e]; rfl⟩
  refine ⟨h.len, h.row, fun _ => rfl, fun i hi => pg_own (h.pages.own i hi) (by omega), fun i hi => pg_room (h.pages.own i hi), ⟨h.atG, by omega⟩, fun i hi => ?_, fun i hi hp => ?_, fun i j hi hj hne hp hp' => ?_, Nat.le_refl _⟩
  · cases hb : oB (A i) with
    | none => exact ⟨h.atG, by show g < _; omega⟩
    | some k => exact pg_lt (h.pages.own i hi) k hb
  · obtain ⟨p, hb⟩ := hP i hi hp
    have := h.apartG i hi
    rw [hb] at this ⊢
    exact fun e => this (by rw [← e]; rfl)
  · obtain ⟨p, hb⟩ := hP i hi hp
    obtain ⟨q, hb'⟩ := hP j hj hp'
    have := h.pages.apart i j p hi hj hne hb
    rw [hb'] at this
    rw [hb, hb']
    exact fun e => this (by rw [show p = q from e])
theorem GrowSqs.ownS {B n g : Nat} {w : World} {qs : List Sq} {A : Nat → Option Addr} {C : Nat → Nat} (h : GrowSqs B w n qs g A C) : OwnSquares B w.heap.size w (some ⟨g, 0, none⟩) n qs := ⟨_, _, _, _, _, h.own⟩
theorem GrowSqs.later {B n g : Nat} {w w' : World} {qs : List Sq} {A : Nat → Option Addr} {C : Nat → Nat} (h : GrowSqs B w n qs g A C) (hb : Below w.heap.size w w') : GrowSqs B w' n qs g A C :=
  ⟨h.len, h.row.later hb h.row.1, h.pages.later hb, h.atG, h.apartG⟩

theorem sqAt_set (qs : List Sq) {i : Nat} (x : Sq) (h : i < qs.length) (k : Nat) : sqAt (qs.set i x) k = if k = i then x else sqAt qs k := by
  unfold sqAt
  rw [List.getD_eq_getElem?_getD, List.getElem?_set]
  by_cases e : k = i
  · subst e; simp [h]
  · rw [if_neg e, if_neg (Ne.symm e), List.getD_eq_getElem?_getD]
/-- The three cells of a Square. -/
def cell3 (a : Option Addr) (c : Nat) (x : Sq) (r : Nat) : Value := if r = 0 then .slice a x.1.length c else if r = 1 then .int .i64 x.2.1 else .bool x.2.2
theorem cellQ_cell3 (A : Nat → Option Addr) (C : Nat → Nat) (qs : List Sq) (j : Nat) : cellQ A C qs j = cell3 (A (j / 3)) (C (j / 3)) (sqAt qs (j / 3)) (j % 3) := rfl
theorem cellQ_put (A : Nat → Option Addr) (C : Nat → Nat) (qs : List Sq) {i : Nat} (h : i < qs.length) (a' : Option Addr) (c' : Nat) (x : Sq) (j : Nat) :
    cellQ (upd A i a') (upd C i c') (qs.set i x) j = if j / 3 = i then cell3 a' c' x (j % 3) else cellQ A C qs j := by
  rw [cellQ_cell3, cellQ_cell3, sqAt_set qs x h]
  by_cases e : j / 3 = i
  · rw [if_pos e, if_pos e, e, upd_same, upd_same]
  · rw [if_neg e, if_neg e, upd_other _ _ e, upd_other _ _ e]
theorem upd_id {α : Type} (A : Nat → α) (i : Nat) : upd A i (A i) = A := by
  funext j; unfold upd; split
  · rename_i e; rw [e]
  · rfl
theorem cellQ_put' (A : Nat → Option Addr) (C : Nat → Nat) (qs : List Sq) {i : Nat} (h : i < qs.length) (x : Sq) (j : Nat) :
    cellQ A C (qs.set i x) j = if j / 3 = i then cell3 (A i) (C i) x (j % 3) else cellQ A C qs j := by
  have := cellQ_put A C qs h (A i) (C i) x j
  rwa [upd_id, upd_id] at this

section
variable {B n g : Nat} {w w1 : World} {qs : List Sq} {A : Nat → Option Addr} {C : Nat → Nat}
/-- New Pages for Square i. -/
theorem GrowSqs.setPages (h : GrowSqs B w n qs g A C) {i : Nat} (hi : i < n) {a' : Option Addr} {c' : Nat} {ts' : List ByteArray} (hg : w.grownBy w1 (oB (A i))) (ho : PgOwn B w1 a' c' ts') (hat : ∀ m, oB a' = some m → oB (A i) = some m ∨ w.heap.size ≤ m) :
    GrowSqs B (w1.setCell ⟨g, i * 3, none⟩ (.slice a' ts'.length c')) n (qs.set i (ts', (sqAt qs i).2.1, (sqAt qs i).2.2)) g (upd A i a') (upd C i c') := by
  have hs := h.row.1
  have hil : i < qs.length := by rw [h.len]; exact hi
  have hgw : ∀ j m, j < n → j ≠ i → oB (A j) = some m → oB (A i) ≠ some m := fun j m hj hne hm => h.pages.apart j i m hj hi hne hm
  have hag : oB a' ≠ some g := fun e => by
    rcases hat g e with e' | e'
    · exact h.apartG i hi e'
    · omega
  have hrow1 : Owned g (g + 1) w1 (some ⟨g, 0, none⟩) (3 * n) (cellQ A C qs) := h.row.of hg.size (fun k h1 h2 => hg.block k (by omega) (fun e => h.apartG i hi (by rw [← e]; congr 1; omega)))
  refine ⟨by rw [List.length_set]; exact h.len, (hrow1.set0 (show i * 3 < 3 * n by omega) _).congr (fun j hj => ?_), ⟨fun j hj => ?_, fun j k m hj hk hne hjm hkm => ?_⟩, h.atG, fun j hj => ?_⟩
  · rw [cellQ_put A C qs hil]
    by_cases e : j = i * 3
    · subst e
      rw [if_pos rfl, if_pos (by omega), show i * 3 % 3 = 0 by omega]
      rfl
    · rw [if_neg e]
      by_cases e' : j / 3 = i
      · rw [if_pos e', cellQ_cell3, e']
        unfold cell3
        have h3 : ¬ j % 3 = 0 := by omega
        rw [if_neg h3, if_neg h3]
      · rw [if_neg e']
  · rw [sqAt_set qs _ hil]
    by_cases e : j = i
    · subst e
      rw [if_pos rfl, upd_same, upd_same]
      exact pg_keep ho (grown_set w1 ⟨g, j * 3, none⟩ _) (fun k hk e => hag (by rw [hk]; exact e.symm))
    · rw [if_neg e, upd_other _ _ e, upd_other _ _ e]
      exact pg_keep (pg_keep (h.pages.own j hj) hg (fun k hk => hgw j k hj e hk)) (grown_set w1 ⟨g, i * 3, none⟩ _) (fun k hk e' => h.apartG j hj (by rw [hk]; exact e'.symm))
  · by_cases e : j = i
    · subst e
      rw [upd_same] at hjm
      rw [upd_other _ _ (Ne.symm hne)] at hkm
      rcases hat m hjm with e' | e'
      · exact hgw k m hk (Ne.symm hne) hkm e'
      · have := (pg_lt (h.pages.own k hk) m hkm).2; omega
    · rw [upd_other _ _ e] at hjm
      by_cases e' : k = i
      · subst e'
        rw [upd_same] at hkm
        rcases hat m hkm with e'' | e''
        · exact hgw j m hj hne hjm e''
        · have := (pg_lt (h.pages.own j hj) m hjm).2; omega
      · rw [upd_other _ _ e'] at hkm
        exact h.pages.apart j k m hj hk hne hjm hkm
  · by_cases e : j = i
    · subst e; rw [upd_same]; exact hag
    · rw [upd_other _ _ e]; exact h.apartG j hj
theorem GrowSqs.setOne (h : GrowSqs B w n qs g A C) {i r : Nat} (hi : i < n) (hr : r < 3) (hr0 : r ≠ 0) {x : Sq} {v : Value} (hx : x.1 = (sqAt qs i).1) (hv : cell3 (A i) (C i) x r = v) (hv' : ∀ s, s < 3 → s ≠ r → cell3 (A i) (C i) x s = cell3 (A i) (C i) (sqAt qs i) s) :
    GrowSqs B (w.setCell ⟨g, i * 3 + r, none⟩ v) n (qs.set i x) g A C := by
  have hil : i < qs.length := by rw [h.len]; exact hi
  refine ⟨by rw [List.length_set]; exact h.len, (h.row.set0 (show i * 3 + r < 3 * n by omega) _).congr (fun j hj => ?_), ⟨fun j hj => ?_, h.pages.apart⟩, h.atG, h.apartG⟩
  · rw [cellQ_put' A C qs hil]
    by_cases e : j = i * 3 + r
    · subst e
      rw [if_pos rfl, if_pos (by omega), show (i * 3 + r) % 3 = r by omega, hv]
    · rw [if_neg e]
      by_cases e' : j / 3 = i
      · rw [if_pos e', hv' _ (by omega) (by omega), cellQ_cell3, e']
      · rw [if_neg e']
  · have hk := pg_keep (h.pages.own j hj) (grown_set w ⟨g, i * 3 + r, none⟩ v) (fun k hk e' => h.apartG j hj (by rw [hk]; exact e'.symm))
    rw [sqAt_set qs _ hil]
    by_cases e : j = i
    · subst e
      rw [if_pos rfl, hx]
      exact hk
    · rw [if_neg e]
      exact hk
theorem GrowSqs.setWipes (h : GrowSqs B w n qs g A C) {i : Nat} (hi : i < n) (z : Int) : GrowSqs B (w.setCell ⟨g, i * 3 + 1, none⟩ (.int .i64 z)) n (qs.set i ((sqAt qs i).1, z, (sqAt qs i).2.2)) g A C :=
  h.setOne hi (by omega) (by omega) rfl rfl (fun s hs hne => by unfold cell3; by_cases e : s = 0 <;> simp [e, hne])
theorem GrowSqs.setBad (h : GrowSqs B w n qs g A C) {i : Nat} (hi : i < n) (b : Bool) : GrowSqs B (w.setCell ⟨g, i * 3 + 2, none⟩ (.bool b)) n (qs.set i ((sqAt qs i).1, (sqAt qs i).2.1, b)) g A C :=
  h.setOne hi (by omega) (by omega) rfl rfl (fun s hs hne => by unfold cell3; by_cases e : s = 0 <;> by_cases e1 : s = 1 <;> simp [e, e1] <;> omega)
/-- One page of Square i written over. -/
theorem GrowSqs.setText (h : GrowSqs B w n qs g A C) {i k p : Nat} (hi : i < n) (hp : A i = some ⟨p, 0, none⟩) (x : ByteArray) :
    GrowSqs B (w.setCell ⟨p, k, none⟩ (.string x)) n (qs.set i ((sqAt qs i).1.set k x, (sqAt qs i).2.1, (sqAt qs i).2.2)) g A C := by
  have hil : i < qs.length := by rw [h.len]; exact hi
  have hob : oB (A i) = some p := by rw [hp]; rfl
  have hpg : p ≠ g := fun e => h.apartG i hi (by rw [hob, e])
  have ho := h.pages.own i hi
  have ho' : w.ownsRow B 9 1 (.slice (some ⟨p, 0, none⟩) (sqAt qs i).1.length (C i)) (sqAt qs i).1.length (pgV (sqAt qs i).1) := by rw [← hp]; exact ho
  obtain ⟨hst, hgr⟩ := ho'.stored k (.string x)
  refine ⟨by rw [List.length_set]; exact h.len, (h.row.of hgr.size (fun k h1 h2 => hgr.block k (by have := h.row.1; omega) (fun e => hpg (by simp only [Option.some.injEq] at e; omega)))).congr (fun j hj => ?_), ⟨fun j hj => ?_, h.pages.apart⟩, h.atG, h.apartG⟩
  · rw [cellQ_put' A C qs hil]
    by_cases e' : j / 3 = i
    · rw [if_pos e', cellQ_cell3, e']
      unfold cell3
      rw [List.length_set]
    · rw [if_neg e']
  · rw [sqAt_set qs _ hil]
    by_cases e : j = i
    · subst e
      rw [if_pos rfl]
      show World.ownsRow _ _ _ _ (.slice (A j) ((sqAt qs j).1.set k x).length (C j)) ((sqAt qs j).1.set k x).length (pgV ((sqAt qs j).1.set k x))
      rw [List.length_set, ← pgV_set, hp]
      exact hst
    · rw [if_neg e]
      exact pg_keep (h.pages.own j hj) hgr (fun m hm e' => h.pages.apart j i m hj hi e hm (by rw [hob]; exact e'))
/-- The cells of Square i. -/
theorem GrowSqs.cells (h : GrowSqs B w n qs g A C) {i : Nat} (hi : i < n) :
    w.cell? ⟨g, i * 3, none⟩ = some (.slice (A i) (sqAt qs i).1.length (C i)) ∧ w.cell? ⟨g, i * 3 + 1, none⟩ = some (.int .i64 (sqAt qs i).2.1) ∧ w.cell? ⟨g, i * 3 + 2, none⟩ = some (.bool (sqAt qs i).2.2) := by
  have c0 := (h.row.at0 (show 3 * i < 3 * n by omega)).1
  have c1 := (h.row.at0 (show 3 * i + 1 < 3 * n by omega)).1
  have c2 := (h.row.at0 (show 3 * i + 2 < 3 * n by omega)).1
  rw [cellQ0] at c0
  rw [cellQ1] at c1
  rw [cellQ2] at c2
  rw [Nat.mul_comm] at c0 c1 c2
  exact ⟨c0, c1, c2⟩
theorem GrowSqs.open_ (h : GrowSqs B w n qs g A C) {j : Nat} (hj : j < 3 * n) : w.frozen? ⟨g, j, none⟩ = false := (h.row.at0 hj).2.1
theorem GrowSqs.aside (h : GrowSqs B w n qs g A C) {l r : Nat} (hb : Aside l r w w1) (hr : r ≤ B ∨ w.heap.size ≤ l) : GrowSqs B w1 n qs g A C := by
  have hs := h.row.1
  have hG := h.atG
  have hbl : ∀ k, B ≤ k → k < w.heap.size → w1.heap[k]? = w.heap[k]? := fun k h1 h2 => hb.block k h2 (by omega)
  refine ⟨h.len, h.row.of hb.size (fun k h1 h2 => hbl k (by omega) (by omega)), ⟨fun i hi => ?_, h.pages.apart⟩, h.atG, h.apartG⟩
  have ho := h.pages.own i hi
  refine ⟨ho.1, ?_⟩
  rcases ho.2 with h' | ⟨p, cap, cur, e, h1, h2, h3⟩
  · exact .inl h'
  · exact .inr ⟨p, cap, cur, e, h1, (hbl p h1 (Array.getElem?_eq_some_iff.1 h2).1).trans h2, h3⟩
end
end Go.Proofs.Ytocinobbocjikaa
end

section
namespace Go.Proofs.Ytocinobbocjikaa
open Go.RowKit
set_option linter.unusedVariables false

/-- The first m of f are the ranks of those among the first k for which P says yes, each once. -/
structure Gath (P : Nat → Bool) (r : Nat → Rk) (k m : Nat) (f : Nat → Rk) : Prop where
  mem : ∀ x, (∃ i, i < m ∧ f i = x) ↔ ∃ j, j < k ∧ P j = true ∧ r j = x
  inj : InjR m f
  le : m ≤ k
theorem Gath.nil (P : Nat → Bool) (r f : Nat → Rk) : Gath P r 0 0 f :=
  ⟨fun x => ⟨fun ⟨i, hi, _⟩ => absurd hi (by omega), fun ⟨j, hj, _⟩ => absurd hj (by omega)⟩, fun i j hi => absurd hi (by omega), Nat.le_refl _⟩
theorem Gath.skip {P : Nat → Bool} {r f : Nat → Rk} {k m : Nat} (h : Gath P r k m f) (hp : P k = false) : Gath P r (k + 1) m f := by
  refine ⟨fun x => ?_, h.inj, by have := h.le; omega⟩
  rw [h.mem x]
  constructor
  · rintro ⟨j, h1, h2, h3⟩; exact ⟨j, by omega, h2, h3⟩
  · rintro ⟨j, h1, h2, h3⟩
    refine ⟨j, ?_, h2, h3⟩
    by_cases e : j = k
    · subst e; rw [hp] at h2; cases h2
    · omega
theorem Gath.push {P : Nat → Bool} {r f f' : Nat → Rk} {k m : Nat} (h : Gath P r k m f) (hr : ∀ i j, r i = r j → i = j) (hp : P k = true) (hs : SameR (m + 1) (upd f m (r k)) f') : Gath P r (k + 1) (m + 1) f' := by
  have hold : ∀ i, i < m → upd f m (r k) i = f i := fun i hi => upd_other _ _ (by omega)
  refine ⟨fun x => ?_, hs.inj ?_, by have := h.le; omega⟩
  · rw [hs.mem x]
    constructor
    · rintro ⟨i, hi, e⟩
      by_cases ei : i = m
      · subst ei
        rw [upd_same] at e
        exact ⟨k, by omega, hp, e⟩
      · rw [hold i (by omega)] at e
        obtain ⟨j, h1, h2, h3⟩ := (h.mem x).1 ⟨i, by omega, e⟩
        exact ⟨j, by omega, h2, h3⟩
    · rintro ⟨j, h1, h2, h3⟩
      by_cases ej : j = k
      · subst ej
        exact ⟨m, by omega, by rw [upd_same, h3]⟩
      · obtain ⟨i, hi, e⟩ := (h.mem x).2 ⟨j, by omega, h2, h3⟩
        exact ⟨i, by omega, by rw [hold i hi, e]⟩
  · intro i j hi hj e
    have hno : ∀ t, t < m → f t ≠ r k := fun t ht et => by
      obtain ⟨j, h1, h2, h3⟩ := (h.mem (r k)).1 ⟨t, ht, et⟩
      have := hr _ _ h3
      omega
    by_cases ei : i = m
    · subst ei
      by_cases ej : j = i
      · exact ej.symm
      · rw [upd_same, hold j (by omega)] at e
        exact absurd e.symm (hno j (by omega))
    · rw [hold i (by omega)] at e
      by_cases ej : j = m
      · subst ej
        rw [upd_same] at e
        exact absurd e (hno i (by omega))
      · rw [hold j (by omega)] at e
        exact h.inj i j (by omega) (by omega) e
/-- l was taken, m are left: of those for which P says yes, by their ranks. -/
structure Taken (P : Nat → Bool) (r : Nat → Rk) (n : Nat) (l : List Nat) (m : Nat) (f : Nat → Rk) : Prop where
  sorted : List.Pairwise (fun i j => lessR (r i) (r j)) l
  ahead : ∀ i, i ∈ l → ∀ t, t < m → lessR (r i) (f t)
  mem : ∀ j, (j < n ∧ P j = true) ↔ (j ∈ l ∨ ∃ t, t < m ∧ f t = r j)
  inj : InjR m f
  of : ∀ t, t < m → ∃ j, j < n ∧ P j = true ∧ r j = f t
theorem Taken.start {P : Nat → Bool} {r f : Nat → Rk} {n m : Nat} (h : Gath P r n m f) (hr : ∀ i j, r i = r j → i = j) : Taken P r n [] m f := by
  refine ⟨List.Pairwise.nil, fun i hi => by simp at hi, fun j => ?_, h.inj, fun t ht => (h.mem (f t)).1 ⟨t, ht, rfl⟩⟩
  constructor
  · rintro ⟨h1, h2⟩
    exact .inr ((h.mem (r j)).2 ⟨j, h1, h2, rfl⟩)
  · rintro (h1 | h1)
    · simp at h1
    · obtain ⟨i, h2, h3, h4⟩ := (h.mem (r j)).1 h1
      have := hr _ _ h4
      subst this
      exact ⟨h2, h3⟩
theorem Taken.next {P : Nat → Bool} {r f f' : Nat → Rk} {n m j : Nat} {l : List Nat} (h : Taken P r n l (m + 1) f) (hr : ∀ i j, r i = r j → i = j) (hh : HeapR (m + 1) f) (hj : f 0 = r j) (hs : SameR m (swp f 0 m) f') : Taken P r n (l ++ [j]) m f' := by
  have back : ∀ t, t < m → ∃ s, 0 < s ∧ s < m + 1 ∧ f' t = f s := fun t ht => by
    obtain ⟨i, hi, e⟩ := (hs.mem (f' t)).1 ⟨t, ht, rfl⟩
    obtain ⟨s, e2, hc⟩ := swp_at f 0 m i
    refine ⟨s, ?_, ?_, by rw [← e2, e]⟩
    · omega
    · omega
  have forth : ∀ s, 0 < s → s < m + 1 → ∃ t, t < m ∧ f' t = f s := fun s h0 h1 => by
    refine (hs.mem (f s)).2 ?_
    by_cases e : s = m
    · subst e
      exact ⟨0, h0, swp_l _ _ _⟩
    · exact ⟨s, by omega, swp_o f 0 m (by omega) e⟩
  have far : ∀ s, 0 < s → s < m + 1 → lessR (f 0) (f s) := fun s h0 h1 => by
    have h2 := hh.least s h1
    by_cases h3 : lessR (f 0) (f s)
    · exact h3
    · have e := leR_anti h3 h2
      have := h.inj 0 s (by omega) h1 e
      omega
  refine ⟨?_, ?_, fun i => ?_, ?_, fun t ht => ?_⟩
  · rw [List.pairwise_append]
    refine ⟨h.sorted, List.pairwise_singleton _ _, fun a ha b hb => ?_⟩
    rw [List.mem_singleton] at hb
    subst hb
    rw [← hj]
    exact h.ahead a ha 0 (by omega)
  · intro i hi t ht
    obtain ⟨s, h0, h1, e⟩ := back t ht
    rw [e]
    rw [List.mem_append, List.mem_singleton] at hi
    rcases hi with hi | rfl
    · exact h.ahead i hi s h1
    · rw [← hj]; exact far s h0 h1
  · rw [h.mem i, List.mem_append, List.mem_singleton]
    constructor
    · rintro (hi | ⟨t, ht, e⟩)
      · exact .inl (.inl hi)
      · by_cases e0 : t = 0
        · subst e0
          rw [hj] at e
          exact .inl (.inr (hr _ _ e).symm)
        · obtain ⟨t', h1, h2⟩ := forth t (by omega) ht
          exact .inr ⟨t', h1, by rw [h2, e]⟩
    · rintro ((hi | rfl) | ⟨t, ht, e⟩)
      · exact .inl hi
      · exact .inr ⟨0, by omega, hj⟩
      · obtain ⟨s, h0, h1, e2⟩ := back t ht
        exact .inr ⟨s, h1, by rw [← e2, e]⟩
  · refine hs.inj ?_
    intro a b ha hb e
    obtain ⟨s, e1, hc1⟩ := swp_at f 0 m a
    obtain ⟨t, e2, hc2⟩ := swp_at f 0 m b
    rw [e1, e2] at e
    have := h.inj s t (by omega) (by omega) e
    omega
  · obtain ⟨s, h0, h1, e⟩ := back t ht
    rw [e]
    exact h.of s h1
/-- The rank of a Square without Pages. -/
def rkE (qs : List Sq) (j : Nat) : Rk := (0, (sqAt qs j).2.1, (j : Int))
theorem rkE_inj (qs : List Sq) : ∀ i j, rkE qs i = rkE qs j → i = j := fun i j h => by
  have := congrArg (fun x : Rk => x.2.2) h
  have h2 : (i : Int) = (j : Int) := this
  omega
theorem rkE_less {qs : List Sq} {i j : Nat} (h : lessR (rkE qs i) (rkE qs j)) : aheadW qs i j := by
  unfold lessR rkE at h
  unfold aheadW
  dsimp only at h
  omega
theorem Taken.empty {qs : List Sq} {l : List Nat} {f : Nat → Rk} {n : Nat} (h : Taken (fun j => isEmpty (sqAt qs j)) (rkE qs) n l 0 f) : l = emptyK qs n := by
  refine sorted_one (h.sorted.imp rkE_less) (emptyK_sorted qs n) (fun x => ?_)
  rw [emptyK_mem, h.mem x]
  constructor
  · exact fun hx => .inl hx
  · rintro (hx | ⟨t, ht, _⟩)
    · exact hx
    · omega
/-- The rank of a Square that may be the victim. -/
def rkV9 (qs : List Sq) (ps : List Pl) (j : Nat) : Rk := ((liveN ps (j : Int) : Int), (sqAt qs j).2.1, (j : Int))
theorem rkV9_inj (qs : List Sq) (ps : List Pl) : ∀ i j, rkV9 qs ps i = rkV9 qs ps j → i = j := fun i j h => by
  have := congrArg (fun x : Rk => x.2.2) h
  have h2 : (i : Int) = (j : Int) := this
  omega
theorem bestK_none {qs : List Sq} {ps : List Pl} {op : Int} : ∀ {k : Nat}, bestK qs ps op k = none → ∀ j, j < k → mayV qs op j = false
  | 0, _, j, hj => absurd hj (by omega)
  | k + 1, h, j, hj => by
    unfold bestK at h
    split at h
    · split at h
      · cases h
      · split at h <;> cases h
    · rename_i hm
      by_cases e : j = k
      · subst e; simpa using hm
      · exact bestK_none h j (by omega)
theorem bestK_some {qs : List Sq} {ps : List Pl} {op : Int} : ∀ {k b : Nat}, bestK qs ps op k = some b → mayV qs op b = true ∧ ∀ j, j < k → mayV qs op j = true → ¬ lessR (rkV9 qs ps j) (rkV9 qs ps b)
  | 0, b, h => by cases h
  | k + 1, b, h => by
    unfold bestK at h
    split at h
    · rename_i hm
      split at h
      · rename_i hn
        cases h
        refine ⟨hm, fun j hj hv => ?_⟩
        by_cases e : j = k
        · subst e; exact fun hh => lessR_asymm hh hh
        · rw [bestK_none hn j (by omega)] at hv; cases hv
      · rename_i c hc
        have ih := bestK_some hc
        have hck := bestK_lt hc
        split at h
        · rename_i hb
          cases h
          refine ⟨hm, fun j hj hv => ?_⟩
          by_cases e : j = k
          · subst e; exact fun hh => lessR_asymm hh hh
          · have h1 := ih.2 j (by omega) hv
            unfold betterV at hb
            simp only [Bool.or_eq_true, Bool.and_eq_true, decide_eq_true_eq] at hb
            have h2 : lessR (rkV9 qs ps k) (rkV9 qs ps c) := by unfold lessR rkV9; dsimp only; omega
            exact leR_trans (leR_of_less h2) h1
        · rename_i hb
          cases h
          refine ⟨ih.1, fun j hj hv => ?_⟩
          by_cases e : j = k
          · subst e
            unfold betterV at hb
            simp only [Bool.or_eq_true, Bool.and_eq_true, decide_eq_true_eq] at hb
            unfold lessR rkV9
            dsimp only
            omega
          · exact ih.2 j (by omega) hv
    · rename_i hm
      have ih := bestK_some h
      refine ⟨ih.1, fun j hj hv => ?_⟩
      by_cases e : j = k
      · subst e; rw [hv] at hm; exact absurd rfl hm
      · exact ih.2 j (by omega) hv
/-- The first of the heap is the victim. -/
theorem Gath.best {qs : List Sq} {ps : List Pl} {op : Int} {n m : Nat} {f : Nat → Rk} (h : Gath (mayV qs op) (rkV9 qs ps) n (m + 1) f) (hh : HeapR (m + 1) f) : ∃ b, bestK qs ps op n = some b ∧ f 0 = rkV9 qs ps b := by
  obtain ⟨j, h1, h2, h3⟩ := (h.mem (f 0)).1 ⟨0, by omega, rfl⟩
  cases hb : bestK qs ps op n with
  | none => rw [bestK_none hb j h1] at h2; cases h2
  | some b =>
    refine ⟨b, rfl, ?_⟩
    have hs := bestK_some hb
    have hlt := bestK_lt hb
    obtain ⟨t, h4, h5⟩ := (h.mem (rkV9 qs ps b)).2 ⟨b, hlt, hs.1, rfl⟩
    have h6 := hh.least t h4
    rw [h5] at h6
    have h7 := hs.2 j h1 h2
    rw [h3] at h7
    exact leR_anti h7 h6
theorem Gath.none {qs : List Sq} {ps : List Pl} {op : Int} {n : Nat} {f : Nat → Rk} (h : Gath (mayV qs op) (rkV9 qs ps) n 0 f) : bestK qs ps op n = none := by
  cases hb : bestK qs ps op n with
  | none => rfl
  | some b =>
    have hs := bestK_some hb
    obtain ⟨t, h4, _⟩ := (h.mem (rkV9 qs ps b)).2 ⟨b, bestK_lt hb, hs.1, rfl⟩
    omega
end Go.Proofs.Ytocinobbocjikaa
end

section
namespace Go.Proofs.Ytocinobbocjikaa
open Go.RowKit
set_option linter.unusedVariables false

/-- Places as cells. -/
def plL (ps : List Pl) : List Value := (List.range (ps.length * 2)).map (cellP ps)
theorem plL_length (ps : List Pl) : (plL ps).length = ps.length * 2 := by simp [plL]
theorem plL_at (ps : List Pl) {j : Nat} (h : j < ps.length * 2) : (plL ps)[j]? = some (cellP ps j) := by
  unfold plL; rw [List.getElem?_map, List.getElem?_range h]; rfl
theorem plAt_snoc_lt (ps : List Pl) (x : Pl) {i : Nat} (h : i < ps.length) : plAt (ps ++ [x]) i = plAt ps i := by
  unfold plAt; rw [List.getD_eq_getElem?_getD, List.getD_eq_getElem?_getD, List.getElem?_append_left h]
theorem plAt_snoc (ps : List Pl) (x : Pl) : plAt (ps ++ [x]) ps.length = x := by
  unfold plAt; rw [List.getD_eq_getElem?_getD, List.getElem?_append_right (Nat.le_refl _)]; simp
theorem plL_snoc (ps : List Pl) (x : Pl) : plL ps ++ [.int .i64 x.1, .int .i64 x.2] = plL (ps ++ [x]) := by
  have hlen : (ps ++ [x]).length = ps.length + 1 := by simp
  refine List.ext_getElem? fun j => ?_
  by_cases h : j < ps.length * 2
  · rw [List.getElem?_append_left (by rw [plL_length]; exact h), plL_at ps h, plL_at _ (by rw [hlen]; omega)]
    unfold cellP
    rw [plAt_snoc_lt ps x (show j / 2 < ps.length by omega)]
  · rw [List.getElem?_append_right (by rw [plL_length]; omega), plL_length]
    by_cases e0 : j = ps.length * 2
    · subst e0
      rw [plL_at _ (by rw [hlen]; omega)]
      unfold cellP
      rw [if_pos (by omega), show ps.length * 2 / 2 = ps.length by omega, plAt_snoc]
      simp
    · by_cases e1 : j = ps.length * 2 + 1
      · subst e1
        rw [plL_at _ (by rw [hlen]; omega)]
        unfold cellP
        rw [if_neg (by omega), show (ps.length * 2 + 1) / 2 = ps.length by omega, plAt_snoc]
        simp
      · rw [List.getElem?_eq_none (by simp; omega), List.getElem?_eq_none (by rw [plL_length, hlen]; omega)]
abbrev PlOwn (B : Nat) (w : World) (v : Value) (ps : List Pl) : Prop := w.ownsRow B 66 2 v ps.length (plL ps)
theorem pl_made0 (w : World) : PlOwn w.heap.size (w.alloc (.cells #[] 66)) (.slice (some ⟨w.heap.size, 0, none⟩) 0 0) [] := by
  have hb : (w.alloc (.cells #[] 66)).heap[w.heap.size]? = some (.cells #[] 66 (0, 0)) := heap_new _ _
  exact ⟨rfl, .inr ⟨w.heap.size, 0, #[], rfl, Nat.le_refl _, hb, Nat.le_refl _, Nat.zero_le _, rfl, rfl⟩⟩
theorem pl_form {B : Nat} {w : World} {v : Value} {ps : List Pl} (h : PlOwn B w v ps) : ∃ a c, v = .slice a ps.length c ∧ ps.length ≤ c := by
  rcases h.2 with ⟨e, h0⟩ | ⟨g, cap, cur, e, _, _, hn, _⟩
  · exact ⟨none, 0, by rw [e, h0], by omega⟩
  · exact ⟨_, cap, e, hn⟩
theorem pl_cap {B : Nat} {w : World} {a : Option Addr} {n cm : Nat} {ps : List Pl} (h : PlOwn B w (.slice a n cm) ps) : ps.length ≤ cm := by
  obtain ⟨a', c', e, h2⟩ := pl_form h
  simp only [Value.slice.injEq] at e
  omega
theorem pl_places {B : Nat} {w : World} {a : Option Addr} {c : Nat} {ps : List Pl} (h : PlOwn B w (.slice a ps.length c) ps) : Places B w.heap.size w a ps.length ps := by
  refine ⟨rfl, Nat.le_refl _, fun h0 => ?_⟩
  rcases h.2 with ⟨_, h1⟩ | ⟨g, cap, cur, e, hg, hgg, _⟩
  · omega
  · simp only [Value.slice.injEq, true_and] at e
    obtain ⟨rfl, rfl⟩ := e
    refine ⟨g, 0, rfl, hg, (Array.getElem?_eq_some_iff.1 hgg).1, fun i hi => ?_⟩
    rw [Nat.zero_add, h.cellAt i (by omega), plL_at ps (by omega)]
theorem pl_some {B : Nat} {w : World} {v : Value} {ps : List Pl} (h : PlOwn B w v ps) (h1 : 1 ≤ ps.length) : ∃ g c, v = .slice (some ⟨g, 0, none⟩) ps.length c ∧ ps.length ≤ c := by
  rcases h.2 with ⟨e, h0⟩ | ⟨g, cap, cur, e, _, _, hn, _⟩
  · omega
  · exact ⟨g, cap, e, hn⟩
theorem cellP_0 (ps : List Pl) : cellP ps 0 = .int .i64 (plAt ps 0).1 := rfl
theorem cellP_1 (ps : List Pl) : cellP ps 1 = .int .i64 (plAt ps 0).2 := rfl
theorem Places.wide {lo lo' hi n : Nat} {w : World} {a : Option Addr} {ps : List Pl} (h : Places lo hi w a n ps) (h1 : lo' ≤ lo) : Places lo' hi w a n ps :=
  ⟨h.1, h.2.1, fun hn => by obtain ⟨b, off, e, h4, h5, h6⟩ := h.2.2 hn; exact ⟨b, off, e, by omega, h5, h6⟩⟩
theorem two_news (w : World) (x y : Int) (t : TypeId) : ∀ j u, [Value.int .i64 x, .int .i64 y][j]? = some u → (w.alloc (.cells #[.int .i64 x, .int .i64 y] t)).cell? ((⟨w.heap.size, 0, none⟩ : Addr).add j) = some u := by
  intro j u hj
  have h := heap_new w (.cells #[.int .i64 x, .int .i64 y] t)
  obtain ⟨c0, c1⟩ := two_cells h
  have hadd : (⟨w.heap.size, 0, none⟩ : Addr).add j = ⟨w.heap.size, j, none⟩ := by unfold Addr.add; split <;> simp_all
  rw [hadd]
  match j, hj with
  | 0, hj => rw [c0]; exact hj
  | 1, hj => rw [c1]; exact hj
  | j + 2, hj => simp at hj
theorem two_oneI (x y : Int) : ∀ u ∈ [Value.int .i64 x, .int .i64 y], u.oneCell' = true := by
  intro u hu
  simp only [List.mem_cons, List.not_mem_nil, or_false] at hu
  rcases hu with rfl | rfl <;> rfl
theorem own_aside2 {w w' : World} {base e s n : Nat} {v : Value} {xs : List Value} (h : w.ownsRow base e s v n xs) {l r : Nat} (hb : Aside l r w w') (hr : r ≤ base) : w'.ownsRow base e s v n xs := by
  obtain ⟨h1, h2⟩ := h
  refine ⟨h1, ?_⟩
  rcases h2 with hn | ⟨g, cap, cur, rfl, hbg, hgg, rest⟩
  · exact .inl hn
  · exact .inr ⟨g, cap, cur, rfl, hbg, (hb.block g (Array.getElem?_eq_some_iff.1 hgg).1 (.inr (by omega))).trans hgg, rest⟩
theorem Try.infoPl9 : (Try.prog.info? 66).map (fun i => (i.zero, i.size, i.bytes)) = some (some (.agg #[.int .i64 0, .int .i64 0]), 2, 16) := by kernel_rfl
end Go.Proofs.Ytocinobbocjikaa
end

section
namespace Go.Proofs.Ytocinobbocjikaa
open Go.RowKit
set_option linter.unusedVariables false
set_option maxRecDepth 20000

def cellR (f : Nat → Rk) (j : Nat) : Value := if j % 3 = 0 then .int .i64 (f (j / 3)).1 else if j % 3 = 1 then .int .i64 (f (j / 3)).2.1 else .int .i64 (f (j / 3)).2.2
theorem cellR0 (f : Nat → Rk) (i : Nat) : cellR f (i * 3) = .int .i64 (f i).1 := by
  unfold cellR; rw [if_pos (by omega), show i * 3 / 3 = i by omega]
theorem cellR1 (f : Nat → Rk) (i : Nat) : cellR f (i * 3 + 1) = .int .i64 (f i).2.1 := by
  unfold cellR; rw [if_neg (by omega), if_pos (by omega), show (i * 3 + 1) / 3 = i by omega]
theorem cellR2 (f : Nat → Rk) (i : Nat) : cellR f (i * 3 + 2) = .int .i64 (f i).2.2 := by
  unfold cellR; rw [if_neg (by omega), if_neg (by omega), show (i * 3 + 2) / 3 = i by omega]
def rkL (n : Nat) (f : Nat → Rk) : List Value := (List.range (n * 3)).map (cellR f)
theorem rkL_length (n : Nat) (f : Nat → Rk) : (rkL n f).length = n * 3 := by simp [rkL]
theorem rkL_at (n : Nat) (f : Nat → Rk) {j : Nat} (h : j < n * 3) : (rkL n f)[j]? = some (cellR f j) := by
  unfold rkL; rw [List.getElem?_map, List.getElem?_range h]; rfl
theorem rkL_ext {n : Nat} {f : Nat → Rk} {l : List Value} (hl : l.length = n * 3) (h : ∀ j, j < n * 3 → l[j]? = some (cellR f j)) : l = rkL n f := by
  refine List.ext_getElem? fun j => ?_
  by_cases hj : j < n * 3
  · rw [h j hj, rkL_at n f hj]
  · rw [List.getElem?_eq_none (by omega), List.getElem?_eq_none (by rw [rkL_length]; omega)]
theorem rkL_snoc (n : Nat) (f : Nat → Rk) (x : Rk) : rkL n f ++ [.int .i64 x.1, .int .i64 x.2.1, .int .i64 x.2.2] = rkL (n + 1) (upd f n x) := by
  refine rkL_ext (by simp [rkL_length]; omega) fun j hj => ?_
  by_cases h : j < n * 3
  · rw [List.getElem?_append_left (by rw [rkL_length]; exact h), rkL_at n f h]
    unfold cellR
    rw [upd_other _ _ (show j / 3 ≠ n by omega)]
  · rw [List.getElem?_append_right (by rw [rkL_length]; omega), rkL_length]
    have e : j = n * 3 ∨ j = n * 3 + 1 ∨ j = n * 3 + 2 := by omega
    rcases e with rfl | rfl | rfl
    · rw [cellR0, upd_same]; simp
    · rw [cellR1, upd_same]; simp
    · rw [cellR2, upd_same]; simp
theorem rkL_take (n : Nat) (f : Nat → Rk) : (rkL (n + 1) f).take (n * 3) = rkL n f := by
  refine rkL_ext (by rw [List.length_take, rkL_length]; omega) fun j hj => ?_
  rw [List.getElem?_take, if_pos hj, rkL_at (n + 1) f (by omega)]
theorem rkL_set3 (n : Nat) (f : Nat → Rk) {i : Nat} (hi : i < n) (x : Rk) : (((rkL n f).set (i * 3) (.int .i64 x.1)).set (i * 3 + 1) (.int .i64 x.2.1)).set (i * 3 + 2) (.int .i64 x.2.2) = rkL n (upd f i x) := by
  refine rkL_ext (by simp [rkL_length]) fun j hj => ?_
  by_cases e2 : j = i * 3 + 2
  · subst e2
    rw [List.getElem?_set_self (by simp [rkL_length]; omega), cellR2, upd_same]
  · rw [List.getElem?_set_ne (by omega)]
    by_cases e1 : j = i * 3 + 1
    · subst e1
      rw [List.getElem?_set_self (by simp [rkL_length]; omega), cellR1, upd_same]
    · rw [List.getElem?_set_ne (by omega)]
      by_cases e0 : j = i * 3
      · subst e0
        rw [List.getElem?_set_self (by simp [rkL_length]; omega), cellR0, upd_same]
      · rw [List.getElem?_set_ne (by omega), rkL_at n f hj]
        unfold cellR
        rw [upd_other _ _ (show j / 3 ≠ i by omega)]
theorem upd_swp (f : Nat → Rk) (i j : Nat) : upd (upd f i (f j)) j (f i) = swp f i j := by
  funext k
  unfold upd swp
  by_cases h1 : k = j
  · subst h1
    by_cases h2 : k = i
    · subst h2; simp
    · simp [h2]
  · simp [h1]
theorem upd_swp' (f : Nat → Rk) (i j : Nat) : upd (upd f j (f i)) i (f j) = swp f i j := by
  funext k
  unfold upd swp
  by_cases h1 : k = i
  · simp [h1]
  · simp [h1]

/-- A row of n ranks of one's own, in block g. -/
abbrev RkRow (B : Nat) (w : World) (g n cap : Nat) (f : Nat → Rk) : Prop := w.ownsRow B 54 3 (.slice (some ⟨g, 0, none⟩) n cap) n (rkL n f)
theorem rk_cells {B : Nat} {w : World} {g n cap : Nat} {f : Nat → Rk} (h : RkRow B w g n cap f) {i : Nat} (hi : i < n) :
    w.cell? ⟨g, i * 3, none⟩ = some (.int .i64 (f i).1) ∧ w.cell? ⟨g, i * 3 + 1, none⟩ = some (.int .i64 (f i).2.1) ∧ w.cell? ⟨g, i * 3 + 2, none⟩ = some (.int .i64 (f i).2.2) := by
  refine ⟨?_, ?_, ?_⟩
  · rw [h.cellAt _ (by omega), rkL_at n f (by omega), cellR0]
  · rw [h.cellAt _ (by omega), rkL_at n f (by omega), cellR1]
  · rw [h.cellAt _ (by omega), rkL_at n f (by omega), cellR2]
theorem rk_lt {B : Nat} {w : World} {g n cap : Nat} {f : Nat → Rk} (h : RkRow B w g n cap f) : B ≤ g ∧ g < w.heap.size := h.lt g rfl
theorem rk_kind {B : Nat} {w : World} {g n cap : Nat} {f : Nat → Rk} (h : RkRow B w g n cap f) : ∃ c fz, w.heap[g]? = some (.cells c 54 fz) := Go.Lib.ownsRow_kind h g rfl
theorem rk_keep {B : Nat} {w w' : World} {g n cap : Nat} {f : Nat → Rk} (h : RkRow B w g n cap f) (hb : w'.heap[g]? = w.heap[g]?) : RkRow B w' g n cap f := by
  refine ⟨h.1, ?_⟩
  rcases h.2 with h' | ⟨p, cap', cur, e, h1, h2, h3⟩
  · exact .inl h'
  · have hp : p = g := by simp only [Value.slice.injEq, Option.some.injEq, Addr.mk.injEq] at e; exact e.1.1.symm
    subst hp
    exact .inr ⟨p, cap', cur, e, h1, by rw [hb, h2], h3⟩
theorem rk_set {B : Nat} {w : World} {g n cap : Nat} {f : Nat → Rk} (h : RkRow B w g n cap f) {i : Nat} (hi : i < n) (x : Rk) :
    RkRow B (((w.setCell ⟨g, i * 3, none⟩ (.int .i64 x.1)).setCell ⟨g, i * 3 + 1, none⟩ (.int .i64 x.2.1)).setCell ⟨g, i * 3 + 2, none⟩ (.int .i64 x.2.2)) g n cap (upd f i x) := by
  have h1 := (h.stored (i * 3) (.int .i64 x.1)).1
  have h2 := (World.ownsRow.stored h1 (i * 3 + 1) (.int .i64 x.2.1)).1
  have h3 := (World.ownsRow.stored h2 (i * 3 + 2) (.int .i64 x.2.2)).1
  rw [rkL_set3 n f hi x] at h3
  exact h3
theorem rk_cut {B : Nat} {w : World} {g n cap : Nat} {f : Nat → Rk} (h : RkRow B w g (n + 1) cap f) : RkRow B w g n cap f := by
  refine ⟨rkL_length n f, ?_⟩
  rcases h.2 with ⟨e, _⟩ | ⟨p, cap', cur, e, h1, h2, h3, h4, h5, h6⟩
  · simp at e
  · simp only [Value.slice.injEq, Option.some.injEq, Addr.mk.injEq, and_true, true_and] at e
    obtain ⟨rfl, rfl⟩ := e
    refine .inr ⟨g, cap, cur, rfl, h1, h2, by omega, h4, h5, ?_⟩
    rw [← rkL_take, ← h6, List.take_take, Nat.min_eq_left (by omega)]

/-- A ranking: its cell in block p, its row in block g. -/
structure Rkg (B : Nat) (w : World) (p g n cap : Nat) (f : Nat → Rk) : Prop where
  row : RkRow B w g n cap f
  cell : w.heap[p]? = some (.cells #[.slice (some ⟨g, 0, none⟩) n cap] 50 (0, 0))
  atP : B ≤ p
theorem rk_cell1 {W : World} {b : Nat} {c0 : Value} {t : TypeId} {fr : Nat × Nat} (h : W.heap[b]? = some (.cells #[c0] t fr)) : W.cell? ⟨b, 0, none⟩ = some c0 := by
  simp [World.cell?, h]
section
variable {B : Nat} {w w' : World} {p g n cap : Nat} {f : Nat → Rk}
theorem Rkg.ltP (h : Rkg B w p g n cap f) : p < w.heap.size := (Array.getElem?_eq_some_iff.1 h.cell).1
theorem Rkg.apart (h : Rkg B w p g n cap f) : g ≠ p := by
  intro e
  obtain ⟨c, fz, h1⟩ := rk_kind h.row
  rw [e, h.cell] at h1
  simp only [Option.some.injEq, Obj.cells.injEq] at h1
  exact absurd h1.2.1 (by decide)
theorem Rkg.keep (h : Rkg B w p g n cap f) (hp : w'.heap[p]? = w.heap[p]?) (hg : w'.heap[g]? = w.heap[g]?) : Rkg B w' p g n cap f :=
  ⟨rk_keep h.row hg, by rw [hp, h.cell], h.atP⟩
theorem Rkg.later (h : Rkg B w p g n cap f) (hb : Below w.heap.size w w') : Rkg B w' p g n cap f :=
  h.keep (hb.block p h.ltP) (hb.block g (rk_lt h.row).2)
theorem Rkg.aside (h : Rkg B w p g n cap f) {l r : Nat} (hb : Aside l r w w') (hr : r ≤ B ∨ w.heap.size ≤ l) : Rkg B w' p g n cap f := by
  have h1 := h.ltP
  have h2 := rk_lt h.row
  have h3 := h.atP
  exact h.keep (hb.block p h1 (by omega)) (hb.block g h2.2 (by omega))
end
/-- The receiver of a method on the value, told through the pointer. -/
theorem Try.toLen (p : Nat) (v : Value) (w : World) (h : w.cell? ⟨p, 0, none⟩ = some v) : (Go.method 252 48 (.pointer (some ⟨p, 0, none⟩)) "Len").run Try.prog w = .ok (27, v) w := by
  have e : ∀ w, (Go.method 252 48 (.pointer (some ⟨p, 0, none⟩)) "Len").run Try.prog w = ((do let v ← loadVar 50 ⟨p, 0, none⟩; pure (27, v)) : Sem (FuncId × Value)).run Try.prog w := fun w => by kernel_rfl
  rw [e]
  simp [loadVar, isAgg, run_underlying (show Try.prog.underlying 50 = some (.slice 54) from rfl), h]
end Go.Proofs.Ytocinobbocjikaa
end

section
namespace Go.Proofs.Ytocinobbocjikaa
open Go.RowKit
set_option linter.unusedVariables false
set_option maxRecDepth 20000

set_option maxHeartbeats 400000 in
theorem rkLen_any (a : Option Addr) (n cap : Nat) (w : World) (hn : n ≤ 1048576) :
    Calls Try.prog 27 #[.slice a n cap] w fun e w' => e = .returned (.int .i64 (n : Int)) ∧ w = w' := by
  go_enter Try.func27, Try.ntmps27
  go_wp2_with fail
  go_ret
  exact ⟨rfl, rfl⟩

set_option maxHeartbeats 1600000 in
theorem rkLess_any (B g n cap : Nat) (f : Nat → Rk) (i j : Nat) (w : World) (h : RkRow B w g n cap f) (hi : i < n) (hj : j < n) (hn : n ≤ 1048576) :
    Calls Try.prog 117 #[.slice (some ⟨g, 0, none⟩) n cap, .int .i64 (i : Int), .int .i64 (j : Int)] w fun e w' => e = .returned (.bool (decide (lessR (f i) (f j)))) ∧ Below w.heap.size w w' := by
  obtain ⟨c0, c1, c2⟩ := rk_cells h hi
  obtain ⟨d0, d1, d2⟩ := rk_cells h hj
  have hi2 : (i : Int) < (n : Int) := by omega
  have hj2 : (j : Int) < (n : Int) := by omega
  have hg := (rk_lt h).2
  have hg1 : ¬ g = w.heap.size := by omega
  have hg2 : ¬ g = w.heap.size + 1 := by omega
  clear h
  obtain ⟨x, hx⟩ : ∃ x, f i = x := ⟨_, rfl⟩
  obtain ⟨y, hy⟩ : ∃ y, f j = y := ⟨_, rfl⟩
  rw [hx] at c0 c1 c2
  rw [hy] at d0 d1 d2
  rw [hx, hy]
  obtain ⟨x0, x1, x2⟩ := x
  obtain ⟨y0, y1, y2⟩ := y
  dsimp only at c0 c1 c2 d0 d1 d2
  clear hx hy
  have HB : Hid (∀ o1 o2, Below w.heap.size w ((w.alloc o1).alloc o2).drew) := fun o1 o2 => (((Below.refl _ _).alloc (Nat.le_refl _) o1).alloc (by simp) o2).drew
  go_enter Try.func117, Try.ntmps117
  go_wp2_with fail
  go_region
  all_goals
    by_cases h0 : x0 = y0
    · subst h0
      by_cases h1 : x1 = y1
      · subst h1
        go_wp2_with fail
        go_ret
        exact ⟨ret_bool (by unfold lessR; simp), (HB.out _ _)⟩
      · go_wp2_with fail
        go_ret
        exact ⟨ret_bool (by unfold lessR; simp [h1]), (HB.out _ _)⟩
    · go_wp2_with fail
      go_ret
      exact ⟨ret_bool (by unfold lessR; simp [h0]), (HB.out _ _)⟩

theorem rk_drew {B : Nat} {w : World} {g n cap : Nat} {f : Nat → Rk} (h : RkRow B w g n cap f) : RkRow B w.drew g n cap f := h
theorem Aside.drew' {lo hi : Nat} {w w' : World} (h : Aside lo hi w w') : Aside lo hi w w'.drew := ⟨h.os, h.tape, h.output, h.size, h.block⟩
/-- Three cells of a rank written. -/
def put3 (w : World) (g i : Nat) (x : Rk) : World := ((w.setCell ⟨g, i * 3, none⟩ (.int .i64 x.1)).setCell ⟨g, i * 3 + 1, none⟩ (.int .i64 x.2.1)).setCell ⟨g, i * 3 + 2, none⟩ (.int .i64 x.2.2)
theorem put3_aside (w : World) (g i : Nat) (x : Rk) : Aside g (g + 1) w (put3 w g i x) :=
  (((Aside.refl g (g + 1) w).setCell (p := ⟨g, i * 3, none⟩) (Nat.le_refl _) (Nat.lt_succ_self _) _).setCell (p := ⟨g, i * 3 + 1, none⟩) (Nat.le_refl _) (Nat.lt_succ_self _) _).setCell (p := ⟨g, i * 3 + 2, none⟩) (Nat.le_refl _) (Nat.lt_succ_self _) _

set_option maxHeartbeats 1600000 in
theorem rkSwap_any (B g n cap : Nat) (f : Nat → Rk) (i j : Nat) (w : World) (h : RkRow B w g n cap f) (hi : i < n) (hj : j < n) (hn : n ≤ 1048576) :
    Calls Try.prog 120 #[.slice (some ⟨g, 0, none⟩) n cap, .int .i64 (i : Int), .int .i64 (j : Int)] w fun e w' => e = .returned (.tuple #[]) ∧ RkRow B w' g n cap (swp f i j) ∧ Aside g (g + 1) w w' := by
  obtain ⟨c0, c1, c2⟩ := rk_cells h hi
  obtain ⟨d0, d1, d2⟩ := rk_cells h hj
  have e0 := h.frozenAt (i * 3)
  have e1 := h.frozenAt (i * 3 + 1)
  have e2 := h.frozenAt (i * 3 + 2)
  have f0 := h.frozenAt (j * 3)
  have f1 := h.frozenAt (j * 3 + 1)
  have f2 := h.frozenAt (j * 3 + 2)
  have hi2 : (i : Int) < (n : Int) := by omega
  have hj2 : (j : Int) < (n : Int) := by omega
  have HR := hide h
  clear h
  by_cases hij : i = j
  · subst hij
    obtain ⟨x, hx⟩ : ∃ x, f i = x := ⟨_, rfl⟩
    have HX := hide hx
    rw [hx] at c0 c1 c2
    clear hx hj2 f0 f1 f2 d0 d1 d2
    obtain ⟨x0, x1, x2⟩ := x
    dsimp only at c0 c1 c2
    go_enter Try.func120, Try.ntmps120
    go_wp2_with fail
    go_region
    go_wp2_with fail
    go_end0
    have r1 := rk_set HR.out hi (x0, x1, x2)
    have r2 := rk_set r1 hi (x0, x1, x2)
    have e : upd (upd f i (x0, x1, x2)) i (x0, x1, x2) = swp f i i := by rw [← HX.out, upd_swp]
    rw [e] at r2
    exact ⟨rfl, rk_drew r2, Aside.drew' ((put3_aside w g i (x0, x1, x2)).trans (put3_aside _ g i (x0, x1, x2)))⟩
  · have n0 : ¬ j = i := by omega
    have n1 : ¬ j * 3 = i * 3 + 1 := by omega
    have n2 : ¬ j * 3 = i * 3 + 2 := by omega
    have n3 : ¬ j * 3 + 1 = i * 3 := by omega
    have n4 : ¬ j * 3 + 2 = i * 3 := by omega
    have n5 : ¬ i * 3 = j * 3 + 1 := by omega
    have n6 : ¬ i * 3 = j * 3 + 2 := by omega
    have n7 : ¬ i * 3 + 1 = j * 3 := by omega
    have n8 : ¬ i * 3 + 2 = j * 3 := by omega
    obtain ⟨x, hx⟩ : ∃ x, f i = x := ⟨_, rfl⟩
    obtain ⟨y, hy⟩ : ∃ y, f j = y := ⟨_, rfl⟩
    have HX := hide hx
    have HY := hide hy
    rw [hx] at c0 c1 c2
    rw [hy] at d0 d1 d2
    clear hx hy
    obtain ⟨x0, x1, x2⟩ := x
    obtain ⟨y0, y1, y2⟩ := y
    dsimp only at c0 c1 c2 d0 d1 d2
    go_enter Try.func120, Try.ntmps120
    go_wp2_with fail
    go_region
    go_wp2_with fail
    go_end0
    have r1 := rk_set HR.out hi (y0, y1, y2)
    have r2 := rk_set r1 hj (x0, x1, x2)
    have e : upd (upd f i (y0, y1, y2)) j (x0, x1, x2) = swp f i j := by rw [← HX.out, ← HY.out, upd_swp]
    rw [e] at r2
    exact ⟨rfl, rk_drew r2, Aside.drew' ((put3_aside w g i (y0, y1, y2)).trans (put3_aside _ g j (x0, x1, x2)))⟩
end Go.Proofs.Ytocinobbocjikaa
end

