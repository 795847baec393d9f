/- Several texts in one: FtlMath, FtlPlan, FtlKeep, FtlRoom, FtlSpecA, FtlSpecC, FtlSpecD. -/
import Derived.Test.YtoocbagnfkgbfaaGreatDoorMChipOkS
import Derived.Test.YtoocbagnfkgbfaaGreatDoorMChipGrow
import Derived.Test.YtoocbagnfkgbfaaGreatDoorMPageMath
import Derived.Test.YtoocbagnfkgbfaaGreatDoorMChipOwn2
import Derived.Deep.RegionHeld3
import Derived.Deep.DeepCutAuto
import Derived.Deep.RegionWith
section
namespace Go.Proofs.YtoocbagnfkgbfaaGreatDoor
open Go.RowKit
set_option linter.unusedVariables false

def lyWell (k : Int) : Bool := (k == 1) || (k == 2)
def opOk (qs : List Sq) (op : Int) : Bool := !(decide (op ≥ 0) && (sqAt qs op.toNat).2.2)
end Go.Proofs.YtoocbagnfkgbfaaGreatDoor
end

section
namespace Go.Proofs.YtoocbagnfkgbfaaGreatDoor
open Go.RowKit
set_option linter.unusedVariables false

/-- What is worked on: the Squares, the map, Open, the Jobs that were done. -/
structure Kp where
  qs : List Sq
  ps : List Pl
  op : Int
  js : List Jb
def txAt (qs : List Sq) (v p : Nat) : ByteArray := (sqAt qs v).1.getD p ByteArray.empty
/-! ### A right map, told otherwise -/
structure MapR (z : Int) (qs : List Sq) (ps : List Pl) : Prop where
  chip : chipOk z qs = true
  one : 1 ≤ ps.length
  few : ps.length ≤ 64
  there : ∀ i, i < ps.length → plAt ps i = (-1, 0) ∨ plThere qs (plAt ps i) = true
  apart : ∀ i j, i < ps.length → j < ps.length → i ≠ j → plAt ps i = plAt ps j → plAt ps i = (-1, 0)
theorem MapR.ok {z : Int} {qs : List Sq} {ps : List Pl} (h : MapR z qs ps) : mapOk z qs ps = true := by
  unfold mapOk
  rw [h.chip, decide_eq_true h.one, decide_eq_true h.few, Bool.true_and, Bool.true_and, Bool.true_and, List.all_eq_true]
  intro i hi
  rw [List.mem_range] at hi
  unfold plOk
  rcases h.there i hi with h1 | h1
  · rw [h1]; rfl
  · by_cases e : plAt ps i = (-1, 0)
    · rw [e]; rfl
    · rw [h1, Bool.true_and, Bool.or_eq_true]
      refine .inr (List.all_eq_true.2 fun k hk => ?_)
      rw [List.mem_range] at hk
      rw [bne_iff_ne]
      exact fun e' => e (h.apart i k hi (by omega) (by omega) e'.symm)
theorem plAt_set (ps : List Pl) {i : Nat} (x : Pl) (h : i < ps.length) (k : Nat) : plAt (ps.set i x) k = if k = i then x else plAt ps k := by
  unfold plAt
  rw [List.getD_eq_getElem?_getD, List.getElem?_set]
  by_cases e : k = i
  · subst e; simp [h]
  · rw [if_neg e, if_neg (Ne.symm e), List.getD_eq_getElem?_getD]

/-! ### What stays -/
def txt (qs : List Sq) (p : Pl) : ByteArray := txAt qs p.1.toNat p.2.toNat
/-- Number i lies nowhere as before, or has the text that it had. -/
def sameAt (qs : List Sq) (ps : List Pl) (qs' : List Sq) (ps' : List Pl) (i : Nat) : Prop :=
  (plAt ps' i = (-1, 0) ↔ plAt ps i = (-1, 0)) ∧ (plAt ps i ≠ (-1, 0) → txt qs' (plAt ps' i) = txt qs (plAt ps i))
theorem sameAt_refl (qs : List Sq) (ps : List Pl) (i : Nat) : sameAt qs ps qs ps i := ⟨Iff.rfl, fun _ => rfl⟩
theorem sameAt_trans {qs qs' qs'' : List Sq} {ps ps' ps'' : List Pl} {i : Nat} (h : sameAt qs ps qs' ps' i) (k : sameAt qs' ps' qs'' ps'' i) : sameAt qs ps qs'' ps'' i :=
  ⟨k.1.trans h.1, fun hn => (k.2 (fun e => hn (h.1.1 e))).trans (h.2 hn)⟩
structure KOk (z : Int) (s : Kp) : Prop where
  map : MapR z s.qs s.ps
  lo : -1 ≤ s.op
  hi : s.op < (s.qs.length : Int)
  good : opOk s.qs s.op = true
/-! ### A step -/
structure Stepped (z : Int) (s s' : Kp) : Prop where
  ok : KOk z s'
  squares : s'.qs.length = s.qs.length
  places : s'.ps.length = s.ps.length
  same : ∀ i, i < s.ps.length → sameAt s.qs s.ps s'.qs s'.ps i
theorem Stepped.refl {z : Int} {s : Kp} (h : KOk z s) : Stepped z s s := ⟨h, rfl, rfl, fun i _ => sameAt_refl _ _ i⟩
theorem Stepped.trans {z : Int} {s s' s'' : Kp} (h : Stepped z s s') (k : Stepped z s' s'') : Stepped z s s'' :=
  ⟨k.ok, k.squares.trans h.squares, k.places.trans h.places, fun i hi => sameAt_trans (h.same i hi) (k.same i (by rw [h.places]; exact hi))⟩
end Go.Proofs.YtoocbagnfkgbfaaGreatDoor
end

section
namespace Go.Proofs.YtoocbagnfkgbfaaGreatDoor
open Go.RowKit
set_option linter.unusedVariables false

/-! ### Jobs as cells -/
def jbL (js : List Jb) : List Value := (List.range (js.length * 3)).map (cellJ js)
abbrev JbOwn (B : Nat) (w : World) (v : Value) (js : List Jb) : Prop := w.ownsRow B 119 3 v js.length (jbL js)
/-! ### A place told anew -/
theorem cellP_set (ps : List Pl) {i : Nat} (hi : i < ps.length) (x : Pl) (j : Nat) : cellP (ps.set i x) j = if j = 2 * i then .int .i64 x.1 else if j = 2 * i + 1 then .int .i64 x.2 else cellP ps j := by
  by_cases e0 : j = 2 * i
  · subst e0; rw [if_pos rfl, cellP0, plAt_set ps x hi, if_pos rfl]
  · rw [if_neg e0]
    by_cases e1 : j = 2 * i + 1
    · subst e1; rw [if_pos rfl, cellP1, plAt_set ps x hi, if_pos rfl]
    · rw [if_neg e1]
      unfold cellP
      rw [plAt_set ps x hi, if_neg (show ¬ j / 2 = i by omega)]
theorem plL_set (ps : List Pl) {i : Nat} (hi : i < ps.length) (x : Pl) : ((plL ps).set (2 * i) (.int .i64 x.1)).set (2 * i + 1) (.int .i64 x.2) = plL (ps.set i x) := by
  refine List.ext_getElem? fun j => ?_
  by_cases h : j < ps.length * 2
  · rw [plL_at _ (by rw [List.length_set]; exact h), cellP_set ps hi x]
    rw [List.getElem?_set, List.getElem?_set]
    simp only [List.length_set, plL_length]
    by_cases e1 : j = 2 * i + 1
    · subst e1
      rw [if_pos rfl, if_pos h, if_neg (by omega), if_pos rfl]
    · rw [if_neg (fun e => e1 e.symm), if_neg e1]
      by_cases e0 : j = 2 * i
      · subst e0
        rw [if_pos rfl, if_pos h, if_pos rfl]
      · rw [if_neg (fun e => e0 e.symm), if_neg e0, plL_at ps h]
  · rw [List.getElem?_eq_none (by simp [plL_length]; omega), List.getElem?_eq_none (by rw [plL_length, List.length_set]; omega)]
theorem PlOwn.set {B gm cm : Nat} {w : World} {ps : List Pl} (h : PlOwn B w (.slice (some ⟨gm, 0, none⟩) ps.length cm) ps) {i : Nat} (hi : i < ps.length) (x : Pl) :
    PlOwn B ((w.setCell ⟨gm, 2 * i, none⟩ (.int .i64 x.1)).setCell ⟨gm, 2 * i + 1, none⟩ (.int .i64 x.2)) (.slice (some ⟨gm, 0, none⟩) (ps.set i x).length cm) (ps.set i x) := by
  obtain ⟨h1, g1⟩ := World.ownsRow.stored h (2 * i) (.int .i64 x.1)
  obtain ⟨h2, g2⟩ := World.ownsRow.stored h1 (2 * i + 1) (.int .i64 x.2)
  show World.ownsRow _ _ _ _ (.slice (some ⟨gm, 0, none⟩) (ps.set i x).length cm) (ps.set i x).length (plL (ps.set i x))
  rw [← plL_set ps hi x, List.length_set]
  exact h2

/-! ### All of it -/
theorem GrowSqs.keep {B n g : Nat} {w w' : World} {qs : List Sq} {A : Nat → Option Addr} {C : Nat → Nat} (h : GrowSqs B w n qs g A C) {row : Option Nat} (hg : w.grownBy w' row) (h1 : row ≠ some g) (h2 : ∀ k, row = some k → ∃ cs T fr, w.heap[k]? = some (.cells cs T fr) ∧ T ≠ 9) : GrowSqs B w' n qs g A C := by
  have hs := h.row.1
  refine ⟨h.len, h.row.of hg.size (fun k h3 h4 => hg.block k (by omega) (fun e => h1 (by rw [← e]; congr 1; omega))), h.pages.keep hg (fun i m hi hm e => ?_), h.atG, h.apartG⟩
  obtain ⟨cs, T, fr, h3, h4⟩ := h2 m e
  exact pg_ne (h.pages.own i hi) h3 h4 hm
theorem own_keepBy {w w' : World} {base e s n : Nat} {v : Value} {xs : List Value} (h : w.ownsRow base e s v n xs) {row : Option Nat} (hg : w.grownBy w' row) (h2 : ∀ k, row = some k → ∃ cs T fr, w.heap[k]? = some (.cells cs T fr) ∧ T ≠ e) : w'.ownsRow base e s v n xs := by
  refine h.kept hg ?_
  cases hb : v.ownBlock with
  | none => exact .inl rfl
  | some k =>
    refine .inr (fun e' => ?_)
    obtain ⟨cs, T, fr, h3, h4⟩ := h2 k e'.symm
    obtain ⟨cs', fz, h5⟩ := Go.Lib.ownsRow_kind h k hb
    rw [h3] at h5
    simp only [Option.some.injEq, Obj.cells.injEq] at h5
    exact h4 h5.2.1
structure KpMem (B : Nat) (w : World) (n g gm cm : Nat) (A : Nat → Option Addr) (C : Nat → Nat) (V : Value) (s : Kp) : Prop where
  sq : GrowSqs B w n s.qs g A C
  pl : PlOwn B w (.slice (some ⟨gm, 0, none⟩) s.ps.length cm) s.ps
  jb : JbOwn B w V s.js
  ne : gm ≠ g
  nj : V.ownBlock ≠ some g
section
variable {B n g gm cm : Nat} {w w' : World} {A : Nat → Option Addr} {C : Nat → Nat} {V : Value} {s : Kp}
theorem KpMem.kind (h : KpMem B w n g gm cm A C V s) : ∃ cs fz, w.heap[gm]? = some (.cells cs 48 fz) := Go.Lib.ownsRow_kind h.pl gm rfl
theorem KpMem.later (h : KpMem B w n g gm cm A C V s) (hb : Below w.heap.size w w') : KpMem B w' n g gm cm A C V s :=
  ⟨h.sq.later hb, own_keepBy h.pl (grown_below hb none) (fun k e => by cases e), own_keepBy h.jb (grown_below hb none) (fun k e => by cases e), h.ne, h.nj⟩
/-- Another block is written. -/
theorem KpMem.keep (h : KpMem B w n g gm cm A C V s) {p : Nat} (hg : w.grownBy w' (some p)) (hp : p ≠ g) {cs : Array Value} {T : TypeId} {fr : Nat × Nat} (hT : w.heap[p]? = some (.cells cs T fr)) (h1 : T ≠ 9) (h2 : T ≠ 48) (h3 : T ≠ 119) : KpMem B w' n g gm cm A C V s :=
  ⟨h.sq.keep hg (fun e => hp (by simpa using e)) (fun k e => by simp only [Option.some.injEq] at e; subst e; exact ⟨_, _, _, hT, h1⟩), own_keepBy h.pl hg (fun k e => by simp only [Option.some.injEq] at e; subst e; exact ⟨_, _, _, hT, h2⟩), own_keepBy h.jb hg (fun k e => by simp only [Option.some.injEq] at e; subst e; exact ⟨_, _, _, hT, h3⟩), h.ne, h.nj⟩
theorem KpMem.set (h : KpMem B w n g gm cm A C V s) {p o : Nat} (v : Value) (hp : p ≠ g) {cs : Array Value} {T : TypeId} {fr : Nat × Nat} (hT : w.heap[p]? = some (.cells cs T fr)) (h1 : T ≠ 9) (h2 : T ≠ 48) (h3 : T ≠ 119) : KpMem B (w.setCell ⟨p, o, none⟩ v) n g gm cm A C V s :=
  h.keep (grown_set w ⟨p, o, none⟩ v) hp hT h1 h2 h3
theorem KpMem.cells (h : KpMem B w n g gm cm A C V s) {i : Nat} (hi : i < s.ps.length) : w.cell? ⟨gm, i * 2, none⟩ = some (.int .i64 (plAt s.ps i).1) ∧ w.cell? ⟨gm, i * 2 + 1, none⟩ = some (.int .i64 (plAt s.ps i).2) ∧ w.frozen? ⟨gm, i * 2, none⟩ = false ∧ w.frozen? ⟨gm, i * 2 + 1, none⟩ = false := by
  rw [Nat.mul_comm i 2]
  have c0 := World.ownsRow.cellAt h.pl (2 * i) (by omega)
  have c1 := World.ownsRow.cellAt h.pl (2 * i + 1) (by omega)
  rw [plL_at s.ps (by omega), cellP0] at c0
  rw [plL_at s.ps (by omega), cellP1] at c1
  exact ⟨c0, c1, World.ownsRow.frozenAt h.pl _, World.ownsRow.frozenAt h.pl _⟩
end
/-- Only the blocks L, rows of texts and rows of Jobs are written, none below B. -/
structure Frame (B : Nat) (L : List Nat) (w w' : World) : Prop where
  below : Below B w w'
  other : ∀ (k : Nat) (cs : Array Value) (T : TypeId) (fr : Nat × Nat), k ∉ L → T ≠ 9 → T ≠ 119 → w.heap[k]? = some (.cells cs T fr) → w'.heap[k]? = some (.cells cs T fr)
section
variable {B : Nat} {L : List Nat} {w w1 w2 : World}
theorem Frame.refl (B : Nat) (L : List Nat) (w : World) : Frame B L w w := ⟨Below.refl _ _, fun _ _ _ _ _ _ _ h => h⟩
theorem Frame.trans (h : Frame B L w w1) (k : Frame B L w1 w2) : Frame B L w w2 := ⟨h.below.trans k.below, fun q cs T fr h1 h2 h3 h4 => k.other q cs T fr h1 h2 h3 (h.other q cs T fr h1 h2 h3 h4)⟩
theorem Frame.on (h : Frame B L w w1) (hb : Below w1.heap.size w1 w2) (hB : B ≤ w1.heap.size) : Frame B L w w2 :=
  ⟨h.below.trans (hb.mono hB), fun q cs T fr h1 h2 h3 h4 => block_on (h.other q cs T fr h1 h2 h3 h4) hb⟩
theorem Frame.set (h : Frame B L w w1) {p : Nat} (hp : p ∈ L) (hB : B ≤ p) (o : Nat) (v : Value) : Frame B L w (w1.setCell ⟨p, o, none⟩ v) :=
  ⟨h.below.setCell (p := ⟨p, o, none⟩) hB v, fun q cs T fr h1 h2 h3 h4 => set_other (h.other q cs T fr h1 h2 h3 h4) (fun e => h1 (by rw [← e]; exact hp)) v⟩
end
end Go.Proofs.YtoocbagnfkgbfaaGreatDoor
end

section
namespace Go.Proofs.YtoocbagnfkgbfaaGreatDoor
open Go.RowKit
set_option linter.unusedVariables false

end Go.Proofs.YtoocbagnfkgbfaaGreatDoor
end

section
namespace Go.Proofs.YtoocbagnfkgbfaaGreatDoor
open Go.RowKit
set_option linter.unusedVariables false
set_option maxRecDepth 20000

set_option maxHeartbeats 400000 in
theorem l7Well_any (k : Int) (w : World) : Calls Tryz.prog 81 #[.int .i64 k] w fun e w' => e = .returned (.bool (lyWell k)) ∧ w = w' := by
  by_cases h : k = 1
  · subst h
    go_enter Tryz.func81, Tryz.ntmps81
    go_wp2_with fail
    go_ret
    exact ⟨rfl, rfl⟩
  · have g : (k == 1) = false := by simpa using h
    go_enter Tryz.func81, Tryz.ntmps81
    go_wp2_with fail
    go_ret
    exact ⟨ret_bool (by unfold lyWell; rw [g]; rfl), rfl⟩

end Go.Proofs.YtoocbagnfkgbfaaGreatDoor
end

section
namespace Go.Proofs.YtoocbagnfkgbfaaGreatDoor
open Go.RowKit
set_option linter.unusedVariables false
set_option maxRecDepth 20000

end Go.Proofs.YtoocbagnfkgbfaaGreatDoor
end

section
namespace Go.Proofs.YtoocbagnfkgbfaaGreatDoor
open Go.RowKit
set_option linter.unusedVariables false
set_option maxRecDepth 20000

/-- An Ftl that is worked on, and the Jobs that were done, behind two pointers. -/
structure FtlAt (B : Nat) (w : World) (px pj : Nat) (z st : Int) (n g c gm cm : Nat) (A : Nat → Option Addr) (C : Nat → Nat) (V : Value) (s : Kp) : Prop where
  mem : KpMem B w n g gm cm A C V s
  ftl : w.heap[px]? = some (.cells #[.int .i64 z, .slice (some ⟨g, 0, none⟩) n c, .slice (some ⟨gm, 0, none⟩) s.ps.length cm, .int .i64 s.op, .int .i64 st] 29)
  jobs : w.heap[pj]? = some (.cells #[V] 99)
  nx : px ≠ g
  nj : pj ≠ g
  bx : B ≤ px
  bj : B ≤ pj
theorem FtlAt.later {B px pj n g c gm cm : Nat} {w w' : World} {z st : Int} {A : Nat → Option Addr} {C : Nat → Nat} {V : Value} {s : Kp} (h : FtlAt B w px pj z st n g c gm cm A C V s) (hb : Below w.heap.size w w') : FtlAt B w' px pj z st n g c gm cm A C V s :=
  ⟨h.mem.later hb, block_on h.ftl hb, block_on h.jobs hb, h.nx, h.nj, h.bx, h.bj⟩
end Go.Proofs.YtoocbagnfkgbfaaGreatDoor
end

