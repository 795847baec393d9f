/- Several texts in one: FtlOwnP, FtlLaw, FtlVar, LawBox, FtlEnt, MountMath, MountFind, MountFit. -/
import Derived.Test.YtoocbagnfkgbfaaGreatDoorMFtlMath
import Derived.Test.YtoocbagnfkgbfaaGreatDoorMChipAns
import Derived.Test.YtoocbagnfkgbfaaGreatDoorMBase
import Derived.Test.YtoocbagnfkgbfaaGreatDoorMPageMath
section
namespace Go.Proofs.YtoocbagnfkgbfaaGreatDoor
open Go.RowKit
set_option linter.unusedVariables false

end Go.Proofs.YtoocbagnfkgbfaaGreatDoor
end

section
namespace Go.Proofs.YtoocbagnfkgbfaaGreatDoor
open Go.RowKit
set_option linter.unusedVariables false

/-- The boxes of an Ftl and of a Page that came in. -/
structure BoxFP (w : World) (z : Int) (a : Option Addr) (n cap : Nat) (am : Option Addr) (m cm : Nat) (op st kd at_ sp : Int) (tx : ByteArray) (w' : World) : Prop where
  ftl : w'.heap[w.heap.size]? = some (.cells #[.int .i64 z, .slice a n cap, .slice am m cm, .int .i64 op, .int .i64 st] 72)
  page : w'.heap[w.heap.size + 1]? = some (.cells #[.int .i64 kd, .int .i64 at_, .int .i64 sp, .string tx] 81)
  below : Below w.heap.size w w'
section
variable {w : World} {z : Int} {a : Option Addr} {n cap : Nat} {am : Option Addr} {m cm : Nat} {op st kd at_ sp : Int} {tx : ByteArray} {w1 w2 : World}
theorem BoxFP.on (h : BoxFP w z a n cap am m cm op st kd at_ sp tx w1) (hb : Below w1.heap.size w1 w2) : BoxFP w z a n cap am m cm op st kd at_ sp tx w2 := ⟨block_on h.ftl hb, block_on h.page hb, below_here h.below hb⟩
theorem BoxFP.size (h : BoxFP w z a n cap am m cm op st kd at_ sp tx w1) : w.heap.size + 2 ≤ w1.heap.size := by
  have := (Array.getElem?_eq_some_iff.1 h.page).1; omega
theorem BoxFP.aside (h : BoxFP w z a n cap am m cm op st kd at_ sp tx w1) {l r : Nat} (hb : Aside l r w1 w2) (hl : w.heap.size + 2 ≤ l) : BoxFP w z a n cap am m cm op st kd at_ sp tx w2 :=
  ⟨(hb.block _ (by have := h.size; omega) (.inl (by omega))).trans h.ftl, (hb.block _ (by have := h.size; omega) (.inl (by omega))).trans h.page, h.below.trans (hb.below (by omega) (by have := h.size; omega))⟩
theorem BoxFP.cells (h : BoxFP w z a n cap am m cm op st kd at_ sp tx w1) :
    w1.cell? ⟨w.heap.size, 0, none⟩ = some (.int .i64 z) ∧ w1.cell? ⟨w.heap.size, 1, none⟩ = some (.slice a n cap) ∧ w1.cell? ⟨w.heap.size, 2, none⟩ = some (.slice am m cm) ∧ w1.cell? ⟨w.heap.size, 3, none⟩ = some (.int .i64 op) ∧ w1.cell? ⟨w.heap.size, 4, none⟩ = some (.int .i64 st) ∧ w1.cell? ⟨w.heap.size + 1, 0, none⟩ = some (.int .i64 kd) ∧ w1.cell? ⟨w.heap.size + 1, 1, none⟩ = some (.int .i64 at_) ∧ w1.cell? ⟨w.heap.size + 1, 2, none⟩ = some (.int .i64 sp) ∧ w1.cell? ⟨w.heap.size + 1, 3, none⟩ = some (.string tx) := by
  obtain ⟨h0, h1, h2, h3, h4⟩ := five_cells h.ftl
  exact ⟨h0, h1, h2, h3, h4, four_cells h.page⟩
end
end Go.Proofs.YtoocbagnfkgbfaaGreatDoor
end

section
namespace Go.Proofs.YtoocbagnfkgbfaaGreatDoor
open Go.RowKit
set_option linter.unusedVariables false

/-- An Ftl in a variable: it lies in block b, what it owns in blocks from lo to below hi, all made behind s. -/
structure VarF (s b lo hi : Nat) (z : Int) (qs : List Sq) (ps : List Pl) (op st : Int) (a : Option Addr) (c : Nat) (am : Option Addr) (cm : Nat) (w : World) : Prop where
  var : w.heap[b]? = some (.cells #[.int .i64 z, .slice a qs.length c, .slice am ps.length cm, .int .i64 op, .int .i64 st] 29)
  own : FtlOwn lo hi w a am qs ps
  apart : b < lo ∨ hi ≤ b
  atB : s ≤ b
  atL : s ≤ lo
section
variable {s b lo hi c cm : Nat} {z op st : Int} {qs : List Sq} {ps : List Pl} {a am : Option Addr} {w w' : World}
theorem VarF.lt (h : VarF s b lo hi z qs ps op st a c am cm w) : b < w.heap.size := (Array.getElem?_eq_some_iff.1 h.var).1
theorem VarF.on (h : VarF s b lo hi z qs ps op st a c am cm w) (hb : Below w.heap.size w w') : VarF s b lo hi z qs ps op st a c am cm w' := ⟨block_on h.var hb, h.own.later hb h.own.1, h.apart, h.atB, h.atL⟩
theorem VarF.aside (h : VarF s b lo hi z qs ps op st a c am cm w) {l r : Nat} (hb : Aside l r w w') (h1 : b < l ∨ r ≤ b) (h2 : r ≤ lo ∨ hi ≤ l) : VarF s b lo hi z qs ps op st a c am cm w' :=
  ⟨(hb.block b h.lt h1).trans h.var, h.own.aside hb h2, h.apart, h.atB, h.atL⟩
theorem VarF.cells (h : VarF s b lo hi z qs ps op st a c am cm w) : w.cell? ⟨b, 0, none⟩ = some (.int .i64 z) ∧ w.cell? ⟨b, 1, none⟩ = some (.slice a qs.length c) ∧ w.cell? ⟨b, 2, none⟩ = some (.slice am ps.length cm) ∧ w.cell? ⟨b, 3, none⟩ = some (.int .i64 op) ∧ w.cell? ⟨b, 4, none⟩ = some (.int .i64 st) := five_cells h.var
theorem VarF.squares (h : VarF s b lo hi z qs ps op st a c am cm w) : Squares lo hi w a qs.length qs := h.own.squares
theorem VarF.places (h : VarF s b lo hi z qs ps op st a c am cm w) : Places lo hi w am ps.length ps := h.own.places
theorem VarF.hi_le (h : VarF s b lo hi z qs ps op st a c am cm w) : hi ≤ w.heap.size := h.own.1
theorem varF_new {w1 : World} (hq : FtlOwn w1.heap.size w'.heap.size w' a am qs ps) (hs : s ≤ w1.heap.size) (h1 : w1.heap.size ≤ w'.heap.size) :
    VarF s w'.heap.size w1.heap.size w'.heap.size z qs ps op st a c am cm (w'.alloc (.cells #[.int .i64 z, .slice a qs.length c, .slice am ps.length cm, .int .i64 op, .int .i64 st] 29)) :=
  ⟨heap_new _ _, hq.later ((Below.refl w'.heap.size w').alloc (Nat.le_refl _) _) (Nat.le_refl _), .inr (Nat.le_refl _), Nat.le_trans hs h1, hs⟩
end
end Go.Proofs.YtoocbagnfkgbfaaGreatDoor
end

section
namespace Go.Proofs.YtoocbagnfkgbfaaGreatDoor
open Go.RowKit
set_option linter.unusedVariables false

/-- The box of an Ftl that came in. -/
structure BoxF (w : World) (z : Int) (a : Option Addr) (n cap : Nat) (am : Option Addr) (m cm : Nat) (op st : Int) (w' : World) : Prop where
  ftl : w'.heap[w.heap.size]? = some (.cells #[.int .i64 z, .slice a n cap, .slice am m cm, .int .i64 op, .int .i64 st] 72)
  below : Below w.heap.size w w'
section
variable {w : World} {z : Int} {a : Option Addr} {n cap : Nat} {am : Option Addr} {m cm : Nat} {op st : Int} {w1 w2 : World}
theorem BoxF.on (h : BoxF w z a n cap am m cm op st w1) (hb : Below w1.heap.size w1 w2) : BoxF w z a n cap am m cm op st w2 := ⟨block_on h.ftl hb, below_here h.below hb⟩
theorem BoxF.size (h : BoxF w z a n cap am m cm op st w1) : w.heap.size + 1 ≤ w1.heap.size := (Array.getElem?_eq_some_iff.1 h.ftl).1
theorem BoxF.aside (h : BoxF w z a n cap am m cm op st w1) {l r : Nat} (hb : Aside l r w1 w2) (hl : w.heap.size + 1 ≤ l) : BoxF w z a n cap am m cm op st w2 :=
  ⟨(hb.block _ h.size (.inl (by omega))).trans h.ftl, h.below.trans (hb.below (by omega) (by have := h.size; omega))⟩
theorem BoxF.cells (h : BoxF w z a n cap am m cm op st w1) :
    w1.cell? ⟨w.heap.size, 0, none⟩ = some (.int .i64 z) ∧ w1.cell? ⟨w.heap.size, 1, none⟩ = some (.slice a n cap) ∧ w1.cell? ⟨w.heap.size, 2, none⟩ = some (.slice am m cm) ∧ w1.cell? ⟨w.heap.size, 3, none⟩ = some (.int .i64 op) ∧ w1.cell? ⟨w.heap.size, 4, none⟩ = some (.int .i64 st) := five_cells h.ftl
end
/-- The box of a Chip that came in. -/
structure BoxC (w : World) (z : Int) (a : Option Addr) (n cap : Nat) (w' : World) : Prop where
  chip : w'.heap[w.heap.size]? = some (.cells #[.int .i64 z, .slice a n cap] 69)
  below : Below w.heap.size w w'
section
variable {w : World} {z : Int} {a : Option Addr} {n cap : Nat} {w1 w2 : World}
theorem BoxC.on (h : BoxC w z a n cap w1) (hb : Below w1.heap.size w1 w2) : BoxC w z a n cap w2 := ⟨block_on h.chip hb, below_here h.below hb⟩
theorem BoxC.size (h : BoxC w z a n cap w1) : w.heap.size + 1 ≤ w1.heap.size := (Array.getElem?_eq_some_iff.1 h.chip).1
theorem BoxC.aside (h : BoxC w z a n cap w1) {l r : Nat} (hb : Aside l r w1 w2) (hl : w.heap.size + 1 ≤ l) : BoxC w z a n cap w2 :=
  ⟨(hb.block _ h.size (.inl (by omega))).trans h.chip, h.below.trans (hb.below (by omega) (by have := h.size; omega))⟩
theorem BoxC.cells (h : BoxC w z a n cap w1) : w1.cell? ⟨w.heap.size, 0, none⟩ = some (.int .i64 z) ∧ w1.cell? ⟨w.heap.size, 1, none⟩ = some (.slice a n cap) := two_cells h.chip
end
/-- The boxes of two Ftls that came in. -/
structure BoxFF (w : World) (z : Int) (a : Option Addr) (n cap : Nat) (am : Option Addr) (m cm : Nat) (op st : Int) (z' : Int) (a' : Option Addr) (n' cap' : Nat) (am' : Option Addr) (m' cm' : Nat) (op' st' : Int) (w' : World) : Prop where
  one : w'.heap[w.heap.size]? = some (.cells #[.int .i64 z, .slice a n cap, .slice am m cm, .int .i64 op, .int .i64 st] 72)
  two : w'.heap[w.heap.size + 1]? = some (.cells #[.int .i64 z', .slice a' n' cap', .slice am' m' cm', .int .i64 op', .int .i64 st'] 72)
  below : Below w.heap.size w w'
section
variable {w : World} {z : Int} {a : Option Addr} {n cap : Nat} {am : Option Addr} {m cm : Nat} {op st : Int} {z' : Int} {a' : Option Addr} {n' cap' : Nat} {am' : Option Addr} {m' cm' : Nat} {op' st' : Int} {w1 w2 : World}
theorem BoxFF.on (h : BoxFF w z a n cap am m cm op st z' a' n' cap' am' m' cm' op' st' w1) (hb : Below w1.heap.size w1 w2) : BoxFF w z a n cap am m cm op st z' a' n' cap' am' m' cm' op' st' w2 := ⟨block_on h.one hb, block_on h.two hb, below_here h.below hb⟩
theorem BoxFF.size (h : BoxFF w z a n cap am m cm op st z' a' n' cap' am' m' cm' op' st' w1) : w.heap.size + 2 ≤ w1.heap.size := (Array.getElem?_eq_some_iff.1 h.two).1
theorem BoxFF.cells (h : BoxFF w z a n cap am m cm op st z' a' n' cap' am' m' cm' op' st' w1) :
    (w1.cell? ⟨w.heap.size, 0, none⟩ = some (.int .i64 z) ∧ w1.cell? ⟨w.heap.size, 1, none⟩ = some (.slice a n cap) ∧ w1.cell? ⟨w.heap.size, 2, none⟩ = some (.slice am m cm) ∧ w1.cell? ⟨w.heap.size, 3, none⟩ = some (.int .i64 op) ∧ w1.cell? ⟨w.heap.size, 4, none⟩ = some (.int .i64 st)) ∧
    (w1.cell? ⟨w.heap.size + 1, 0, none⟩ = some (.int .i64 z') ∧ w1.cell? ⟨w.heap.size + 1, 1, none⟩ = some (.slice a' n' cap') ∧ w1.cell? ⟨w.heap.size + 1, 2, none⟩ = some (.slice am' m' cm') ∧ w1.cell? ⟨w.heap.size + 1, 3, none⟩ = some (.int .i64 op') ∧ w1.cell? ⟨w.heap.size + 1, 4, none⟩ = some (.int .i64 st')) := ⟨five_cells h.one, five_cells h.two⟩
end
end Go.Proofs.YtoocbagnfkgbfaaGreatDoor
end

section
namespace Go.Proofs.YtoocbagnfkgbfaaGreatDoor
open Go.RowKit
set_option linter.unusedVariables false

end Go.Proofs.YtoocbagnfkgbfaaGreatDoor
end

section
namespace Go.Proofs.YtoocbagnfkgbfaaGreatDoor
open Go.RowKit
set_option linter.unusedVariables false

/-- What mounting works on: the stamps, the map, the greatest stamp. -/
structure Mt where
  st : List Int
  ps : List Pl
  S : Int
def stAt (st : List Int) (i : Nat) : Int := st.getD i 0
theorem stAt_set (st : List Int) {i : Nat} (x : Int) (h : i < st.length) (k : Nat) : stAt (st.set i x) k = if k = i then x else stAt st k := by
  unfold stAt
  rw [List.getD_eq_getElem?_getD, List.getElem?_set]
  by_cases e : k = i
  · subst e; simp [h]
  · rw [if_neg e, if_neg (Ne.symm e), List.getD_eq_getElem?_getD]
/-- Is it a page of a number below n? -/
def mtHit (n : Nat) (r : Int × Int × Int × ByteArray × Int) : Bool := lyWell r.2.2.2.2 && !decide (r.2.1 ≥ (n : Int))
def maxI (a b : Int) : Int := if a > b then a else b
/-- The page k of Square i. -/
def mtOne (n : Nat) (i k : Nat) (r : Int × Int × Int × ByteArray × Int) (s : Mt) : Mt :=
  if mtHit n r then (if r.2.2.1 > stAt s.st r.2.1.toNat then ⟨s.st.set r.2.1.toNat r.2.2.1, s.ps.set r.2.1.toNat ((i : Int), (k : Int)), maxI s.S r.2.2.1⟩ else ⟨s.st, s.ps, maxI s.S r.2.2.1⟩) else s
def mtPages (n : Nat) (qs : List Sq) (i : Nat) (s : Mt) : Nat → Mt
  | 0 => s
  | k + 1 => mtOne n i k (lyP (txAt qs i k)) (mtPages n qs i s k)
def mtSqs (n : Nat) (qs : List Sq) : Nat → Mt
  | 0 => ⟨List.replicate n 0, List.replicate n (-1, 0), 0⟩
  | i + 1 => mtPages n qs i (mtSqs n qs i) (sqAt qs i).1.length
def mtAll (n : Nat) (qs : List Sq) : Mt := mtSqs n qs qs.length
/-- What Mount tells. -/
def mountF (z : Int) (qs : List Sq) (n : Int) : Fv := if chipOk z qs && inB n 1 64 then ⟨z, qs, (mtAll n.toNat qs).ps, -1, (mtAll n.toNat qs).S⟩ else ⟨0, [], [], 0, 0⟩
/-- A page that lies well tells At and Stamp within their bounds. -/
theorem lyP_well {s : ByteArray} (h : lyWell (lyP s).2.2.2.2 = true) : 0 ≤ (lyP s).2.1 ∧ (lyP s).2.1 ≤ 63 ∧ 1 ≤ (lyP s).2.2.1 ∧ (lyP s).2.2.1 ≤ 1000000 := by
  by_cases h0 : s.size = 0
  · rw [lyP_blank h0] at h; exact absurd h (by decide)
  · cases hg : goodL s with
    | false => rw [lyP_torn h0 hg] at h; exact absurd h (by decide)
    | true =>
      rw [lyP_good h0 hg]
      simp only [goodL, Bool.and_eq_true] at hg
      have hb := hg.2.2.2.2
      simp only [bodyOk, Bool.and_eq_true] at hb
      have hp := hb.2.2.2
      rw [pageOk_iff] at hp
      have hp := of_decide_eq_true hp
      dsimp only
      omega
/-- What mounting keeps. -/
structure MtOk (n : Nat) (qs : List Sq) (s : Mt) : Prop where
  st : s.st.length = n
  ps : s.ps.length = n
  each : ∀ j, j < n → (plAt s.ps j = (-1, 0) ∧ stAt s.st j = 0) ∨ ∃ i k : Nat, plAt s.ps j = ((i : Int), (k : Int)) ∧ i < qs.length ∧ k < (sqAt qs i).1.length ∧ lyWell (lyP (txAt qs i k)).2.2.2.2 = true ∧ (lyP (txAt qs i k)).2.1 = (j : Int) ∧ (lyP (txAt qs i k)).2.2.1 = stAt s.st j
  top : ∀ j, j < n → stAt s.st j ≤ s.S
  lo : 0 ≤ s.S
  hi : s.S ≤ 1000000
theorem mtOne_ok {n i k : Nat} {qs : List Sq} {s : Mt} (h : MtOk n qs s) (hi : i < qs.length) (hk : k < (sqAt qs i).1.length) : MtOk n qs (mtOne n i k (lyP (txAt qs i k)) s) := by
  unfold mtOne
  cases hh : mtHit n (lyP (txAt qs i k)) with
  | false => exact h
  | true =>
    rw [if_pos rfl]
    unfold mtHit at hh
    simp only [Bool.and_eq_true, Bool.not_eq_true', decide_eq_false_iff_not] at hh
    obtain ⟨hw, ha⟩ := hh
    obtain ⟨w1, w2, w3, w4⟩ := lyP_well hw
    have hlo := h.lo
    have hhi := h.hi
    have hm1 : s.S ≤ maxI s.S (lyP (txAt qs i k)).2.2.1 := by unfold maxI; split <;> omega
    have hm2 : (lyP (txAt qs i k)).2.2.1 ≤ maxI s.S (lyP (txAt qs i k)).2.2.1 := by unfold maxI; split <;> omega
    have hm3 : maxI s.S (lyP (txAt qs i k)).2.2.1 ≤ 1000000 := by unfold maxI; split <;> omega
    split
    · have hal : (lyP (txAt qs i k)).2.1.toNat < n := by omega
      refine ⟨by rw [List.length_set]; exact h.st, by rw [List.length_set]; exact h.ps, fun j hj => ?_, fun j hj => ?_, by dsimp only; omega, hm3⟩
      · dsimp only
        rw [plAt_set s.ps _ (by rw [h.ps]; exact hal), stAt_set s.st _ (by rw [h.st]; exact hal)]
        by_cases e : j = (lyP (txAt qs i k)).2.1.toNat
        · rw [if_pos e, if_pos e]
          exact .inr ⟨i, k, rfl, hi, hk, hw, by omega, rfl⟩
        · rw [if_neg e, if_neg e]
          exact h.each j hj
      · dsimp only
        rw [stAt_set s.st _ (by rw [h.st]; exact hal)]
        split
        · exact hm2
        · have := h.top j hj; omega
    · refine ⟨h.st, h.ps, h.each, fun j hj => ?_, by dsimp only; omega, hm3⟩
      have := h.top j hj
      dsimp only
      omega
theorem mtPages_ok {n i : Nat} {qs : List Sq} {s : Mt} (h : MtOk n qs s) (hi : i < qs.length) : ∀ k, k ≤ (sqAt qs i).1.length → MtOk n qs (mtPages n qs i s k)
  | 0, _ => h
  | k + 1, hk => mtOne_ok (mtPages_ok h hi k (by omega)) hi (by omega)
theorem mtSqs_ok {n : Nat} {qs : List Sq} : ∀ i, i ≤ qs.length → MtOk n qs (mtSqs n qs i)
  | 0, _ => by
    have hp : ∀ j, j < n → plAt (List.replicate n ((-1 : Int), (0 : Int))) j = (-1, 0) := fun j hj => by
      unfold plAt; rw [List.getD_eq_getElem?_getD, List.getElem?_replicate, if_pos hj]; rfl
    have hs : ∀ j, stAt (List.replicate n (0 : Int)) j = 0 := fun j => by
      unfold stAt; rw [List.getD_eq_getElem?_getD, List.getElem?_replicate]; split <;> rfl
    exact ⟨List.length_replicate, List.length_replicate, fun j hj => .inl ⟨hp j hj, hs j⟩, fun j _ => by show stAt (List.replicate n 0) j ≤ 0; rw [hs j]; exact Int.le_refl _, Int.le_refl _, by show (0 : Int) ≤ 1000000; omega⟩
  | i + 1, hi => mtPages_ok (mtSqs_ok i (by omega)) (by omega) _ (Nat.le_refl _)
theorem mtAll_ok (n : Nat) (qs : List Sq) : MtOk n qs (mtAll n qs) := mtSqs_ok _ (Nat.le_refl _)
end Go.Proofs.YtoocbagnfkgbfaaGreatDoor
end

section
namespace Go.Proofs.YtoocbagnfkgbfaaGreatDoor
open Go.RowKit
set_option linter.unusedVariables false

/-- What was found: of a number and a Stamp a place. -/
abbrev Fnd := Int → Int → Option Pl
def fndPut (F : Fnd) (a s : Int) (p : Pl) : Fnd := fun a' s' => if a' = a ∧ s' = s then some p else F a' s'
/-- A page that was found comes to the finding; of alike ones the first one stays. -/
def fndAdd (F : Fnd) (a s : Int) (p : Pl) : Fnd := if (F a s).isSome then F else fndPut F a s p
/-- The finding fits the model's mounting. -/
structure FdOk (n : Nat) (s : Mt) (F : Fnd) : Prop where
  low : ∀ a t, t ≤ 0 → F a t = none
  high : ∀ a : Nat, a < n → ∀ t, stAt s.st a < t → F (a : Int) t = none
  each : ∀ a : Nat, a < n → (stAt s.st a = 0 ∧ plAt s.ps a = (-1, 0)) ∨ (0 < stAt s.st a ∧ F (a : Int) (stAt s.st a) = some (plAt s.ps a))
  top : ∀ a : Nat, a < n → stAt s.st a ≤ s.S
  is : ∃ a : Nat, a < n ∧ stAt s.st a = s.S
theorem fdOk_start {n : Nat} (h : 1 ≤ n) : FdOk n ⟨List.replicate n 0, List.replicate n (-1, 0), 0⟩ (fun _ _ => none) := by
  have hs : ∀ a, stAt (List.replicate n (0 : Int)) a = 0 := fun a => by
    unfold stAt; rw [List.getD_eq_getElem?_getD, List.getElem?_replicate]; split <;> rfl
  have hp : ∀ a, a < n → plAt (List.replicate n ((-1 : Int), (0 : Int))) a = (-1, 0) := fun a ha => by
    unfold plAt; rw [List.getD_eq_getElem?_getD, List.getElem?_replicate, if_pos ha]; rfl
  exact ⟨fun _ _ _ => rfl, fun _ _ _ _ => rfl, fun a ha => .inl ⟨hs a, hp a ha⟩, fun a _ => by show stAt (List.replicate n 0) a ≤ 0; rw [hs a]; exact Int.le_refl _, ⟨0, by omega, hs 0⟩⟩
/-- A page of number a (below n) with Stamp t. -/
theorem fdOk_hit {n : Nat} {s : Mt} {F : Fnd} {a : Nat} {t : Int} (h : FdOk n s F) (hl : s.st.length = n) (hp : s.ps.length = n) (ha : a < n) (ht : 1 ≤ t) (i k : Nat) :
    FdOk n (if t > stAt s.st a then ⟨s.st.set a t, s.ps.set a ((i : Int), (k : Int)), maxI s.S t⟩ else ⟨s.st, s.ps, maxI s.S t⟩) (fndAdd F (a : Int) t ((i : Int), (k : Int))) := by
  have hm1 : s.S ≤ maxI s.S t := by unfold maxI; split <;> omega
  have hm2 : t ≤ maxI s.S t := by unfold maxI; split <;> omega
  have hlow : ∀ a' t', t' ≤ 0 → fndAdd F (a : Int) t ((i : Int), (k : Int)) a' t' = none := fun a' t' h0 => by
    unfold fndAdd fndPut
    split
    · exact h.low a' t' h0
    · dsimp only
      rw [if_neg (by omega)]
      exact h.low a' t' h0
  by_cases hg : t > stAt s.st a
  · rw [if_pos hg]
    have hno : F (a : Int) t = none := h.high a ha t (by omega)
    have hF : fndAdd F (a : Int) t ((i : Int), (k : Int)) = fndPut F (a : Int) t ((i : Int), (k : Int)) := by unfold fndAdd; rw [hno]; rfl
    rw [hF] at hlow ⊢
    have hst : ∀ j, stAt (s.st.set a t) j = if j = a then t else stAt s.st j := fun j => stAt_set s.st t (by rw [hl]; exact ha) j
    have hps : ∀ j, plAt (s.ps.set a ((i : Int), (k : Int))) j = if j = a then ((i : Int), (k : Int)) else plAt s.ps j := fun j => plAt_set s.ps _ (by rw [hp]; exact ha) j
    refine ⟨hlow, fun j hj t' ht' => ?_, fun j hj => ?_, fun j hj => ?_, ?_⟩
    · dsimp only at ht'
      rw [hst] at ht'
      unfold fndPut
      by_cases e : j = a
      · subst e
        rw [if_pos rfl] at ht'
        rw [if_neg (by omega)]
        exact h.high j hj t' (by omega)
      · rw [if_neg e] at ht'
        rw [if_neg (by omega)]
        exact h.high j hj t' ht'
    · dsimp only
      rw [hst, hps]
      unfold fndPut
      by_cases e : j = a
      · subst e
        rw [if_pos rfl, if_pos rfl, if_pos ⟨rfl, rfl⟩]
        exact .inr ⟨by omega, rfl⟩
      · rw [if_neg e, if_neg e, if_neg (by omega)]
        exact h.each j hj
    · dsimp only
      rw [hst]
      split
      · exact hm2
      · have := h.top j hj; omega
    · dsimp only
      by_cases hc : s.S > t
      · obtain ⟨j, hj, ej⟩ := h.is
        refine ⟨j, hj, ?_⟩
        have hne : j ≠ a := fun e => by subst e; omega
        rw [hst, if_neg hne]
        unfold maxI
        rw [if_pos hc]
        exact ej
      · refine ⟨a, ha, ?_⟩
        rw [hst, if_pos rfl]
        unfold maxI
        rw [if_neg hc]
  · rw [if_neg hg]
    have hpos : 0 < stAt s.st a := by omega
    have hat : F (a : Int) (stAt s.st a) = some (plAt s.ps a) := by
      rcases h.each a ha with e | e
      · omega
      · exact e.2
    have hmx : maxI s.S t = s.S := by have := h.top a ha; unfold maxI; split <;> omega
    have hsame : ∀ (j : Nat) (t' : Int), ((j : Int) ≠ (a : Int) ∨ t' ≠ t) → fndAdd F (a : Int) t ((i : Int), (k : Int)) (j : Int) t' = F (j : Int) t' := fun j t' hh => by
      unfold fndAdd fndPut
      split
      · rfl
      · dsimp only
        rw [if_neg (by omega)]
    refine ⟨hlow, fun j hj t' ht' => ?_, fun j hj => ?_, fun j hj => ?_, ?_⟩
    · have ht2 : stAt s.st j < t' := ht'
      by_cases e : j = a
      · subst e
        rw [hsame j t' (.inr (by omega))]
        exact h.high j hj t' ht2
      · rw [hsame j t' (.inl (by omega))]
        exact h.high j hj t' ht2
    · show (stAt s.st j = 0 ∧ plAt s.ps j = (-1, 0)) ∨ (0 < stAt s.st j ∧ fndAdd F (a : Int) t ((i : Int), (k : Int)) (j : Int) (stAt s.st j) = some (plAt s.ps j))
      rcases h.each j hj with e | ⟨e1, e2⟩
      · exact .inl e
      · refine .inr ⟨e1, ?_⟩
        unfold fndAdd
        by_cases hsm : (F (a : Int) t).isSome = true
        · rw [if_pos hsm]; exact e2
        · rw [if_neg hsm]
          unfold fndPut
          rw [if_neg]
          · exact e2
          · rintro ⟨x1, x2⟩
            have x3 : j = a := by omega
            subst x3
            rw [x2] at e2
            rw [e2] at hsm
            exact hsm rfl
    · show stAt s.st j ≤ maxI s.S t
      rw [hmx]; exact h.top j hj
    · show ∃ j, j < n ∧ stAt s.st j = maxI s.S t
      rw [hmx]; exact h.is
/-- The step of the model, with the finding beside it. -/
def fdOne (n : Nat) (i k : Nat) (r : Int × Int × Int × ByteArray × Int) (F : Fnd) : Fnd := if mtHit n r then fndAdd F r.2.1 r.2.2.1 ((i : Int), (k : Int)) else F
theorem fdOk_one {n i k : Nat} {s : Mt} {F : Fnd} {tx : ByteArray} (h : FdOk n s F) (hl : s.st.length = n) (hp : s.ps.length = n) : FdOk n (mtOne n i k (lyP tx) s) (fdOne n i k (lyP tx) F) := by
  unfold mtOne fdOne
  cases hh : mtHit n (lyP tx) with
  | false => exact h
  | true =>
    rw [if_pos rfl, if_pos rfl]
    unfold mtHit at hh
    simp only [Bool.and_eq_true, Bool.not_eq_true', decide_eq_false_iff_not] at hh
    obtain ⟨w1, w2, w3, w4⟩ := lyP_well hh.1
    have ha : (lyP tx).2.1 = (((lyP tx).2.1.toNat : Nat) : Int) := by omega
    rw [ha, Int.toNat_natCast]
    exact fdOk_hit h hl hp (by omega) w3 i k
/-- The greatest of a list is the greatest Stamp. -/
theorem fd_max {n : Nat} {s : Mt} {F : Fnd} (h : FdOk n s F) {m : Int} (h1 : ∀ a, a < n → stAt s.st a ≤ m) (h2 : ∃ a, a < n ∧ stAt s.st a = m) : m = s.S := by
  obtain ⟨a, ha, ea⟩ := h2
  obtain ⟨b, hb, eb⟩ := h.is
  have := h.top a ha
  have := h1 b hb
  omega
end Go.Proofs.YtoocbagnfkgbfaaGreatDoor
end

section
namespace Go.Proofs.YtoocbagnfkgbfaaGreatDoor
open Go.RowKit
set_option linter.unusedVariables false

theorem mountF_fit (z : Int) (qs : List Sq) (n : Int) : (mountF z qs n).qs.length + weight (mountF z qs n).qs ≤ 1048576 ∧ (mountF z qs n).ps.length ≤ 64 := by
  unfold mountF
  cases h : (chipOk z qs && inB n 1 64) with
  | false => simp [weight]
  | true =>
    rw [if_pos rfl]
    simp only [Bool.and_eq_true] at h
    have hn : 1 ≤ n ∧ n ≤ 64 := by have := h.2; unfold inB at this; simpa using this
    refine ⟨chipOk_fit h.1, ?_⟩
    show (mtAll n.toNat qs).ps.length ≤ 64
    rw [(mtAll_ok n.toNat qs).ps]
    omega
end Go.Proofs.YtoocbagnfkgbfaaGreatDoor
end

