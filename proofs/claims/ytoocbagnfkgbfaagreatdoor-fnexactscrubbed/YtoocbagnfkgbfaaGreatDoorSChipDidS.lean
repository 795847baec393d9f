/- The model's Did and DidAll. -/
import Derived.Test.YtoocbagnfkgbfaaGreatDoorSPlaceOwn
import Derived.Test.YtoocbagnfkgbfaaGreatDoorSWearImplB
import Derived.Test.YtoocbagnfkgbfaaGreatDoorSChipOkS
namespace Go.Proofs.YtoocbagnfkgbfaaGreatDoor
open Go.RowKit
set_option linter.unusedVariables false
set_option maxRecDepth 20000

def didZ (z : Int) (qs : List Sq) : Int := if chipOk z qs then z else 0
/-- A Chip of one's own in a result's cells. -/
theorem ans_of_grow {B n g c : Nat} {w w' : World} {z : Int} {qs : List Sq} {A : Nat → Option Addr} {C : Nat → Nat} (h : GrowSqs B w' n qs g A C) (hB : w.heap.size ≤ B) (hb : Below w.heap.size w w') : ChipAns w z qs (.agg #[.int .i64 z, .slice (some ⟨g, 0, none⟩) n c]) w' := by
  have hl := h.len
  subst hl
  exact ⟨_, c, rfl, ⟨Nat.le_refl _, .inr (h.ownS.wide hB (Nat.le_refl _) (Nat.le_refl _))⟩, hb⟩

/-! ### All Jobs in order -/
def allQ (z : Int) : List Sq → List Jb → Option (List Sq)
  | qs, [] => some qs
  | qs, j :: js => if canJ z qs j then allQ z (doJ z qs j) js else none
theorem allQ_append (z : Int) (js ks : List Jb) : ∀ qs, allQ z qs (js ++ ks) = (allQ z qs js).bind (fun q => allQ z q ks) := by
  induction js with
  | nil => intro qs; rfl
  | cons j js ih =>
    intro qs
    show (if canJ z qs j then allQ z (doJ z qs j) (js ++ ks) else none) = (if canJ z qs j then allQ z (doJ z qs j) js else none).bind _
    split
    · exact ih _
    · rfl
theorem jb_take {js : List Jb} {k : Nat} (h : k < js.length) : js.take (k + 1) = js.take k ++ [jbAt js k] := by
  rw [List.take_succ_eq_append_getElem h]
  unfold jbAt
  rw [List.getD_eq_getElem?_getD, List.getElem?_eq_getElem h]
  rfl
theorem allQ_step {z : Int} {qs qk : List Sq} {js : List Jb} {k : Nat} (h : k < js.length) (hk : allQ z qs (js.take k) = some qk) (hc : canJ z qk (jbAt js k) = true) : allQ z qs (js.take (k + 1)) = some (doJ z qk (jbAt js k)) := by
  rw [jb_take h, allQ_append, hk]
  show (if canJ z qk (jbAt js k) then some (doJ z qk (jbAt js k)) else none) = _
  rw [hc]; rfl
theorem allQ_fall {z : Int} {qs qk : List Sq} {js : List Jb} {k : Nat} (h : k < js.length) (hk : allQ z qs (js.take k) = some qk) (hc : canJ z qk (jbAt js k) = false) : allQ z qs js = none := by
  have e : allQ z qs (js.take (k + 1)) = none := by
    rw [jb_take h, allQ_append, hk]
    show (if canJ z qk (jbAt js k) then some (doJ z qk (jbAt js k)) else none) = _
    rw [hc]; rfl
  rw [← List.take_append_drop (k + 1) js, allQ_append, e]; rfl
theorem allQ_ok {z : Int} {js : List Jb} : ∀ {qs q : List Sq}, chipOk z qs = true → allQ z qs js = some q → chipOk z q = true := by
  induction js with
  | nil => intro qs q h e; simp only [allQ, Option.some.injEq] at e; subst e; exact h
  | cons j js ih =>
    intro qs q h e
    unfold allQ at e
    split at e
    · exact ih (doJ_ok h) e
    · cases e
def allB (z : Int) (qs : List Sq) (js : List Jb) : Bool := chipOk z qs && (allQ z qs js).isSome
def allZ (z : Int) (qs : List Sq) (js : List Jb) : Int := if allB z qs js then z else 0
def allS (z : Int) (qs : List Sq) (js : List Jb) : List Sq := if chipOk z qs then (allQ z qs js).getD [] else []

end Go.Proofs.YtoocbagnfkgbfaaGreatDoor
