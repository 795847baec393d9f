/- Several texts in one: FtlOwnP, FtlLaw, FtlVar, LawBox. -/
import Derived.Test.YtoocbagnfkgbfaaGreatDoorBFtlMath
import Derived.Test.YtoocbagnfkgbfaaGreatDoorBChipAns
import Derived.Test.YtoocbagnfkgbfaaGreatDoorBBase
section
namespace Go.Proofs.YtoocbagnfkgbfaaGreatDoor
open Go.RowKit
set_option linter.unusedVariables false

theorem ftlOk_parts {z : Int} {qs : List Sq} {ps : List Pl} {op st : Int} (h : ftlOk z qs ps op st = true) : mapOk z qs ps = true ∧ -1 ≤ op ∧ op < (qs.length : Int) ∧ 0 ≤ st ∧ st ≤ 1000000 ∧ opOk qs op = true ∧ ∀ i, i < ps.length → fpOk z qs ps st i = true := by
  unfold ftlOk inB at h
  simp only [Bool.and_eq_true, decide_eq_true_eq] at h
  obtain ⟨h1, ⟨h2, h3⟩, ⟨h4, h5⟩, h6, h7⟩ := h
  exact ⟨h1, h2, by omega, h4, h5, h6, fun i hi => List.all_eq_true.1 h7 i (List.mem_range.2 hi)⟩
theorem kok_of {z : Int} {qs : List Sq} {ps : List Pl} {op st : Int} (h : ftlOk z qs ps op st = true) (js : List Jb) : KOk z ⟨qs, ps, op, js⟩ := by
  obtain ⟨h1, h2, h3, _, _, h6, _⟩ := ftlOk_parts h
  exact ⟨mapR_of h1, h2, h3, h6⟩
/-- What Plan and Enter tell. -/
def planR (z : Int) (qs : List Sq) (ps : List Pl) (op st kd a : Int) (tx : ByteArray) : Option Kp := if ftlOk z qs ps op st then enterK z ⟨qs, ps, op, []⟩ st kd a tx else none
def jobsOf (r : Option Kp) : List Jb := match r with | none => [] | some s => s.js
end Go.Proofs.YtoocbagnfkgbfaaGreatDoor
end

section
namespace Go.Proofs.YtoocbagnfkgbfaaGreatDoor
open Go.RowKit
set_option linter.unusedVariables false

/-- The boxes of an Ftl and of a Page that came in. -/
structure BoxFP (w : World) (z : Int) (a : Option Addr) (n cap : Nat) (am : Option Addr) (m cm : Nat) (op st kd at_ sp : Int) (tx : ByteArray) (w' : World) : Prop where
  ftl : w'.heap[w.heap.size]? = some (.cells #[.int .i64 z, .slice a n cap, .slice am m cm, .int .i64 op, .int .i64 st] 72)
  page : w'.heap[w.heap.size + 1]? = some (.cells #[.int .i64 kd, .int .i64 at_, .int .i64 sp, .string tx] 81)
  below : Below w.heap.size w w'
section
variable {w : World} {z : Int} {a : Option Addr} {n cap : Nat} {am : Option Addr} {m cm : Nat} {op st kd at_ sp : Int} {tx : ByteArray} {w1 w2 : World}
theorem BoxFP.on (h : BoxFP w z a n cap am m cm op st kd at_ sp tx w1) (hb : Below w1.heap.size w1 w2) : BoxFP w z a n cap am m cm op st kd at_ sp tx w2 := ⟨block_on h.ftl hb, block_on h.page hb, below_here h.below hb⟩
theorem BoxFP.size (h : BoxFP w z a n cap am m cm op st kd at_ sp tx w1) : w.heap.size + 2 ≤ w1.heap.size := by
  have := (Array.getElem?_eq_some_iff.1 h.page).1; omega
theorem BoxFP.aside (h : BoxFP w z a n cap am m cm op st kd at_ sp tx w1) {l r : Nat} (hb : Aside l r w1 w2) (hl : w.heap.size + 2 ≤ l) : BoxFP w z a n cap am m cm op st kd at_ sp tx w2 :=
  ⟨(hb.block _ (by have := h.size; omega) (.inl (by omega))).trans h.ftl, (hb.block _ (by have := h.size; omega) (.inl (by omega))).trans h.page, h.below.trans (hb.below (by omega) (by have := h.size; omega))⟩
theorem BoxFP.cells (h : BoxFP w z a n cap am m cm op st kd at_ sp tx w1) :
    w1.cell? ⟨w.heap.size, 0, none⟩ = some (.int .i64 z) ∧ w1.cell? ⟨w.heap.size, 1, none⟩ = some (.slice a n cap) ∧ w1.cell? ⟨w.heap.size, 2, none⟩ = some (.slice am m cm) ∧ w1.cell? ⟨w.heap.size, 3, none⟩ = some (.int .i64 op) ∧ w1.cell? ⟨w.heap.size, 4, none⟩ = some (.int .i64 st) ∧ w1.cell? ⟨w.heap.size + 1, 0, none⟩ = some (.int .i64 kd) ∧ w1.cell? ⟨w.heap.size + 1, 1, none⟩ = some (.int .i64 at_) ∧ w1.cell? ⟨w.heap.size + 1, 2, none⟩ = some (.int .i64 sp) ∧ w1.cell? ⟨w.heap.size + 1, 3, none⟩ = some (.string tx) := by
  obtain ⟨h0, h1, h2, h3, h4⟩ := five_cells h.ftl
  exact ⟨h0, h1, h2, h3, h4, four_cells h.page⟩
end
/-- A copy, told as an Ftl's own. -/
theorem own_of_to {lo mid hi n m : Nat} {w : World} {a am : Option Addr} {qs : List Sq} {ps : List Pl} (h : OwnSquares lo mid w a n qs) (hp : OwnPlaces mid hi w am m ps) (h1 : lo ≤ mid) (h2 : mid ≤ hi) (h3 : hi < w.heap.size) : FtlOwn lo w.heap.size w a am qs ps := by
  obtain ⟨g, off, A, C, P, h⟩ := h
  have hn := h.len
  have hm := hp.1
  subst hn
  subst hm
  refine ⟨Nat.le_refl _, .inr ?_⟩
  by_cases h0 : 0 < ps.length
  · obtain ⟨b, o, e, k1, k2, k3⟩ := hp.2.2 (by omega)
    refine ⟨g, off, A, C, P, b, h.wide (Nat.le_refl _) (by omega) (Nat.le_refl _), ⟨rfl, by omega, fun _ => ⟨b, o, e, Nat.le_refl _, Nat.lt_succ_self _, k3⟩⟩, by omega, by omega, ?_, fun i hi _ => ?_⟩
    · have := h.atG.2; omega
    · have := (h.atP i hi).2; omega
  · refine ⟨g, off, A, C, P, hi, h.wide (Nat.le_refl _) (by omega) (Nat.le_refl _), ⟨rfl, by omega, fun h9 => absurd h9 (by omega)⟩, by omega, by omega, ?_, fun i hi' _ => ?_⟩
    · have := h.atG.2; omega
    · have := (h.atP i hi').2; omega
theorem planR_some {z : Int} {qs : List Sq} {ps : List Pl} {op st kd a : Int} {tx : ByteArray} {s : Kp} (h : planR z qs ps op st kd a tx = some s) : ftlOk z qs ps op st = true ∧ mayEnt ps st kd a tx = true ∧ ∃ s1, roomK z 20 ⟨qs, ps, op, []⟩ = some s1 ∧ putK z s1 a.toNat (laid kd a (st + 1) tx) = some s := by
  unfold planR at h
  cases hf : ftlOk z qs ps op st with
  | false => rw [hf] at h; cases h
  | true =>
    rw [hf, if_pos rfl] at h
    cases hm : mayEnt ps st kd a tx with
    | false => rw [enterK_no (s := ⟨qs, ps, op, []⟩) hm] at h; cases h
    | true =>
      rw [enterK_yes (s := ⟨qs, ps, op, []⟩) hm] at h
      cases hr : roomK z 20 ⟨qs, ps, op, []⟩ with
      | none => rw [hr] at h; cases h
      | some s1 => rw [hr] at h; exact ⟨rfl, rfl, s1, rfl, h⟩
theorem putK_js {z : Int} {s s' : Kp} {i : Nat} {tx : ByteArray} (h : putK z s i tx = some s') : s'.js.length = s.js.length + 1 := by
  unfold putK doK at h
  split at h
  · simp only [Option.map_some, Option.some.injEq] at h
    rw [← h]; simp
  · cases h
theorem jobsOf_len (z : Int) (qs : List Sq) (ps : List Pl) (op st kd a : Int) (tx : ByteArray) : (jobsOf (planR z qs ps op st kd a tx)).length ≤ 20000 := by
  cases h : planR z qs ps op st kd a tx with
  | none => simp [jobsOf]
  | some s =>
    obtain ⟨hf, _, s1, h1, h2⟩ := planR_some h
    have k1 := roomK_len (kok_of hf []) h1
    have k2 := putK_js h2
    simp only [jobsOf]
    simp at k1
    omega
end Go.Proofs.YtoocbagnfkgbfaaGreatDoor
end

section
namespace Go.Proofs.YtoocbagnfkgbfaaGreatDoor
open Go.RowKit
set_option linter.unusedVariables false

/-- An Ftl in a variable: it lies in block b, what it owns in blocks from lo to below hi, all made behind s. -/
structure VarF (s b lo hi : Nat) (z : Int) (qs : List Sq) (ps : List Pl) (op st : Int) (a : Option Addr) (c : Nat) (am : Option Addr) (cm : Nat) (w : World) : Prop where
  var : w.heap[b]? = some (.cells #[.int .i64 z, .slice a qs.length c, .slice am ps.length cm, .int .i64 op, .int .i64 st] 29)
  own : FtlOwn lo hi w a am qs ps
  apart : b < lo ∨ hi ≤ b
  atB : s ≤ b
  atL : s ≤ lo
section
variable {s b lo hi c cm : Nat} {z op st : Int} {qs : List Sq} {ps : List Pl} {a am : Option Addr} {w w' : World}
theorem VarF.lt (h : VarF s b lo hi z qs ps op st a c am cm w) : b < w.heap.size := (Array.getElem?_eq_some_iff.1 h.var).1
theorem VarF.on (h : VarF s b lo hi z qs ps op st a c am cm w) (hb : Below w.heap.size w w') : VarF s b lo hi z qs ps op st a c am cm w' := ⟨block_on h.var hb, h.own.later hb h.own.1, h.apart, h.atB, h.atL⟩
theorem VarF.aside (h : VarF s b lo hi z qs ps op st a c am cm w) {l r : Nat} (hb : Aside l r w w') (h1 : b < l ∨ r ≤ b) (h2 : r ≤ lo ∨ hi ≤ l) : VarF s b lo hi z qs ps op st a c am cm w' :=
  ⟨(hb.block b h.lt h1).trans h.var, h.own.aside hb h2, h.apart, h.atB, h.atL⟩
theorem VarF.cells (h : VarF s b lo hi z qs ps op st a c am cm w) : w.cell? ⟨b, 0, none⟩ = some (.int .i64 z) ∧ w.cell? ⟨b, 1, none⟩ = some (.slice a qs.length c) ∧ w.cell? ⟨b, 2, none⟩ = some (.slice am ps.length cm) ∧ w.cell? ⟨b, 3, none⟩ = some (.int .i64 op) ∧ w.cell? ⟨b, 4, none⟩ = some (.int .i64 st) := five_cells h.var
theorem VarF.squares (h : VarF s b lo hi z qs ps op st a c am cm w) : Squares lo hi w a qs.length qs := h.own.squares
theorem VarF.places (h : VarF s b lo hi z qs ps op st a c am cm w) : Places lo hi w am ps.length ps := h.own.places
theorem VarF.hi_le (h : VarF s b lo hi z qs ps op st a c am cm w) : hi ≤ w.heap.size := h.own.1
end
theorem squares_wide {lo hi lo' hi' n : Nat} {w : World} {a : Option Addr} {qs : List Sq} (h : Squares lo hi w a n qs) (h1 : lo' ≤ lo) (h2 : hi ≤ hi') (h3 : hi' ≤ w.heap.size) : Squares lo' hi' w a n qs := by
  obtain ⟨h4, A, C, h5, h6⟩ := h
  exact ⟨h4, A, C, reads_wide h5 h1 h2 h3, fun i hi => ⟨(h6 i hi).1, reads_wide (h6 i hi).2 h1 h2 h3⟩⟩
theorem places_wide {lo hi lo' hi' n : Nat} {w : World} {a : Option Addr} {ps : List Pl} (h : Places lo hi w a n ps) (h1 : lo' ≤ lo) (h2 : hi ≤ hi') (h3 : hi' ≤ w.heap.size) : Places lo' hi' w a n ps := ⟨h.1, reads_wide h.2 h1 h2 h3⟩
theorem set1_below {B b : Nat} {w w' : World} (h : Below B w w') (hb : B ≤ b) (v0 : Value) : Below B w (w'.setCell ⟨b, 0, none⟩ v0) := h.setCell (p := ⟨b, 0, none⟩) hb v0
end Go.Proofs.YtoocbagnfkgbfaaGreatDoor
end

section
namespace Go.Proofs.YtoocbagnfkgbfaaGreatDoor
open Go.RowKit
set_option linter.unusedVariables false

/-- The box of an Ftl that came in. -/
structure BoxF (w : World) (z : Int) (a : Option Addr) (n cap : Nat) (am : Option Addr) (m cm : Nat) (op st : Int) (w' : World) : Prop where
  ftl : w'.heap[w.heap.size]? = some (.cells #[.int .i64 z, .slice a n cap, .slice am m cm, .int .i64 op, .int .i64 st] 72)
  below : Below w.heap.size w w'
section
variable {w : World} {z : Int} {a : Option Addr} {n cap : Nat} {am : Option Addr} {m cm : Nat} {op st : Int} {w1 w2 : World}
theorem BoxF.on (h : BoxF w z a n cap am m cm op st w1) (hb : Below w1.heap.size w1 w2) : BoxF w z a n cap am m cm op st w2 := ⟨block_on h.ftl hb, below_here h.below hb⟩
theorem BoxF.size (h : BoxF w z a n cap am m cm op st w1) : w.heap.size + 1 ≤ w1.heap.size := (Array.getElem?_eq_some_iff.1 h.ftl).1
theorem BoxF.aside (h : BoxF w z a n cap am m cm op st w1) {l r : Nat} (hb : Aside l r w1 w2) (hl : w.heap.size + 1 ≤ l) : BoxF w z a n cap am m cm op st w2 :=
  ⟨(hb.block _ h.size (.inl (by omega))).trans h.ftl, h.below.trans (hb.below (by omega) (by have := h.size; omega))⟩
theorem BoxF.cells (h : BoxF w z a n cap am m cm op st w1) :
    w1.cell? ⟨w.heap.size, 0, none⟩ = some (.int .i64 z) ∧ w1.cell? ⟨w.heap.size, 1, none⟩ = some (.slice a n cap) ∧ w1.cell? ⟨w.heap.size, 2, none⟩ = some (.slice am m cm) ∧ w1.cell? ⟨w.heap.size, 3, none⟩ = some (.int .i64 op) ∧ w1.cell? ⟨w.heap.size, 4, none⟩ = some (.int .i64 st) := five_cells h.ftl
end
/-- The box of a Chip that came in. -/
structure BoxC (w : World) (z : Int) (a : Option Addr) (n cap : Nat) (w' : World) : Prop where
  chip : w'.heap[w.heap.size]? = some (.cells #[.int .i64 z, .slice a n cap] 69)
  below : Below w.heap.size w w'
section
variable {w : World} {z : Int} {a : Option Addr} {n cap : Nat} {w1 w2 : World}
theorem BoxC.on (h : BoxC w z a n cap w1) (hb : Below w1.heap.size w1 w2) : BoxC w z a n cap w2 := ⟨block_on h.chip hb, below_here h.below hb⟩
theorem BoxC.size (h : BoxC w z a n cap w1) : w.heap.size + 1 ≤ w1.heap.size := (Array.getElem?_eq_some_iff.1 h.chip).1
theorem BoxC.aside (h : BoxC w z a n cap w1) {l r : Nat} (hb : Aside l r w1 w2) (hl : w.heap.size + 1 ≤ l) : BoxC w z a n cap w2 :=
  ⟨(hb.block _ h.size (.inl (by omega))).trans h.chip, h.below.trans (hb.below (by omega) (by have := h.size; omega))⟩
theorem BoxC.cells (h : BoxC w z a n cap w1) : w1.cell? ⟨w.heap.size, 0, none⟩ = some (.int .i64 z) ∧ w1.cell? ⟨w.heap.size, 1, none⟩ = some (.slice a n cap) := two_cells h.chip
end
/-- The boxes of two Ftls that came in. -/
structure BoxFF (w : World) (z : Int) (a : Option Addr) (n cap : Nat) (am : Option Addr) (m cm : Nat) (op st : Int) (z' : Int) (a' : Option Addr) (n' cap' : Nat) (am' : Option Addr) (m' cm' : Nat) (op' st' : Int) (w' : World) : Prop where
  one : w'.heap[w.heap.size]? = some (.cells #[.int .i64 z, .slice a n cap, .slice am m cm, .int .i64 op, .int .i64 st] 72)
  two : w'.heap[w.heap.size + 1]? = some (.cells #[.int .i64 z', .slice a' n' cap', .slice am' m' cm', .int .i64 op', .int .i64 st'] 72)
  below : Below w.heap.size w w'
section
variable {w : World} {z : Int} {a : Option Addr} {n cap : Nat} {am : Option Addr} {m cm : Nat} {op st : Int} {z' : Int} {a' : Option Addr} {n' cap' : Nat} {am' : Option Addr} {m' cm' : Nat} {op' st' : Int} {w1 w2 : World}
theorem BoxFF.on (h : BoxFF w z a n cap am m cm op st z' a' n' cap' am' m' cm' op' st' w1) (hb : Below w1.heap.size w1 w2) : BoxFF w z a n cap am m cm op st z' a' n' cap' am' m' cm' op' st' w2 := ⟨block_on h.one hb, block_on h.two hb, below_here h.below hb⟩
theorem BoxFF.size (h : BoxFF w z a n cap am m cm op st z' a' n' cap' am' m' cm' op' st' w1) : w.heap.size + 2 ≤ w1.heap.size := (Array.getElem?_eq_some_iff.1 h.two).1
theorem BoxFF.cells (h : BoxFF w z a n cap am m cm op st z' a' n' cap' am' m' cm' op' st' w1) :
    (w1.cell? ⟨w.heap.size, 0, none⟩ = some (.int .i64 z) ∧ w1.cell? ⟨w.heap.size, 1, none⟩ = some (.slice a n cap) ∧ w1.cell? ⟨w.heap.size, 2, none⟩ = some (.slice am m cm) ∧ w1.cell? ⟨w.heap.size, 3, none⟩ = some (.int .i64 op) ∧ w1.cell? ⟨w.heap.size, 4, none⟩ = some (.int .i64 st)) ∧
    (w1.cell? ⟨w.heap.size + 1, 0, none⟩ = some (.int .i64 z') ∧ w1.cell? ⟨w.heap.size + 1, 1, none⟩ = some (.slice a' n' cap') ∧ w1.cell? ⟨w.heap.size + 1, 2, none⟩ = some (.slice am' m' cm') ∧ w1.cell? ⟨w.heap.size + 1, 3, none⟩ = some (.int .i64 op') ∧ w1.cell? ⟨w.heap.size + 1, 4, none⟩ = some (.int .i64 st')) := ⟨five_cells h.one, five_cells h.two⟩
end
end Go.Proofs.YtoocbagnfkgbfaaGreatDoor
end

