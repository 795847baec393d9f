/- Several texts in one: FtlOwnP, FtlLaw, FtlVar. -/
import Derived.Test.YtocinobbocjikaaNFtlKeep
import Derived.Test.YtocinobbocjikaaNChipAns
import Derived.Test.YtocinobbocjikaaNBase
section
namespace Go.Proofs.Ytocinobbocjikaa
open Go.RowKit
set_option linter.unusedVariables false

theorem ftlOk_parts {z : Int} {qs : List Sq} {ps : List Pl} {op st : Int} (h : ftlOk z qs ps op st = true) : mapOk z qs ps = true ∧ -1 ≤ op ∧ op < (qs.length : Int) ∧ 0 ≤ st ∧ st ≤ 1000000 ∧ opOk qs op = true ∧ ∀ i, i < ps.length → fpOk z qs ps st i = true := by
  unfold ftlOk inB at h
  simp only [Bool.and_eq_true, decide_eq_true_eq] at h
  obtain ⟨h1, ⟨h2, h3⟩, ⟨h4, h5⟩, h6, h7⟩ := h
  exact ⟨h1, h2, by omega, h4, h5, h6, fun i hi => List.all_eq_true.1 h7 i (List.mem_range.2 hi)⟩
theorem kok_of {z : Int} {qs : List Sq} {ps : List Pl} {op st : Int} (h : ftlOk z qs ps op st = true) (js : List Jb) : KOk z ⟨qs, ps, op, js⟩ := by
  obtain ⟨h1, h2, h3, _, _, h6, _⟩ := ftlOk_parts h
  exact ⟨mapR_of h1, h2, h3, h6⟩
/-- What Plan and Enter tell. -/
def planR (z : Int) (qs : List Sq) (ps : List Pl) (op st kd a : Int) (tx : ByteArray) : Option Kp := if ftlOk z qs ps op st then enterK z ⟨qs, ps, op, []⟩ st kd a tx else none
def jobsOf (r : Option Kp) : List Jb := match r with | none => [] | some s => s.js
def entF (z : Int) (qs : List Sq) (ps : List Pl) (op st kd a : Int) (tx : ByteArray) : Fv :=
  if ftlOk z qs ps op st then (match enterK z ⟨qs, ps, op, []⟩ st kd a tx with | none => ⟨z, qs, ps, op, st⟩ | some s => ⟨z, s.qs, s.ps, s.op, st + 1⟩) else ⟨0, [], [], 0, 0⟩
/-- What is owned apart, told as an Ftl's own. -/
theorem own_of_parts {B n g gm cm : Nat} {w : World} {A : Nat → Option Addr} {C : Nat → Nat} {qs : List Sq} {ps : List Pl} (sq : GrowSqs B w n qs g A C) (pl : PlOwn B w (.slice (some ⟨gm, 0, none⟩) ps.length cm) ps) (ne : gm ≠ g) : FtlOwn B w.heap.size w (some ⟨g, 0, none⟩) (some ⟨gm, 0, none⟩) qs ps := by
  obtain ⟨cs, fz, hk⟩ := Go.Lib.ownsRow_kind pl gm rfl
  have hgm : gm < w.heap.size := (Array.getElem?_eq_some_iff.1 hk).1
  refine ⟨Nat.le_refl _, .inr ⟨g, 0, A, C, fun i => (oB (A i)).getD g, gm, ?_, ⟨rfl, by omega, fun h0 => ⟨gm, 0, rfl, Nat.le_refl _, Nat.lt_succ_self _, fun i hi => ⟨?_, by rw [Nat.zero_add]; exact World.ownsRow.frozenAt pl i⟩⟩⟩, (World.ownsRow.lt pl gm rfl).1, hgm, ne, fun i hi h0 e => ?_⟩⟩
  · have := sq.own
    rw [sq.len]
    exact this
  · rw [Nat.zero_add, World.ownsRow.cellAt pl i (by omega), plL_at ps (by omega)]
  · rw [sq.len] at hi
    have ho := sq.pages.own i hi
    rcases pg_form ho with ⟨_, e1, _⟩ | ⟨p, e1, _⟩
    · rw [e1] at h0; simp at h0
    · dsimp only at e
      rw [e1] at e
      have e2 : gm = p := e
      have := pg_ne ho hk (by decide)
      rw [e1, e2] at this
      exact this rfl
theorem own_of_kp {B n g gm cm : Nat} {w : World} {A : Nat → Option Addr} {C : Nat → Nat} {V : Value} {s : Kp} (h : KpMem B w n g gm cm A C V s) : FtlOwn B w.heap.size w (some ⟨g, 0, none⟩) (some ⟨gm, 0, none⟩) s.qs s.ps := own_of_parts h.sq h.pl h.ne
end Go.Proofs.Ytocinobbocjikaa
end

section
namespace Go.Proofs.Ytocinobbocjikaa
open Go.RowKit
set_option linter.unusedVariables false

/-- A copy, told as an Ftl's own. -/
theorem own_of_to {lo mid hi n m : Nat} {w : World} {a am : Option Addr} {qs : List Sq} {ps : List Pl} (h : OwnSquares lo mid w a n qs) (hp : OwnPlaces mid hi w am m ps) (h1 : lo ≤ mid) (h2 : mid ≤ hi) (h3 : hi < w.heap.size) : FtlOwn lo w.heap.size w a am qs ps := by
  obtain ⟨g, off, A, C, P, h⟩ := h
  have hn := h.len
  have hm := hp.1
  subst hn
  subst hm
  refine ⟨Nat.le_refl _, .inr ?_⟩
  by_cases h0 : 0 < ps.length
  · obtain ⟨b, o, e, k1, k2, k3⟩ := hp.2.2 (by omega)
    refine ⟨g, off, A, C, P, b, h.wide (Nat.le_refl _) (by omega) (Nat.le_refl _), ⟨rfl, by omega, fun _ => ⟨b, o, e, Nat.le_refl _, Nat.lt_succ_self _, k3⟩⟩, by omega, by omega, ?_, fun i hi _ => ?_⟩
    · have := h.atG.2; omega
    · have := (h.atP i hi).2; omega
  · refine ⟨g, off, A, C, P, hi, h.wide (Nat.le_refl _) (by omega) (Nat.le_refl _), ⟨rfl, by omega, fun h9 => absurd h9 (by omega)⟩, by omega, by omega, ?_, fun i hi' _ => ?_⟩
    · have := h.atG.2; omega
    · have := (h.atP i hi').2; omega
theorem planR_some {z : Int} {qs : List Sq} {ps : List Pl} {op st kd a : Int} {tx : ByteArray} {s : Kp} (h : planR z qs ps op st kd a tx = some s) : ftlOk z qs ps op st = true ∧ mayEnt ps st kd a tx = true ∧ ∃ s1, roomK z 20 ⟨qs, ps, op, []⟩ = some s1 ∧ putK z s1 a.toNat (laid kd a (st + 1) tx) = some s := by
  unfold planR at h
  cases hf : ftlOk z qs ps op st with
  | false => rw [hf] at h; cases h
  | true =>
    rw [hf, if_pos rfl] at h
    cases hm : mayEnt ps st kd a tx with
    | false => rw [enterK_no (s := ⟨qs, ps, op, []⟩) hm] at h; cases h
    | true =>
      rw [enterK_yes (s := ⟨qs, ps, op, []⟩) hm] at h
      cases hr : roomK z 20 ⟨qs, ps, op, []⟩ with
      | none => rw [hr] at h; cases h
      | some s1 => rw [hr] at h; exact ⟨rfl, rfl, s1, rfl, h⟩
theorem putK_js {z : Int} {s s' : Kp} {i : Nat} {tx : ByteArray} (h : putK z s i tx = some s') : s'.js.length = s.js.length + 1 := by
  unfold putK doK at h
  split at h
  · simp only [Option.map_some, Option.some.injEq] at h
    rw [← h]; simp
  · cases h
theorem jobsOf_len (z : Int) (qs : List Sq) (ps : List Pl) (op st kd a : Int) (tx : ByteArray) : (jobsOf (planR z qs ps op st kd a tx)).length ≤ 20000 := by
  cases h : planR z qs ps op st kd a tx with
  | none => simp [jobsOf]
  | some s =>
    obtain ⟨hf, _, s1, h1, h2⟩ := planR_some h
    have k1 := roomK_len (kok_of hf []) h1
    have k2 := putK_js h2
    simp only [jobsOf]
    simp at k1
    omega
theorem planR_ok {z : Int} {qs : List Sq} {ps : List Pl} {op st kd a : Int} {tx : ByteArray} {s : Kp} (h : planR z qs ps op st kd a tx = some s) : KOk z s ∧ s.qs.length = qs.length ∧ s.ps.length = ps.length := by
  obtain ⟨hf, hm, s1, h1, h2⟩ := planR_some h
  have hS := (roomK_ok (kok_of hf []) h1).1
  have ha : a.toNat < s1.ps.length := by
    rw [hS.places]
    unfold mayEnt inB at hm
    simp only [Bool.and_eq_true, decide_eq_true_eq] at hm
    show a.toNat < ps.length
    omega
  have k := putK_ok hS.ok ha h2
  exact ⟨k.1, k.2.2.1.trans hS.squares, k.2.2.2.1.trans hS.places⟩
theorem entF_fit (z : Int) (qs : List Sq) (ps : List Pl) (op st kd a : Int) (tx : ByteArray) : (entF z qs ps op st kd a tx).qs.length + weight (entF z qs ps op st kd a tx).qs ≤ 1048576 ∧ (entF z qs ps op st kd a tx).ps.length ≤ 64 := by
  unfold entF
  cases hf : ftlOk z qs ps op st with
  | false => simp [weight]
  | true =>
    rw [if_pos rfl]
    cases he : enterK z ⟨qs, ps, op, []⟩ st kd a tx with
    | none => exact ⟨chipOk_fit (kok_of hf []).map.chip, (kok_of hf []).map.few⟩
    | some s =>
      have k := (planR_ok (show planR z qs ps op st kd a tx = some s by unfold planR; rw [hf, if_pos rfl]; exact he)).1
      exact ⟨chipOk_fit k.map.chip, k.map.few⟩
end Go.Proofs.Ytocinobbocjikaa
end

section
namespace Go.Proofs.Ytocinobbocjikaa
open Go.RowKit
set_option linter.unusedVariables false

/-- A variable's zero Ftl. -/
abbrev zF : Obj := .cells #[.int .i64 0, .slice none 0 0, .slice none 0 0, .int .i64 0, .int .i64 0] 42
/-- An Ftl in a variable: it lies in block b, what it owns in blocks from lo to below hi, all made behind s. -/
structure VarF (s b lo hi : Nat) (z : Int) (qs : List Sq) (ps : List Pl) (op st : Int) (a : Option Addr) (c : Nat) (am : Option Addr) (cm : Nat) (w : World) : Prop where
  var : w.heap[b]? = some (.cells #[.int .i64 z, .slice a qs.length c, .slice am ps.length cm, .int .i64 op, .int .i64 st] 42)
  own : FtlOwn lo hi w a am qs ps
  apart : b < lo ∨ hi ≤ b
  atB : s ≤ b
  atL : s ≤ lo
section
variable {s b lo hi c cm : Nat} {z op st : Int} {qs : List Sq} {ps : List Pl} {a am : Option Addr} {w w' : World}
theorem VarF.lt (h : VarF s b lo hi z qs ps op st a c am cm w) : b < w.heap.size := (Array.getElem?_eq_some_iff.1 h.var).1
theorem VarF.on (h : VarF s b lo hi z qs ps op st a c am cm w) (hb : Below w.heap.size w w') : VarF s b lo hi z qs ps op st a c am cm w' := ⟨block_on h.var hb, h.own.later hb h.own.1, h.apart, h.atB, h.atL⟩
theorem VarF.aside (h : VarF s b lo hi z qs ps op st a c am cm w) {l r : Nat} (hb : Aside l r w w') (h1 : b < l ∨ r ≤ b) (h2 : r ≤ lo ∨ hi ≤ l) : VarF s b lo hi z qs ps op st a c am cm w' :=
  ⟨(hb.block b h.lt h1).trans h.var, h.own.aside hb h2, h.apart, h.atB, h.atL⟩
theorem VarF.cells (h : VarF s b lo hi z qs ps op st a c am cm w) : w.cell? ⟨b, 0, none⟩ = some (.int .i64 z) ∧ w.cell? ⟨b, 1, none⟩ = some (.slice a qs.length c) ∧ w.cell? ⟨b, 2, none⟩ = some (.slice am ps.length cm) ∧ w.cell? ⟨b, 3, none⟩ = some (.int .i64 op) ∧ w.cell? ⟨b, 4, none⟩ = some (.int .i64 st) := five_cells h.var
theorem VarF.squares (h : VarF s b lo hi z qs ps op st a c am cm w) : Squares lo hi w a qs.length qs := h.own.squares
theorem VarF.places (h : VarF s b lo hi z qs ps op st a c am cm w) : Places lo hi w am ps.length ps := h.own.places
theorem VarF.hi_le (h : VarF s b lo hi z qs ps op st a c am cm w) : hi ≤ w.heap.size := h.own.1
/-- An Ftl that was answered in w1 and laid into a variable that had been made before. -/
theorem varF_store {w1 : World} (hv : w'.heap[b]? = some zF) (hq : FtlOwn w1.heap.size w'.heap.size w' a am qs ps) (hs : s ≤ b) (hb : b < w1.heap.size) (hl : s ≤ w1.heap.size) :
    VarF s b w1.heap.size w'.heap.size z qs ps op st a c am cm (((((w'.setCell ⟨b, 0, none⟩ (.int .i64 z)).setCell ⟨b, 1, none⟩ (.slice a qs.length c)).setCell ⟨b, 2, none⟩ (.slice am ps.length cm)).setCell ⟨b, 3, none⟩ (.int .i64 op)).setCell ⟨b, 4, none⟩ (.int .i64 st)) :=
  ⟨five_set hv _ _ _ _ _, hq.aside (five_aside (b := b) (Aside.refl b (b + 1) w') (Nat.le_refl _) (Nat.lt_succ_self _) _ _ _ _ _) (.inl (by omega)), .inl hb, hs, hl⟩
theorem varF_new {w1 : World} (hq : FtlOwn w1.heap.size w'.heap.size w' a am qs ps) (hs : s ≤ w1.heap.size) (h1 : w1.heap.size ≤ w'.heap.size) :
    VarF s w'.heap.size w1.heap.size w'.heap.size z qs ps op st a c am cm (w'.alloc (.cells #[.int .i64 z, .slice a qs.length c, .slice am ps.length cm, .int .i64 op, .int .i64 st] 42)) :=
  ⟨heap_new _ _, hq.later ((Below.refl w'.heap.size w').alloc (Nat.le_refl _) _) (Nat.le_refl _), .inr (Nat.le_refl _), Nat.le_trans hs h1, hs⟩
end
theorem squares_wide {lo hi lo' hi' n : Nat} {w : World} {a : Option Addr} {qs : List Sq} (h : Squares lo hi w a n qs) (h1 : lo' ≤ lo) (h2 : hi ≤ hi') (h3 : hi' ≤ w.heap.size) : Squares lo' hi' w a n qs := by
  obtain ⟨h4, A, C, h5, h6⟩ := h
  exact ⟨h4, A, C, reads_wide h5 h1 h2 h3, fun i hi => ⟨(h6 i hi).1, reads_wide (h6 i hi).2 h1 h2 h3⟩⟩
theorem places_wide {lo hi lo' hi' n : Nat} {w : World} {a : Option Addr} {ps : List Pl} (h : Places lo hi w a n ps) (h1 : lo' ≤ lo) (h2 : hi ≤ hi') (h3 : hi' ≤ w.heap.size) : Places lo' hi' w a n ps := ⟨h.1, reads_wide h.2 h1 h2 h3⟩
theorem set1_below {B b : Nat} {w w' : World} (h : Below B w w') (hb : B ≤ b) (v0 : Value) : Below B w (w'.setCell ⟨b, 0, none⟩ v0) := h.setCell (p := ⟨b, 0, none⟩) hb v0
theorem set2_below {B b : Nat} {w w' : World} (h : Below B w w') (hb : B ≤ b) (v0 v1 : Value) : Below B w ((w'.setCell ⟨b, 0, none⟩ v0).setCell ⟨b, 1, none⟩ v1) := (set1_below h hb v0).setCell (p := ⟨b, 1, none⟩) hb v1
theorem set3_below {B b : Nat} {w w' : World} (h : Below B w w') (hb : B ≤ b) (v0 v1 v2 : Value) : Below B w (((w'.setCell ⟨b, 0, none⟩ v0).setCell ⟨b, 1, none⟩ v1).setCell ⟨b, 2, none⟩ v2) := (set2_below h hb v0 v1).setCell (p := ⟨b, 2, none⟩) hb v2
theorem set4_below {B b : Nat} {w w' : World} (h : Below B w w') (hb : B ≤ b) (v0 v1 v2 v3 : Value) : Below B w ((((w'.setCell ⟨b, 0, none⟩ v0).setCell ⟨b, 1, none⟩ v1).setCell ⟨b, 2, none⟩ v2).setCell ⟨b, 3, none⟩ v3) := (set3_below h hb v0 v1 v2).setCell (p := ⟨b, 3, none⟩) hb v3
theorem set5_below {B b : Nat} {w w' : World} (h : Below B w w') (hb : B ≤ b) (v0 v1 v2 v3 v4 : Value) : Below B w (((((w'.setCell ⟨b, 0, none⟩ v0).setCell ⟨b, 1, none⟩ v1).setCell ⟨b, 2, none⟩ v2).setCell ⟨b, 3, none⟩ v3).setCell ⟨b, 4, none⟩ v4) := (set4_below h hb v0 v1 v2 v3).setCell (p := ⟨b, 4, none⟩) hb v4
end Go.Proofs.Ytocinobbocjikaa
end

