/- Several texts in one: FtlOwnP, FtlLaw, FtlEnt, CacheMath, CacheWalk, FtlVar, LawBox, CacheLaw, HeldOwn, CacheCopyS, HeldImpl, HeldImpl2, CacheSpecA, CacheItem, HeldImpl3. -/
import Derived.Test.YtkbhcdkfjniafaaGreatDoorFFtlMath
import Derived.Test.YtkbhcdkfjniafaaGreatDoorFChipAns
import Derived.Test.YtkbhcdkfjniafaaGreatDoorFBase
import Derived.Test.YtkbhcdkfjniafaaGreatDoorFPageMath
import Derived.Test.YtkbhcdkfjniafaaGreatDoorFChipOwn2
import Derived.Test.YtkbhcdkfjniafaaGreatDoorFChipGrow
import Derived.Deep.RegionHeld3
import Derived.Deep.RegionLaw
import Derived.Test.YtkbhcdkfjniafaaGreatDoorFCopyBase
import Derived.Test.YtkbhcdkfjniafaaGreatDoorFAppendZ
import Derived.Test.YtkbhcdkfjniafaaGreatDoorFCloneW
import Derived.Deep.RegionWith
import Derived.Deep.DeepCutAuto
import Derived.BigRegion
section
namespace Go.Proofs.YtkbhcdkfjniafaaGreatDoor
open Go.RowKit
set_option linter.unusedVariables false
theorem ftlOk_parts {z : Int} {qs : List Sq} {ps : List Pl} {op st : Int} (h : ftlOk z qs ps op st = true) : mapOk z qs ps = true ∧ -1 <= op ∧ op < (qs.length : Int) ∧ 0 <= st ∧ st <= 1000000 ∧ opOk qs op = true ∧ ∀ i, i < ps.length -> fpOk z qs ps st i = true := by
 unfold ftlOk inB at h
 simp only [Bool.and_eq_true, decide_eq_true_eq] at h
 obtain ⟨h1, ⟨h2, h3⟩, ⟨h4, h5⟩, h6, h7⟩ := h
 exact ⟨h1, h2, by omega, h4, h5, h6, fun i hi => List.all_eq_true.1 h7 i (List.mem_range.2 hi)⟩
theorem kok_of {z : Int} {qs : List Sq} {ps : List Pl} {op st : Int} (h : ftlOk z qs ps op st = true) (js : List Jb) : KOk z ⟨qs, ps, op, js⟩ := by
 obtain ⟨h1, h2, h3, _, _, h6, _⟩ := ftlOk_parts h
 exact ⟨mapR_of h1, h2, h3, h6⟩
def planR (z : Int) (qs : List Sq) (ps : List Pl) (op st kd a : Int) (tx : ByteArray) : Option Kp := if ftlOk z qs ps op st then enterK z ⟨qs, ps, op, []⟩ st kd a tx else none
def entF (z : Int) (qs : List Sq) (ps : List Pl) (op st kd a : Int) (tx : ByteArray) : Fv :=
 if ftlOk z qs ps op st then (match enterK z ⟨qs, ps, op, []⟩ st kd a tx with | none => ⟨z, qs, ps, op, st⟩ | some s => ⟨z, s.qs, s.ps, s.op, st + 1⟩) else ⟨0, [], [], 0, 0⟩
theorem own_of_parts {B n g gm cm : Nat} {w : World} {A : Nat -> Option Addr} {C : Nat -> Nat} {qs : List Sq} {ps : List Pl} (sq : GrowSqs B w n qs g A C) (pl : PlOwn B w (.slice (some ⟨gm, 0, none⟩) ps.length cm) ps) (ne : gm ≠ g) : FtlOwn B w.heap.size w (some ⟨g, 0, none⟩) (some ⟨gm, 0, none⟩) qs ps := by
 obtain ⟨cs, fz, hk⟩ := Go.Lib.ownsRow_kind pl gm rfl
 have hgm : gm < w.heap.size := (Array.getElem?_eq_some_iff.1 hk).1
 refine ⟨Nat.le_refl _, .inr ⟨g, 0, A, C, fun i => (oB (A i)).getD g, gm, ?_, ⟨rfl, by omega, fun h0 => ⟨gm, 0, rfl, Nat.le_refl _, Nat.lt_succ_self _, fun i hi => ⟨?_, by rw [Nat.zero_add]; exact World.ownsRow.frozenAt pl i⟩⟩⟩, (World.ownsRow.lt pl gm rfl).1, hgm, ne, fun i hi h0 e => ?_⟩⟩
 ·have := sq.own
  rw [sq.len]
  exact this
 ·rw [Nat.zero_add, World.ownsRow.cellAt pl i (by omega), plL_at ps (by omega)]
 ·rw [sq.len] at hi
  have ho := sq.pages.own i hi
  rcases pg_form ho with ⟨_, e1, _⟩ | ⟨p, e1, _⟩
  ·rw [e1] at h0; simp at h0
  ·dsimp only at e
   rw [e1] at e
   have e2 : gm = p := e
   have := pg_ne ho hk (by decide)
   rw [e1, e2] at this
   exact this rfl
theorem own_of_kp {B n g gm cm : Nat} {w : World} {A : Nat -> Option Addr} {C : Nat -> Nat} {V : Value} {s : Kp} (h : KpMem B w n g gm cm A C V s) : FtlOwn B w.heap.size w (some ⟨g, 0, none⟩) (some ⟨gm, 0, none⟩) s.qs s.ps := own_of_parts h.sq h.pl h.ne
end Go.Proofs.YtkbhcdkfjniafaaGreatDoor
end

section
namespace Go.Proofs.YtkbhcdkfjniafaaGreatDoor
open Go.RowKit
set_option linter.unusedVariables false
theorem own_of_to {lo mid hi n m : Nat} {w : World} {a am : Option Addr} {qs : List Sq} {ps : List Pl} (h : OwnSquares lo mid w a n qs) (hp : OwnPlaces mid hi w am m ps) (h1 : lo <= mid) (h2 : mid <= hi) (h3 : hi < w.heap.size) : FtlOwn lo w.heap.size w a am qs ps := by
 obtain ⟨g, off, A, C, P, h⟩ := h
 have hn := h.len
 have hm := hp.1
 subst hn
 subst hm
 refine ⟨Nat.le_refl _, .inr ?_⟩
 by_cases h0 : 0 < ps.length
 ·obtain ⟨b, o, e, k1, k2, k3⟩ := hp.2.2 (by omega)
  refine ⟨g, off, A, C, P, b, h.wide (Nat.le_refl _) (by omega) (Nat.le_refl _), ⟨rfl, by omega, fun _ => ⟨b, o, e, Nat.le_refl _, Nat.lt_succ_self _, k3⟩⟩, by omega, by omega, ?_, fun i hi _ => ?_⟩
  ·have := h.atG.2; omega
  ·have := (h.atP i hi).2; omega
 ·refine ⟨g, off, A, C, P, hi, h.wide (Nat.le_refl _) (by omega) (Nat.le_refl _), ⟨rfl, by omega, fun h9 => absurd h9 (by omega)⟩, by omega, by omega, ?_, fun i hi' _ => ?_⟩
  ·have := h.atG.2; omega
  ·have := (h.atP i hi').2; omega
theorem planR_some {z : Int} {qs : List Sq} {ps : List Pl} {op st kd a : Int} {tx : ByteArray} {s : Kp} (h : planR z qs ps op st kd a tx = some s) : ftlOk z qs ps op st = true ∧ mayEnt ps st kd a tx = true ∧ ∃ s1, roomK z 20 ⟨qs, ps, op, []⟩ = some s1 ∧ putK z s1 a.toNat (laid kd a (st + 1) tx) = some s := by
 unfold planR at h
 cases hf : ftlOk z qs ps op st with
 | false => rw [hf] at h; cases h
 | true =>
  rw [hf, if_pos rfl] at h
  cases hm : mayEnt ps st kd a tx with
  | false => rw [enterK_no (s := ⟨qs, ps, op, []⟩) hm] at h; cases h
  | true =>
   rw [enterK_yes (s := ⟨qs, ps, op, []⟩) hm] at h
   cases hr : roomK z 20 ⟨qs, ps, op, []⟩ with
   | none => rw [hr] at h; cases h
   | some s1 => rw [hr] at h; exact ⟨rfl, rfl, s1, rfl, h⟩
end Go.Proofs.YtkbhcdkfjniafaaGreatDoor
end

section
namespace Go.Proofs.YtkbhcdkfjniafaaGreatDoor
open Go.RowKit
set_option linter.unusedVariables false
theorem pageAt_there {z : Int} {qs : List Sq} {p : Pl} (hc : chipOk z qs = true) (h : plThere qs p = true) : pageAt z qs p.1 p.2 = txt qs p := by
 unfold plThere at h
 unfold pageAt txt txAt
 rw [hc, h]
 rfl
theorem pgOf_thereE {z : Int} {qs : List Sq} {p : Pl} (hc : chipOk z qs = true) (h : plThere qs p = true) : pgOf z qs p = lyP (txt qs p) := by
 unfold pgOf; rw [pageAt_there hc h]
theorem fpOk_iff {z : Int} {qs : List Sq} {ps : List Pl} {st : Int} {i : Nat} : fpOk z qs ps st i = true ↔ plAt ps i = (-1, 0) ∨ (lyWell (pgOf z qs (plAt ps i)).2.2.2.2 = true ∧ (pgOf z qs (plAt ps i)).2.1 = (i : Int) ∧ (pgOf z qs (plAt ps i)).2.2.1 <= st) := by
 unfold fpOk
 rw [Bool.or_eq_true, Bool.and_eq_true, Bool.and_eq_true, beq_iff_eq, beq_iff_eq]
 simp
theorem ftlOk_of {z : Int} {qs : List Sq} {ps : List Pl} {op st : Int} {js : List Jb} (h : KOk z ⟨qs, ps, op, js⟩) (h0 : 0 <= st) (h1 : st <= 1000000) (hf : ∀ i, i < ps.length -> fpOk z qs ps st i = true) : ftlOk z qs ps op st = true := by
 have a1 := h.map.ok
 have a2 := h.lo
 have a3 := h.hi
 have a4 := h.good
 dsimp only at a1 a2 a3 a4
 unfold ftlOk inB
 rw [a1, a4, decide_eq_true a2, decide_eq_true (show op <= (qs.length : Int) - 1 by omega), decide_eq_true h0, decide_eq_true h1]
 simp only [Bool.true_and, List.all_eq_true, List.mem_range]
 exact hf
theorem get_same {z : Int} {qs qs' : List Sq} {ps ps' : List Pl} {op op' st st' : Int} (h : ftlOk z qs ps op st = true) (h' : ftlOk z qs' ps' op' st' = true) (hl : ps'.length = ps.length) {i : Nat} (hi : i < ps.length) (hs : sameAt qs ps qs' ps' i) : ftlGet z qs' ps' op' st' (i : Int) = ftlGet z qs ps op st (i : Int) := by
 have hm := mapR_of (ftlOk_map h)
 have hm' := mapR_of (ftlOk_map h')
 have b1 : inB (i : Int) 0 ((ps.length : Int) - 1) = true := by unfold inB; simp; omega
 have b2 : inB (i : Int) 0 ((ps'.length : Int) - 1) = true := by unfold inB; simp; omega
 unfold ftlGet
 rw [h, h', b1, b2, Int.toNat_natCast]
 by_cases e : plAt ps i = (-1, 0)
 ·have e' := hs.1.2 e
  rw [e, e']
  rfl
 ·have e' : plAt ps' i ≠ (-1, 0) := fun k => e (hs.1.1 k)
  have t1 := (hm.there i hi).resolve_left e
  have t2 := (hm'.there i (by omega)).resolve_left e'
  rw [pgOf_thereE hm.chip t1, pgOf_thereE hm'.chip t2, hs.2 e]
  have n1 : (plAt ps i == (-1, 0)) = false := by simpa using e
  have n2 : (plAt ps' i == (-1, 0)) = false := by simpa using e'
  rw [n1, n2]
theorem same_ok {z : Int} {qs qs' : List Sq} {ps ps' : List Pl} {st st' : Int} (hm : MapR z qs ps) (hm' : MapR z qs' ps') (hl : ps'.length = ps.length) (hst : st <= st') {i : Nat} (hi : i < ps.length) (hf : fpOk z qs ps st i = true) (hs : sameAt qs ps qs' ps' i) : fpOk z qs' ps' st' i = true := by
 rw [fpOk_iff] at hf ⊢
 rcases hf with e | ⟨h1, h2, h3⟩
 ·exact .inl (hs.1.2 e)
 ·by_cases e : plAt ps' i = (-1, 0)
  ·exact .inl e
  ·have e0 : plAt ps i ≠ (-1, 0) := fun k => e (hs.1.2 k)
   have t1 := (hm.there i hi).resolve_left e0
   have t2 := (hm'.there i (by omega)).resolve_left e
   rw [pgOf_thereE hm.chip t1] at h1 h2 h3
   rw [pgOf_thereE hm'.chip t2, hs.2 e0]
   exact .inr ⟨h1, h2, by omega⟩
structure Entd (z : Int) (qs : List Sq) (ps : List Pl) (op st kd a : Int) (tx : ByteArray) (s : Kp) : Prop where
 ok : ftlOk z s.qs s.ps s.op (st + 1) = true
 squares : s.qs.length = qs.length
 places : s.ps.length = ps.length
 at0 : 0 <= a
 at1 : a < (ps.length : Int)
 here : ftlGet z s.qs s.ps s.op (st + 1) a = (tx, kd == 1)
 else_ : ∀ i : Nat, i < ps.length -> (i : Int) ≠ a -> ftlGet z s.qs s.ps s.op (st + 1) (i : Int) = ftlGet z qs ps op st (i : Int)
theorem entd_of {z : Int} {qs : List Sq} {ps : List Pl} {op st kd a : Int} {tx : ByteArray} {s : Kp} (h : planR z qs ps op st kd a tx = some s) : Entd z qs ps op st kd a tx s := by
 obtain ⟨hf, hm, s1, h1, h2⟩ := planR_some h
 have hK0 := kok_of hf []
 obtain ⟨_, _, _, hst0, hst1, _, hfp⟩ := ftlOk_parts hf
 have hS := (roomK_ok hK0 h1).1
 have hm0 : MapR z qs ps := hK0.map
 unfold mayEnt at hm
 rw [Bool.and_eq_true] at hm
 obtain ⟨hpo, hin⟩ := hm
 unfold inB at hin
 simp only [Bool.and_eq_true, decide_eq_true_eq] at hin
 have hsp : s1.ps.length = ps.length := hS.places
 have hsq : s1.qs.length = qs.length := hS.squares
 have ha : a.toNat < s1.ps.length := by omega
 obtain ⟨k1, k2, k3, k4, k5, k6, k7, k8, k9⟩ := putK_ok hS.ok ha h2
 have hst : st + 1 <= 1000000 := by
  obtain ⟨K, A, S, _, _, e, _, _, _, hS1, _⟩ := page_ok hpo
  omega
 obtain ⟨hly, hlz⟩ := ly_laid hpo
 have hall : ∀ i, i < ps.length -> i ≠ a.toNat -> sameAt qs ps s.qs s.ps i := fun i hi hne => sameAt_trans (hS.same i hi) (k7 i (by omega) hne)
 have hna : plAt s.ps a.toNat ≠ (-1, 0) := by
  rw [k8]
  obtain ⟨o, ho, _⟩ := putK_parts h2
  unfold nextP
  rw [ho]
  exact ne_none
 have hth := (k1.map.there a.toNat (by omega)).resolve_left hna
 have hpg : pgOf z s.qs (plAt s.ps a.toNat) = (kd, a, st + 1, tx, 1) := by rw [pgOf_thereE k1.map.chip hth, k9, hly]
 have hok : ftlOk z s.qs s.ps s.op (st + 1) = true := by
  refine ftlOk_of (js := s.js) k1 (by omega) hst fun i hi => ?_
  by_cases e : i = a.toNat
  ·subst e
   rw [fpOk_iff, hpg]
   refine .inr ⟨rfl, ?_, Int.le_refl _⟩
   show a = _
   omega
  ·exact same_ok hm0 k1.map (by omega) (by omega) (by omega) (hfp i (by omega)) (hall i (by omega) e)
 refine ⟨hok, k3.trans hsq, k4.trans hsp, by omega, by omega, ?_, fun i hi hne => get_same hf hok (by omega) hi (hall i hi (by omega))⟩
 unfold ftlGet
 have n2 : (plAt s.ps a.toNat == (-1, 0)) = false := by simpa using hna
 have b2 : inB a 0 ((s.ps.length : Int) - 1) = true := by unfold inB; simp; omega
 rw [hok, n2, b2, hpg]
 rfl
end Go.Proofs.YtkbhcdkfjniafaaGreatDoor
end

section
namespace Go.Proofs.YtkbhcdkfjniafaaGreatDoor
open Go.RowKit
set_option linter.unusedVariables false
structure Cv where
 rm : Int
 ys : List Hd
 f : Fv
def itOk (m : Nat) (ys : List Hd) (i : Nat) : Bool := inB (hdAt ys i).1 0 ((m : Int) - 1) && (decide ((hdAt ys i).2.1.size <= 24) && (List.range i).all fun k => !((hdAt ys k).1 == (hdAt ys i).1))
def ftlOkF (f : Fv) : Bool := ftlOk f.z f.qs f.ps f.op f.st
def cacheOk (c : Cv) : Bool := inB c.rm 1 16 && (decide ((c.ys.length : Int) <= c.rm) && (ftlOkF c.f && (List.range c.ys.length).all (itOk c.f.ps.length c.ys)))
structure COk (c : Cv) : Prop where
 r0 : 1 <= c.rm
 r1 : c.rm <= 16
 len : (c.ys.length : Int) <= c.rm
 ftl : ftlOk c.f.z c.f.qs c.f.ps c.f.op c.f.st = true
 item : ∀ i, i < c.ys.length -> 0 <= (hdAt c.ys i).1 ∧ (hdAt c.ys i).1 < (c.f.ps.length : Int) ∧ (hdAt c.ys i).2.1.size <= 24
 apart : ∀ i, i < c.ys.length -> ∀ k, k < i -> (hdAt c.ys k).1 ≠ (hdAt c.ys i).1
theorem itOk_iff {m : Nat} {ys : List Hd} {i : Nat} : itOk m ys i = true ↔ 0 <= (hdAt ys i).1 ∧ (hdAt ys i).1 < (m : Int) ∧ (hdAt ys i).2.1.size <= 24 ∧ ∀ k, k < i -> (hdAt ys k).1 ≠ (hdAt ys i).1 := by
 unfold itOk inB
 simp only [Bool.and_eq_true, decide_eq_true_eq, List.all_eq_true, List.mem_range, Bool.not_eq_true', beq_eq_false_iff_ne]
 constructor
 ·rintro ⟨⟨h1, h2⟩, h3, h4⟩
  exact ⟨h1, by omega, h3, h4⟩
 ·rintro ⟨h1, h2, h3, h4⟩
  exact ⟨⟨h1, by omega⟩, h3, h4⟩
theorem cacheOk_iff {c : Cv} : cacheOk c = true ↔ COk c := by
 unfold cacheOk ftlOkF
 constructor
 ·intro h
  simp only [Bool.and_eq_true, decide_eq_true_eq, List.all_eq_true, List.mem_range] at h
  obtain ⟨h1, h2, h3, h4⟩ := h
  unfold inB at h1
  simp only [Bool.and_eq_true, decide_eq_true_eq] at h1
  refine ⟨h1.1, h1.2, h2, h3, fun i hi => ?_, fun i hi => ?_⟩
  ·have := itOk_iff.1 (h4 i hi); exact ⟨this.1, this.2.1, this.2.2.1⟩
  ·exact (itOk_iff.1 (h4 i hi)).2.2.2
 ·intro h
  simp only [Bool.and_eq_true, decide_eq_true_eq, List.all_eq_true, List.mem_range]
  refine ⟨?_, h.len, h.ftl, fun i hi => itOk_iff.2 ⟨(h.item i hi).1, (h.item i hi).2.1, (h.item i hi).2.2, h.apart i hi⟩⟩
  unfold inB
  simp only [Bool.and_eq_true, decide_eq_true_eq]
  exact ⟨h.r0, h.r1⟩
theorem items_no {m : Nat} {ys : List Hd} {i : Nat} (hi : i < ys.length) (h : itOk m ys i = false) : (List.range ys.length).all (itOk m ys) = false := by
 rw [List.all_eq_false]
 exact ⟨i, List.mem_range.2 hi, by rw [h]; decide⟩
theorem items_yes {m : Nat} {ys : List Hd} (h : ∀ i, i < ys.length -> itOk m ys i = true) : (List.range ys.length).all (itOk m ys) = true := by
 rw [List.all_eq_true]
 exact fun i hi => h i (List.mem_range.1 hi)
theorem cacheOk_room {c : Cv} (h : inB c.rm 1 16 = false) : cacheOk c = false := by unfold cacheOk; rw [h]; rfl
theorem cacheOk_len {c : Cv} (h : ¬ (c.ys.length : Int) <= c.rm) : cacheOk c = false := by unfold cacheOk; rw [decide_eq_false h]; simp
theorem cacheOk_ftl {c : Cv} (h : ftlOk c.f.z c.f.qs c.f.ps c.f.op c.f.st = false) : cacheOk c = false := by unfold cacheOk ftlOkF; rw [h]; simp
theorem cacheOk_rest {c : Cv} (h1 : inB c.rm 1 16 = true) (h2 : (c.ys.length : Int) <= c.rm) (h3 : ftlOk c.f.z c.f.qs c.f.ps c.f.op c.f.st = true) : cacheOk c = (List.range c.ys.length).all (itOk c.f.ps.length c.ys) := by
 unfold cacheOk ftlOkF; rw [h1, h3, decide_eq_true h2]; rfl
def idxH (ys : List Hd) (a : Int) : Int := if ys.findIdx (fun y => y.1 == a) < ys.length then ((ys.findIdx (fun y => y.1 == a) : Nat) : Int) else -1
theorem hdAt_get {ys : List Hd} {i : Nat} (h : i < ys.length) : hdAt ys i = ys[i] := by
 unfold hdAt; rw [List.getD_eq_getElem?_getD, List.getElem?_eq_getElem h]; rfl
theorem idxH_hit {ys : List Hd} {a : Int} {k : Nat} (hk : k < ys.length) (h : (hdAt ys k).1 = a) (hb : ∀ j, j < k -> (hdAt ys j).1 ≠ a) : idxH ys a = (k : Int) := by
 have e : ys.findIdx (fun y => y.1 == a) = k := by
  rw [List.findIdx_eq hk]
  refine ⟨?_, fun j hj => ?_⟩
  ·rw [<- hdAt_get hk]; simpa using h
  ·have := hb j hj
   rw [hdAt_get (by omega)] at this
   simpa using this
 unfold idxH
 rw [e, if_pos hk]
theorem idxH_none {ys : List Hd} {a : Int} (hb : ∀ j, j < ys.length -> (hdAt ys j).1 ≠ a) : idxH ys a = -1 := by
 unfold idxH
 rw [if_neg]
 intro h
 have h1 := List.findIdx_getElem (w := h)
 have h2 := hb _ h
 rw [hdAt_get h] at h2
 exact h2 (by simpa using h1)
theorem idxH_cases (ys : List Hd) (a : Int) : (idxH ys a = -1 ∧ ∀ j, j < ys.length -> (hdAt ys j).1 ≠ a) ∨ ∃ k : Nat, k < ys.length ∧ idxH ys a = (k : Int) ∧ (hdAt ys k).1 = a ∧ ∀ j, j < k -> (hdAt ys j).1 ≠ a := by
 by_cases h : ys.findIdx (fun y => y.1 == a) < ys.length
 ·right
  refine ⟨_, h, by unfold idxH; rw [if_pos h], ?_, fun j hj => ?_⟩
  ·rw [hdAt_get h]; simpa using List.findIdx_getElem (w := h)
  ·rw [hdAt_get (by omega)]
   have := List.not_of_lt_findIdx hj
   simpa using this
 ·left
  refine ⟨by unfold idxH; rw [if_neg h], fun j hj e => ?_⟩
  rw [hdAt_get hj] at e
  exact h (List.findIdx_lt_length_of_exists ⟨ys[j], List.getElem_mem hj, by simpa using e⟩)
theorem itOk_idx {m : Nat} {ys : List Hd} {i : Nat} (hi : i < ys.length) : itOk m ys i = (inB (hdAt ys i).1 0 ((m : Int) - 1) && (decide ((hdAt ys i).2.1.size <= 24) && (idxH ys (hdAt ys i).1 == (i : Int)))) := by
 unfold itOk
 congr 2
 rw [Bool.eq_iff_iff]
 simp only [List.all_eq_true, List.mem_range, Bool.not_eq_true', beq_eq_false_iff_ne, beq_iff_eq]
 constructor
 ·exact fun h => idxH_hit hi rfl h
 ·intro h k hk e
  rcases idxH_cases ys (hdAt ys i).1 with ⟨h1, _⟩ | ⟨j, h1, h2, h3, h4⟩
  ·omega
  ·have : j = i := by omega
   subst this
   exact h4 k hk e
def backF (f : Fv) (x : Hd) : Option Fv := (enterK f.z ⟨f.qs, f.ps, f.op, []⟩ f.st 1 x.1 x.2.1).map fun s => ⟨f.z, s.qs, s.ps, s.op, f.st + 1⟩
def backD (f : Fv) (x : Hd) : Option Fv := if x.2.2 then backF f x else some f
theorem backF_ok {f f' : Fv} {x : Hd} (h : ftlOkF f = true) (hb : backF f x = some f') : ftlOkF f' = true ∧ f'.ps.length = f.ps.length ∧ f'.z = f.z ∧ f'.qs.length = f.qs.length := by
 unfold backF at hb
 cases he : enterK f.z ⟨f.qs, f.ps, f.op, []⟩ f.st 1 x.1 x.2.1 with
 | none => rw [he] at hb; cases hb
 | some s =>
  rw [he] at hb
  simp only [Option.map_some, Option.some.injEq] at hb
  subst hb
  have hE := entd_of (z := f.z) (qs := f.qs) (ps := f.ps) (op := f.op) (st := f.st) (kd := 1) (a := x.1) (tx := x.2.1) (s := s) (by unfold planR; unfold ftlOkF at h; rw [h]; exact he)
  exact ⟨hE.ok, hE.places, rfl, hE.squares⟩
theorem backD_ok {f f' : Fv} {x : Hd} (h : ftlOkF f = true) (hb : backD f x = some f') : ftlOkF f' = true ∧ f'.ps.length = f.ps.length ∧ f'.z = f.z ∧ f'.qs.length = f.qs.length := by
 unfold backD at hb
 cases hx : x.2.2 with
 | true => rw [hx] at hb; exact backF_ok h hb
 | false => rw [hx] at hb; simp only [Bool.false_eq_true, if_false, Option.some.injEq] at hb; subst hb; exact ⟨h, rfl, rfl, rfl⟩
theorem planR_back {f : Fv} {x : Hd} (h : ftlOkF f = true) : (planR f.z f.qs f.ps f.op f.st 1 x.1 x.2.1).isSome = (backF f x).isSome := by
 unfold planR backF; unfold ftlOkF at h; rw [h]; simp
theorem entF_back {f f' : Fv} {x : Hd} (h : ftlOkF f = true) (hb : backF f x = some f') : entF f.z f.qs f.ps f.op f.st 1 x.1 x.2.1 = f' := by
 unfold backF at hb
 unfold entF; unfold ftlOkF at h; rw [h]
 cases he : enterK f.z ⟨f.qs, f.ps, f.op, []⟩ f.st 1 x.1 x.2.1 with
 | none => rw [he] at hb; cases hb
 | some s => rw [he] at hb; simp only [Option.map_some, Option.some.injEq] at hb; subst hb; rfl
def zeroC : Cv := ⟨0, [], ⟨0, [], [], 0, 0⟩⟩
def cleanH (x : Hd) : Hd := (x.1, x.2.1, false)
def flushN (ys : List Hd) (f : Fv) : Nat -> Option (List Hd × Fv)
 | 0 => some (ys, f)
 | k + 1 => (flushN ys f k).bind fun p => (backD p.2 (hdAt ys (ys.length - 1 - k))).map fun f' => (p.1.set (ys.length - 1 - k) (cleanH (hdAt ys (ys.length - 1 - k))), f')
def flushO (c : Cv) : Option Cv := (flushN c.ys c.f c.ys.length).map fun p => ⟨c.rm, p.1, p.2⟩
def flushF (c : Cv) : Cv := if cacheOk c then (flushO c).getD c else zeroC
def flushB (c : Cv) : Bool := cacheOk c && (flushO c).isSome
theorem COk.other {c : Cv} (h : COk c) {a : Int} {k : Nat} (hk : k < c.ys.length) (he : (hdAt c.ys k).1 = a) : ∀ j, j < c.ys.length -> j ≠ k -> (hdAt c.ys j).1 ≠ a := by
 intro j hj hne e
 rcases Nat.lt_or_gt_of_ne hne with h1 | h1
 ·exact h.apart k hk j h1 (e.trans he.symm)
 ·exact h.apart j hj k h1 (he.trans e.symm)
theorem chipOk_small {z : Int} {qs : List Sq} (h : chipOk z qs = true) : qs.length + weight qs <= 20000 := by
 obtain ⟨h1, h2, h3, h4, h5⟩ := chipOk_parts h
 have := weight_small (n := 12) h4 (fun q hq => by
  obtain ⟨k1, _, _, k4⟩ := sqOk_parts (h5 q hq)
  have k5 : q.1.length <= 8 := by omega
  have := total_small k5 (fun s hs => (k4 s hs).2)
  omega)
 omega
def CFit (c : Cv) : Prop := c.ys.length <= 20 ∧ c.ys.length + (c.f.qs.length + weight c.f.qs) <= 1048576 ∧ c.f.ps.length <= 64
theorem fit_of {c : Cv} (h : ftlOkF c.f = true) (hl : c.ys.length <= 20) : CFit c := by
 unfold ftlOkF at h
 have h1 := (kok_of h []).map.chip
 have h2 : c.f.qs.length + weight c.f.qs <= 20000 := chipOk_small h1
 have h3 := (kok_of h []).map.few
 exact ⟨hl, by omega, h3⟩
theorem COk.fit {c : Cv} (h : COk c) : CFit c := fit_of (c := c) h.ftl (by have := h.len; have := h.r1; omega)
theorem zeroC_fit : CFit zeroC := ⟨by simp [zeroC], by simp [zeroC, weight], by simp [zeroC]⟩
theorem flushN_ok {ys : List Hd} {f : Fv} (h : ftlOkF f = true) : ∀ (k : Nat) (p : List Hd × Fv), flushN ys f k = some p -> ftlOkF p.2 = true ∧ p.1.length = ys.length ∧ p.2.ps.length = f.ps.length ∧ p.2.qs.length = f.qs.length ∧ p.2.z = f.z := by
 intro k
 induction k with
 | zero => intro p hp; simp only [flushN, Option.some.injEq] at hp; subst hp; exact ⟨h, rfl, rfl, rfl, rfl⟩
 | succ k ih =>
  intro p hp
  rw [flushN] at hp
  obtain ⟨p1, hp1, hp2⟩ := Option.bind_eq_some_iff.1 hp
  obtain ⟨f', hf', rfl⟩ := Option.map_eq_some_iff.1 hp2
  obtain ⟨h1, h2, h3, h4, h5⟩ := ih p1 hp1
  obtain ⟨k1, k2, k3, k4⟩ := backD_ok h1 hf'
  exact ⟨k1, by simp only [List.length_set]; exact h2, k2.trans h3, k4.trans h4, k3.trans h5⟩
theorem flushF_fit (c : Cv) : CFit (flushF c) := by
 unfold flushF
 split
 ·rename_i h
  have hc := cacheOk_iff.1 h
  cases hk : flushO c with
  | none => exact hc.fit
  | some c' =>
   unfold flushO at hk
   obtain ⟨p, hp, rfl⟩ := Option.map_eq_some_iff.1 hk
   obtain ⟨h1, h2, _⟩ := flushN_ok (show ftlOkF c.f = true from hc.ftl) _ _ hp
   exact fit_of (c := ⟨_, _, _⟩) h1 (by dsimp only; have := hc.len; have := hc.r1; omega)
 ·exact zeroC_fit
end Go.Proofs.YtkbhcdkfjniafaaGreatDoor
end

section
namespace Go.Proofs.YtkbhcdkfjniafaaGreatDoor
open Go.RowKit
set_option linter.unusedVariables false
set_option maxRecDepth 20000
theorem seven_cells {W : World} {b : Nat} {c0 c1 c2 c3 c4 c5 c6 : Value} {t : TypeId} {fr : Nat × Nat} (h : W.heap[b]? = some (.cells #[c0, c1, c2, c3, c4, c5, c6] t fr)) :
  W.cell? ⟨b, 0, none⟩ = some c0 ∧ W.cell? ⟨b, 1, none⟩ = some c1 ∧ W.cell? ⟨b, 2, none⟩ = some c2 ∧ W.cell? ⟨b, 3, none⟩ = some c3 ∧ W.cell? ⟨b, 4, none⟩ = some c4 ∧ W.cell? ⟨b, 5, none⟩ = some c5 ∧ W.cell? ⟨b, 6, none⟩ = some c6 := by
 simp [World.cell?, h]
theorem seven_set {W : World} {b : Nat} {c0 c1 c2 c3 c4 c5 c6 : Value} {t : TypeId} {fr : Nat × Nat} (h : W.heap[b]? = some (.cells #[c0, c1, c2, c3, c4, c5, c6] t fr)) (v0 v1 v2 v3 v4 v5 v6 : Value) :
  (((((((W.setCell ⟨b, 0, none⟩ v0).setCell ⟨b, 1, none⟩ v1).setCell ⟨b, 2, none⟩ v2).setCell ⟨b, 3, none⟩ v3).setCell ⟨b, 4, none⟩ v4).setCell ⟨b, 5, none⟩ v5).setCell ⟨b, 6, none⟩ v6).heap[b]? = some (.cells #[v0, v1, v2, v3, v4, v5, v6] t fr) :=
 set_block (set_block (set_block (set_block (set_block (set_block (set_block h 0 v0 (by simp)) 1 v1 (by simp)) 2 v2 (by simp)) 3 v3 (by simp)) 4 v4 (by simp)) 5 v5 (by simp)) 6 v6 (by simp)
theorem seven_aside {lo hi b : Nat} {a w : World} (h : Aside lo hi a w) (h1 : lo <= b) (h2 : b < hi) (v0 v1 v2 v3 v4 v5 v6 : Value) :
  Aside lo hi a (((((((w.setCell ⟨b, 0, none⟩ v0).setCell ⟨b, 1, none⟩ v1).setCell ⟨b, 2, none⟩ v2).setCell ⟨b, 3, none⟩ v3).setCell ⟨b, 4, none⟩ v4).setCell ⟨b, 5, none⟩ v5).setCell ⟨b, 6, none⟩ v6) :=
 ((((((h.setCell (p := ⟨b, 0, none⟩) h1 h2 v0).setCell (p := ⟨b, 1, none⟩) h1 h2 v1).setCell (p := ⟨b, 2, none⟩) h1 h2 v2).setCell (p := ⟨b, 3, none⟩) h1 h2 v3).setCell (p := ⟨b, 4, none⟩) h1 h2 v4).setCell (p := ⟨b, 5, none⟩) h1 h2 v5).setCell (p := ⟨b, 6, none⟩) h1 h2 v6
theorem helds_wide {lo hi lo' hi' n : Nat} {w : World} {a : Option Addr} {ys : List Hd} (h : Helds lo hi w a n ys) (h1 : lo' <= lo) (h2 : hi <= hi') (h3 : hi' <= w.heap.size) : Helds lo' hi' w a n ys :=
 ⟨h.1, h3, fun hn => by obtain ⟨b, off, e, h4, h5, h6⟩ := h.2.2 hn; exact ⟨b, off, e, by omega, by omega, h6⟩⟩
def CacheOwn (lo hi : Nat) (w : World) (ai a am : Option Addr) (ys : List Hd) (qs : List Sq) (ps : List Pl) : Prop :=
 hi <= w.heap.size ∧ ∃ l1 r1 l2 r2, lo <= l1 ∧ r1 <= hi ∧ lo <= l2 ∧ r2 <= hi ∧ (r1 <= l2 ∨ r2 <= l1) ∧ OwnHelds l1 r1 w ai ys.length ys ∧ FtlOwn l2 r2 w a am qs ps
section
variable {lo hi : Nat} {w w' : World} {ai a am : Option Addr} {ys : List Hd} {qs : List Sq} {ps : List Pl}
theorem CacheOwn.helds (h : CacheOwn lo hi w ai a am ys qs ps) : Helds lo hi w ai ys.length ys := by
 obtain ⟨h0, l1, r1, l2, r2, h1, h2, h3, h4, h5, h6, h7⟩ := h
 exact helds_wide h6.helds h1 h2 h0
theorem CacheOwn.squares (h : CacheOwn lo hi w ai a am ys qs ps) : Squares lo hi w a qs.length qs := by
 obtain ⟨h0, l1, r1, l2, r2, h1, h2, h3, h4, h5, h6, h7⟩ := h
 exact (h7.wide h3 h4 h0).squares
theorem CacheOwn.places (h : CacheOwn lo hi w ai a am ys qs ps) : Places lo hi w am ps.length ps := by
 obtain ⟨h0, l1, r1, l2, r2, h1, h2, h3, h4, h5, h6, h7⟩ := h
 exact (h7.wide h3 h4 h0).places
theorem CacheOwn.later (h : CacheOwn lo hi w ai a am ys qs ps) {B : Nat} (hb : Below B w w') (hB : hi <= B) : CacheOwn lo hi w' ai a am ys qs ps := by
 obtain ⟨h0, l1, r1, l2, r2, h1, h2, h3, h4, h5, h6, h7⟩ := h
 exact ⟨Nat.le_trans h0 hb.size, l1, r1, l2, r2, h1, h2, h3, h4, h5, h6.later hb (by omega), h7.later hb (by omega)⟩
theorem CacheOwn.aside (h : CacheOwn lo hi w ai a am ys qs ps) {l r : Nat} (hb : Aside l r w w') (hB : r <= lo ∨ hi <= l) : CacheOwn lo hi w' ai a am ys qs ps := by
 obtain ⟨h0, l1, r1, l2, r2, h1, h2, h3, h4, h5, h6, h7⟩ := h
 exact ⟨Nat.le_trans h0 hb.size, l1, r1, l2, r2, h1, h2, h3, h4, h5, h6.aside hb (by omega), h7.aside hb (by omega)⟩
theorem CacheOwn.wide (h : CacheOwn lo hi w ai a am ys qs ps) {lo' hi' : Nat} (h1' : lo' <= lo) (h2' : hi <= hi') (h3' : hi' <= w.heap.size) : CacheOwn lo' hi' w ai a am ys qs ps := by
 obtain ⟨h0, l1, r1, l2, r2, h1, h2, h3, h4, h5, h6, h7⟩ := h
 exact ⟨h3', l1, r1, l2, r2, by omega, by omega, by omega, by omega, h5, h6, h7⟩
theorem cache_of_to {mid mid2 hi2 n m ni : Nat} (h : OwnHelds lo mid w ai ni ys) (hs : OwnSquares mid mid2 w a n qs) (hp : OwnPlaces mid2 hi2 w am m ps) (h0 : lo <= mid) (h1 : mid <= mid2) (h2 : mid2 <= hi2) (h3 : hi2 < w.heap.size) : CacheOwn lo w.heap.size w ai a am ys qs ps :=
 ⟨Nat.le_refl _, lo, mid, mid, w.heap.size, Nat.le_refl _, by omega, h0, Nat.le_refl _, .inl (Nat.le_refl _), by rw [h.1]; exact h, own_of_to hs hp h1 h2 h3⟩
end
def cvV (c : Cv) (ai : Option Addr) (ci : Nat) (a : Option Addr) (cp : Nat) (am : Option Addr) (cm : Nat) : Value :=
 .agg #[.int .i64 c.rm, .slice ai c.ys.length ci, .int .i64 c.f.z, .slice a c.f.qs.length cp, .slice am c.f.ps.length cm, .int .i64 c.f.op, .int .i64 c.f.st]
def CacheAns (w : World) (c : Cv) (v : Value) (w' : World) : Prop := ∃ ai ci a cp am cm, v = cvV c ai ci a cp am cm ∧ CacheOwn w.heap.size w'.heap.size w' ai a am c.ys c.f.qs c.f.ps ∧ Below w.heap.size w w' ∧ c.f.ps.length <= cm
set_option maxHeartbeats 800000 in
theorem szCache_any (rm : Int) (ai : Option Addr) (ni ci : Nat) (ys : List Hd) (z : Int) (a : Option Addr) (n cap : Nat) (qs : List Sq) (am : Option Addr) (m cm : Nat) (op st L : Int) (w : World) {l1 r1 lo hi : Nat} (hy : Helds l1 r1 w ai ni ys) (hr1 : r1 <= w.heap.size) (hni : ni <= maxLen) (hfy : ∀ x ∈ ys, hdFits x) (h : Squares lo hi w a n qs) (hhi : hi <= w.heap.size) (hn : n <= maxLen) (hfit : ∀ x ∈ qs, sqFits x) (hm : m <= maxLen) (hL0 : 0 <= L) (hL1 : L <= 1048576) :
  Calls Tryz.prog 54 #[.agg #[.int .i64 rm, .slice ai ni ci, .int .i64 z, .slice a n cap, .slice am m cm, .int .i64 op, .int .i64 st], .int .i64 L] w fun e w' => Left L (ni + weightH ys + (n + weight qs + m)) e ∧ Below w.heap.size w w' := by
 obtain ⟨wA, hwA⟩ : ∃ wA, wA = w.alloc (.cells #[.int .i64 rm, .slice ai ni ci, .int .i64 z, .slice a n cap, .slice am m cm, .int .i64 op, .int .i64 st] 93) := ⟨_, rfl⟩
 have hzA : wA.heap.size = w.heap.size + 1 := by rw [hwA]; simp
 have HBA : Hid (Below w.heap.size w wA) := by rw [hwA]; exact (Below.refl _ _).alloc (Nat.le_refl _) _
 have H1 : Hid (wA.heap[w.heap.size]? = some (.cells #[.int .i64 rm, .slice ai ni ci, .int .i64 z, .slice a n cap, .slice am m cm, .int .i64 op, .int .i64 st] 93)) := by rw [hwA]; exact heap_new _ _
 have HS := hide (h.later HBA.out hhi)
 have HY := hide (hy.later HBA.out hr1)
 have HF := hide hfit
 have HG := hide hfy
 clear h hfit hy hfy
 obtain ⟨c0, c1, c2, c3, c4, c5, c6⟩ := seven_cells H1.out
 go_enter Tryz.func54, Tryz.ntmps54
 go_wp2_with fail
 rw [<- hwA]
 clear hwA
 refine (szHeldS_any ai ni ci ys L wA HY.out (by omega) hni HG.out hL0 hL1).mono ?_
 rintro e w1 ⟨⟨r, rfl, h1, h2, h3⟩, b1⟩
 have H3 := hide h3
 have HB1 := hide (below_here HBA.out b1)
 have K1 := hide (block_on H1.out b1)
 have hs1 := b1.size
 have HS1 := hide (HS.out.later b1 (by omega))
 clear h3 b1 c0 c1 c2 c3 c4 c5 c6
 obtain ⟨c0, c1, c2, c3, c4, c5, c6⟩ := seven_cells K1.out
 by_cases h0 : r < 0
 ·go_wp2_with fail
  go_ret
  exact ⟨⟨-1, rfl, by omega, by omega, by omega⟩, HB1.out⟩
 ·have g0 : decide (r < 0) = false := by simpa using h0
  go_wp2_with fail
  refine (szFtl_any z a n cap qs am m cm op st r w1 HS1.out (by omega) hn HF.out hm (by omega) (by omega)).mono ?_
  rintro e w2 ⟨⟨r', rfl, h1', h2', h3'⟩, b2⟩
  have H3' := hide h3'
  have HB2 := hide (below_here HB1.out b2)
  clear h3' b2
  by_cases h0' : r' < 0
  ·go_wp2_with fail
   go_ret
   exact ⟨⟨-1, rfl, by omega, by omega, by omega⟩, HB2.out⟩
  ·have g1 : decide (r' < 0) = false := by simpa using h0'
   go_wp2_with fail
   go_ret
   exact ⟨⟨r', rfl, h1', by omega, fun hh => by have e1 := H3.out (by omega); have e2 := H3'.out hh; omega⟩, HB2.out⟩
set_option maxHeartbeats 3200000 in
theorem toCache_any (rm : Int) (ai : Option Addr) (ni ci : Nat) (ys : List Hd) (z : Int) (a : Option Addr) (n cap : Nat) (qs : List Sq) (am : Option Addr) (m cm : Nat) (ps : List Pl) (op st : Int) (w : World) {l1 r1 lo hi lo' hi' : Nat} (hy : Helds l1 r1 w ai ni ys) (hr1 : r1 <= w.heap.size) (hni : ni <= 1048576) (h : Squares lo hi w a n qs) (hhi : hi <= w.heap.size) (hfit : n + weight qs <= 1048576) (hp : Places lo' hi' w am m ps) (hhi' : hi' <= w.heap.size) (hm : m <= 1048576) :
  Calls Tryz.prog 55 #[.agg #[.int .i64 rm, .slice ai ni ci, .int .i64 z, .slice a n cap, .slice am m cm, .int .i64 op, .int .i64 st]] w fun e w' => ∃ ai' a' am' mid mid2, e = .returned (.agg #[.int .i64 rm, .slice ai' ni ni, .int .i64 z, .slice a' n n, .slice am' m m, .int .i64 op, .int .i64 st]) ∧ w.heap.size <= mid ∧ mid <= mid2 ∧ mid2 <= w'.heap.size ∧ OwnHelds w.heap.size mid w' ai' ni ys ∧ OwnSquares mid mid2 w' a' n qs ∧ OwnPlaces mid2 w'.heap.size w' am' m ps ∧ Below w.heap.size w w' := by
 obtain ⟨wA, hwA⟩ : ∃ wA, wA = ((w.alloc (.cells #[.int .i64 rm, .slice ai ni ci, .int .i64 z, .slice a n cap, .slice am m cm, .int .i64 op, .int .i64 st] 93)).alloc (.cells #[.int .i64 0, .slice none 0 0, .int .i64 0, .slice none 0 0, .slice none 0 0, .int .i64 0, .int .i64 0] 65)).alloc (.cells #[.int .i64 rm, .slice none 0 0, .int .i64 0, .slice none 0 0, .slice none 0 0, .int .i64 0, .int .i64 0] 65) := ⟨_, rfl⟩
 have hzA : wA.heap.size = w.heap.size + 1 + 1 + 1 := by rw [hwA]; simp
 have HBA : Hid (Below w.heap.size w wA) := by rw [hwA]; exact ((((Below.refl _ _).alloc (Nat.le_refl _) _).alloc (by simp) _).alloc (by simp; omega) _)
 have H0 : Hid (wA.heap[w.heap.size]? = some (.cells #[.int .i64 rm, .slice ai ni ci, .int .i64 z, .slice a n cap, .slice am m cm, .int .i64 op, .int .i64 st] 93)) := by rw [hwA]; exact heap_old (heap_old (heap_new _ _))
 have H1 : Hid (wA.heap[w.heap.size + 1]? = some (.cells #[.int .i64 0, .slice none 0 0, .int .i64 0, .slice none 0 0, .slice none 0 0, .int .i64 0, .int .i64 0] 65)) := by rw [hwA]; exact heap_old (heap_at (by simp))
 have H2 : Hid (wA.heap[w.heap.size + 1 + 1]? = some (.cells #[.int .i64 rm, .slice none 0 0, .int .i64 0, .slice none 0 0, .slice none 0 0, .int .i64 0, .int .i64 0] 65)) := by rw [hwA]; exact heap_at (by simp)
 have HYA := hide (hy.later HBA.out hr1)
 have HTA := hide (h.later HBA.out hhi)
 have HPA := hide (hp.later HBA.out hhi')
 clear h hp hy
 obtain ⟨c0, c1, c2, c3, c4, c5, c6⟩ := seven_cells H0.out
 go_enter Tryz.func55, Tryz.ntmps55
 go_wp2_with fail
 rw [<- hwA]
 clear hwA c0 c1 c2 c3 c4 c5 c6
 refine (toHeldS_any ai ni ci ys wA HYA.out hni).mono ?_
 rintro e w1 ⟨pi, rfl, hyo, b1⟩
 have K0 := hide (block_on H0.out b1)
 have K1 := hide (block_on H1.out b1)
 have K2 := hide (block_on H2.out b1)
 have hs1 := b1.size
 have HB1 := hide (below_here HBA.out b1)
 have HT1 := hide (HTA.out.later b1 (by omega))
 have HP1 := hide (HPA.out.later b1 (by omega))
 have HY1 := hide hyo
 have hyt := hyo.2.1
 clear b1 hyo H0 H1 H2 HYA HTA HPA HBA
 obtain ⟨wB, hwB⟩ : ∃ wB, wB = w1.setCell ⟨w.heap.size + 1 + 1, 1, none⟩ (.slice pi ni ni) := ⟨_, rfl⟩
 have HAB : Hid (Aside (w.heap.size + 2) (w.heap.size + 3) w1 wB) := by rw [hwB]; exact (Aside.refl _ _ w1).setCell (p := ⟨w.heap.size + 1 + 1, 1, none⟩) (by simp) (by simp) _
 have hzB : wB.heap.size = w1.heap.size := by rw [hwB, Go.Deep.nblk_setCell]
 have B0 := hide ((HAB.out.block _ (by omega) (.inl (by omega))).trans K0.out)
 have B1 := hide ((HAB.out.block _ (by omega) (.inl (by omega))).trans K1.out)
 have B2 : Hid (wB.heap[w.heap.size + 1 + 1]? = some (.cells #[.int .i64 rm, .slice pi ni ni, .int .i64 0, .slice none 0 0, .slice none 0 0, .int .i64 0, .int .i64 0] 65)) := by rw [hwB]; exact set_block K2.out 1 (.slice pi ni ni) (by simp)
 have HTB := hide (HT1.out.aside HAB.out (.inl (by omega)))
 have HPB := hide (Places.mk_of HP1.out HAB.out (.inl (by omega)))
 have HYB := hide (HY1.out.aside HAB.out (.inr (by omega)))
 have HBB := hide (HB1.out.trans (HAB.out.below (B := w.heap.size) (by omega) (by omega)))
 obtain ⟨c0, c1, c2, c3, c4, c5, c6⟩ := seven_cells B0.out
 obtain ⟨d0, d1, d2, d3, d4, d5, d6⟩ := seven_cells K2.out
 have f1 := four_frozen K2.out 1
 rw [hwB] at c2 c3 c4 c5 c6
 go_wp2_with fail
 rw [<- hwB]
 clear hwB c0 c1 c2 c3 c4 c5 c6 d0 d1 d2 d3 d4 d5 d6 f1 K0 K1 K2
 refine (toFtl_any z a n cap qs am m cm ps op st wB HTB.out (by omega) hfit HPB.out (by omega) hm).mono ?_
 rintro e w2 ⟨p, pm, mid, rfl, hm1, hm2, hown, hpo, b2⟩
 have E0 := hide (block_on B0.out b2)
 have E1 := hide (block_on B1.out b2)
 have E2 := hide (block_on B2.out b2)
 have hs2 := b2.size
 have HB2 := hide (below_here HBB.out b2)
 have HY2 := hide (HYB.out.later b2 (by omega))
 have HO2 := hide hown
 have HP2 := hide hpo
 clear b2 hown hpo B0 B1 B2 HBB HTB HPB HYB HAB HY1 HT1 HP1 HB1
 obtain ⟨d0, d1, d2, d3, d4, d5, d6⟩ := seven_cells E1.out
 obtain ⟨e0, e1, e2, e3, e4, e5, e6⟩ := seven_cells E2.out
 have f0 := four_frozen E1.out 0
 have f1 := four_frozen E1.out 1
 have f2 := four_frozen E1.out 2
 have f3 := four_frozen E1.out 3
 have f4 := four_frozen E1.out 4
 have f5 := four_frozen E1.out 5
 have f6 := four_frozen E1.out 6
 have g2 := four_frozen E2.out 2
 have g3 := four_frozen E2.out 3
 have g4 := four_frozen E2.out 4
 have g5 := four_frozen E2.out 5
 have g6 := four_frozen E2.out 6
 have HA1 := hide ((((((Aside.refl (w.heap.size + 1) (w.heap.size + 3) w2).setCell (p := ⟨w.heap.size + 1 + 1, 2, none⟩) (by simp <;> omega) (by simp) (.int .i64 z)).setCell (p := ⟨w.heap.size + 1 + 1, 3, none⟩) (by simp <;> omega) (by simp) (.slice p n n)).setCell (p := ⟨w.heap.size + 1 + 1, 4, none⟩) (by simp <;> omega) (by simp) (.slice pm m m)).setCell (p := ⟨w.heap.size + 1 + 1, 5, none⟩) (by simp <;> omega) (by simp) (.int .i64 op)).setCell (p := ⟨w.heap.size + 1 + 1, 6, none⟩) (by simp <;> omega) (by simp) (.int .i64 st))
 have HAS := hide (seven_aside (b := w.heap.size + 1) HA1.out (by omega) (by omega) (.int .i64 rm) (.slice pi ni ni) (.int .i64 z) (.slice p n n) (.slice pm m m) (.int .i64 op) (.int .i64 st))
 have hne : w.heap.size + 1 + 1 ≠ w.heap.size + 1 := by omega
 have HRS := hide (seven_set (set_other (o := 6) (set_other (o := 5) (set_other (o := 4) (set_other (o := 3) (set_other (o := 2) E1.out hne (.int .i64 z)) hne (.slice p n n)) hne (.slice pm m m)) hne (.int .i64 op)) hne (.int .i64 st)) (.int .i64 rm) (.slice pi ni ni) (.int .i64 z) (.slice p n n) (.slice pm m m) (.int .i64 op) (.int .i64 st))
 go_wp2_with fail
 have hsz := HAS.out.size
 refine bodyPost_ret (results_cell rfl rfl (run_loadVar_row _ _ _ _ _ _ _ HRS.out Tryz.underlying65 rfl (by kernel_rfl))) rfl ⟨pi, p, pm, wB.heap.size, mid, rfl, by omega, hm1, by omega, ?_, HO2.out.aside HAS.out (.inl (by omega)), ?_, HB2.out.trans (HAS.out.below (by omega) (by omega))⟩
 ·have h9 := HY2.out.aside HAS.out (.inr (by omega))
  exact ⟨h9.1, by omega, fun hn9 => by obtain ⟨b, off, x1, x2, x3, x4⟩ := h9.2.2 hn9; exact ⟨b, off, x1, by omega, by omega, x4⟩⟩
 ·have h9 := HP2.out.aside HAS.out (.inr (by omega))
  exact ⟨h9.1, by omega, fun hn9 => by obtain ⟨b, off, x1, x2, x3, x4⟩ := h9.2.2 hn9; exact ⟨b, off, x1, x2, by omega, x4⟩⟩
set_option maxHeartbeats 1600000 in
theorem eqCache_same (rm : Int) (ai bi : Option Addr) (ni ca' cb' : Nat) (ys : List Hd) (z : Int) (a b : Option Addr) (n ca cb : Nat) (qs : List Sq) (am bm : Option Addr) (m cam cbm : Nat) (ps : List Pl) (op st : Int) (w : World) {ly ry ly' ry' lo hi lo' hi' lp rp lp' rp' : Nat} (hy : Helds ly ry w ai ni ys) (hy' : Helds ly' ry' w bi ni ys) (hry : ry <= w.heap.size) (hry' : ry' <= w.heap.size) (hni : ni <= 1048576) (h : Squares lo hi w a n qs) (h' : Squares lo' hi' w b n qs) (hhi : hi <= w.heap.size) (hhi' : hi' <= w.heap.size) (hfit : n + weight qs <= 1048576) (hp : Places lp rp w am m ps) (hp' : Places lp' rp' w bm m ps) (hrp : rp <= w.heap.size) (hrp' : rp' <= w.heap.size) (hm : m <= 1048576) :
  Calls Tryz.prog 56 #[.agg #[.int .i64 rm, .slice ai ni ca', .int .i64 z, .slice a n ca, .slice am m cam, .int .i64 op, .int .i64 st], .agg #[.int .i64 rm, .slice bi ni cb', .int .i64 z, .slice b n cb, .slice bm m cbm, .int .i64 op, .int .i64 st]] w fun e w' => e = .returned (.bool true) ∧ Below w.heap.size w w' := by
 obtain ⟨wA, hwA⟩ : ∃ wA, wA = (w.alloc (.cells #[.int .i64 rm, .slice ai ni ca', .int .i64 z, .slice a n ca, .slice am m cam, .int .i64 op, .int .i64 st] 65)).alloc (.cells #[.int .i64 rm, .slice bi ni cb', .int .i64 z, .slice b n cb, .slice bm m cbm, .int .i64 op, .int .i64 st] 65) := ⟨_, rfl⟩
 have hzA : wA.heap.size = w.heap.size + 1 + 1 := by rw [hwA]; simp
 have HBA : Hid (Below w.heap.size w wA) := by rw [hwA]; exact ((Below.refl _ _).alloc (Nat.le_refl _) _).alloc (by simp) _
 have H0 : Hid (wA.heap[w.heap.size]? = some (.cells #[.int .i64 rm, .slice ai ni ca', .int .i64 z, .slice a n ca, .slice am m cam, .int .i64 op, .int .i64 st] 65)) := by rw [hwA]; exact heap_old (heap_new _ _)
 have H1 : Hid (wA.heap[w.heap.size + 1]? = some (.cells #[.int .i64 rm, .slice bi ni cb', .int .i64 z, .slice b n cb, .slice bm m cbm, .int .i64 op, .int .i64 st] 65)) := by rw [hwA]; exact heap_at (by simp)
 have HY := hide (hy.later HBA.out hry)
 have HY' := hide (hy'.later HBA.out hry')
 have HS := hide (h.later HBA.out hhi)
 have HS' := hide (h'.later HBA.out hhi')
 have HP := hide (hp.later HBA.out hrp)
 have HP' := hide (hp'.later HBA.out hrp')
 clear h h' hp hp' hy hy'
 obtain ⟨c0, c1, c2, c3, c4, c5, c6⟩ := seven_cells H0.out
 obtain ⟨d0, d1, d2, d3, d4, d5, d6⟩ := seven_cells H1.out
 go_enter Tryz.func56, Tryz.ntmps56
 go_wp2_with fail
 rw [<- hwA]
 clear hwA
 refine (eqHeldS_same ai bi ni ca' cb' ys wA HY.out HY'.out hni).mono ?_
 rintro e w1 ⟨rfl, b1⟩
 have K0 := hide (block_on H0.out b1)
 have K1 := hide (block_on H1.out b1)
 have hs1 := b1.size
 have HB1 := hide (below_here HBA.out b1)
 have HS1 := hide (HS.out.later b1 (by omega))
 have HS1' := hide (HS'.out.later b1 (by omega))
 have HP1 := hide (HP.out.later b1 (by omega))
 have HP1' := hide (HP'.out.later b1 (by omega))
 clear b1 c0 c1 c2 c3 c4 c5 c6 d0 d1 d2 d3 d4 d5 d6 HS HS' HP HP' HY HY'
 obtain ⟨c0, c1, c2, c3, c4, c5, c6⟩ := seven_cells K0.out
 obtain ⟨d0, d1, d2, d3, d4, d5, d6⟩ := seven_cells K1.out
 go_wp2_with fail
 refine (eqFtl_same z a b n ca cb qs am bm m cam cbm ps op st w1 HS1.out HS1'.out (by omega) (by omega) hfit HP1.out HP1'.out (by omega) (by omega) hm).mono ?_
 rintro e w2 ⟨rfl, b2⟩
 have HB2 := hide (below_here HB1.out b2)
 clear b2
 go_wp2_with fail
 go_ret
 exact ⟨rfl, HB2.out⟩
set_option maxHeartbeats 1600000 in
theorem markCache_own (rm : Int) (ai : Option Addr) (ni ci : Nat) (ys : List Hd) (z : Int) (a : Option Addr) (n cap : Nat) (qs : List Sq) (am : Option Addr) (m cm : Nat) (ps : List Pl) (op st : Int) (w : World) {lo hi : Nat} (h : CacheOwn lo hi w ai a am ys qs ps) (hni : ys.length = ni) (hn : qs.length = n) (hm : ps.length = m) (hfit : ni + (n + weight qs) <= 1048576) (hm2 : m <= 1048576) :
  Calls Tryz.prog 57 #[.agg #[.int .i64 rm, .slice ai ni ci, .int .i64 z, .slice a n cap, .slice am m cm, .int .i64 op, .int .i64 st], .int .i64 1] w fun e w' => e = .returned (.int .i64 ((1 + 3 * ni + lens qs + 2 * n + 2 * m : Nat) : Int)) ∧ CacheOwn lo hi w' ai a am (hdMark 1 ni) (sqMark qs (1 + 3 * ni)) (plMark (1 + 3 * ni + lens qs + 2 * n) m) ∧ Aside lo hi w w' := by
 obtain ⟨wA, hwA⟩ : ∃ wA, wA = w.alloc (.cells #[.int .i64 rm, .slice ai ni ci, .int .i64 z, .slice a n cap, .slice am m cm, .int .i64 op, .int .i64 st] 65) := ⟨_, rfl⟩
 have hzA : wA.heap.size = w.heap.size + 1 := by rw [hwA]; simp
 have HBA : Hid (Below w.heap.size w wA) := by rw [hwA]; exact (Below.refl _ _).alloc (Nat.le_refl _) _
 have H1 : Hid (wA.heap[w.heap.size]? = some (.cells #[.int .i64 rm, .slice ai ni ci, .int .i64 z, .slice a n cap, .slice am m cm, .int .i64 op, .int .i64 st] 65)) := by rw [hwA]; exact heap_new _ _
 have hhi := h.1
 have h2 := h.later HBA.out h.1
 clear h
 obtain ⟨h0, l1, r1, l2, r2, k1, k2, k3, k4, k5, k6, k7⟩ := h2
 rw [hni] at k6
 have HY := hide k6
 have HF := hide k7
 clear k6 k7
 obtain ⟨c0, c1, c2, c3, c4, c5, c6⟩ := seven_cells H1.out
 have hle := lens_weight qs
 go_enter Tryz.func57, Tryz.ntmps57
 go_wp2_with fail
 rw [<- hwA]
 clear hwA
 refine (markHeldS_to ai ni ci ys 1 wA HY.out (by omega) (by omega) (by omega)).mono ?_
 rintro e w1 ⟨rfl, hy1, hA1⟩
 have hs1 := hA1.size
 have HY1 := hide hy1
 have K1 : Hid (w1.heap[w.heap.size]? = some (.cells #[.int .i64 rm, .slice ai ni ci, .int .i64 z, .slice a n cap, .slice am m cm, .int .i64 op, .int .i64 st] 65)) := (hA1.block _ (by omega) (by omega)).trans H1.out
 have HF1 := hide (HF.out.aside hA1 (by omega))
 have HA1 := hide ((aside_new HBA.out (lo := lo) (hi := hi)).trans (aside_wideQ hA1 k1 k2))
 clear hA1 hy1 c0 c1 c2 c3 c4 c5 c6 HY HF H1
 obtain ⟨c0, c1, c2, c3, c4, c5, c6⟩ := seven_cells K1.out
 obtain ⟨t, ht⟩ : ∃ t, t = 1 + 3 * ni := ⟨_, rfl⟩
 have HT := hide ht
 rw [<- ht]
 have ht9 : t + 3 * (n + weight qs) <= 4194304 := by omega
 have ht1 : 1 <= t := by omega
 clear ht
 go_wp2_with fail
 refine (markFtl_at z a n cap qs am m cm ps op st t w1 HF1.out hn hm (by omega) hm2 ht1 ht9).mono ?_
 rintro e w2 ⟨rfl, hf2, hA2⟩
 have hs2 := hA2.size
 have HF2 := hide hf2
 have HY2 := hide (HY1.out.aside hA2 (by omega))
 have HA2 := hide (HA1.out.trans (aside_wideQ hA2 k3 k4))
 clear hA2 hf2 c0 c1 c2 c3 c4 c5 c6
 obtain ⟨u, hu⟩ : ∃ u, u = t + lens qs + 2 * n + 2 * m := ⟨_, rfl⟩
 have HU := hide hu
 rw [<- hu]
 clear hu
 go_wp2_with fail
 go_ret
 refine ⟨by rw [<- HT.out, <- HU.out]; rfl, ?_, HA2.out⟩
 rw [<- HT.out]
 exact ⟨by omega, l1, r1, l2, r2, k1, k2, k3, k4, k5, by rw [hdMark_length]; exact HY2.out, HF2.out⟩
set_option maxHeartbeats 1600000 in
theorem heldCache_own (rm : Int) (ai : Option Addr) (ni ci : Nat) (z : Int) (a : Option Addr) (n cap : Nat) (qs : List Sq) (am : Option Addr) (m cm : Nat) (op st : Int) (w : World) {ly ry lo hi lo' hi' : Nat} (hy : Helds ly ry w ai ni (hdMark 1 ni)) (hry : ry <= w.heap.size) (h : Squares lo hi w a n (sqMark qs (1 + 3 * ni))) (hhi : hi <= w.heap.size) (hp : Places lo' hi' w am m (plMark (1 + 3 * ni + lens qs + 2 * n) m)) (hhi' : hi' <= w.heap.size) (hfit : ni + (n + weight qs) <= 1048576) (hm2 : m <= 1048576) :
  Calls Tryz.prog 58 #[.agg #[.int .i64 rm, .slice ai ni ci, .int .i64 z, .slice a n cap, .slice am m cm, .int .i64 op, .int .i64 st], .int .i64 1] w fun e w' => e = .returned (.int .i64 ((1 + 3 * ni + lens qs + 2 * n + 2 * m : Nat) : Int)) ∧ Below w.heap.size w w' := by
 obtain ⟨wA, hwA⟩ : ∃ wA, wA = w.alloc (.cells #[.int .i64 rm, .slice ai ni ci, .int .i64 z, .slice a n cap, .slice am m cm, .int .i64 op, .int .i64 st] 65) := ⟨_, rfl⟩
 have hzA : wA.heap.size = w.heap.size + 1 := by rw [hwA]; simp
 have HBA : Hid (Below w.heap.size w wA) := by rw [hwA]; exact (Below.refl _ _).alloc (Nat.le_refl _) _
 have H1 : Hid (wA.heap[w.heap.size]? = some (.cells #[.int .i64 rm, .slice ai ni ci, .int .i64 z, .slice a n cap, .slice am m cm, .int .i64 op, .int .i64 st] 65)) := by rw [hwA]; exact heap_new _ _
 have HY := hide (hy.later HBA.out hry)
 have HS := hide (h.later HBA.out hhi)
 have HP := hide (hp.later HBA.out hhi')
 clear h hp hy
 obtain ⟨c0, c1, c2, c3, c4, c5, c6⟩ := seven_cells H1.out
 go_enter Tryz.func58, Tryz.ntmps58
 go_wp2_with fail
 rw [<- hwA]
 clear hwA
 refine (heldHeldS_any ai ni ci 1 wA HY.out (by omega) (by omega) (by omega) (by omega)).mono ?_
 rintro e w1 ⟨rfl, b1⟩
 have hs1 := b1.size
 have K1 := hide (block_on H1.out b1)
 have HS1 := hide (HS.out.later b1 (by omega))
 have HP1 := hide (HP.out.later b1 (by omega))
 have HB1 := hide (below_here HBA.out b1)
 clear b1 c0 c1 c2 c3 c4 c5 c6
 obtain ⟨c0, c1, c2, c3, c4, c5, c6⟩ := seven_cells K1.out
 obtain ⟨t, ht⟩ : ∃ t, t = 1 + 3 * ni := ⟨_, rfl⟩
 have HT := hide ht
 rw [<- ht] at HS1 HP1
 rw [<- ht]
 have ht9 : t + 3 * (n + weight qs) <= 4194304 := by omega
 have ht1 : 1 <= t := by omega
 clear ht
 have g0 : decide ((t : Int) < 0) = false := by simp
 go_wp2_with fail
 refine (heldFtl_at z a n cap qs am m cm op st t w1 HS1.out (by omega) HP1.out (by omega) (by omega) hm2 ht1 ht9).mono ?_
 rintro e w2 ⟨rfl, b2⟩
 have HB2 := hide (below_here HB1.out b2)
 clear b2
 obtain ⟨u, hu⟩ : ∃ u, u = t + lens qs + 2 * n + 2 * m := ⟨_, rfl⟩
 have HU := hide hu
 rw [<- hu]
 clear hu
 have g1 : decide ((u : Int) < 0) = false := by simp
 go_wp2_with fail
 go_ret
 exact ⟨by rw [<- HT.out, <- HU.out]; rfl, HB2.out⟩
end Go.Proofs.YtkbhcdkfjniafaaGreatDoor
end

section
namespace Go.Proofs.YtkbhcdkfjniafaaGreatDoor
open Go.RowKit
set_option linter.unusedVariables false
structure VarF (s b lo hi : Nat) (z : Int) (qs : List Sq) (ps : List Pl) (op st : Int) (a : Option Addr) (c : Nat) (am : Option Addr) (cm : Nat) (w : World) : Prop where
 var : w.heap[b]? = some (.cells #[.int .i64 z, .slice a qs.length c, .slice am ps.length cm, .int .i64 op, .int .i64 st] 29)
 own : FtlOwn lo hi w a am qs ps
 apart : b < lo ∨ hi <= b
 atB : s <= b
 atL : s <= lo
section
variable {s b lo hi c cm : Nat} {z op st : Int} {qs : List Sq} {ps : List Pl} {a am : Option Addr} {w w' : World}
theorem VarF.lt (h : VarF s b lo hi z qs ps op st a c am cm w) : b < w.heap.size := (Array.getElem?_eq_some_iff.1 h.var).1
theorem VarF.on (h : VarF s b lo hi z qs ps op st a c am cm w) (hb : Below w.heap.size w w') : VarF s b lo hi z qs ps op st a c am cm w' := ⟨block_on h.var hb, h.own.later hb h.own.1, h.apart, h.atB, h.atL⟩
theorem VarF.aside (h : VarF s b lo hi z qs ps op st a c am cm w) {l r : Nat} (hb : Aside l r w w') (h1 : b < l ∨ r <= b) (h2 : r <= lo ∨ hi <= l) : VarF s b lo hi z qs ps op st a c am cm w' :=
 ⟨(hb.block b h.lt h1).trans h.var, h.own.aside hb h2, h.apart, h.atB, h.atL⟩
theorem VarF.cells (h : VarF s b lo hi z qs ps op st a c am cm w) : w.cell? ⟨b, 0, none⟩ = some (.int .i64 z) ∧ w.cell? ⟨b, 1, none⟩ = some (.slice a qs.length c) ∧ w.cell? ⟨b, 2, none⟩ = some (.slice am ps.length cm) ∧ w.cell? ⟨b, 3, none⟩ = some (.int .i64 op) ∧ w.cell? ⟨b, 4, none⟩ = some (.int .i64 st) := five_cells h.var
theorem VarF.squares (h : VarF s b lo hi z qs ps op st a c am cm w) : Squares lo hi w a qs.length qs := h.own.squares
theorem VarF.places (h : VarF s b lo hi z qs ps op st a c am cm w) : Places lo hi w am ps.length ps := h.own.places
theorem VarF.hi_le (h : VarF s b lo hi z qs ps op st a c am cm w) : hi <= w.heap.size := h.own.1
end
theorem squares_wide {lo hi lo' hi' n : Nat} {w : World} {a : Option Addr} {qs : List Sq} (h : Squares lo hi w a n qs) (h1 : lo' <= lo) (h2 : hi <= hi') (h3 : hi' <= w.heap.size) : Squares lo' hi' w a n qs := by
 obtain ⟨h4, A, C, h5, h6⟩ := h
 exact ⟨h4, A, C, reads_wide h5 h1 h2 h3, fun i hi => ⟨(h6 i hi).1, reads_wide (h6 i hi).2 h1 h2 h3⟩⟩
theorem places_wide {lo hi lo' hi' n : Nat} {w : World} {a : Option Addr} {ps : List Pl} (h : Places lo hi w a n ps) (h1 : lo' <= lo) (h2 : hi <= hi') (h3 : hi' <= w.heap.size) : Places lo' hi' w a n ps := ⟨h.1, reads_wide h.2 h1 h2 h3⟩
end Go.Proofs.YtkbhcdkfjniafaaGreatDoor
end

section
namespace Go.Proofs.YtkbhcdkfjniafaaGreatDoor
open Go.RowKit
set_option linter.unusedVariables false
structure BoxF (w : World) (z : Int) (a : Option Addr) (n cap : Nat) (am : Option Addr) (m cm : Nat) (op st : Int) (w' : World) : Prop where
 ftl : w'.heap[w.heap.size]? = some (.cells #[.int .i64 z, .slice a n cap, .slice am m cm, .int .i64 op, .int .i64 st] 91)
 below : Below w.heap.size w w'
section
variable {w : World} {z : Int} {a : Option Addr} {n cap : Nat} {am : Option Addr} {m cm : Nat} {op st : Int} {w1 w2 : World}
theorem BoxF.on (h : BoxF w z a n cap am m cm op st w1) (hb : Below w1.heap.size w1 w2) : BoxF w z a n cap am m cm op st w2 := ⟨block_on h.ftl hb, below_here h.below hb⟩
theorem BoxF.size (h : BoxF w z a n cap am m cm op st w1) : w.heap.size + 1 <= w1.heap.size := (Array.getElem?_eq_some_iff.1 h.ftl).1
theorem BoxF.aside (h : BoxF w z a n cap am m cm op st w1) {l r : Nat} (hb : Aside l r w1 w2) (hl : w.heap.size + 1 <= l) : BoxF w z a n cap am m cm op st w2 :=
 ⟨(hb.block _ h.size (.inl (by omega))).trans h.ftl, h.below.trans (hb.below (by omega) (by have := h.size; omega))⟩
theorem BoxF.cells (h : BoxF w z a n cap am m cm op st w1) :
  w1.cell? ⟨w.heap.size, 0, none⟩ = some (.int .i64 z) ∧ w1.cell? ⟨w.heap.size, 1, none⟩ = some (.slice a n cap) ∧ w1.cell? ⟨w.heap.size, 2, none⟩ = some (.slice am m cm) ∧ w1.cell? ⟨w.heap.size, 3, none⟩ = some (.int .i64 op) ∧ w1.cell? ⟨w.heap.size, 4, none⟩ = some (.int .i64 st) := five_cells h.ftl
end
structure BoxC (w : World) (z : Int) (a : Option Addr) (n cap : Nat) (w' : World) : Prop where
 chip : w'.heap[w.heap.size]? = some (.cells #[.int .i64 z, .slice a n cap] 88)
 below : Below w.heap.size w w'
section
variable {w : World} {z : Int} {a : Option Addr} {n cap : Nat} {w1 w2 : World}
theorem BoxC.on (h : BoxC w z a n cap w1) (hb : Below w1.heap.size w1 w2) : BoxC w z a n cap w2 := ⟨block_on h.chip hb, below_here h.below hb⟩
theorem BoxC.size (h : BoxC w z a n cap w1) : w.heap.size + 1 <= w1.heap.size := (Array.getElem?_eq_some_iff.1 h.chip).1
theorem BoxC.aside (h : BoxC w z a n cap w1) {l r : Nat} (hb : Aside l r w1 w2) (hl : w.heap.size + 1 <= l) : BoxC w z a n cap w2 :=
 ⟨(hb.block _ h.size (.inl (by omega))).trans h.chip, h.below.trans (hb.below (by omega) (by have := h.size; omega))⟩
theorem BoxC.cells (h : BoxC w z a n cap w1) : w1.cell? ⟨w.heap.size, 0, none⟩ = some (.int .i64 z) ∧ w1.cell? ⟨w.heap.size, 1, none⟩ = some (.slice a n cap) := two_cells h.chip
end
structure BoxFF (w : World) (z : Int) (a : Option Addr) (n cap : Nat) (am : Option Addr) (m cm : Nat) (op st : Int) (z' : Int) (a' : Option Addr) (n' cap' : Nat) (am' : Option Addr) (m' cm' : Nat) (op' st' : Int) (w' : World) : Prop where
 one : w'.heap[w.heap.size]? = some (.cells #[.int .i64 z, .slice a n cap, .slice am m cm, .int .i64 op, .int .i64 st] 91)
 two : w'.heap[w.heap.size + 1]? = some (.cells #[.int .i64 z', .slice a' n' cap', .slice am' m' cm', .int .i64 op', .int .i64 st'] 91)
 below : Below w.heap.size w w'
section
variable {w : World} {z : Int} {a : Option Addr} {n cap : Nat} {am : Option Addr} {m cm : Nat} {op st : Int} {z' : Int} {a' : Option Addr} {n' cap' : Nat} {am' : Option Addr} {m' cm' : Nat} {op' st' : Int} {w1 w2 : World}
theorem BoxFF.on (h : BoxFF w z a n cap am m cm op st z' a' n' cap' am' m' cm' op' st' w1) (hb : Below w1.heap.size w1 w2) : BoxFF w z a n cap am m cm op st z' a' n' cap' am' m' cm' op' st' w2 := ⟨block_on h.one hb, block_on h.two hb, below_here h.below hb⟩
theorem BoxFF.size (h : BoxFF w z a n cap am m cm op st z' a' n' cap' am' m' cm' op' st' w1) : w.heap.size + 2 <= w1.heap.size := (Array.getElem?_eq_some_iff.1 h.two).1
theorem BoxFF.cells (h : BoxFF w z a n cap am m cm op st z' a' n' cap' am' m' cm' op' st' w1) :
  (w1.cell? ⟨w.heap.size, 0, none⟩ = some (.int .i64 z) ∧ w1.cell? ⟨w.heap.size, 1, none⟩ = some (.slice a n cap) ∧ w1.cell? ⟨w.heap.size, 2, none⟩ = some (.slice am m cm) ∧ w1.cell? ⟨w.heap.size, 3, none⟩ = some (.int .i64 op) ∧ w1.cell? ⟨w.heap.size, 4, none⟩ = some (.int .i64 st)) ∧
  (w1.cell? ⟨w.heap.size + 1, 0, none⟩ = some (.int .i64 z') ∧ w1.cell? ⟨w.heap.size + 1, 1, none⟩ = some (.slice a' n' cap') ∧ w1.cell? ⟨w.heap.size + 1, 2, none⟩ = some (.slice am' m' cm') ∧ w1.cell? ⟨w.heap.size + 1, 3, none⟩ = some (.int .i64 op') ∧ w1.cell? ⟨w.heap.size + 1, 4, none⟩ = some (.int .i64 st')) := ⟨five_cells h.one, five_cells h.two⟩
end
end Go.Proofs.YtkbhcdkfjniafaaGreatDoor
end

section
namespace Go.Proofs.YtkbhcdkfjniafaaGreatDoor
open Go.RowKit
set_option linter.unusedVariables false
structure BoxK (w : World) (rm : Int) (ai : Option Addr) (ni ci : Nat) (z : Int) (a : Option Addr) (n cap : Nat) (am : Option Addr) (m cm : Nat) (op st : Int) (w' : World) : Prop where
 cache : w'.heap[w.heap.size]? = some (.cells #[.int .i64 rm, .slice ai ni ci, .int .i64 z, .slice a n cap, .slice am m cm, .int .i64 op, .int .i64 st] 93)
 below : Below w.heap.size w w'
section
variable {w : World} {rm : Int} {ai : Option Addr} {ni ci : Nat} {z : Int} {a : Option Addr} {n cap : Nat} {am : Option Addr} {m cm : Nat} {op st : Int} {w1 w2 : World}
theorem BoxK.on (h : BoxK w rm ai ni ci z a n cap am m cm op st w1) (hb : Below w1.heap.size w1 w2) : BoxK w rm ai ni ci z a n cap am m cm op st w2 := ⟨block_on h.cache hb, below_here h.below hb⟩
theorem BoxK.size (h : BoxK w rm ai ni ci z a n cap am m cm op st w1) : w.heap.size + 1 <= w1.heap.size := (Array.getElem?_eq_some_iff.1 h.cache).1
theorem BoxK.aside (h : BoxK w rm ai ni ci z a n cap am m cm op st w1) {l r : Nat} (hb : Aside l r w1 w2) (hl : w.heap.size + 1 <= l) : BoxK w rm ai ni ci z a n cap am m cm op st w2 :=
 ⟨(hb.block _ h.size (.inl (by omega))).trans h.cache, h.below.trans (hb.below (by omega) (by have := h.size; omega))⟩
theorem BoxK.cells (h : BoxK w rm ai ni ci z a n cap am m cm op st w1) :
  w1.cell? ⟨w.heap.size, 0, none⟩ = some (.int .i64 rm) ∧ w1.cell? ⟨w.heap.size, 1, none⟩ = some (.slice ai ni ci) ∧ w1.cell? ⟨w.heap.size, 2, none⟩ = some (.int .i64 z) ∧ w1.cell? ⟨w.heap.size, 3, none⟩ = some (.slice a n cap) ∧ w1.cell? ⟨w.heap.size, 4, none⟩ = some (.slice am m cm) ∧ w1.cell? ⟨w.heap.size, 5, none⟩ = some (.int .i64 op) ∧ w1.cell? ⟨w.heap.size, 6, none⟩ = some (.int .i64 st) := seven_cells h.cache
end
structure CRd (lo hi : Nat) (w : World) (ai a am : Option Addr) (ys : List Hd) (qs : List Sq) (ps : List Pl) : Prop where
 helds : Helds lo hi w ai ys.length ys
 squares : Squares lo hi w a qs.length qs
 places : Places lo hi w am ps.length ps
 hi_le : hi <= w.heap.size
theorem CacheOwn.rd {lo hi : Nat} {w : World} {ai a am : Option Addr} {ys : List Hd} {qs : List Sq} {ps : List Pl} (h : CacheOwn lo hi w ai a am ys qs ps) : CRd lo hi w ai a am ys qs ps := ⟨h.helds, h.squares, h.places, h.1⟩
theorem CRd.later {lo hi : Nat} {w w' : World} {ai a am : Option Addr} {ys : List Hd} {qs : List Sq} {ps : List Pl} (h : CRd lo hi w ai a am ys qs ps) {B : Nat} (hb : Below B w w') (hB : hi <= B) : CRd lo hi w' ai a am ys qs ps :=
 ⟨h.helds.later hb hB, h.squares.later hb hB, h.places.later hb hB, Nat.le_trans h.hi_le hb.size⟩
theorem CRd.aside {lo hi : Nat} {w w' : World} {ai a am : Option Addr} {ys : List Hd} {qs : List Sq} {ps : List Pl} (h : CRd lo hi w ai a am ys qs ps) {l r : Nat} (hb : Aside l r w w') (hB : r <= lo ∨ hi <= l) : CRd lo hi w' ai a am ys qs ps :=
 ⟨h.helds.aside hb (by omega), h.squares.aside hb (by omega), Places.mk_of h.places hb (by omega), Nat.le_trans h.hi_le hb.size⟩
theorem CRd.wide {lo hi lo' hi' : Nat} {w : World} {ai a am : Option Addr} {ys : List Hd} {qs : List Sq} {ps : List Pl} (h : CRd lo hi w ai a am ys qs ps) (h1 : lo' <= lo) (h2 : hi <= hi') (h3 : hi' <= w.heap.size) : CRd lo' hi' w ai a am ys qs ps :=
 ⟨helds_wide h.helds h1 h2 h3, squares_wide h.squares h1 h2 h3, places_wide h.places h1 h2 h3, h3⟩
def CacheRd (w : World) (c : Cv) (v : Value) (w' : World) : Prop := ∃ ai ci a cp am cm, v = cvV c ai ci a cp am cm ∧ CRd w.heap.size w'.heap.size w' ai a am c.ys c.f.qs c.f.ps ∧ Below w.heap.size w w'
theorem CacheAns.toRd {w w' : World} {c : Cv} {v : Value} (h : CacheAns w c v w') : CacheRd w c v w' := by
 obtain ⟨ai, ci, a, cp, am, cm, h1, h2, h3, _⟩ := h
 exact ⟨ai, ci, a, cp, am, cm, h1, h2.rd, h3⟩
structure VarK (s b lo hi : Nat) (rm : Int) (ys : List Hd) (z : Int) (qs : List Sq) (ps : List Pl) (op st : Int) (ai : Option Addr) (ci : Nat) (a : Option Addr) (c : Nat) (am : Option Addr) (cm : Nat) (w : World) : Prop where
 var : w.heap[b]? = some (.cells #[.int .i64 rm, .slice ai ys.length ci, .int .i64 z, .slice a qs.length c, .slice am ps.length cm, .int .i64 op, .int .i64 st] 65)
 rd : CRd lo hi w ai a am ys qs ps
 apart : b < lo ∨ hi <= b
 atB : s <= b
 atL : s <= lo
section
variable {s b lo hi ci c cm : Nat} {rm z op st : Int} {ys : List Hd} {qs : List Sq} {ps : List Pl} {ai a am : Option Addr} {w w' : World}
theorem VarK.lt (h : VarK s b lo hi rm ys z qs ps op st ai ci a c am cm w) : b < w.heap.size := (Array.getElem?_eq_some_iff.1 h.var).1
theorem VarK.on (h : VarK s b lo hi rm ys z qs ps op st ai ci a c am cm w) (hb : Below w.heap.size w w') : VarK s b lo hi rm ys z qs ps op st ai ci a c am cm w' := ⟨block_on h.var hb, h.rd.later hb h.rd.hi_le, h.apart, h.atB, h.atL⟩
theorem VarK.aside (h : VarK s b lo hi rm ys z qs ps op st ai ci a c am cm w) {l r : Nat} (hb : Aside l r w w') (h1 : b < l ∨ r <= b) (h2 : r <= lo ∨ hi <= l) : VarK s b lo hi rm ys z qs ps op st ai ci a c am cm w' :=
 ⟨(hb.block b h.lt h1).trans h.var, h.rd.aside hb h2, h.apart, h.atB, h.atL⟩
theorem VarK.cells (h : VarK s b lo hi rm ys z qs ps op st ai ci a c am cm w) : w.cell? ⟨b, 0, none⟩ = some (.int .i64 rm) ∧ w.cell? ⟨b, 1, none⟩ = some (.slice ai ys.length ci) ∧ w.cell? ⟨b, 2, none⟩ = some (.int .i64 z) ∧ w.cell? ⟨b, 3, none⟩ = some (.slice a qs.length c) ∧ w.cell? ⟨b, 4, none⟩ = some (.slice am ps.length cm) ∧ w.cell? ⟨b, 5, none⟩ = some (.int .i64 op) ∧ w.cell? ⟨b, 6, none⟩ = some (.int .i64 st) := seven_cells h.var
theorem VarK.hi_le (h : VarK s b lo hi rm ys z qs ps op st ai ci a c am cm w) : hi <= w.heap.size := h.rd.hi_le
theorem varK_new {w1 : World} (hq : CRd w1.heap.size w'.heap.size w' ai a am ys qs ps) (hs : s <= w1.heap.size) (h1 : w1.heap.size <= w'.heap.size) :
  VarK s w'.heap.size w1.heap.size w'.heap.size rm ys z qs ps op st ai ci a c am cm (w'.alloc (.cells #[.int .i64 rm, .slice ai ys.length ci, .int .i64 z, .slice a qs.length c, .slice am ps.length cm, .int .i64 op, .int .i64 st] 65)) :=
 ⟨heap_new _ _, hq.later ((Below.refl w'.heap.size w').alloc (Nat.le_refl _) _) (Nat.le_refl _), .inr (Nat.le_refl _), Nat.le_trans hs h1, hs⟩
end
end Go.Proofs.YtkbhcdkfjniafaaGreatDoor
end

section
namespace Go.Proofs.YtkbhcdkfjniafaaGreatDoor
open Go.RowKit
set_option linter.unusedVariables false
set_option linter.unusedSimpArgs false
set_option maxRecDepth 20000
def hdV (x : Hd) : List Value := [.int .i64 x.1, .string x.2.1, .bool x.2.2]
def hdL (ys : List Hd) : List Value := ys.flatMap hdV
theorem hdL_append (xs ys : List Hd) : hdL (xs ++ ys) = hdL xs ++ hdL ys := List.flatMap_append
theorem hdL_length (ys : List Hd) : (hdL ys).length = ys.length * 3 := by
 induction ys with
 | nil => rfl
 | cons y ys ih => show (hdV y ++ hdL ys).length = _; rw [List.length_append, ih]; simp [hdV]; omega
theorem hdL_at (ys : List Hd) {j : Nat} (h : j < ys.length * 3) : (hdL ys)[j]? = some (cellH ys j) := by
 induction ys generalizing j with
 | nil => simp at h
 | cons y ys ih =>
  have e : hdL (y :: ys) = hdV y ++ hdL ys := rfl
  rw [e]
  by_cases h3 : j < 3
  ·rw [List.getElem?_append_left (by simp [hdV]; omega)]
   have : j = 0 ∨ j = 1 ∨ j = 2 := by omega
   rcases this with rfl | rfl | rfl <;> rfl
  ·rw [List.getElem?_append_right (by simp [hdV]; omega)]
   have hl : (hdV y).length = 3 := rfl
   simp only [List.length_cons] at h
   rw [hl, ih (by omega)]
   congr 1
   unfold cellH
   rw [show (j - 3) % 3 = j % 3 by omega]
   have hq : hdAt ys ((j - 3) / 3) = hdAt (y :: ys) (j / 3) := by
    unfold hdAt
    rw [show j / 3 = (j - 3) / 3 + 1 by omega]
    rfl
   rw [hq]
theorem hdL_one (ys : List Hd) : ∀ u ∈ hdL ys, u.oneCell' = true := by
 intro u hu
 obtain ⟨y, _, hy⟩ := List.mem_flatMap.1 hu
 simp only [hdV, List.mem_cons, List.not_mem_nil, or_false] at hy
 rcases hy with rfl | rfl | rfl <;> rfl
theorem hdV_one (x : Hd) : ∀ u ∈ hdV x, u.oneCell' = true := by
 intro u hu
 simp only [hdV, List.mem_cons, List.not_mem_nil, or_false] at hu
 rcases hu with rfl | rfl | rfl <;> rfl
abbrev HdOwn (B : Nat) (w : World) (v : Value) (ys : List Hd) : Prop := w.ownsRow B 83 3 v ys.length (hdL ys)
theorem hd_made0 (w : World) : HdOwn w.heap.size (w.alloc (.cells #[] 83)) (.slice (some ⟨w.heap.size, 0, none⟩) 0 0) [] := by
 have hb : (w.alloc (.cells #[] 83)).heap[w.heap.size]? = some (.cells #[] 83 (0, 0)) := heap_new _ _
 exact ⟨rfl, .inr ⟨w.heap.size, 0, #[], rfl, Nat.le_refl _, hb, Nat.le_refl _, Nat.zero_le _, rfl, rfl⟩⟩
theorem hd_form {B : Nat} {w : World} {v : Value} {ys : List Hd} (h : HdOwn B w v ys) : ∃ a c, v = .slice a ys.length c ∧ ys.length <= c := by
 rcases h.2 with ⟨e, h0⟩ | ⟨g, cap, cur, e, _, _, hn, _⟩
 ·exact ⟨none, 0, by rw [e, h0], by omega⟩
 ·exact ⟨_, cap, e, hn⟩
theorem hd_own {B : Nat} {w : World} {a : Option Addr} {n c : Nat} {ys : List Hd} (h : HdOwn B w (.slice a n c) ys) : OwnHelds B w.heap.size w a ys.length ys := by
 refine ⟨rfl, Nat.le_refl _, fun h0 => ?_⟩
 rcases h.2 with ⟨_, h1⟩ | ⟨g, cap, cur, e, hg, hgg, _⟩
 ·omega
 ·simp only [Value.slice.injEq] at e
  obtain ⟨rfl, rfl, rfl⟩ := e
  refine ⟨g, 0, rfl, hg, (Array.getElem?_eq_some_iff.1 hgg).1, fun i hi => ⟨?_, by rw [Nat.zero_add]; exact h.frozenAt i⟩⟩
  rw [Nat.zero_add, h.cellAt i (by omega), hdL_at ys (by omega)]
theorem hd_some {B : Nat} {w : World} {v : Value} {ys : List Hd} (h : HdOwn B w v ys) (h1 : 1 <= ys.length) : ∃ g c, v = .slice (some ⟨g, 0, none⟩) ys.length c ∧ ys.length <= c ∧ B <= g ∧ g < w.heap.size := by
 rcases h.2 with ⟨e, h0⟩ | ⟨g, cap, cur, e, hb, hgg, hn, _⟩
 ·omega
 ·exact ⟨g, cap, e, hn, hb, (Array.getElem?_eq_some_iff.1 hgg).1⟩
theorem hd_read {lo hi n k : Nat} {w : World} {a : Option Addr} {ys : List Hd} (h : Helds lo hi w a n ys) (hk : k < n) : ∃ b off, a = some ⟨b, off, none⟩ ∧ lo <= b ∧ b < hi ∧ w.cell? ⟨b, off + k * 3, none⟩ = some (.int .i64 (hdAt ys k).1) ∧ w.cell? ⟨b, off + k * 3 + 1, none⟩ = some (.string (hdAt ys k).2.1) ∧ w.cell? ⟨b, off + k * 3 + 2, none⟩ = some (.bool (hdAt ys k).2.2) := by
 obtain ⟨b, off, e, h1, h2, h3⟩ := h.2.2 (by omega)
 refine ⟨b, off, e, h1, h2, ?_, ?_, ?_⟩
 ·rw [show off + k * 3 = off + 3 * k by omega, h3 _ (by omega), cellH0]
 ·rw [show off + k * 3 + 1 = off + (3 * k + 1) by omega, h3 _ (by omega), cellH1]
 ·rw [show off + k * 3 + 2 = off + (3 * k + 2) by omega, h3 _ (by omega), cellH2]
theorem Tryz.infoHeld : (Tryz.prog.info? 83).map (fun i => (i.zero, i.size, i.bytes)) = some (some (.agg #[.int .i64 0, .string ByteArray.empty, .bool false]), 3, 32) := by kernel_rfl
theorem append_helds {P : Program} (hinfo : (P.info? 83).map (fun i => (i.zero, i.size, i.bytes)) = some (some (.agg #[.int .i64 0, .string ByteArray.empty, .bool false]), 3, 32)) {t : TypeId} (ht : P.underlying t = some (.slice 83)) {B : Nat} {w : World} {a0 : Option Addr} {n0 c0 : Nat} {ys : List Hd} (ho : HdOwn B w (.slice a0 n0 c0) ys) (hB : B <= w.heap.size)
  {lo hi : Nat} {a : Option Addr} {n c : Nat} {xs : List Hd} (hx : Helds lo hi w a n xs) (hn : n0 + n <= 1048576) :
  ∃ a' c' w', (Builtin.append_ #[t, t] t #[.slice a0 n0 c0, .slice a n c]).run P w = .ok (.slice a' (n0 + n) c') w' ∧ HdOwn B w' (.slice a' (n0 + n) c') (ys ++ xs) ∧ w.grownBy w' (Value.slice a0 n0 c0).ownBlock ∧ ((Value.slice a' (n0 + n) c').ownBlock = (Value.slice a0 n0 c0).ownBlock ∨ (Value.slice a' (n0 + n) c').ownBlock = some w.heap.size) := by
 obtain ⟨i0, hi0, hz0, hz1, hz2⟩ := info_parts hinfo
 obtain ⟨hl, _, hx⟩ := hx
 subst hl
 have hn0 : n0 = ys.length := by
  obtain ⟨a1, c1, e, _⟩ := hd_form ho
  simp only [Value.slice.injEq] at e
  exact e.2.1
 by_cases h0 : xs.length = 0
 ·have hts : xs = [] := List.eq_nil_of_length_eq_zero h0
  subst hts
  refine ⟨a0, c0, w, ?_, by rw [List.append_nil]; exact ho, ⟨rfl, rfl, rfl, Nat.le_refl _, fun _ _ _ => rfl⟩, .inl rfl⟩
  obtain ⟨a1, c1, e, hc1⟩ := hd_form ho
  simp only [Value.slice.injEq] at e
  obtain ⟨rfl, _, rfl⟩ := e
  cases a0 with
  | none =>
   rcases ho.2 with ⟨e, h1⟩ | ⟨g, cap, cur, e, _⟩
   ·simp only [Value.slice.injEq, true_and] at e
    obtain ⟨rfl, rfl⟩ := e
    cases a <;> simp [Builtin.append_, run_underlying ht, sizeOf, typeInfo, hi0, Builtin.lenOf, Builtin.firstCells, storeCells, loadCells, loadCellsFrom]
   ·simp at e
  | some x => cases a <;> simp [Builtin.append_, run_underlying ht, sizeOf, typeInfo, hi0, Builtin.lenOf, Builtin.firstCells, storeCells, loadCells, loadCellsFrom, hn0, hc1]
 ·obtain ⟨b, off, rfl, _, _, hc⟩ := hx (by omega)
  have hnews : ∀ (j : Nat) u, (hdL xs)[j]? = some u -> w.cell? ((⟨b, off, none⟩ : Addr).add j) = some u := by
   intro j u hj
   have hjl : j < xs.length * 3 := by
    rcases Nat.lt_or_ge j (xs.length * 3) with h | h
    ·exact h
    ·rw [List.getElem?_eq_none (by rw [hdL_length]; exact h)] at hj; simp at hj
   have hadd : (⟨b, off, none⟩ : Addr).add j = ⟨b, off + j, none⟩ := by unfold Addr.add; split <;> simp_all
   rw [hadd, hc j (by omega), <- hj, hdL_at xs hjl]
  obtain ⟨v', w', h1, h2, h3, h4, h5⟩ := run_append_own_at (P := P) w B t t 83 i0 (.agg #[.int .i64 0, .string ByteArray.empty, .bool false]) 3 32 ht hi0 hz0 hz1 hz2 rfl (by decide) _ ys.length (hdL ys) ho ⟨b, off, none⟩ xs.length c (hdL xs) (by rw [hdL_length]) hnews
   (hdL_one xs) (by unfold maxLen; omega) (by omega) hB
  rw [<- hdL_append] at h2
  have h2' : HdOwn B w' v' (ys ++ xs) := by
   show World.ownsRow _ _ _ _ _ (ys ++ xs).length _
   rw [List.length_append]
   exact h2
  obtain ⟨a', c', rfl, _⟩ := hd_form h2'
  rw [List.length_append, <- hn0] at h1 h2' h5
  exact ⟨a', c', w', h1, h2', h3, h5⟩
end Go.Proofs.YtkbhcdkfjniafaaGreatDoor
end

section
namespace Go.Proofs.YtkbhcdkfjniafaaGreatDoor
open Go.RowKit
set_option linter.unusedVariables false
set_option maxRecDepth 20000
theorem step_append_run {P : Program} {ops : Array Oper} {o : Oper} {a : Act} {w : World} {K : Act -> World -> Prop} {Q : Exit -> Act -> World -> Prop} {E : Prop}
  (hg : o.guard = none) (s x : Operand) (t : TypeId) (hop : o.op = Op.call { callee := Callee.builtin Builtin.append, args := #[s, x], argTypes := #[t, t] })
  (v1 v2 v' : Value) (w' : World) (hs : a.eval s = v1) (hx : a.eval x = v2) (hrun : (Builtin.append_ #[t, t] o.type #[v1, v2]).run P w = .ok v' w')
  (hK : K (a.put o.dst v') w') : if Region.wanted o (yielded ops a.tmps) = true then Oper.wp P o a w K Q else E := by
 have hw : Region.wanted o (yielded ops a.tmps) = true := by simp [Region.wanted, hg]
 rw [if_pos hw]
 unfold Oper.wp
 simp [execOp, hop, resolve, invoke, builtin, hs, hx, hrun, Result.andThen]
 exact hK
set_option maxHeartbeats 6400000 in
theorem l12Copy_any (rm : Int) (ai : Option Addr) (ni ci : Nat) (ys : List Hd) (z : Int) (a : Option Addr) (n cap : Nat) (qs : List Sq) (am : Option Addr) (m cm : Nat) (ps : List Pl) (op st : Int) (w : World) {l1 r1 lo hi lo' hi' : Nat} (hy : Helds l1 r1 w ai ni ys) (hr1 : r1 <= w.heap.size) (hni : ni <= 1000) (h : Squares lo hi w a n qs) (hhi : hi <= w.heap.size) (hok : chipOk z qs = true) (hp : Places lo' hi' w am m ps) (hhi' : hi' <= w.heap.size) (hm1 : 1 <= m) (hm : m <= 64) :
  Calls Tryz.prog 123 #[.agg #[.int .i64 rm, .slice ai ni ci, .int .i64 z, .slice a n cap, .slice am m cm, .int .i64 op, .int .i64 st]] w fun e w' => ∃ aj cj g c' gm cm' A C, e = .returned (.agg #[.int .i64 rm, .slice aj ni cj, .int .i64 z, .slice (some ⟨g, 0, none⟩) n c', .slice (some ⟨gm, 0, none⟩) m cm', .int .i64 op, .int .i64 st]) ∧ HdOwn w.heap.size w' (.slice aj ni cj) ys ∧ GrowSqs w.heap.size w' n qs g A C ∧ PlOwn w.heap.size w' (.slice (some ⟨gm, 0, none⟩) ps.length cm') ps ∧ gm ≠ g ∧ (Value.slice aj ni cj).ownBlock ≠ some g ∧ Below w.heap.size w w' := by
 obtain ⟨wA, hwA⟩ : ∃ wA, wA = (w.alloc (.cells #[.int .i64 rm, .slice ai ni ci, .int .i64 z, .slice a n cap, .slice am m cm, .int .i64 op, .int .i64 st] 65)).alloc (.cells #[.int .i64 0, .slice none 0 0, .int .i64 0, .slice none 0 0, .slice none 0 0, .int .i64 0, .int .i64 0] 65) := ⟨_, rfl⟩
 have hzA : wA.heap.size = w.heap.size + 1 + 1 := by rw [hwA]; simp
 have HBA : Hid (Below w.heap.size w wA) := by rw [hwA]; exact ((Below.refl _ _).alloc (Nat.le_refl _) _).alloc (by simp) _
 have H0 : Hid (wA.heap[w.heap.size]? = some (.cells #[.int .i64 rm, .slice ai ni ci, .int .i64 z, .slice a n cap, .slice am m cm, .int .i64 op, .int .i64 st] 65)) := by rw [hwA]; exact heap_old (heap_new _ _)
 have H1 : Hid (wA.heap[w.heap.size + 1]? = some (.cells #[.int .i64 0, .slice none 0 0, .int .i64 0, .slice none 0 0, .slice none 0 0, .int .i64 0, .int .i64 0] 65)) := by rw [hwA]; exact heap_at (by simp)
 have HYA := hide (hy.later HBA.out hr1)
 have HSA := hide (h.later HBA.out hhi)
 have HPA := hide (hp.later HBA.out hhi')
 clear h hp hy
 obtain ⟨c0, c1, c2, c3, c4, c5, c6⟩ := seven_cells H0.out
 have HSK : ∀ W, Hid (Below wA.heap.size wA W -> W.cell? ⟨w.heap.size, 0, none⟩ = some (.int .i64 rm) ∧ W.cell? ⟨w.heap.size, 1, none⟩ = some (.slice ai ni ci) ∧ W.cell? ⟨w.heap.size, 2, none⟩ = some (.int .i64 z) ∧ W.cell? ⟨w.heap.size, 3, none⟩ = some (.slice a n cap) ∧ W.cell? ⟨w.heap.size, 4, none⟩ = some (.slice am m cm) ∧ W.cell? ⟨w.heap.size, 5, none⟩ = some (.int .i64 op) ∧ W.cell? ⟨w.heap.size, 6, none⟩ = some (.int .i64 st)) := fun W hb => seven_cells (block_on H0.out hb)
 have HB0 : Hid (Below wA.heap.size wA wA.drew) := (Below.refl wA.heap.size wA).drew
 have HB1 : Hid (Below wA.heap.size wA (wA.alloc (.cells #[] 83)).drew) := ((Below.refl wA.heap.size wA).alloc (Nat.le_refl _) _).drew
 have HCC : ∀ W, Hid (Below wA.heap.size wA W -> Calls Tryz.prog 110 #[.agg #[.int .i64 z, .slice a n cap, .slice am m cm, .int .i64 op, .int .i64 st]] W fun e w' => ∃ g c gm cm' A C, e = .returned (.agg #[.int .i64 z, .slice (some ⟨g, 0, none⟩) n c, .slice (some ⟨gm, 0, none⟩) m cm', .int .i64 op, .int .i64 st]) ∧ GrowSqs W.heap.size w' n qs g A C ∧ PlOwn W.heap.size w' (.slice (some ⟨gm, 0, none⟩) ps.length cm') ps ∧ gm ≠ g ∧ Below W.heap.size W w') := fun W hb =>
  l10Copy_any z a n cap qs am m cm ps op st W (HSA.out.later hb (by omega)) (by have := hb.size; omega) hok (HPA.out.later hb (by omega)) (by have := hb.size; omega) hm1 hm
 have HZA := hide hzA
 have HAP : ∀ W a0 c0, Hid (Below wA.heap.size wA W -> HdOwn wA.heap.size W (.slice a0 0 c0) [] -> ∃ a' c' w', (Builtin.append_ #[63, 63] 63 #[.slice a0 0 c0, .slice ai ni ci]).run Tryz.prog W = .ok (.slice a' ni c') w' ∧ HdOwn wA.heap.size w' (.slice a' ni c') ys ∧ W.grownBy w' (Value.slice a0 0 c0).ownBlock ∧ ((Value.slice a' ni c').ownBlock = (Value.slice a0 0 c0).ownBlock ∨ (Value.slice a' ni c').ownBlock = some W.heap.size)) := fun W a0 c0 hb ho => by
  obtain ⟨a', c', w2, hap, hpo, hgr, hat⟩ := append_helds (P := Tryz.prog) Tryz.infoHeld Tryz.underlying63 ho hb.size (c := ci) (HYA.out.later hb (by omega)) (by omega)
  rw [Nat.zero_add] at hap hpo hat
  rw [List.nil_append] at hpo
  exact ⟨a', c', w2, hap, hpo, hgr, hat⟩
 have HMD : Hid (HdOwn wA.heap.size (wA.alloc (.cells #[] 83)).drew (.slice (some ⟨wA.heap.size, 0, none⟩) 0 0) []) := World.ownsRow.drew (hd_made0 wA)
 obtain ⟨aj, cj, w5, hap, hpo, hgr, hat⟩ := (HAP _ _ _).out HB1.out HMD.out
 have HP5 := hide hpo
 have HRN := hide hap
 have HB5 : Hid (Below wA.heap.size wA w5) := HB1.out.grown hgr HB1.out.size (fun k e => by have e' : some wA.heap.size = some k := e; simp only [Option.some.injEq] at e'; omega)
 have HAT := hide hat
 clear hap hpo hgr hat hzA
 go_enter Tryz.func123, Tryz.ntmps123
 go_upto_region 1 with fail
 rw [<- hwA]
 clear hwA
 go_region_held3 (fun W => W.cell? ⟨w.heap.size, 0, none⟩ = some (.int .i64 rm) ∧ W.cell? ⟨w.heap.size, 1, none⟩ = some (.slice ai ni ci) ∧ W.cell? ⟨w.heap.size, 2, none⟩ = some (.int .i64 z) ∧ W.cell? ⟨w.heap.size, 3, none⟩ = some (.slice a n cap) ∧ W.cell? ⟨w.heap.size, 4, none⟩ = some (.slice am m cm) ∧ W.cell? ⟨w.heap.size, 5, none⟩ = some (.int .i64 op) ∧ W.cell? ⟨w.heap.size, 6, none⟩ = some (.int .i64 st))
  (first | with_reducible exact HS7.out | with_reducible exact (HSK _).out HB6.out | with_reducible exact (HSK _).out HB5.out | exact (HSK _).out HB1.out | exact (HSK _).out HB0.out | fail)
  (first
   | (refine step_append_run (by rfl) _ _ 63 (by rfl) _ _ _ w5 (by rfl) (by rfl) HRN.out ?_)
   | (go_at_call 110; refine ((HCC _).out HB5.out).mono ?_; rintro e w6 ⟨g, c', gm, cm', A, C, rfl, hG6, hP6, hne6, b6⟩; have HG6 := hide hG6; have HPL6 := hide hP6; have HNE := hide hne6; have HB6 := hide (below_here HB5.out b6); have HPO6 : Hid (HdOwn wA.heap.size w6 (.slice aj ni cj) ys) := own_keepBy HP5.out (grown_below b6 none) (fun k e => by cases e); have hs6 := b6.size; have K1 := hide (block_on H1.out HB6.out); obtain ⟨d0, d1, d2, d3, d4, d5, d6⟩ := seven_cells K1.out; have f0 := four_frozen K1.out 0; have f1 := four_frozen K1.out 1; have f2 := four_frozen K1.out 2; have f3 := four_frozen K1.out 3; have f4 := four_frozen K1.out 4; have f5 := four_frozen K1.out 5; have f6 := four_frozen K1.out 6; have HAS := hide (seven_aside (b := w.heap.size + 1) (Aside.refl (w.heap.size + 1) (w.heap.size + 1 + 1) w6) (Nat.le_refl _) (Nat.lt_succ_self _) (.int .i64 rm) (.slice aj ni cj) (.int .i64 z) (.slice (some ⟨g, 0, none⟩) n c') (.slice (some ⟨gm, 0, none⟩) m cm') (.int .i64 op) (.int .i64 st)); have HS7 := hide (seven_cells ((HAS.out.block w.heap.size (by have := HB6.out.size; have := HZA.out; omega) (.inl (by omega))).trans (block_on H0.out HB6.out))); clear hG6 hP6 hne6 b6)
   | fail)
 all_goals
  have hzA := HZA.out
  have HRS := hide (seven_set K1.out (.int .i64 rm) (.slice aj ni cj) (.int .i64 z) (.slice (some ⟨g, 0, none⟩) n c') (.slice (some ⟨gm, 0, none⟩) m cm') (.int .i64 op) (.int .i64 st))
  have HBW := hide (below_here HBA.out HB6.out)
  have HBF := hide (HBW.out.trans (HAS.out.below (B := w.heap.size) (by omega) HBW.out.size))
  have hg5 := HG6.out.atG
  have hsB := HB5.out.size
  have HNG : Hid ((Value.slice aj ni cj).ownBlock ≠ some g) := fun e => by
   obtain ⟨_, hlt⟩ := World.ownsRow.lt HP5.out g e
   omega
  have HGF := hide ((HG6.out.aside HAS.out (.inl (by omega))).mono (show w.heap.size <= w5.heap.size by omega))
  have HYF := hide ((own_aside2 HPO6.out HAS.out (by omega)).mono (show w.heap.size <= wA.heap.size by omega))
  have HLF := hide ((own_aside2 HPL6.out HAS.out (by omega)).mono (show w.heap.size <= w5.heap.size by omega))
  clear hzA hsB hg5 hs6
  go_wp2_with fail
  refine bodyPost_ret (results_cell rfl rfl (run_loadVar_row _ _ _ _ _ _ _ HRS.out Tryz.underlying65 rfl (by kernel_rfl))) rfl ⟨aj, cj, g, c', gm, cm', A, C, rfl, HYF.out, HGF.out, HLF.out, HNE.out, HNG.out, HBF.out⟩
end Go.Proofs.YtkbhcdkfjniafaaGreatDoor
end

section
namespace Go.Proofs.YtkbhcdkfjniafaaGreatDoor
open Go.RowKit
set_option linter.unusedVariables false
set_option maxRecDepth 20000
theorem three_set' {W : World} {b : Nat} {c0 c1 c2 : Value} {t : TypeId} {fr : Nat × Nat} (h : W.heap[b]? = some (.cells #[c0, c1, c2] t fr)) (v0 v1 v2 : Value) :
  (((W.setCell ⟨b, 0, none⟩ v0).setCell ⟨b, 1, none⟩ v1).setCell ⟨b, 2, none⟩ v2).heap[b]? = some (.cells #[v0, v1, v2] t fr) :=
 set_block (set_block (set_block h 0 v0 (by simp)) 1 v1 (by simp)) 2 v2 (by simp)
set_option maxHeartbeats 800000 in
theorem copyOfHeld_any (k : Int) (x : ByteArray) (d : Bool) (w : World) (hx : x.size <= 1048576) :
  Calls Tryz.prog 176 #[.agg #[.int .i64 k, .string x, .bool d]] w fun e w' => e = .returned (.agg #[.int .i64 k, .string x, .bool d]) ∧ Below w.heap.size w w' := by
 obtain ⟨wA, hwA⟩ : ∃ wA, wA = (w.alloc (.cells #[.int .i64 k, .string x, .bool d] 83)).alloc (.cells #[.int .i64 0, .string { data := #[] }, .bool false] 83) := ⟨_, rfl⟩
 have hzA : wA.heap.size = w.heap.size + 1 + 1 := by rw [hwA]; simp
 have HBA : Hid (Below w.heap.size w wA) := by rw [hwA]; exact ((Below.refl _ _).alloc (Nat.le_refl _) _).alloc (by simp) _
 have H0 : Hid (wA.heap[w.heap.size]? = some (.cells #[.int .i64 k, .string x, .bool d] 83)) := by rw [hwA]; exact heap_old (heap_new _ _)
 have H1 : Hid (wA.heap[w.heap.size + 1]? = some (.cells #[.int .i64 0, .string { data := #[] }, .bool false] 83)) := by rw [hwA]; exact heap_at (by simp)
 obtain ⟨c0, c1, c2⟩ := three_cells H0.out
 go_enter Tryz.func176, Tryz.ntmps176
 go_wp2_with fail
 rw [<- hwA]
 clear hwA
 refine (cloneT_any x wA hx).mono ?_
 rintro e w1 ⟨rfl, b1⟩
 have K0 := hide (block_on H0.out b1)
 have K1 := hide (block_on H1.out b1)
 have HB1 := hide (below_here HBA.out b1)
 have hs1 := b1.size
 clear b1 H0 H1 c0 c1 c2
 obtain ⟨c0, c1, c2⟩ := three_cells K0.out
 obtain ⟨d0, d1, d2⟩ := three_cells K1.out
 have f1 := four_frozen K0.out 1
 have g0 := four_frozen K1.out 0
 have g1 := four_frozen K1.out 1
 have g2 := four_frozen K1.out 2
 have hne : w.heap.size ≠ w.heap.size + 1 := by omega
 have HRS := hide (three_set' (set_other (o := 1) K1.out hne (.string x)) (.int .i64 k) (.string x) (.bool d))
 have HAS := hide ((((((Aside.refl w.heap.size (w.heap.size + 2) w1).setCell (p := ⟨w.heap.size, 1, none⟩) (Nat.le_refl _) (by simp) (.string x)).setCell (p := ⟨w.heap.size + 1, 0, none⟩) (by simp) (by simp) (.int .i64 k)).setCell (p := ⟨w.heap.size + 1, 1, none⟩) (by simp) (by simp) (.string x)).setCell (p := ⟨w.heap.size + 1, 2, none⟩) (by simp) (by simp) (.bool d)))
 have HBF := hide (HB1.out.trans (HAS.out.below (B := w.heap.size) (Nat.le_refl _) (by omega)))
 go_wp2_with fail
 exact bodyPost_ret (results_cell rfl rfl (run_loadVar_row _ _ _ _ _ _ _ HRS.out Tryz.underlying83 rfl (by kernel_rfl))) rfl ⟨rfl, HBF.out⟩
end Go.Proofs.YtkbhcdkfjniafaaGreatDoor
end

section
namespace Go.Proofs.YtkbhcdkfjniafaaGreatDoor
open Go.RowKit
set_option linter.unusedVariables false
set_option maxRecDepth 20000
end Go.Proofs.YtkbhcdkfjniafaaGreatDoor
end

section
namespace Go.Proofs.YtkbhcdkfjniafaaGreatDoor
open Go.RowKit
set_option linter.unusedVariables false
set_option maxRecDepth 20000
set_option maxHeartbeats 3200000 in
theorem specCacheOk_any (rm : Int) (ai : Option Addr) (ni ci : Nat) (ys : List Hd) (z : Int) (a : Option Addr) (n cap : Nat) (qs : List Sq) (am : Option Addr) (m cm : Nat) (ps : List Pl) (op st : Int) (w : World) {l1 r1 lo hi lo' hi' : Nat} (hy : Helds l1 r1 w ai ni ys) (hr1 : r1 <= w.heap.size) (hni : ni <= 1048576) (hfy : ∀ x ∈ ys, hdFits x) (h : Squares lo hi w a n qs) (hhi : hi <= w.heap.size) (hn : n <= 1048576) (hf : ∀ x ∈ qs, sqFits x) (hp : Places lo' hi' w am m ps) (hhi' : hi' <= w.heap.size) (hm : m <= 1048576) :
  Calls Tryz.prog 48 #[.agg #[.int .i64 rm, .slice ai ni ci, .int .i64 z, .slice a n cap, .slice am m cm, .int .i64 op, .int .i64 st]] w fun e w' => e = .returned (.bool (cacheOk ⟨rm, ys, ⟨z, qs, ps, op, st⟩⟩)) ∧ Below w.heap.size w w' := by
 obtain ⟨wA, hwA⟩ : ∃ wA, wA = w.alloc (.cells #[.int .i64 rm, .slice ai ni ci, .int .i64 z, .slice a n cap, .slice am m cm, .int .i64 op, .int .i64 st] 65) := ⟨_, rfl⟩
 have hzA : wA.heap.size = w.heap.size + 1 := by rw [hwA]; simp
 have HBA : Hid (Below w.heap.size w wA) := by rw [hwA]; exact (Below.refl _ _).alloc (Nat.le_refl _) _
 have H1 : Hid (wA.heap[w.heap.size]? = some (.cells #[.int .i64 rm, .slice ai ni ci, .int .i64 z, .slice a n cap, .slice am m cm, .int .i64 op, .int .i64 st] 65)) := by rw [hwA]; exact heap_new _ _
 have HYA := hide (hy.later HBA.out hr1)
 have HSA := hide (h.later HBA.out hhi)
 have HPA := hide (hp.later HBA.out hhi')
 have HF := hide hf
 have HFY := hide hfy
 have HLY := hide hy.1
 have HLP := hide hp.1
 have hl := hy.1
 have hlp := hp.1
 clear h hp hy hf hfy
 obtain ⟨c0, c1, c2, c3, c4, c5, c6⟩ := seven_cells H1.out
 go_enter Tryz.func48, Tryz.ntmps48
 cases hroom : inB rm 1 16 with
 | false =>
  have HE := hide (cacheOk_room (c := ⟨rm, ys, ⟨z, qs, ps, op, st⟩⟩) hroom)
  go_wp2_with fail
  rw [<- hwA]
  clear hwA
  refine (l1In_any rm 1 16 wA).mono ?_
  rintro e w1 ⟨rfl, rfl⟩
  rw [hroom]
  go_wp2_with fail
  go_ret
  exact ⟨ret_bool HE.out.symm, HBA.out⟩
 | true =>
  have hrr := hroom
  unfold inB at hrr
  simp only [Bool.and_eq_true, decide_eq_true_eq] at hrr
  go_wp2_with fail
  rw [<- hwA]
  clear hwA
  refine (l1In_any rm 1 16 wA).mono ?_
  rintro e w1 ⟨rfl, rfl⟩
  rw [hroom]
  by_cases hle : (ni : Int) <= rm
  ·have g1 : decide ((ni : Int) > rm) = false := by simpa using hle
   go_wp2_with fail
   refine (specFtlOk_any z a n cap qs am m cm ps op st wA HSA.out (by omega) hn HF.out HPA.out (by omega) hm).mono ?_
   rintro e w2 ⟨rfl, b2⟩
   have K1 := hide (block_on H1.out b2)
   have HB2 := hide (below_here HBA.out b2)
   have HY2 := hide (HYA.out.later b2 (by omega))
   have hs2 := b2.size
   clear b2 c0 c1 c2 c3 c4 c5 c6
   cases hfo : ftlOk z qs ps op st with
   | false =>
    have HE := hide (cacheOk_ftl (c := ⟨rm, ys, ⟨z, qs, ps, op, st⟩⟩) hfo)
    go_wp2_with fail
    go_ret
    exact ⟨ret_bool HE.out.symm, HB2.out⟩
   | true =>
    have HE := hide (cacheOk_rest (c := ⟨rm, ys, ⟨z, qs, ps, op, st⟩⟩) hroom (by show (ys.length : Int) <= rm; rw [hl]; exact hle) hfo)
    clear hfo hroom
    go_wp2_with fail
    go_loopw [3] (fun i wr => ∃ k : Nat, k <= ni ∧ i = .int .i64 (k : Int) ∧ (∀ j, j < k -> itOk m ys j = true) ∧ Below w2.heap.size w2 wr) (fun i _ => ni - (intOf i).toNat)
    case atStart => exact ⟨0, Nat.zero_le _, rfl, fun j hj => absurd hj (by omega), Below.refl _ _⟩
    case round =>
     obtain ⟨k, hk, rfl, hall, hbel⟩ := hrel
     have KR := hide (block_on K1.out hbel)
     have HBR := hide (below_here HB2.out hbel)
     have HAL := hide hall
     have hsr := hbel.size
     obtain ⟨c0, c1, c2, c3, c4, c5, c6⟩ := seven_cells KR.out
     by_cases hlt : k < ni
     ·have hkl : k < ys.length := by omega
      obtain ⟨b, off, rfl, hb1, hb2, hc⟩ := HY2.out.2.2 (by omega)
      obtain ⟨x0, x1, x2⟩ := hd_cells hc hbel (show b < w2.heap.size by omega) hlt
      have HC := hide hc
      have HBL := hide hbel
      have hkn : (k : Int) < (ni : Int) := by omega
      have hFK := hd_fits HFY.out hkl
      have hx9 : (hdAt ys k).2.1.size <= maxLen := hFK.2
      unfold maxLen at hx9
      clear hall hc hbel hFK
      have HIO := hide (itOk_iff (m := m) (ys := ys) (i := k))
      have HIB : Hid (itOk m ys k = (inB (hdAt ys k).1 0 ((m : Int) - 1) && (decide ((hdAt ys k).2.1.size <= 24) && (List.range k).all fun j => !((hdAt ys j).1 == (hdAt ys k).1)))) := rfl
      have HNO := hide (fun hh => items_no (m := m) (ys := ys) hkl hh)
      obtain ⟨wI, hwI⟩ : ∃ wI, wI = wr.alloc (.cells #[.int .i64 (hdAt ys k).1, .string (hdAt ys k).2.1, .bool (hdAt ys k).2.2] 83) := ⟨_, rfl⟩
      have HBI : Hid (Below wr.heap.size wr wI) := by rw [hwI]; exact (Below.refl _ _).alloc (Nat.le_refl _) _
      have HI : Hid (wI.heap[wr.heap.size]? = some (.cells #[.int .i64 (hdAt ys k).1, .string (hdAt ys k).2.1, .bool (hdAt ys k).2.2] 83)) := by rw [hwI]; exact heap_new _ _
      have hzI : wI.heap.size = wr.heap.size + 1 := by rw [hwI]; simp
      obtain ⟨i0, i1, i2⟩ := three_cells HI.out
      have KI := hide (block_on KR.out HBI.out)
      obtain ⟨d0, d1, d2, d3, d4, d5, d6⟩ := seven_cells KI.out
      rw [hwI] at i0 i1 i2 d0 d1 d2 d3 d4 d5 d6
      have RB : ∀ (bb : Bool), (List.range ys.length).all (itOk m ys) = bb -> Ending.returned (.bool bb) = .returned (.bool (cacheOk ⟨rm, ys, ⟨z, qs, ps, op, st⟩⟩)) := fun bb hb => by
       rw [HE.out]; show _ = Ending.returned (.bool ((List.range ys.length).all (itOk ps.length ys))); rw [hlp, hb]
      have HRB := hide RB
      clear RB
      cases hin : inB (hdAt ys k).1 0 ((m : Int) - 1) with
      | false =>
       have HNX := hide (HNO.out (by rw [HIB.out, hin]; rfl))
       go_wp2_with fail
       rw [<- hwI]
       clear hwI i0 i1 i2 d0 d1 d2 d3 d4 d5 d6
       obtain ⟨i0, i1, i2⟩ := three_cells HI.out
       obtain ⟨d0, d1, d2, d3, d4, d5, d6⟩ := seven_cells KI.out
       refine (l1In_any (hdAt ys k).1 0 ((m : Int) - 1) wI).mono ?_
       rintro e w3 ⟨rfl, rfl⟩
       rw [hin]
       go_wp2_with fail
       go_ret
       exact ⟨HRB.out _ HNX.out, below_here HBR.out HBI.out⟩
      | true =>
       by_cases h24 : (hdAt ys k).2.1.size <= 24
       ·have HIB2 : Hid (itOk m ys k = (List.range k).all fun j => !((hdAt ys j).1 == (hdAt ys k).1)) := by show _ = _; rw [HIB.out, hin, decide_eq_true h24]; rfl
        have g2 : decide (((hdAt ys k).2.1.size : Int) > 24) = false := by simp; omega
        go_wp2_with fail
        rw [<- hwI]
        clear hwI i0 i1 i2 d0 d1 d2 d3 d4 d5 d6
        obtain ⟨i0, i1, i2⟩ := three_cells HI.out
        obtain ⟨d0, d1, d2, d3, d4, d5, d6⟩ := seven_cells KI.out
        refine (l1In_any (hdAt ys k).1 0 ((m : Int) - 1) wI).mono ?_
        rintro e w3 ⟨rfl, rfl⟩
        rw [hin]
        clear hin HIB
        obtain ⟨wo, hwo⟩ : ∃ wo, wo = wr := ⟨_, rfl⟩
        subst hwo
        go_wp2_with fail
        go_loopw [5] (fun i wr => ∃ j : Nat, j <= k ∧ i = .int .i64 (j : Int) ∧ (∀ t, t < j -> (hdAt ys t).1 ≠ (hdAt ys k).1) ∧ Below wI.heap.size wI wr) (fun i _ => k - (intOf i).toNat)
        case atStart => exact ⟨0, Nat.zero_le _, rfl, fun t ht => absurd ht (by omega), Below.refl _ _⟩
        case round =>
         obtain ⟨j, hj, rfl, hne, hbi⟩ := hrel
         have HNE := hide hne
         have HBK0 := hide hbi
         have HBJ := hide (below_here HBI.out hbi)
         have HIJ := hide (block_on HI.out hbi)
         have KJ := hide (block_on KI.out hbi)
         have hsj := hbi.size
         clear hne hbi c0 c1 c2 c3 c4 c5 c6 d0 d1 d2 d3 d4 d5 d6 i0 i1 i2 x0 x1 x2
         obtain ⟨d0, d1, d2, d3, d4, d5, d6⟩ := seven_cells KJ.out
         obtain ⟨i0, i1, i2⟩ := three_cells HIJ.out
         by_cases hjk : j < k
         ·obtain ⟨x0, x1, x2⟩ := hd_cells HC.out (below_here HBL.out HBJ.out) (show b < w2.heap.size by omega) (show j < ni by omega)
          have hjn : (j : Int) < (ni : Int) := by omega
          have hjk2 : (j : Int) < (k : Int) := by omega
          by_cases heq : (hdAt ys j).1 = (hdAt ys k).1
          ·have HNX := hide (HNO.out (by rw [HIB2.out, List.all_eq_false]; exact ⟨j, List.mem_range.2 hjk, by simpa using heq⟩))
           rw [heq] at x0
           go_upto_region 12 with fail
           go_quiet (fail)
           have HBQ : Hid (Below wr.heap.size wr (wr.drewN nq)) := ⟨rfl, rfl, rfl, Nat.le_refl _, fun _ _ => rfl⟩
           generalize wr.drewN nq = wq at *
           go_wp2_with fail
           go_ret
           exact ⟨HRB.out _ HNX.out, below_here (below_here HBR.out HBJ.out) HBQ.out⟩
          ·have g3 : ((hdAt ys j).1 == (hdAt ys k).1) = false := by simpa using heq
           go_upto_region 12 with fail
           go_quiet (fail)
           have HBQ : Hid (Below wr.heap.size wr (wr.drewN nq)) := ⟨rfl, rfl, rfl, Nat.le_refl _, fun _ _ => rfl⟩
           have HBK := hide (below_here HBK0.out HBQ.out)
           generalize wr.drewN nq = wq at *
           go_wp2_with fail
           go_roundw
           case rel => exact ⟨j + 1, by omega, by go_num, fun t ht => by
            by_cases e : t = j
            ·subst e; exact heq
            ·exact HNE.out t (by omega), HBK.out⟩
           case measure => simp [intOf]; omega
         ·obtain rfl : j = k := by omega
          have HOK : Hid (itOk m ys j = true) := by
           show _ = _
           rw [HIB2.out, List.all_eq_true]
           intro t ht
           have := HNE.out t (List.mem_range.1 ht)
           simpa using this
          go_wp2_with fail
          exact ⟨⟨j + 1, by omega, by go_num, fun t ht => by
           by_cases e : t = j
           ·subst e; exact HOK.out
           ·exact HAL.out t (by omega), below_here HBL.out HBJ.out⟩, by simp [intOf]; omega⟩
       ·have HNX := hide (HNO.out (by rw [HIB.out, decide_eq_false h24]; simp))
        have g2 : decide (((hdAt ys k).2.1.size : Int) > 24) = true := by simp; omega
        go_wp2_with fail
        rw [<- hwI]
        clear hwI i0 i1 i2 d0 d1 d2 d3 d4 d5 d6
        obtain ⟨i0, i1, i2⟩ := three_cells HI.out
        obtain ⟨d0, d1, d2, d3, d4, d5, d6⟩ := seven_cells KI.out
        refine (l1In_any (hdAt ys k).1 0 ((m : Int) - 1) wI).mono ?_
        rintro e w3 ⟨rfl, rfl⟩
        rw [hin]
        go_wp2_with fail
        go_ret
        exact ⟨HRB.out _ HNX.out, below_here HBR.out HBI.out⟩
     ·obtain rfl : k = ni := by omega
      have HA := hide (items_yes (m := m) (ys := ys) (fun i hi => HAL.out i (by omega)))
      go_wp2_with fail
      go_ret
      exact ⟨ret_bool (by rw [HE.out]; show _ = (List.range ys.length).all (itOk ps.length ys); rw [hlp, HA.out]), HBR.out⟩
  ·have HE := hide (cacheOk_len (c := ⟨rm, ys, ⟨z, qs, ps, op, st⟩⟩) (by show ¬ (ys.length : Int) <= rm; rw [hl]; exact hle))
   have g1 : decide ((ni : Int) > rm) = true := by simp; omega
   go_wp2_with fail
   go_ret
   exact ⟨ret_bool HE.out.symm, HBA.out⟩
end Go.Proofs.YtkbhcdkfjniafaaGreatDoor
end

section
namespace Go.Proofs.YtkbhcdkfjniafaaGreatDoor
open Go.RowKit
set_option linter.unusedVariables false
end Go.Proofs.YtkbhcdkfjniafaaGreatDoor
end

section
namespace Go.Proofs.YtkbhcdkfjniafaaGreatDoor
open Go.RowKit
set_option linter.unusedVariables false
set_option maxRecDepth 20000
theorem HdOwn.on {B : Nat} {w w' : World} {v : Value} {ys : List Hd} (h : HdOwn B w v ys) (hb : Below w.heap.size w w') : HdOwn B w' v ys := own_keepBy h (grown_below hb none) (fun k e => by cases e)
end Go.Proofs.YtkbhcdkfjniafaaGreatDoor
end

