/- Several texts in one: FtlOwnP, FtlLaw, FtlEnt, MountMath, FtlVar, FtlSpace, RoomLaw. -/
import Derived.Test.YtfabojbkhicpmaaGreatDoorEFtlMath
import Derived.Test.YtfabojbkhicpmaaGreatDoorEChipAns
import Derived.Test.YtfabojbkhicpmaaGreatDoorEBase
import Derived.Test.YtfabojbkhicpmaaGreatDoorEPageMath
section
namespace Go.Proofs.YtfabojbkhicpmaaGreatDoor
open Go.RowKit
set_option linter.unusedVariables false
theorem ftlOk_parts {z : Int} {qs : List Sq} {ps : List Pl} {op st : Int} (h : ftlOk z qs ps op st = true) : mapOk z qs ps = true ∧ -1 <= op ∧ op < (qs.length : Int) ∧ 0 <= st ∧ st <= 1000000 ∧ opOk qs op = true ∧ ∀ i, i < ps.length -> fpOk z qs ps st i = true := by
 unfold ftlOk inB at h
 simp only [Bool.and_eq_true, decide_eq_true_eq] at h
 obtain ⟨h1, ⟨h2, h3⟩, ⟨h4, h5⟩, h6, h7⟩ := h
 exact ⟨h1, h2, by omega, h4, h5, h6, fun i hi => List.all_eq_true.1 h7 i (List.mem_range.2 hi)⟩
theorem kok_of {z : Int} {qs : List Sq} {ps : List Pl} {op st : Int} (h : ftlOk z qs ps op st = true) (js : List Jb) : KOk z ⟨qs, ps, op, js⟩ := by
 obtain ⟨h1, h2, h3, _, _, h6, _⟩ := ftlOk_parts h
 exact ⟨mapR_of h1, h2, h3, h6⟩
def planR (z : Int) (qs : List Sq) (ps : List Pl) (op st kd a : Int) (tx : ByteArray) : Option Kp := if ftlOk z qs ps op st then enterK z ⟨qs, ps, op, []⟩ st kd a tx else none
def entF (z : Int) (qs : List Sq) (ps : List Pl) (op st kd a : Int) (tx : ByteArray) : Fv :=
 if ftlOk z qs ps op st then (match enterK z ⟨qs, ps, op, []⟩ st kd a tx with | none => ⟨z, qs, ps, op, st⟩ | some s => ⟨z, s.qs, s.ps, s.op, st + 1⟩) else ⟨0, [], [], 0, 0⟩
theorem own_of_parts {B n g gm cm : Nat} {w : World} {A : Nat -> Option Addr} {C : Nat -> Nat} {qs : List Sq} {ps : List Pl} (sq : GrowSqs B w n qs g A C) (pl : PlOwn B w (.slice (some ⟨gm, 0, none⟩) ps.length cm) ps) (ne : gm ≠ g) : FtlOwn B w.heap.size w (some ⟨g, 0, none⟩) (some ⟨gm, 0, none⟩) qs ps := by
 obtain ⟨cs, fz, hk⟩ := Go.Lib.ownsRow_kind pl gm rfl
 have hgm : gm < w.heap.size := (Array.getElem?_eq_some_iff.1 hk).1
 refine ⟨Nat.le_refl _, .inr ⟨g, 0, A, C, fun i => (oB (A i)).getD g, gm, ?_, ⟨rfl, by omega, fun h0 => ⟨gm, 0, rfl, Nat.le_refl _, Nat.lt_succ_self _, fun i hi => ⟨?_, by rw [Nat.zero_add]; exact World.ownsRow.frozenAt pl i⟩⟩⟩, (World.ownsRow.lt pl gm rfl).1, hgm, ne, fun i hi h0 e => ?_⟩⟩
 ·have := sq.own
  rw [sq.len]
  exact this
 ·rw [Nat.zero_add, World.ownsRow.cellAt pl i (by omega), plL_at ps (by omega)]
 ·rw [sq.len] at hi
  have ho := sq.pages.own i hi
  rcases pg_form ho with ⟨_, e1, _⟩ | ⟨p, e1, _⟩
  ·rw [e1] at h0; simp at h0
  ·dsimp only at e
   rw [e1] at e
   have e2 : gm = p := e
   have := pg_ne ho hk (by decide)
   rw [e1, e2] at this
   exact this rfl
theorem own_of_kp {B n g gm cm : Nat} {w : World} {A : Nat -> Option Addr} {C : Nat -> Nat} {V : Value} {s : Kp} (h : KpMem B w n g gm cm A C V s) : FtlOwn B w.heap.size w (some ⟨g, 0, none⟩) (some ⟨gm, 0, none⟩) s.qs s.ps := own_of_parts h.sq h.pl h.ne
end Go.Proofs.YtfabojbkhicpmaaGreatDoor
end

section
namespace Go.Proofs.YtfabojbkhicpmaaGreatDoor
open Go.RowKit
set_option linter.unusedVariables false
theorem planR_some {z : Int} {qs : List Sq} {ps : List Pl} {op st kd a : Int} {tx : ByteArray} {s : Kp} (h : planR z qs ps op st kd a tx = some s) : ftlOk z qs ps op st = true ∧ mayEnt ps st kd a tx = true ∧ ∃ s1, roomK z 20 ⟨qs, ps, op, []⟩ = some s1 ∧ putK z s1 a.toNat (laid kd a (st + 1) tx) = some s := by
 unfold planR at h
 cases hf : ftlOk z qs ps op st with
 | false => rw [hf] at h; cases h
 | true =>
  rw [hf, if_pos rfl] at h
  cases hm : mayEnt ps st kd a tx with
  | false => rw [enterK_no (s := ⟨qs, ps, op, []⟩) hm] at h; cases h
  | true =>
   rw [enterK_yes (s := ⟨qs, ps, op, []⟩) hm] at h
   cases hr : roomK z 20 ⟨qs, ps, op, []⟩ with
   | none => rw [hr] at h; cases h
   | some s1 => rw [hr] at h; exact ⟨rfl, rfl, s1, rfl, h⟩
end Go.Proofs.YtfabojbkhicpmaaGreatDoor
end

section
namespace Go.Proofs.YtfabojbkhicpmaaGreatDoor
open Go.RowKit
set_option linter.unusedVariables false
theorem pageAt_there {z : Int} {qs : List Sq} {p : Pl} (hc : chipOk z qs = true) (h : plThere qs p = true) : pageAt z qs p.1 p.2 = txt qs p := by
 unfold plThere at h
 unfold pageAt txt txAt
 rw [hc, h]
 rfl
theorem pgOf_thereE {z : Int} {qs : List Sq} {p : Pl} (hc : chipOk z qs = true) (h : plThere qs p = true) : pgOf z qs p = lyP (txt qs p) := by
 unfold pgOf; rw [pageAt_there hc h]
theorem fpOk_iff {z : Int} {qs : List Sq} {ps : List Pl} {st : Int} {i : Nat} : fpOk z qs ps st i = true ↔ plAt ps i = (-1, 0) ∨ (lyWell (pgOf z qs (plAt ps i)).2.2.2.2 = true ∧ (pgOf z qs (plAt ps i)).2.1 = (i : Int) ∧ (pgOf z qs (plAt ps i)).2.2.1 <= st) := by
 unfold fpOk
 rw [Bool.or_eq_true, Bool.and_eq_true, Bool.and_eq_true, beq_iff_eq, beq_iff_eq]
 simp
theorem ftlOk_of {z : Int} {qs : List Sq} {ps : List Pl} {op st : Int} {js : List Jb} (h : KOk z ⟨qs, ps, op, js⟩) (h0 : 0 <= st) (h1 : st <= 1000000) (hf : ∀ i, i < ps.length -> fpOk z qs ps st i = true) : ftlOk z qs ps op st = true := by
 have a1 := h.map.ok
 have a2 := h.lo
 have a3 := h.hi
 have a4 := h.good
 dsimp only at a1 a2 a3 a4
 unfold ftlOk inB
 rw [a1, a4, decide_eq_true a2, decide_eq_true (show op <= (qs.length : Int) - 1 by omega), decide_eq_true h0, decide_eq_true h1]
 simp only [Bool.true_and, List.all_eq_true, List.mem_range]
 exact hf
theorem get_same {z : Int} {qs qs' : List Sq} {ps ps' : List Pl} {op op' st st' : Int} (h : ftlOk z qs ps op st = true) (h' : ftlOk z qs' ps' op' st' = true) (hl : ps'.length = ps.length) {i : Nat} (hi : i < ps.length) (hs : sameAt qs ps qs' ps' i) : ftlGet z qs' ps' op' st' (i : Int) = ftlGet z qs ps op st (i : Int) := by
 have hm := mapR_of (ftlOk_map h)
 have hm' := mapR_of (ftlOk_map h')
 have b1 : inB (i : Int) 0 ((ps.length : Int) - 1) = true := by unfold inB; simp; omega
 have b2 : inB (i : Int) 0 ((ps'.length : Int) - 1) = true := by unfold inB; simp; omega
 unfold ftlGet
 rw [h, h', b1, b2, Int.toNat_natCast]
 by_cases e : plAt ps i = (-1, 0)
 ·have e' := hs.1.2 e
  rw [e, e']
  rfl
 ·have e' : plAt ps' i ≠ (-1, 0) := fun k => e (hs.1.1 k)
  have t1 := (hm.there i hi).resolve_left e
  have t2 := (hm'.there i (by omega)).resolve_left e'
  rw [pgOf_thereE hm.chip t1, pgOf_thereE hm'.chip t2, hs.2 e]
  have n1 : (plAt ps i == (-1, 0)) = false := by simpa using e
  have n2 : (plAt ps' i == (-1, 0)) = false := by simpa using e'
  rw [n1, n2]
theorem same_ok {z : Int} {qs qs' : List Sq} {ps ps' : List Pl} {st st' : Int} (hm : MapR z qs ps) (hm' : MapR z qs' ps') (hl : ps'.length = ps.length) (hst : st <= st') {i : Nat} (hi : i < ps.length) (hf : fpOk z qs ps st i = true) (hs : sameAt qs ps qs' ps' i) : fpOk z qs' ps' st' i = true := by
 rw [fpOk_iff] at hf ⊢
 rcases hf with e | ⟨h1, h2, h3⟩
 ·exact .inl (hs.1.2 e)
 ·by_cases e : plAt ps' i = (-1, 0)
  ·exact .inl e
  ·have e0 : plAt ps i ≠ (-1, 0) := fun k => e (hs.1.2 k)
   have t1 := (hm.there i hi).resolve_left e0
   have t2 := (hm'.there i (by omega)).resolve_left e
   rw [pgOf_thereE hm.chip t1] at h1 h2 h3
   rw [pgOf_thereE hm'.chip t2, hs.2 e0]
   exact .inr ⟨h1, h2, by omega⟩
structure Entd (z : Int) (qs : List Sq) (ps : List Pl) (op st kd a : Int) (tx : ByteArray) (s : Kp) : Prop where
 ok : ftlOk z s.qs s.ps s.op (st + 1) = true
 squares : s.qs.length = qs.length
 places : s.ps.length = ps.length
 at0 : 0 <= a
 at1 : a < (ps.length : Int)
 here : ftlGet z s.qs s.ps s.op (st + 1) a = (tx, kd == 1)
 else_ : ∀ i : Nat, i < ps.length -> (i : Int) ≠ a -> ftlGet z s.qs s.ps s.op (st + 1) (i : Int) = ftlGet z qs ps op st (i : Int)
theorem entd_of {z : Int} {qs : List Sq} {ps : List Pl} {op st kd a : Int} {tx : ByteArray} {s : Kp} (h : planR z qs ps op st kd a tx = some s) : Entd z qs ps op st kd a tx s := by
 obtain ⟨hf, hm, s1, h1, h2⟩ := planR_some h
 have hK0 := kok_of hf []
 obtain ⟨_, _, _, hst0, hst1, _, hfp⟩ := ftlOk_parts hf
 have hS := (roomK_ok hK0 h1).1
 have hm0 : MapR z qs ps := hK0.map
 unfold mayEnt at hm
 rw [Bool.and_eq_true] at hm
 obtain ⟨hpo, hin⟩ := hm
 unfold inB at hin
 simp only [Bool.and_eq_true, decide_eq_true_eq] at hin
 have hsp : s1.ps.length = ps.length := hS.places
 have hsq : s1.qs.length = qs.length := hS.squares
 have ha : a.toNat < s1.ps.length := by omega
 obtain ⟨k1, k2, k3, k4, k5, k6, k7, k8, k9⟩ := putK_ok hS.ok ha h2
 have hst : st + 1 <= 1000000 := by
  obtain ⟨K, A, S, _, _, e, _, _, _, hS1, _⟩ := page_ok hpo
  omega
 obtain ⟨hly, hlz⟩ := ly_laid hpo
 have hall : ∀ i, i < ps.length -> i ≠ a.toNat -> sameAt qs ps s.qs s.ps i := fun i hi hne => sameAt_trans (hS.same i hi) (k7 i (by omega) hne)
 have hna : plAt s.ps a.toNat ≠ (-1, 0) := by
  rw [k8]
  obtain ⟨o, ho, _⟩ := putK_parts h2
  unfold nextP
  rw [ho]
  exact ne_none
 have hth := (k1.map.there a.toNat (by omega)).resolve_left hna
 have hpg : pgOf z s.qs (plAt s.ps a.toNat) = (kd, a, st + 1, tx, 1) := by rw [pgOf_thereE k1.map.chip hth, k9, hly]
 have hok : ftlOk z s.qs s.ps s.op (st + 1) = true := by
  refine ftlOk_of (js := s.js) k1 (by omega) hst fun i hi => ?_
  by_cases e : i = a.toNat
  ·subst e
   rw [fpOk_iff, hpg]
   refine .inr ⟨rfl, ?_, Int.le_refl _⟩
   show a = _
   omega
  ·exact same_ok hm0 k1.map (by omega) (by omega) (by omega) (hfp i (by omega)) (hall i (by omega) e)
 refine ⟨hok, k3.trans hsq, k4.trans hsp, by omega, by omega, ?_, fun i hi hne => get_same hf hok (by omega) hi (hall i hi (by omega))⟩
 unfold ftlGet
 have n2 : (plAt s.ps a.toNat == (-1, 0)) = false := by simpa using hna
 have b2 : inB a 0 ((s.ps.length : Int) - 1) = true := by unfold inB; simp; omega
 rw [hok, n2, b2, hpg]
 rfl
end Go.Proofs.YtfabojbkhicpmaaGreatDoor
end

section
namespace Go.Proofs.YtfabojbkhicpmaaGreatDoor
open Go.RowKit
set_option linter.unusedVariables false
structure Mt where
 st : List Int
 ps : List Pl
 S : Int
def stAt (st : List Int) (i : Nat) : Int := st.getD i 0
theorem stAt_set (st : List Int) {i : Nat} (x : Int) (h : i < st.length) (k : Nat) : stAt (st.set i x) k = if k = i then x else stAt st k := by
 unfold stAt
 rw [List.getD_eq_getElem?_getD, List.getElem?_set]
 by_cases e : k = i
 ·subst e; simp [h]
 ·rw [if_neg e, if_neg (Ne.symm e), List.getD_eq_getElem?_getD]
def mtHit (n : Nat) (r : Int × Int × Int × ByteArray × Int) : Bool := lyWell r.2.2.2.2 && !decide (r.2.1 >= (n : Int))
def maxI (a b : Int) : Int := if a > b then a else b
def mtOne (n : Nat) (i k : Nat) (r : Int × Int × Int × ByteArray × Int) (s : Mt) : Mt :=
 if mtHit n r then (if r.2.2.1 > stAt s.st r.2.1.toNat then ⟨s.st.set r.2.1.toNat r.2.2.1, s.ps.set r.2.1.toNat ((i : Int), (k : Int)), maxI s.S r.2.2.1⟩ else ⟨s.st, s.ps, maxI s.S r.2.2.1⟩) else s
def mtPages (n : Nat) (qs : List Sq) (i : Nat) (s : Mt) : Nat -> Mt
 | 0 => s
 | k + 1 => mtOne n i k (lyP (txAt qs i k)) (mtPages n qs i s k)
def mtSqs (n : Nat) (qs : List Sq) : Nat -> Mt
 | 0 => ⟨List.replicate n 0, List.replicate n (-1, 0), 0⟩
 | i + 1 => mtPages n qs i (mtSqs n qs i) (sqAt qs i).1.length
def mtAll (n : Nat) (qs : List Sq) : Mt := mtSqs n qs qs.length
def mountF (z : Int) (qs : List Sq) (n : Int) : Fv := if chipOk z qs && inB n 1 64 then ⟨z, qs, (mtAll n.toNat qs).ps, -1, (mtAll n.toNat qs).S⟩ else ⟨0, [], [], 0, 0⟩
theorem lyP_well {s : ByteArray} (h : lyWell (lyP s).2.2.2.2 = true) : 0 <= (lyP s).2.1 ∧ (lyP s).2.1 <= 63 ∧ 1 <= (lyP s).2.2.1 ∧ (lyP s).2.2.1 <= 1000000 := by
 by_cases h0 : s.size = 0
 ·rw [lyP_blank h0] at h; exact absurd h (by decide)
 ·cases hg : goodL s with
  | false => rw [lyP_torn h0 hg] at h; exact absurd h (by decide)
  | true =>
   rw [lyP_good h0 hg]
   simp only [goodL, Bool.and_eq_true] at hg
   have hb := hg.2.2.2.2
   simp only [bodyOk, Bool.and_eq_true] at hb
   have hp := hb.2.2.2
   rw [pageOk_iff] at hp
   have hp := of_decide_eq_true hp
   dsimp only
   omega
structure MtOk (n : Nat) (qs : List Sq) (s : Mt) : Prop where
 st : s.st.length = n
 ps : s.ps.length = n
 each : ∀ j, j < n -> (plAt s.ps j = (-1, 0) ∧ stAt s.st j = 0) ∨ ∃ i k : Nat, plAt s.ps j = ((i : Int), (k : Int)) ∧ i < qs.length ∧ k < (sqAt qs i).1.length ∧ lyWell (lyP (txAt qs i k)).2.2.2.2 = true ∧ (lyP (txAt qs i k)).2.1 = (j : Int) ∧ (lyP (txAt qs i k)).2.2.1 = stAt s.st j
 top : ∀ j, j < n -> stAt s.st j <= s.S
 lo : 0 <= s.S
 hi : s.S <= 1000000
theorem mtOne_ok {n i k : Nat} {qs : List Sq} {s : Mt} (h : MtOk n qs s) (hi : i < qs.length) (hk : k < (sqAt qs i).1.length) : MtOk n qs (mtOne n i k (lyP (txAt qs i k)) s) := by
 unfold mtOne
 cases hh : mtHit n (lyP (txAt qs i k)) with
 | false => exact h
 | true =>
  rw [if_pos rfl]
  unfold mtHit at hh
  simp only [Bool.and_eq_true, Bool.not_eq_true', decide_eq_false_iff_not] at hh
  obtain ⟨hw, ha⟩ := hh
  obtain ⟨w1, w2, w3, w4⟩ := lyP_well hw
  have hlo := h.lo
  have hhi := h.hi
  have hm1 : s.S <= maxI s.S (lyP (txAt qs i k)).2.2.1 := by unfold maxI; split <;> omega
  have hm2 : (lyP (txAt qs i k)).2.2.1 <= maxI s.S (lyP (txAt qs i k)).2.2.1 := by unfold maxI; split <;> omega
  have hm3 : maxI s.S (lyP (txAt qs i k)).2.2.1 <= 1000000 := by unfold maxI; split <;> omega
  split
  ·have hal : (lyP (txAt qs i k)).2.1.toNat < n := by omega
   refine ⟨by rw [List.length_set]; exact h.st, by rw [List.length_set]; exact h.ps, fun j hj => ?_, fun j hj => ?_, by dsimp only; omega, hm3⟩
   ·dsimp only
    rw [plAt_set s.ps _ (by rw [h.ps]; exact hal), stAt_set s.st _ (by rw [h.st]; exact hal)]
    by_cases e : j = (lyP (txAt qs i k)).2.1.toNat
    ·rw [if_pos e, if_pos e]
     exact .inr ⟨i, k, rfl, hi, hk, hw, by omega, rfl⟩
    ·rw [if_neg e, if_neg e]
     exact h.each j hj
   ·dsimp only
    rw [stAt_set s.st _ (by rw [h.st]; exact hal)]
    split
    ·exact hm2
    ·have := h.top j hj; omega
  ·refine ⟨h.st, h.ps, h.each, fun j hj => ?_, by dsimp only; omega, hm3⟩
   have := h.top j hj
   dsimp only
   omega
theorem mtPages_ok {n i : Nat} {qs : List Sq} {s : Mt} (h : MtOk n qs s) (hi : i < qs.length) : ∀ k, k <= (sqAt qs i).1.length -> MtOk n qs (mtPages n qs i s k)
 | 0, _ => h
 | k + 1, hk => mtOne_ok (mtPages_ok h hi k (by omega)) hi (by omega)
theorem mtSqs_ok {n : Nat} {qs : List Sq} : ∀ i, i <= qs.length -> MtOk n qs (mtSqs n qs i)
 | 0, _ => by
  have hp : ∀ j, j < n -> plAt (List.replicate n ((-1 : Int), (0 : Int))) j = (-1, 0) := fun j hj => by
   unfold plAt; rw [List.getD_eq_getElem?_getD, List.getElem?_replicate, if_pos hj]; rfl
  have hs : ∀ j, stAt (List.replicate n (0 : Int)) j = 0 := fun j => by
   unfold stAt; rw [List.getD_eq_getElem?_getD, List.getElem?_replicate]; split <;> rfl
  exact ⟨List.length_replicate, List.length_replicate, fun j hj => .inl ⟨hp j hj, hs j⟩, fun j _ => by show stAt (List.replicate n 0) j <= 0; rw [hs j]; exact Int.le_refl _, Int.le_refl _, by show (0 : Int) <= 1000000; omega⟩
 | i + 1, hi => mtPages_ok (mtSqs_ok i (by omega)) (by omega) _ (Nat.le_refl _)
theorem mtAll_ok (n : Nat) (qs : List Sq) : MtOk n qs (mtAll n qs) := mtSqs_ok _ (Nat.le_refl _)
theorem mounted_ok {z : Int} {qs : List Sq} {n : Nat} (hc : chipOk z qs = true) (h1 : 1 <= n) (h64 : n <= 64) : ftlOk z qs (mtAll n qs).ps (-1) (mtAll n qs).S = true := by
 have h := mtAll_ok n qs
 have hlen := h.ps
 have hth : ∀ j, j < n -> ∀ i k : Nat, plAt (mtAll n qs).ps j = ((i : Int), (k : Int)) -> i < qs.length -> k < (sqAt qs i).1.length -> plThere qs (plAt (mtAll n qs).ps j) = true := fun j _ i k e hi hk => plThere_iff.2 ⟨i, k, e, hi, hk⟩
 refine ftlOk_of (js := []) ⟨⟨hc, by show 1 <= (mtAll n qs).ps.length; omega, by show (mtAll n qs).ps.length <= 64; omega, fun j hj => ?_, fun j j' hj hj' hne he => ?_⟩, by show (-1 : Int) <= -1; omega, by show (-1 : Int) < _; omega, by unfold opOk; simp⟩ h.lo h.hi (fun j hj => ?_)
 ·rcases h.each j (by have h9 : j < (mtAll n qs).ps.length := hj; omega) with e | ⟨i, k, e, hi, hk, _⟩
  ·exact .inl e.1
  ·exact .inr (plThere_iff.2 ⟨i, k, e, hi, hk⟩)
 ·have hj1 : j < n := by have h9 : j < (mtAll n qs).ps.length := hj; omega
  have hj2 : j' < n := by have h9 : j' < (mtAll n qs).ps.length := hj'; omega
  rcases h.each j hj1 with e | ⟨i, k, e, hi, hk, _, ea, _⟩
  ·exact e.1
  ·rcases h.each j' hj2 with e' | ⟨i', k', e', hi', hk', _, ea', _⟩
   ·have he2 : plAt (mtAll n qs).ps j = plAt (mtAll n qs).ps j' := he
    show plAt (mtAll n qs).ps j = _
    rw [he2]; exact e'.1
   ·exfalso
    have he2 : plAt (mtAll n qs).ps j = plAt (mtAll n qs).ps j' := he
    rw [e, e'] at he2
    simp only [Prod.mk.injEq] at he2
    have e1 : i = i' := by omega
    have e2 : k = k' := by omega
    subst e1
    subst e2
    rw [ea] at ea'
    omega
 ·have hj1 : j < n := by omega
  rw [fpOk_iff]
  rcases h.each j hj1 with e | ⟨i, k, e, hi, hk, hw, ea, es⟩
  ·exact .inl e.1
  ·refine .inr ?_
   have ht := plThere_iff.2 ⟨i, k, e, hi, hk⟩
   rw [pgOf_thereE hc ht, e]
   show lyWell (lyP (txAt qs (i : Int).toNat (k : Int).toNat)).2.2.2.2 = true ∧ (lyP (txAt qs (i : Int).toNat (k : Int).toNat)).2.1 = _ ∧ (lyP (txAt qs (i : Int).toNat (k : Int).toNat)).2.2.1 <= _
   rw [Int.toNat_natCast, Int.toNat_natCast]
   exact ⟨hw, ea, by rw [es]; exact h.top j hj1⟩
end Go.Proofs.YtfabojbkhicpmaaGreatDoor
end

section
namespace Go.Proofs.YtfabojbkhicpmaaGreatDoor
open Go.RowKit
set_option linter.unusedVariables false
abbrev zF : Obj := .cells #[.int .i64 0, .slice none 0 0, .slice none 0 0, .int .i64 0, .int .i64 0] 29
structure VarF (s b lo hi : Nat) (z : Int) (qs : List Sq) (ps : List Pl) (op st : Int) (a : Option Addr) (c : Nat) (am : Option Addr) (cm : Nat) (w : World) : Prop where
 var : w.heap[b]? = some (.cells #[.int .i64 z, .slice a qs.length c, .slice am ps.length cm, .int .i64 op, .int .i64 st] 29)
 own : FtlOwn lo hi w a am qs ps
 apart : b < lo ∨ hi <= b
 atB : s <= b
 atL : s <= lo
section
variable {s b lo hi c cm : Nat} {z op st : Int} {qs : List Sq} {ps : List Pl} {a am : Option Addr} {w w' : World}
theorem VarF.lt (h : VarF s b lo hi z qs ps op st a c am cm w) : b < w.heap.size := (Array.getElem?_eq_some_iff.1 h.var).1
theorem VarF.on (h : VarF s b lo hi z qs ps op st a c am cm w) (hb : Below w.heap.size w w') : VarF s b lo hi z qs ps op st a c am cm w' := ⟨block_on h.var hb, h.own.later hb h.own.1, h.apart, h.atB, h.atL⟩
theorem VarF.aside (h : VarF s b lo hi z qs ps op st a c am cm w) {l r : Nat} (hb : Aside l r w w') (h1 : b < l ∨ r <= b) (h2 : r <= lo ∨ hi <= l) : VarF s b lo hi z qs ps op st a c am cm w' :=
 ⟨(hb.block b h.lt h1).trans h.var, h.own.aside hb h2, h.apart, h.atB, h.atL⟩
theorem VarF.cells (h : VarF s b lo hi z qs ps op st a c am cm w) : w.cell? ⟨b, 0, none⟩ = some (.int .i64 z) ∧ w.cell? ⟨b, 1, none⟩ = some (.slice a qs.length c) ∧ w.cell? ⟨b, 2, none⟩ = some (.slice am ps.length cm) ∧ w.cell? ⟨b, 3, none⟩ = some (.int .i64 op) ∧ w.cell? ⟨b, 4, none⟩ = some (.int .i64 st) := five_cells h.var
theorem VarF.squares (h : VarF s b lo hi z qs ps op st a c am cm w) : Squares lo hi w a qs.length qs := h.own.squares
theorem VarF.places (h : VarF s b lo hi z qs ps op st a c am cm w) : Places lo hi w am ps.length ps := h.own.places
theorem VarF.hi_le (h : VarF s b lo hi z qs ps op st a c am cm w) : hi <= w.heap.size := h.own.1
theorem varF_new {w1 : World} (hq : FtlOwn w1.heap.size w'.heap.size w' a am qs ps) (hs : s <= w1.heap.size) (h1 : w1.heap.size <= w'.heap.size) :
  VarF s w'.heap.size w1.heap.size w'.heap.size z qs ps op st a c am cm (w'.alloc (.cells #[.int .i64 z, .slice a qs.length c, .slice am ps.length cm, .int .i64 op, .int .i64 st] 29)) :=
 ⟨heap_new _ _, hq.later ((Below.refl w'.heap.size w').alloc (Nat.le_refl _) _) (Nat.le_refl _), .inr (Nat.le_refl _), Nat.le_trans hs h1, hs⟩
end
theorem squares_wide {lo hi lo' hi' n : Nat} {w : World} {a : Option Addr} {qs : List Sq} (h : Squares lo hi w a n qs) (h1 : lo' <= lo) (h2 : hi <= hi') (h3 : hi' <= w.heap.size) : Squares lo' hi' w a n qs := by
 obtain ⟨h4, A, C, h5, h6⟩ := h
 exact ⟨h4, A, C, reads_wide h5 h1 h2 h3, fun i hi => ⟨(h6 i hi).1, reads_wide (h6 i hi).2 h1 h2 h3⟩⟩
theorem places_wide {lo hi lo' hi' n : Nat} {w : World} {a : Option Addr} {ps : List Pl} (h : Places lo hi w a n ps) (h1 : lo' <= lo) (h2 : hi <= hi') (h3 : hi' <= w.heap.size) : Places lo' hi' w a n ps := ⟨h.1, reads_wide h.2 h1 h2 h3⟩
end Go.Proofs.YtfabojbkhicpmaaGreatDoor
end

section
namespace Go.Proofs.YtfabojbkhicpmaaGreatDoor
open Go.RowKit
set_option linter.unusedVariables false
def isE (qs : List Sq) (e : Nat) : Prop := e < qs.length ∧ (sqAt qs e).1.length = 0 ∧ (sqAt qs e).2.2 = false
structure Rm (z : Int) (qs : List Sq) (ps : List Pl) (op : Int) (k : Nat) : Prop where
 good : ∀ i, i < qs.length -> (sqAt qs i).2.2 = false
 wipes : ∀ i, i < qs.length -> (sqAt qs i).2.1 <= (k : Int)
 one : ∃ e, isE qs e
 first : op = -1 -> 2 <= (emptyK qs qs.length).length
 last : 0 <= op -> 0 < (sqAt qs op.toNat).1.length ∧ ∃ i, i < ps.length ∧ (plAt ps i).1 = op
 spare : (ps.length : Int) <= ((qs.length : Int) - 2) * z
end Go.Proofs.YtfabojbkhicpmaaGreatDoor
end

section
namespace Go.Proofs.YtfabojbkhicpmaaGreatDoor
open Go.RowKit
set_option linter.unusedVariables false
theorem plAt_rep {N i : Nat} (x : Pl) (h : i < N) : plAt (List.replicate N x) i = x := by
 unfold plAt
 rw [List.getD_eq_getElem?_getD, List.getElem?_replicate, if_pos h]
 rfl
theorem chip_rep {z : Int} {N : Nat} (hz1 : 1 <= z) (hz8 : z <= 8) (h1 : 1 <= N) (h12 : N <= 12) : chipOk z (List.replicate N ([], 0, false)) = true := by
 unfold chipOk inB
 rw [List.length_replicate, decide_eq_true hz1, decide_eq_true hz8, decide_eq_true h1, decide_eq_true h12]
 simp only [Bool.true_and, List.all_eq_true]
 intro q hq
 have e := List.eq_of_mem_replicate hq
 rw [e]
 unfold sqOk inB
 simp
 omega
def KeptG (z : Int) (qs : List Sq) (ps : List Pl) (op st : Int) (n : Nat) (lst : Nat -> ByteArray) : Prop := ∀ j : Nat, j < n -> ftlGet z qs ps op st (j : Int) = (lst j, decide (1 <= (lst j).size))
def setL (lst : Nat -> ByteArray) (i : Nat) (x : ByteArray) (j : Nat) : ByteArray := if j = i then x else lst j
structure RoomAt (w : World) (bF gL Q n : Nat) (z : Int) (k : Nat) (qs : List Sq) (ps : List Pl) (op : Int) (a : Option Addr) (c : Nat) (am : Option Addr) (cm lo hi : Nat) (lst : Nat -> ByteArray) (wr : World) : Prop where
 var : VarF w.heap.size bF lo hi z qs ps op (k : Int) a c am cm wr
 cap : ps.length <= cm
 row : Owned gL (gL + 1) wr (some ⟨gL, 0, none⟩) n (fun j => .string (lst j))
 rowA : gL < lo ∨ hi <= gL
 ok : ftlOk z qs ps op (k : Int) = true
 room : Rm z qs ps op k
 len : ps.length = n
 lenQ : qs.length = Q
 kept : KeptG z qs ps op (k : Int) n lst
 below : Below w.heap.size w wr
theorem RoomAt.on {w : World} {bF gL Q n k c cm lo hi : Nat} {z op : Int} {qs : List Sq} {ps : List Pl} {a am : Option Addr} {lst : Nat -> ByteArray} {wr w' : World} (h : RoomAt w bF gL Q n z k qs ps op a c am cm lo hi lst wr) (hb : Below wr.heap.size wr w') : RoomAt w bF gL Q n z k qs ps op a c am cm lo hi lst w' :=
 ⟨h.var.on hb, h.cap, h.row.later hb h.row.1, h.rowA, h.ok, h.room, h.len, h.lenQ, h.kept, below_here h.below hb⟩
theorem RoomAt.next {w : World} {bF gL Q n k c cm lo hi lo' hi' c' cm' X : Nat} {z op : Int} {qs : List Sq} {ps : List Pl} {a am a' am' : Option Addr} {lst : Nat -> ByteArray} {wr w5 : World} {s : Kp} {tx : ByteArray} (h : RoomAt w bF gL Q n z k qs ps op a c am cm lo hi lst wr)
  (hA : Aside bF (bF + 1) wr w5) (hv : w5.heap[bF]? = some (.cells #[.int .i64 z, .slice a' s.qs.length c', .slice am' s.ps.length cm', .int .i64 s.op, .int .i64 ((k : Int) + 1)] 29))
  (ho : FtlOwn lo' hi' wr a' am' s.qs s.ps) (h1 : bF < lo') (h2 : gL < lo') (hne : bF < gL) (hX : X < n) (hcap : s.ps.length <= cm') (hok : ftlOk z s.qs s.ps s.op ((k : Int) + 1) = true) (hR : Rm z s.qs s.ps s.op (k + 1)) (hl : s.ps.length = n) (hq : s.qs.length = qs.length) (hK : KeptG z s.qs s.ps s.op ((k : Int) + 1) n (setL lst X tx)) :
  RoomAt w bF gL Q n z (k + 1) s.qs s.ps s.op a' c' am' cm' lo' hi' (setL lst X tx) (w5.setCell ⟨gL, X, none⟩ (.string tx)) := by
 have hwB := h.var.atB
 have hwl := h.var.lt
 have hrow := h.row.aside hA (by omega)
 have hB := (Aside.refl gL (gL + 1) w5).setCell (p := ⟨gL, X, none⟩) (Nat.le_refl _) (Nat.lt_succ_self _) (.string tx)
 have hgl : gL < wr.heap.size := by have := h.row.1; omega
 have e1 : ((k + 1 : Nat) : Int) = (k : Int) + 1 := by omega
 have hsz := hA.size
 refine ⟨⟨?_, (ho.aside hA (.inl (by omega))).aside hB (.inl (by omega)), .inl h1, hwB, by omega⟩, hcap, ?_, .inl h2, by rw [e1]; exact hok, hR, hl, hq.trans h.lenQ, by rw [e1]; exact hK, h.below.trans ((hA.below (B := w.heap.size) hwB (by omega)).trans (hB.below (B := w.heap.size) (by omega) (by omega)))⟩
 ·rw [e1]
  exact (hB.block bF (by omega) (by omega)).trans hv
 ·exact (hrow.set0 hX (.string tx)).congr (fun j _ => by
   show (if j = X then Value.string tx else Value.string (lst j)) = Value.string (setL lst X tx j)
   unfold setL
   split <;> rfl)
end Go.Proofs.YtfabojbkhicpmaaGreatDoor
end

