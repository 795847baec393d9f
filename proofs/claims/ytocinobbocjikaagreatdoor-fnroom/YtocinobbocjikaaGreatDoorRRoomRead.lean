/- Several texts in one: RReadByte, RRoomLaw. -/
import Derived.Test.YtocinobbocjikaaGreatDoorRLawBase
import Derived.ChangeSlices
import Derived.Deep.Grids
import Derived.Test.YtocinobbocjikaaGreatDoorRFtlOwnP
section
namespace Go.Proofs.YtocinobbocjikaaGreatDoor
open Go.RowKit Go.ChangeShapes Go.Deep
set_option linter.unusedVariables false

theorem bytes_read {H : Type} {enc : TypeId × Value → H} {P : Program} {W : World} {t e : TypeId} {a : Option Addr} {len cap : Nat} {d : DataW H} {ps : List MemPlace} (ht : P.underlying t = some (.slice e)) (he : P.underlying e = some (.int .u8)) (hc : P.cellsOf e = 1)
    (h : DataW.Trod enc P W 0 (fun _ => true) true t (.slice a len cap) d ps) : ∃ xs, Bytes 0 W.heap.size W a len xs ∧ len ≤ maxLen := by
  obtain ⟨fuel, hf⟩ := h
  rcases open_ints ht he hc hf with ⟨hcs, _⟩ | ⟨x, l, c, zs, hcs, _, hl, hm, hz, _, hcell, hwf⟩
  · simp [Value.cells] at hcs
    obtain ⟨rfl, rfl, rfl⟩ := hcs
    exact ⟨[], ⟨rfl, Nat.le_refl _, fun h => absurd h (Nat.lt_irrefl _)⟩, Nat.zero_le _⟩
  · simp [Value.cells] at hcs
    obtain ⟨rfl, rfl, rfl⟩ := hcs
    simp only [if_true] at hz
    exact ⟨_, bytes_of (cap := cap) (.inr ⟨x, rfl, hl, hm, hz, hcell, hwf⟩), by omega⟩
end Go.Proofs.YtocinobbocjikaaGreatDoor
end

section
section
namespace Go.Proofs.YtocinobbocjikaaGreatDoor
open Go.RowKit
set_option linter.unusedVariables false

theorem sqAt_rep {N i : Nat} (x : Sq) (h : i < N) : sqAt (List.replicate N x) i = x := by
  unfold sqAt
  rw [List.getD_eq_getElem?_getD, List.getElem?_replicate, if_pos h]
  rfl
theorem plAt_rep {N i : Nat} (x : Pl) (h : i < N) : plAt (List.replicate N x) i = x := by
  unfold plAt
  rw [List.getD_eq_getElem?_getD, List.getElem?_replicate, if_pos h]
  rfl
theorem chip_rep {z : Int} {N : Nat} (hz1 : 1 ≤ z) (hz8 : z ≤ 8) (h1 : 1 ≤ N) (h12 : N ≤ 12) : chipOk z (List.replicate N ([], 0, false)) = true := by
  unfold chipOk inB
  rw [List.length_replicate, decide_eq_true hz1, decide_eq_true hz8, decide_eq_true h1, decide_eq_true h12]
  simp only [Bool.true_and, List.all_eq_true]
  intro q hq
  have e := List.eq_of_mem_replicate hq
  rw [e]
  unfold sqOk inB
  simp
  omega
/-- A new Ftl with room to spare. -/
theorem new_room {z : Int} {Q N : Nat} (hz1 : 1 ≤ z) (hz8 : z ≤ 8) (h3 : 3 ≤ Q) (h12 : Q ≤ 12) (h1 : 1 ≤ N) (h64 : N ≤ 64) (hs : (N : Int) ≤ ((Q : Int) - 2) * z) :
    ftlOk z (List.replicate Q ([], 0, false)) (List.replicate N (-1, 0)) (-1) 0 = true ∧ Rm z (List.replicate Q ([], 0, false)) (List.replicate N (-1, 0)) (-1) 0 ∧ ∀ j : Nat, j < N → ftlGet z (List.replicate Q ([], 0, false)) (List.replicate N (-1, 0)) (-1) 0 (j : Int) = (ByteArray.empty, false) := by
  have hE : ∀ i, i < Q → isE (List.replicate Q (([] : List ByteArray), (0 : Int), false)) i := fun i hi => by
    refine ⟨by rw [List.length_replicate]; exact hi, ?_, ?_⟩ <;> rw [sqAt_rep _ hi]
    rfl
  refine ⟨?_, ⟨fun i hi => ?_, fun i hi => ?_, ⟨0, hE 0 (by omega)⟩, fun _ => empty_two (hE 0 (by omega)) (hE 1 (by omega)) (by omega), fun h => absurd h (by omega), ?_⟩, fun j hj => ?_⟩
  · refine ftlOk_of (js := []) ⟨⟨chip_rep hz1 hz8 (by omega) h12, ?_, ?_, fun i hi => .inl ?_, fun i j hi hj _ _ => ?_⟩, by show (-1 : Int) ≤ -1; omega, by show (-1 : Int) < _; omega, ?_⟩ (by omega) (by omega) (fun i hi => ?_)
    · show 1 ≤ (List.replicate N _).length; rw [List.length_replicate]; exact h1
    · show (List.replicate N _).length ≤ 64; rw [List.length_replicate]; exact h64
    · have hi' : i < (List.replicate N ((-1 : Int), (0 : Int))).length := hi
      rw [List.length_replicate] at hi'
      exact plAt_rep _ hi'
    · have hi' : i < (List.replicate N ((-1 : Int), (0 : Int))).length := hi
      rw [List.length_replicate] at hi'
      exact plAt_rep _ hi'
    · unfold opOk; simp
    · rw [List.length_replicate] at hi
      rw [fpOk_iff]
      exact .inl (plAt_rep _ hi)
  · rw [List.length_replicate] at hi
    rw [sqAt_rep _ hi]
  · rw [List.length_replicate] at hi
    rw [sqAt_rep _ hi]
    simp
  · rw [List.length_replicate, List.length_replicate]; exact hs
  · unfold ftlGet
    rw [Int.toNat_natCast, plAt_rep _ hj]
    rw [if_neg (by simp)]
/-- What is got of each number, as it is kept beside. -/
def KeptG (z : Int) (qs : List Sq) (ps : List Pl) (op st : Int) (n : Nat) (lst : Nat → ByteArray) : Prop := ∀ j : Nat, j < n → ftlGet z qs ps op st (j : Int) = (lst j, decide (1 ≤ (lst j).size))
def setL (lst : Nat → ByteArray) (i : Nat) (x : ByteArray) (j : Nat) : ByteArray := if j = i then x else lst j
theorem kept_new {z : Int} {qs : List Sq} {ps : List Pl} {op st : Int} {n : Nat} (h : ∀ j : Nat, j < n → ftlGet z qs ps op st (j : Int) = (ByteArray.empty, false)) : KeptG z qs ps op st n (fun _ => ByteArray.empty) := fun j hj => by rw [h j hj]; rfl
/-- One more is entered. -/
theorem kept_next {z : Int} {qs : List Sq} {ps : List Pl} {op st : Int} {n k A : Nat} {lst : Nat → ByteArray} {tx : ByteArray} (hK : KeptG z qs ps op st n lst) (hf : ftlOk z qs ps op st = true) (hR : Rm z qs ps op k) (hk : k < 1000) (hn : ps.length = n) (hA : A < n) (hst : st + 1 ≤ 1000000) (hst0 : 0 ≤ st) (ht1 : 1 ≤ tx.size) (ht : tx.size ≤ 24) (hn64 : n ≤ 64) :
    ∃ s, planR z qs ps op st 1 (A : Int) tx = some s ∧ ftlOk z s.qs s.ps s.op (st + 1) = true ∧ Rm z s.qs s.ps s.op (k + 1) ∧ s.ps.length = n ∧ s.qs.length = qs.length ∧ KeptG z s.qs s.ps s.op (st + 1) n (setL lst A tx) := by
  have hm : mayEnt ps st 1 (A : Int) tx = true := by
    unfold mayEnt inB
    rw [pageOk_iff, Bool.and_eq_true]
    refine ⟨decide_eq_true (by omega), by simp; omega⟩
  obtain ⟨s, hs, hRs⟩ := room_enter hf hR (by omega) hm
  have hE := entd_of hs
  refine ⟨s, hs, hE.ok, hRs, hE.places.trans hn, hE.squares, fun j hj => ?_⟩
  unfold setL
  by_cases e : j = A
  · subst e
    rw [if_pos rfl, hE.here, decide_eq_true ht1]
    rfl
  · rw [if_neg e, hE.else_ j (by omega) (by omega)]
    exact hK j hj
/-- The Ftl in its variable, and what is kept beside it. -/
structure RoomAt (w : World) (bF gL Q n : Nat) (z : Int) (k : Nat) (qs : List Sq) (ps : List Pl) (op : Int) (a : Option Addr) (c : Nat) (am : Option Addr) (cm lo hi : Nat) (lst : Nat → ByteArray) (wr : World) : Prop where
  var : VarF w.heap.size bF lo hi z qs ps op (k : Int) a c am cm wr
  cap : ps.length ≤ cm
  row : Owned gL (gL + 1) wr (some ⟨gL, 0, none⟩) n (fun j => .string (lst j))
  rowA : gL < lo ∨ hi ≤ gL
  ok : ftlOk z qs ps op (k : Int) = true
  room : Rm z qs ps op k
  len : ps.length = n
  lenQ : qs.length = Q
  kept : KeptG z qs ps op (k : Int) n lst
  below : Below w.heap.size w wr
theorem RoomAt.on {w : World} {bF gL Q n k c cm lo hi : Nat} {z op : Int} {qs : List Sq} {ps : List Pl} {a am : Option Addr} {lst : Nat → ByteArray} {wr w' : World} (h : RoomAt w bF gL Q n z k qs ps op a c am cm lo hi lst wr) (hb : Below wr.heap.size wr w') : RoomAt w bF gL Q n z k qs ps op a c am cm lo hi lst w' :=
  ⟨h.var.on hb, h.cap, h.row.later hb h.row.1, h.rowA, h.ok, h.room, h.len, h.lenQ, h.kept, below_here h.below hb⟩
theorem made_texts (w : World) (n : Nat) (e : TypeId) : Owned w.heap.size (w.heap.size + 1) (w.alloc (.cells (madeCells #[.string ByteArray.empty] n) e)) (some ⟨w.heap.size, 0, none⟩) n (fun _ => .string ByteArray.empty) := by
  have hr := World.rowIs_made w (.string ByteArray.empty) n e
  refine ⟨by simp, fun _ => ⟨w.heap.size, 0, rfl, Nat.le_refl _, Nat.lt_succ_self _, fun j hj => ⟨?_, ?_⟩⟩⟩
  · rw [Nat.zero_add]; exact hr.cell hj
  · rw [Nat.zero_add]; exact hr.frozen j
/-- x comes into f's variable, a text into the row beside it. -/
theorem RoomAt.next {w : World} {bF gL Q n k c cm lo hi lo' hi' c' cm' X : Nat} {z op : Int} {qs : List Sq} {ps : List Pl} {a am a' am' : Option Addr} {lst : Nat → ByteArray} {wr w5 : World} {s : Kp} {tx : ByteArray} (h : RoomAt w bF gL Q n z k qs ps op a c am cm lo hi lst wr)
    (hA : Aside bF (bF + 1) wr w5) (hv : w5.heap[bF]? = some (.cells #[.int .i64 z, .slice a' s.qs.length c', .slice am' s.ps.length cm', .int .i64 s.op, .int .i64 ((k : Int) + 1)] 29))
    (ho : FtlOwn lo' hi' wr a' am' s.qs s.ps) (h1 : bF < lo') (h2 : gL < lo') (hne : bF < gL) (hX : X < n) (hcap : s.ps.length ≤ cm') (hok : ftlOk z s.qs s.ps s.op ((k : Int) + 1) = true) (hR : Rm z s.qs s.ps s.op (k + 1)) (hl : s.ps.length = n) (hq : s.qs.length = qs.length) (hK : KeptG z s.qs s.ps s.op ((k : Int) + 1) n (setL lst X tx)) :
    RoomAt w bF gL Q n z (k + 1) s.qs s.ps s.op a' c' am' cm' lo' hi' (setL lst X tx) (w5.setCell ⟨gL, X, none⟩ (.string tx)) := by
  have hwB := h.var.atB
  have hwl := h.var.lt
  have hrow := h.row.aside hA (by omega)
  have hB := (Aside.refl gL (gL + 1) w5).setCell (p := ⟨gL, X, none⟩) (Nat.le_refl _) (Nat.lt_succ_self _) (.string tx)
  have hgl : gL < wr.heap.size := by have := h.row.1; omega
  have e1 : ((k + 1 : Nat) : Int) = (k : Int) + 1 := by omega
  have hsz := hA.size
  refine ⟨⟨?_, (ho.aside hA (.inl (by omega))).aside hB (.inl (by omega)), .inl h1, hwB, by omega⟩, hcap, ?_, .inl h2, by rw [e1]; exact hok, hR, hl, hq.trans h.lenQ, by rw [e1]; exact hK, h.below.trans ((hA.below (B := w.heap.size) hwB (by omega)).trans (hB.below (B := w.heap.size) (by omega) (by omega)))⟩
  · rw [e1]
    exact (hB.block bF (by omega) (by omega)).trans hv
  · exact (hrow.set0 hX (.string tx)).congr (fun j _ => by
      show (if j = X then Value.string tx else Value.string (lst j)) = Value.string (setL lst X tx j)
      unfold setL
      split <;> rfl)
end Go.Proofs.YtocinobbocjikaaGreatDoor
end

section
namespace Go.Proofs.YtocinobbocjikaaGreatDoor
open Go.RowKit
set_option linter.unusedVariables false

/-- What mounting works on: the stamps, the map, the greatest stamp. -/
structure Mt where
  st : List Int
  ps : List Pl
  S : Int
def stAt (st : List Int) (i : Nat) : Int := st.getD i 0
theorem stAt_set (st : List Int) {i : Nat} (x : Int) (h : i < st.length) (k : Nat) : stAt (st.set i x) k = if k = i then x else stAt st k := by
  unfold stAt
  rw [List.getD_eq_getElem?_getD, List.getElem?_set]
  by_cases e : k = i
  · subst e; simp [h]
  · rw [if_neg e, if_neg (Ne.symm e), List.getD_eq_getElem?_getD]
/-- Is it a page of a number below n? -/
def mtHit (n : Nat) (r : Int × Int × Int × ByteArray × Int) : Bool := lyWell r.2.2.2.2 && !decide (r.2.1 ≥ (n : Int))
def maxI (a b : Int) : Int := if a > b then a else b
/-- The page k of Square i. -/
def mtOne (n : Nat) (i k : Nat) (r : Int × Int × Int × ByteArray × Int) (s : Mt) : Mt :=
  if mtHit n r then (if r.2.2.1 > stAt s.st r.2.1.toNat then ⟨s.st.set r.2.1.toNat r.2.2.1, s.ps.set r.2.1.toNat ((i : Int), (k : Int)), maxI s.S r.2.2.1⟩ else ⟨s.st, s.ps, maxI s.S r.2.2.1⟩) else s
def mtPages (n : Nat) (qs : List Sq) (i : Nat) (s : Mt) : Nat → Mt
  | 0 => s
  | k + 1 => mtOne n i k (lyP (txAt qs i k)) (mtPages n qs i s k)
def mtSqs (n : Nat) (qs : List Sq) : Nat → Mt
  | 0 => ⟨List.replicate n 0, List.replicate n (-1, 0), 0⟩
  | i + 1 => mtPages n qs i (mtSqs n qs i) (sqAt qs i).1.length
def mtAll (n : Nat) (qs : List Sq) : Mt := mtSqs n qs qs.length
/-- What Mount tells. -/
def mountF (z : Int) (qs : List Sq) (n : Int) : Fv := if chipOk z qs && inB n 1 64 then ⟨z, qs, (mtAll n.toNat qs).ps, -1, (mtAll n.toNat qs).S⟩ else ⟨0, [], [], 0, 0⟩
/-- A page that lies well tells At and Stamp within their bounds. -/
theorem lyP_well {s : ByteArray} (h : lyWell (lyP s).2.2.2.2 = true) : 0 ≤ (lyP s).2.1 ∧ (lyP s).2.1 ≤ 63 ∧ 1 ≤ (lyP s).2.2.1 ∧ (lyP s).2.2.1 ≤ 1000000 := by
  by_cases h0 : s.size = 0
  · rw [lyP_blank h0] at h; exact absurd h (by decide)
  · cases hg : goodL s with
    | false => rw [lyP_torn h0 hg] at h; exact absurd h (by decide)
    | true =>
      rw [lyP_good h0 hg]
      simp only [goodL, Bool.and_eq_true] at hg
      have hb := hg.2.2.2.2
      simp only [bodyOk, Bool.and_eq_true] at hb
      have hp := hb.2.2.2
      rw [pageOk_iff] at hp
      have hp := of_decide_eq_true hp
      dsimp only
      omega
/-- What mounting keeps. -/
structure MtOk (n : Nat) (qs : List Sq) (s : Mt) : Prop where
  st : s.st.length = n
  ps : s.ps.length = n
  each : ∀ j, j < n → (plAt s.ps j = (-1, 0) ∧ stAt s.st j = 0) ∨ ∃ i k : Nat, plAt s.ps j = ((i : Int), (k : Int)) ∧ i < qs.length ∧ k < (sqAt qs i).1.length ∧ lyWell (lyP (txAt qs i k)).2.2.2.2 = true ∧ (lyP (txAt qs i k)).2.1 = (j : Int) ∧ (lyP (txAt qs i k)).2.2.1 = stAt s.st j
  top : ∀ j, j < n → stAt s.st j ≤ s.S
  lo : 0 ≤ s.S
  hi : s.S ≤ 1000000
theorem mtOne_ok {n i k : Nat} {qs : List Sq} {s : Mt} (h : MtOk n qs s) (hi : i < qs.length) (hk : k < (sqAt qs i).1.length) : MtOk n qs (mtOne n i k (lyP (txAt qs i k)) s) := by
  unfold mtOne
  cases hh : mtHit n (lyP (txAt qs i k)) with
  | false => exact h
  | true =>
    rw [if_pos rfl]
    unfold mtHit at hh
    simp only [Bool.and_eq_true, Bool.not_eq_true', decide_eq_false_iff_not] at hh
    obtain ⟨hw, ha⟩ := hh
    obtain ⟨w1, w2, w3, w4⟩ := lyP_well hw
    have hlo := h.lo
    have hhi := h.hi
    have hm1 : s.S ≤ maxI s.S (lyP (txAt qs i k)).2.2.1 := by unfold maxI; split <;> omega
    have hm2 : (lyP (txAt qs i k)).2.2.1 ≤ maxI s.S (lyP (txAt qs i k)).2.2.1 := by unfold maxI; split <;> omega
    have hm3 : maxI s.S (lyP (txAt qs i k)).2.2.1 ≤ 1000000 := by unfold maxI; split <;> omega
    split
    · have hal : (lyP (txAt qs i k)).2.1.toNat < n := by omega
      refine ⟨by rw [List.length_set]; exact h.st, by rw [List.length_set]; exact h.ps, fun j hj => ?_, fun j hj => ?_, by dsimp only; omega, hm3⟩
      · dsimp only
        rw [plAt_set s.ps _ (by rw [h.ps]; exact hal), stAt_set s.st _ (by rw [h.st]; exact hal)]
        by_cases e : j = (lyP (txAt qs i k)).2.1.toNat
        · rw [if_pos e, if_pos e]
          exact .inr ⟨i, k, rfl, hi, hk, hw, by omega, rfl⟩
        · rw [if_neg e, if_neg e]
          exact h.each j hj
      · dsimp only
        rw [stAt_set s.st _ (by rw [h.st]; exact hal)]
        split
        · exact hm2
        · have := h.top j hj; omega
    · refine ⟨h.st, h.ps, h.each, fun j hj => ?_, by dsimp only; omega, hm3⟩
      have := h.top j hj
      dsimp only
      omega
theorem mtPages_ok {n i : Nat} {qs : List Sq} {s : Mt} (h : MtOk n qs s) (hi : i < qs.length) : ∀ k, k ≤ (sqAt qs i).1.length → MtOk n qs (mtPages n qs i s k)
  | 0, _ => h
  | k + 1, hk => mtOne_ok (mtPages_ok h hi k (by omega)) hi (by omega)
theorem mtSqs_ok {n : Nat} {qs : List Sq} : ∀ i, i ≤ qs.length → MtOk n qs (mtSqs n qs i)
  | 0, _ => by
    have hp : ∀ j, j < n → plAt (List.replicate n ((-1 : Int), (0 : Int))) j = (-1, 0) := fun j hj => by
      unfold plAt; rw [List.getD_eq_getElem?_getD, List.getElem?_replicate, if_pos hj]; rfl
    have hs : ∀ j, stAt (List.replicate n (0 : Int)) j = 0 := fun j => by
      unfold stAt; rw [List.getD_eq_getElem?_getD, List.getElem?_replicate]; split <;> rfl
    exact ⟨List.length_replicate, List.length_replicate, fun j hj => .inl ⟨hp j hj, hs j⟩, fun j _ => by show stAt (List.replicate n 0) j ≤ 0; rw [hs j]; exact Int.le_refl _, Int.le_refl _, by show (0 : Int) ≤ 1000000; omega⟩
  | i + 1, hi => mtPages_ok (mtSqs_ok i (by omega)) (by omega) _ (Nat.le_refl _)
theorem mtAll_ok (n : Nat) (qs : List Sq) : MtOk n qs (mtAll n qs) := mtSqs_ok _ (Nat.le_refl _)
/-- What is mounted is right. -/
theorem mounted_ok {z : Int} {qs : List Sq} {n : Nat} (hc : chipOk z qs = true) (h1 : 1 ≤ n) (h64 : n ≤ 64) : ftlOk z qs (mtAll n qs).ps (-1) (mtAll n qs).S = true := by
  have h := mtAll_ok n qs
  have hlen := h.ps
  have hth : ∀ j, j < n → ∀ i k : Nat, plAt (mtAll n qs).ps j = ((i : Int), (k : Int)) → i < qs.length → k < (sqAt qs i).1.length → plThere qs (plAt (mtAll n qs).ps j) = true := fun j _ i k e hi hk => plThere_iff.2 ⟨i, k, e, hi, hk⟩
  refine ftlOk_of (js := []) ⟨⟨hc, by show 1 ≤ (mtAll n qs).ps.length; omega, by show (mtAll n qs).ps.length ≤ 64; omega, fun j hj => ?_, fun j j' hj hj' hne he => ?_⟩, by show (-1 : Int) ≤ -1; omega, by show (-1 : Int) < _; omega, by unfold opOk; simp⟩ h.lo h.hi (fun j hj => ?_)
  · rcases h.each j (by have h9 : j < (mtAll n qs).ps.length := hj; omega) with e | ⟨i, k, e, hi, hk, _⟩
    · exact .inl e.1
    · exact .inr (plThere_iff.2 ⟨i, k, e, hi, hk⟩)
  · have hj1 : j < n := by have h9 : j < (mtAll n qs).ps.length := hj; omega
    have hj2 : j' < n := by have h9 : j' < (mtAll n qs).ps.length := hj'; omega
    rcases h.each j hj1 with e | ⟨i, k, e, hi, hk, _, ea, _⟩
    · exact e.1
    · rcases h.each j' hj2 with e' | ⟨i', k', e', hi', hk', _, ea', _⟩
      · have he2 : plAt (mtAll n qs).ps j = plAt (mtAll n qs).ps j' := he
        show plAt (mtAll n qs).ps j = _
        rw [he2]; exact e'.1
      · exfalso
        have he2 : plAt (mtAll n qs).ps j = plAt (mtAll n qs).ps j' := he
        rw [e, e'] at he2
        simp only [Prod.mk.injEq] at he2
        have e1 : i = i' := by omega
        have e2 : k = k' := by omega
        subst e1
        subst e2
        rw [ea] at ea'
        omega
  · have hj1 : j < n := by omega
    rw [fpOk_iff]
    rcases h.each j hj1 with e | ⟨i, k, e, hi, hk, hw, ea, es⟩
    · exact .inl e.1
    · refine .inr ?_
      have ht := plThere_iff.2 ⟨i, k, e, hi, hk⟩
      rw [pgOf_thereE hc ht, e]
      show lyWell (lyP (txAt qs (i : Int).toNat (k : Int).toNat)).2.2.2.2 = true ∧ (lyP (txAt qs (i : Int).toNat (k : Int).toNat)).2.1 = _ ∧ (lyP (txAt qs (i : Int).toNat (k : Int).toNat)).2.2.1 ≤ _
      rw [Int.toNat_natCast, Int.toNat_natCast]
      exact ⟨hw, ea, by rw [es]; exact h.top j hj1⟩
end Go.Proofs.YtocinobbocjikaaGreatDoor
end
end

