/- Several texts in one: ChipOwn2, ChipOwn3, NoteMath, ChipMark, ChipJob, ChipJob2, ChipHeld, JobMark, ChipJobSz, LogPut. -/
import Derived.Test.YthldcfiemfccpaaDoorRTextWalk
import Derived.Test.YthldcfiemfccpaaDoorRCopyBase
import Derived.Test.YthldcfiemfccpaaDoorRLogMath
section
namespace Go.Proofs.YthldcfiemfccpaaDoor
open Go.RowKit
set_option linter.unusedVariables false
set_option maxRecDepth 20000

/-! ### Squares in new memory -/
theorem make3 {P : Program} (t e : TypeId) (z0 z1 z2 : Value) (bytes : Nat) (ht : P.underlying t = some (.slice e)) (hinfo : (P.info? e).map (fun i => (i.zero, i.size, i.bytes)) = some (some (.agg #[z0, z1, z2]), 3, bytes))
    (n : Nat) (hb : bytes * n ≤ 281474976710656) (h63 : n ≤ 9223372036854775807) (w : World) :
    (Instr.makeSlice t (.int .i64 (n : Int)) (.int .i64 (n : Int))).run P w = .ok (.slice (some ⟨w.heap.size, 0, none⟩) n n) (w.alloc (.cells (madeCells #[z0, z1, z2] (n * 3)) e)) := by
  obtain ⟨i, hi, hzz⟩ := Option.map_eq_some_iff.1 hinfo
  simp only [Prod.mk.injEq] at hzz
  obtain ⟨hz, hs, hb'⟩ := hzz
  have h := run_make (P := P) w t e i (.agg #[z0, z1, z2]) ht hi hz .i64 .i64 (n : Int) (n : Int) (by omega) (by omega) (by rw [hb', ← Int.natCast_mul]; generalize bytes * n = q at hb ⊢; omega) (by omega)
  rw [h, hs]
  rfl
def zero3 (j : Nat) : Value := if j % 3 = 0 then .slice none 0 0 else if j % 3 = 1 then .int .i64 0 else .bool false
theorem made3 (w : World) (n : Nat) (e : TypeId) : Owned w.heap.size (w.heap.size + 1) (w.alloc (.cells (madeCells #[.slice none 0 0, .int .i64 0, .bool false] (n * 3)) e)) (some ⟨w.heap.size, 0, none⟩) (3 * n) zero3 := by
  refine ⟨by simp, fun _ => ⟨w.heap.size, 0, rfl, Nat.le_refl _, Nat.lt_succ_self _, fun j hj => ⟨?_, ?_⟩⟩⟩
  · rw [World.cell?_alloc_new, Nat.zero_add]
    have hj' : j < n * 3 := by omega
    have h3 : j % 3 = 0 ∨ j % 3 = 1 ∨ j % 3 = 2 := by omega
    rcases h3 with h | h | h <;> simp [madeCells, hj', zero3, h]
  · exact four_frozen (heap_new w _) _
theorem len_weight {qs : List Sq} {k : Nat} (h : k < qs.length) : (sqAt qs k).1.length ≤ weight qs := by
  have h1 := weight_take qs k h
  have h2 : weight (qs.take (k + 1)) ≤ weight qs := by
    unfold weight
    conv => rhs; rw [← List.take_append_drop (k + 1) qs, List.map_append, List.sum_append]
    omega
  omega

theorem row3_step (A : Nat → Option Addr) (C : Nat → Nat) (qs : List Sq) (k : Nat) (p : Option Addr) (j : Nat) :
    (if j = k * 3 + 2 then Value.bool (sqAt qs k).2.2 else if j = k * 3 + 1 then .int .i64 (sqAt qs k).2.1 else if j = k * 3 then .slice p (sqAt qs k).1.length (C k) else if j < 3 * k then cellQ A C qs j else zero3 j) = (if j < 3 * (k + 1) then cellQ (fun i => if i = k then p else A i) C qs j else zero3 j) := by
  by_cases e2 : j = k * 3 + 2
  · rw [if_pos e2, if_pos (by omega), e2, show k * 3 + 2 = 3 * k + 2 by omega, cellQ2]
  · rw [if_neg e2]
    by_cases e1 : j = k * 3 + 1
    · rw [if_pos e1, if_pos (by omega), e1, show k * 3 + 1 = 3 * k + 1 by omega, cellQ1]
    · rw [if_neg e1]
      by_cases e0 : j = k * 3
      · rw [if_pos e0, if_pos (by omega), e0, show k * 3 = 3 * k by omega, cellQ0]; simp
      · rw [if_neg e0]
        by_cases h : j < 3 * k
        · rw [if_pos h, if_pos (by omega)]
          unfold cellQ
          dsimp only
          rw [if_neg (show ¬ j / 3 = k by omega)]
        · rw [if_neg h, if_neg (by omega)]

end Go.Proofs.YthldcfiemfccpaaDoor
end

section
namespace Go.Proofs.YthldcfiemfccpaaDoor
open Go.RowKit
set_option linter.unusedVariables false
set_option maxRecDepth 20000

theorem OwnSqs.aside {lo hi n g off l r : Nat} {w w' : World} {a : Option Addr} {qs : List Sq} {A : Nat → Option Addr} {C P : Nat → Nat} (h : OwnSqs lo hi w a n qs g off A C P) (hb : Aside l r w w') (hr : r ≤ lo ∨ hi ≤ l) : OwnSqs lo hi w' a n qs g off A C P :=
  ⟨h.len, h.row.aside hb (by have := h.atG; omega), h.addr, fun i hi => (h.pages i hi).aside hb (by have := h.atP i hi; omega), h.room, h.atG, h.atP, h.apartG, h.apartP, Nat.le_trans h.top hb.size⟩
theorem OwnSqs.wide {lo hi lo' hi' n g off : Nat} {w : World} {a : Option Addr} {qs : List Sq} {A : Nat → Option Addr} {C P : Nat → Nat} (h : OwnSqs lo hi w a n qs g off A C P) (h1 : lo' ≤ lo) (h2 : hi ≤ hi') (h3 : hi' ≤ w.heap.size) : OwnSqs lo' hi' w a n qs g off A C P :=
  ⟨h.len, h.row, h.addr, h.pages, h.room, by have := h.atG; omega, fun i hi => by have := h.atP i hi; omega, h.apartG, h.apartP, h3⟩
theorem OwnSquares.aside {lo hi n l r : Nat} {w w' : World} {a : Option Addr} {qs : List Sq} (h : OwnSquares lo hi w a n qs) (hb : Aside l r w w') (hr : r ≤ lo ∨ hi ≤ l) : OwnSquares lo hi w' a n qs := by
  obtain ⟨g, off, A, C, P, h⟩ := h
  exact ⟨g, off, A, C, P, h.aside hb hr⟩
theorem OwnSquares.wide {lo hi lo' hi' n : Nat} {w : World} {a : Option Addr} {qs : List Sq} (h : OwnSquares lo hi w a n qs) (h1 : lo' ≤ lo) (h2 : hi ≤ hi') (h3 : hi' ≤ w.heap.size) : OwnSquares lo' hi' w a n qs := by
  obtain ⟨g, off, A, C, P, h⟩ := h
  exact ⟨g, off, A, C, P, h.wide h1 h2 h3⟩
theorem two_cells {W : World} {b : Nat} {c0 c1 : Value} {t : TypeId} {fr : Nat × Nat} (h : W.heap[b]? = some (.cells #[c0, c1] t fr)) :
    W.cell? ⟨b, 0, none⟩ = some c0 ∧ W.cell? ⟨b, 1, none⟩ = some c1 := by
  simp [World.cell?, h]
theorem two_set {W : World} {b : Nat} {c0 c1 : Value} {t : TypeId} {fr : Nat × Nat} (h : W.heap[b]? = some (.cells #[c0, c1] t fr)) (v0 v1 : Value) :
    ((W.setCell ⟨b, 0, none⟩ v0).setCell ⟨b, 1, none⟩ v1).heap[b]? = some (.cells #[v0, v1] t fr) :=
  set_block (set_block h 0 v0 (by simp)) 1 v1 (by simp)
theorem two_other {W : World} {b k : Nat} {x : Option Obj} (h : W.heap[b]? = x) (hne : k ≠ b) (v0 v1 : Value) : ((W.setCell ⟨k, 0, none⟩ v0).setCell ⟨k, 1, none⟩ v1).heap[b]? = x :=
  set_other (set_other h hne v0) hne v1
theorem two_aside {lo hi : Nat} {w W : World} {b : Nat} (h : Aside lo hi w W) (h1 : lo ≤ b) (h2 : b < hi) (v0 v1 : Value) : Aside lo hi w ((W.setCell ⟨b, 0, none⟩ v0).setCell ⟨b, 1, none⟩ v1) :=
  (h.setCell (p := ⟨b, 0, none⟩) h1 h2 v0).setCell (p := ⟨b, 1, none⟩) h1 h2 v1

end Go.Proofs.YthldcfiemfccpaaDoor
end

section
namespace Go.Proofs.YthldcfiemfccpaaDoor
open Go.RowKit
set_option linter.unusedVariables false

structure Nt where
  k : Int
  tt : Int
  e : Int
  s : Int
  a : Int
  tx : ByteArray
  vs : List ByteArray
/-- What a Note's numbers may be. -/
def ntNum (x : Nt) : Bool := inB x.k 1 3 && (inB x.tt 0 1 && (inB x.e 0 1000000 && (inB x.s 0 1000000 && (inB x.a 0 63 && (decide (x.tx.size ≤ 24) && valuesOk x.vs)))))
/-- What its Kind does not tell is zero. -/
def ntKind (x : Nt) : Bool := (decide (x.k = 1) || (decide (x.a = 0) && decide (x.tx = ByteArray.empty))) && (decide (x.k = 2) || decide (x.vs.length = 0))
def noteOk (x : Nt) : Bool := ntNum x && ntKind x
def noteV (x : Nt) (a : Option Addr) (n c : Nat) : Value := .agg #[.int .i64 x.k, .int .i64 x.tt, .int .i64 x.e, .int .i64 x.s, .int .i64 x.a, .string x.tx, .slice a n c]
theorem note_cells {W : World} {b : Nat} {c0 c1 c2 c3 c4 c5 c6 : Value} {t : TypeId} {fr : Nat × Nat} (h : W.heap[b]? = some (.cells #[c0, c1, c2, c3, c4, c5, c6] t fr)) :
    W.cell? ⟨b, 0, none⟩ = some c0 ∧ W.cell? ⟨b, 1, none⟩ = some c1 ∧ W.cell? ⟨b, 2, none⟩ = some c2 ∧ W.cell? ⟨b, 3, none⟩ = some c3 ∧ W.cell? ⟨b, 4, none⟩ = some c4 ∧ W.cell? ⟨b, 5, none⟩ = some c5 ∧ W.cell? ⟨b, 6, none⟩ = some c6 := by
  simp [World.cell?, h]
theorem note_set {W : World} {b : Nat} {c0 c1 c2 c3 c4 c5 c6 : Value} {t : TypeId} {fr : Nat × Nat} (h : W.heap[b]? = some (.cells #[c0, c1, c2, c3, c4, c5, c6] t fr)) (v0 v1 v2 v3 v4 v5 v6 : Value) :
    (((((((W.setCell ⟨b, 0, none⟩ v0).setCell ⟨b, 1, none⟩ v1).setCell ⟨b, 2, none⟩ v2).setCell ⟨b, 3, none⟩ v3).setCell ⟨b, 4, none⟩ v4).setCell ⟨b, 5, none⟩ v5).setCell ⟨b, 6, none⟩ v6).heap[b]? = some (.cells #[v0, v1, v2, v3, v4, v5, v6] t fr) :=
  set_block (set_block (set_block (set_block (set_block (set_block (set_block h 0 v0 (by simp)) 1 v1 (by simp)) 2 v2 (by simp)) 3 v3 (by simp)) 4 v4 (by simp)) 5 v5 (by simp)) 6 v6 (by simp)
theorem note_aside {lo hi b : Nat} {a w : World} (h : Aside lo hi a w) (h1 : lo ≤ b) (h2 : b < hi) (v0 v1 v2 v3 v4 v5 v6 : Value) :
    Aside lo hi a (((((((w.setCell ⟨b, 0, none⟩ v0).setCell ⟨b, 1, none⟩ v1).setCell ⟨b, 2, none⟩ v2).setCell ⟨b, 3, none⟩ v3).setCell ⟨b, 4, none⟩ v4).setCell ⟨b, 5, none⟩ v5).setCell ⟨b, 6, none⟩ v6) :=
  ((((((h.setCell (p := ⟨b, 0, none⟩) h1 h2 v0).setCell (p := ⟨b, 1, none⟩) h1 h2 v1).setCell (p := ⟨b, 2, none⟩) h1 h2 v2).setCell (p := ⟨b, 3, none⟩) h1 h2 v3).setCell (p := ⟨b, 4, none⟩) h1 h2 v4).setCell (p := ⟨b, 5, none⟩) h1 h2 v5).setCell (p := ⟨b, 6, none⟩) h1 h2 v6
end Go.Proofs.YthldcfiemfccpaaDoor
end

section
namespace Go.Proofs.YthldcfiemfccpaaDoor
open Go.RowKit
set_option linter.unusedVariables false
set_option maxRecDepth 20000

set_option maxHeartbeats 400000 in
/-- Marks are written into texts that are owned, also far up. -/
theorem markTL_any (a : Option Addr) (n cap : Nat) (xs : List ByteArray) (m : Nat) (w : World) {lo hi : Nat} (h : OwnTexts lo hi w a n xs) (hn : n ≤ 1048576) (m0 : 1 ≤ m) (m1 : m + n ≤ 4194304) :
    Calls Tryd.prog 30 #[.slice a n cap, .int .i64 (m : Int)] w fun e w' => e = .returned (.int .i64 ((m + n : Nat) : Int)) ∧ OwnTexts lo hi w' a n (marksT m n) ∧ Aside lo hi w w' := by
  obtain ⟨hl, hx⟩ := h
  have HL : Hid (xs.length = n) := hl
  clear hl
  go_enter Tryd.func30, Tryd.ntmps30
  go_wp2_with fail
  go_loopw [1, 5] (fun t i wr => ∃ k : Nat, k ≤ n ∧ i = .int .i64 k ∧ t = .int .i64 ((m + k : Nat) : Int) ∧ Owned lo hi wr a n (fun i => if i < k then .string (markT (m + i)) else cellT xs i) ∧ Aside lo hi w wr) (fun _ i _ => n - (intOf i).toNat)
  case atStart => exact ⟨0, Nat.zero_le _, rfl, by simp, hx.congr (fun _ _ => by simp), Aside.refl _ _ _⟩
  case round =>
    obtain ⟨k, hk, rfl, rfl, hrow, hasd⟩ := hrel
    have hhi := hrow.1
    have HX := hide hx
    clear hx
    by_cases hlt : k < n
    · have HR0 := hide hrow
      have HA0 := hide hasd
      clear hrow hasd
      go_wp2_with fail
      refine (markText_to (m + k) _ (by omega) (by omega) (by omega) wr).mono ?_
      rintro e w2 ⟨rfl, b2⟩
      have hrow := HR0.out.later b2 hhi
      have hasd := HA0.out.trans (aside_new b2)
      obtain ⟨b, off, rfl, hb1, hb2, hc⟩ := hrow.2 (by omega)
      obtain ⟨hco, hfo⟩ := hc k hlt
      simp only [Nat.lt_irrefl, if_false, cellT] at hco
      have HR := hide ((hrow.set hlt (.string (markT (m + k)))).congr (g := fun i => if i < k + 1 then .string (markT (m + i)) else cellT xs i) (fun j hj => markT_step xs m k j))
      have HB := hide (hasd.setCell (p := ⟨b, off + k, none⟩) hb1 hb2 (.string (markT (m + k))))
      clear hrow hasd hc HR0 HA0 b2
      go_wp2_with fail
      go_roundw
      case rel => exact ⟨k + 1, by omega, by go_num, by go_num, HR.out, HB.out⟩
      case measure => simp [intOf]; omega
    · obtain rfl : k = n := by omega
      go_wp2_with fail
      go_ret
      exact ⟨rfl, ⟨marksT_length m k, hrow.congr (fun i hi => by rw [if_pos hi, marksT_at m k i hi])⟩, hasd⟩
/-- The same, where the texts lie in a block of their own: what is written lies there, and nothing is where there are none. -/
theorem markTP_any (a : Option Addr) (n cap : Nat) (xs : List ByteArray) (m : Nat) (w : World) {P : Nat} (h : OwnTexts P (P + 1) w a n xs) (hn : n ≤ 1048576) (m0 : 1 ≤ m) (m1 : m + n ≤ 4194304) :
    Calls Tryd.prog 30 #[.slice a n cap, .int .i64 (m : Int)] w fun e w' => e = .returned (.int .i64 ((m + n : Nat) : Int)) ∧ OwnTexts P (P + 1) w' a n (marksT m n) ∧ ∃ l r, Aside l r w w' ∧ (l = r ∨ 0 < n ∧ l = P ∧ r = P + 1) := by
  by_cases h0 : 0 < n
  · exact (markTL_any a n cap xs m w h hn m0 m1).mono fun e w' ⟨h1, h2, h3⟩ => ⟨h1, h2, P, P + 1, h3, .inr ⟨h0, rfl, rfl⟩⟩
  · exact (markTL_any a n cap xs m w (lo := 0) (hi := 0) ⟨h.1, Nat.zero_le _, fun h' => absurd h' h0⟩ hn m0 m1).mono fun e w' ⟨h1, h2, h3⟩ => ⟨h1, ⟨h2.1, Nat.le_trans h.2.1 h3.size, fun h' => absurd h' h0⟩, 0, 0, h3, .inl rfl⟩

/-- How many Pages there are. -/
def lens (qs : List Sq) : Nat := (qs.map fun q => q.1.length).sum
theorem lens_take (qs : List Sq) (k : Nat) (h : k < qs.length) : lens (qs.take (k + 1)) = lens (qs.take k) + (sqAt qs k).1.length := by
  unfold lens sqAt
  rw [List.take_succ_eq_append_getElem h, List.map_append, List.sum_append, List.getD_eq_getElem?_getD, List.getElem?_eq_getElem h]
  simp
theorem lens_whole (qs : List Sq) (k : Nat) : lens (qs.take k) ≤ lens qs := by
  unfold lens
  conv => rhs; rw [← List.take_append_drop k qs, List.map_append, List.sum_append]
  omega
theorem lens_weight (qs : List Sq) : lens qs ≤ weight qs := by
  unfold lens weight
  induction qs with
  | nil => simp
  | cons q qs ih => simp only [List.map_cons, List.sum_cons]; omega
/-- Where the marks of a Square begin. -/
def markS (qs : List Sq) (m i : Nat) : Nat := m + lens (qs.take i) + 2 * i
/-- Squares that are marked. -/
def sqMark (qs : List Sq) (m : Nat) : List Sq := (List.range qs.length).map fun i => (marksT (markS qs m i) (sqAt qs i).1.length, ((markS qs m i + (sqAt qs i).1.length : Nat) : Int), decide ((markS qs m i + (sqAt qs i).1.length + 1) % 3 = 0))
theorem sqMark_length (qs : List Sq) (m : Nat) : (sqMark qs m).length = qs.length := by simp [sqMark]
theorem sqMark_at (qs : List Sq) (m i : Nat) (h : i < qs.length) : sqAt (sqMark qs m) i = (marksT (markS qs m i) (sqAt qs i).1.length, ((markS qs m i + (sqAt qs i).1.length : Nat) : Int), decide ((markS qs m i + (sqAt qs i).1.length + 1) % 3 = 0)) := by
  show (sqMark qs m).getD i ([], 0, false) = _
  unfold sqMark
  rw [List.getD_eq_getElem?_getD, List.getElem?_map, List.getElem?_range h]; rfl
theorem sqMark_len (qs : List Sq) (m i : Nat) (h : i < qs.length) : (sqAt (sqMark qs m) i).1.length = (sqAt qs i).1.length := by
  rw [sqMark_at qs m i h]; exact marksT_length _ _
theorem markQ_step (A : Nat → Option Addr) (C : Nat → Nat) (qs : List Sq) (m k j : Nat) (h : k < qs.length) :
    (if j = k * 3 + 2 then Value.bool (decide ((markS qs m k + (sqAt qs k).1.length + 1) % 3 = 0)) else if j = k * 3 + 1 then .int .i64 ((markS qs m k + (sqAt qs k).1.length : Nat) : Int) else if j < 3 * k then cellQ A C (sqMark qs m) j else cellQ A C qs j) = (if j < 3 * (k + 1) then cellQ A C (sqMark qs m) j else cellQ A C qs j) := by
  by_cases e2 : j = k * 3 + 2
  · rw [if_pos e2, if_pos (by omega), e2, show k * 3 + 2 = 3 * k + 2 by omega, cellQ2, sqMark_at qs m k h]
  · rw [if_neg e2]
    by_cases e1 : j = k * 3 + 1
    · rw [if_pos e1, if_pos (by omega), e1, show k * 3 + 1 = 3 * k + 1 by omega, cellQ1, sqMark_at qs m k h]
    · rw [if_neg e1]
      by_cases e0 : j = k * 3
      · rw [if_neg (by omega), if_pos (by omega), e0, show k * 3 = 3 * k by omega, cellQ0, cellQ0, sqMark_len qs m k h]
      · by_cases h' : j < 3 * k
        · rw [if_pos h', if_pos (by omega)]
        · rw [if_neg h', if_neg (by omega)]
theorem Owned.place {lo hi n i : Nat} {w : World} {b off : Nat} {f : Nat → Value} (h : Owned lo hi w (some ⟨b, off, none⟩) n f) (hi' : i < n) : w.cell? ⟨b, off + i, none⟩ = some (f i) ∧ w.frozen? ⟨b, off + i, none⟩ = false ∧ lo ≤ b ∧ b < hi := by
  obtain ⟨b', off', e, h1, h2, h3⟩ := h.2 (by omega)
  simp at e
  obtain ⟨rfl, rfl⟩ := e
  exact ⟨(h3 i hi').1, (h3 i hi').2, h1, h2⟩
theorem aside_wideQ {lo hi lo' hi' : Nat} {w w' : World} (h : Aside lo hi w w') (h1 : lo' ≤ lo) (h2 : hi ≤ hi') : Aside lo' hi' w w' := ⟨h.os, h.tape, h.output, h.size, fun k hk h' => h.block k hk (by omega)⟩

/-- Of what was there only the row g and the Pages' rows were written. -/
def Bare (g n : Nat) (P : Nat → Nat) (qs : List Sq) (w w' : World) : Prop := ∀ k, k < w.heap.size → k ≠ g → (∀ i, i < n → 0 < (sqAt qs i).1.length → k ≠ P i) → w'.heap[k]? = w.heap[k]?
end Go.Proofs.YthldcfiemfccpaaDoor
end

section
namespace Go.Proofs.YthldcfiemfccpaaDoor
open Go.RowKit
set_option linter.unusedVariables false
set_option maxRecDepth 20000

theorem job_cells {n B : Nat} {w w' : World} {js : List Jb} {b off k : Nat} (hc : ∀ i, i < 3 * n → w.cell? ⟨b, off + i, none⟩ = some (cellJ js i)) (hbel : Below B w w') (hb : b < B) (hk : k < n) :
    w'.cell? ⟨b, off + k * 3, none⟩ = some (.int .i64 (jbAt js k).1) ∧ w'.cell? ⟨b, off + k * 3 + 1, none⟩ = some (.int .i64 (jbAt js k).2.1) ∧ w'.cell? ⟨b, off + k * 3 + 2, none⟩ = some (.string (jbAt js k).2.2) := by
  refine ⟨?_, ?_, ?_⟩
  · rw [hbel.cell (p := ⟨b, off + k * 3, none⟩) hb, show off + k * 3 = off + 3 * k by omega, hc _ (by omega), cellJ0]
  · rw [hbel.cell (p := ⟨b, off + k * 3 + 1, none⟩) hb, show off + k * 3 + 1 = off + (3 * k + 1) by omega, hc _ (by omega), cellJ1]
  · rw [hbel.cell (p := ⟨b, off + k * 3 + 2, none⟩) hb, show off + k * 3 + 2 = off + (3 * k + 2) by omega, hc _ (by omega), cellJ2]
def zeroJ (j : Nat) : Value := if j % 3 = 0 then .int .i64 0 else if j % 3 = 1 then .int .i64 0 else .string ByteArray.empty
theorem madeJ (w : World) (n : Nat) (e : TypeId) : Owned w.heap.size (w.heap.size + 1) (w.alloc (.cells (madeCells #[.int .i64 0, .int .i64 0, .string ByteArray.empty] (n * 3)) e)) (some ⟨w.heap.size, 0, none⟩) (3 * n) zeroJ := by
  refine ⟨by simp, fun _ => ⟨w.heap.size, 0, rfl, Nat.le_refl _, Nat.lt_succ_self _, fun j hj => ⟨?_, ?_⟩⟩⟩
  · rw [World.cell?_alloc_new, Nat.zero_add]
    have hj' : j < n * 3 := by omega
    have h3 : j % 3 = 0 ∨ j % 3 = 1 ∨ j % 3 = 2 := by omega
    rcases h3 with h | h | h <;> simp [madeCells, hj', zeroJ, h]
  · exact four_frozen (heap_new w _) _
theorem rowJ_step (js : List Jb) (k j : Nat) :
    (if j = k * 3 + 2 then Value.string (jbAt js k).2.2 else if j = k * 3 + 1 then .int .i64 (jbAt js k).2.1 else if j = k * 3 then .int .i64 (jbAt js k).1 else if j < 3 * k then cellJ js j else zeroJ j) = (if j < 3 * (k + 1) then cellJ js j else zeroJ j) := by
  by_cases e2 : j = k * 3 + 2
  · rw [if_pos e2, if_pos (by omega), e2, show k * 3 + 2 = 3 * k + 2 by omega, cellJ2]
  · rw [if_neg e2]
    by_cases e1 : j = k * 3 + 1
    · rw [if_pos e1, if_pos (by omega), e1, show k * 3 + 1 = 3 * k + 1 by omega, cellJ1]
    · rw [if_neg e1]
      by_cases e0 : j = k * 3
      · rw [if_pos e0, if_pos (by omega), e0, show k * 3 = 3 * k by omega, cellJ0]
      · rw [if_neg e0]
        by_cases h : j < 3 * k
        · rw [if_pos h, if_pos (by omega)]
        · rw [if_neg h, if_neg (by omega)]

end Go.Proofs.YthldcfiemfccpaaDoor
end

section
namespace Go.Proofs.YthldcfiemfccpaaDoor
open Go.RowKit
set_option linter.unusedVariables false
set_option maxRecDepth 20000

end Go.Proofs.YthldcfiemfccpaaDoor
end

section
namespace Go.Proofs.YthldcfiemfccpaaDoor
open Go.RowKit
set_option linter.unusedVariables false
set_option maxRecDepth 20000

set_option maxHeartbeats 400000 in
/-- They are held as long as they read as marks, also far up. -/
theorem heldTL_any (a : Option Addr) (n cap : Nat) (m : Nat) (w : World) {lo hi : Nat} (h : Texts lo hi w a n (marksT m n)) (hn : n ≤ 1048576) (m0 : 1 ≤ m) (m1 : m + n ≤ 4194304) :
    Calls Tryd.prog 31 #[.slice a n cap, .int .i64 (m : Int)] w fun e w' => e = .returned (.int .i64 ((m + n : Nat) : Int)) ∧ Below w.heap.size w w' := by
  obtain ⟨_, hsz, hx⟩ := h
  go_enter Tryd.func31, Tryd.ntmps31
  go_wp2_with fail
  go_loopw [1, 5] (fun t i wr => ∃ k : Nat, k ≤ n ∧ i = .int .i64 k ∧ t = .int .i64 ((m + k : Nat) : Int) ∧ Below w.heap.size w wr) (fun _ i _ => n - (intOf i).toNat)
  case atStart => exact ⟨0, Nat.zero_le _, rfl, by simp, Below.refl _ _⟩
  case round =>
    obtain ⟨k, hk, rfl, rfl, hbel⟩ := hrel
    by_cases hlt : k < n
    · obtain ⟨b, off, rfl, _, hb, hc⟩ := hx (by omega)
      have hck : wr.cell? ⟨b, off + k, none⟩ = some (.string (markT (m + k))) := (hbel.cell (p := ⟨b, off + k, none⟩) (by show b < _; omega)).trans (by rw [hc k hlt, marksT_at m n k hlt])
      have HW : Hid (b < wr.heap.size) := by have := hbel.size; show b < _; omega
      have HBB := hide hbel
      have HCK := hide hck
      clear hc hx hbel
      have e0 := text_same (markT (m + k))
      go_wp2_with fail
      go_region_with (go_at_call 48; refine (markText_to (m + k) _ (by omega) (by omega) (by omega) _).mono ?_; rintro e w2 ⟨rfl, b2⟩; have hck2 := (b2.cell (p := ⟨b, off + k, none⟩) HW.out).trans HCK.out; have HB2 := hide (below_here (show Below w.heap.size w wr.drew from HBB.out.drew) b2); clear b2)
      all_goals go_wp2_with fail
      all_goals exact ⟨⟨k + 1, by omega, by go_num, by go_num, HB2.out⟩, by simp [intOf]; omega⟩
    · obtain rfl : k = n := by omega
      go_wp2_with fail
      go_ret
      exact ⟨rfl, hbel⟩

end Go.Proofs.YthldcfiemfccpaaDoor
end

section
namespace Go.Proofs.YthldcfiemfccpaaDoor
open Go.RowKit
set_option linter.unusedVariables false
set_option maxRecDepth 20000

/-- Jobs that are marked from m on. -/
def jbMark (m n : Nat) : List Jb := (List.range n).map fun i : Nat => (((m + 3 * i : Nat) : Int), ((m + 3 * i + 1 : Nat) : Int), markT (m + 3 * i + 2))
theorem jbMark_length (m n : Nat) : (jbMark m n).length = n := by simp [jbMark]
theorem jbMark_at (m n i : Nat) (h : i < n) : jbAt (jbMark m n) i = (((m + 3 * i : Nat) : Int), ((m + 3 * i + 1 : Nat) : Int), markT (m + 3 * i + 2)) := by
  unfold jbAt jbMark
  rw [List.getD_eq_getElem?_getD, List.getElem?_map, List.getElem?_range h]; rfl
def mixJ (m n : Nat) (js : List Jb) (k j : Nat) : Value := if j < 3 * k then cellJ (jbMark m n) j else cellJ js j
theorem mixJ_step (m n : Nat) (js : List Jb) (k j : Nat) (h : k < n) : (if j = k * 3 + 2 then Value.string (markT (m + 3 * k + 2)) else if j = k * 3 + 1 then .int .i64 ((m + 3 * k + 1 : Nat) : Int) else if j = k * 3 then .int .i64 ((m + 3 * k : Nat) : Int) else mixJ m n js k j) = mixJ m n js (k + 1) j := by
  unfold mixJ
  by_cases e2 : j = k * 3 + 2
  · subst e2
    rw [if_pos rfl, if_pos (by omega), show k * 3 + 2 = 3 * k + 2 by omega, cellJ2, jbMark_at m n k h]
  · rw [if_neg e2]
    by_cases e1 : j = k * 3 + 1
    · subst e1
      rw [if_pos rfl, if_pos (by omega), show k * 3 + 1 = 3 * k + 1 by omega, cellJ1, jbMark_at m n k h]
    · rw [if_neg e1]
      by_cases e0 : j = k * 3
      · subst e0
        rw [if_pos rfl, if_pos (by omega), show k * 3 = 3 * k by omega, cellJ0, jbMark_at m n k h]
      · rw [if_neg e0]
        by_cases hl : j < 3 * k
        · rw [if_pos hl, if_pos (by omega)]
        · rw [if_neg hl, if_neg (by omega)]

end Go.Proofs.YthldcfiemfccpaaDoor
end

section
namespace Go.Proofs.YthldcfiemfccpaaDoor
open Go.RowKit
set_option linter.unusedVariables false
set_option maxRecDepth 20000

def weightJ (js : List Jb) : Nat := (js.map fun j => j.2.2.size).sum
theorem weightJ_take (js : List Jb) (k : Nat) (h : k < js.length) : weightJ (js.take (k + 1)) = weightJ (js.take k) + (jbAt js k).2.2.size := by
  unfold weightJ jbAt
  rw [List.take_succ_eq_append_getElem h, List.map_append, List.sum_append, List.getD_eq_getElem?_getD, List.getElem?_eq_getElem h]
  simp
theorem jb_fits {js : List Jb} {k : Nat} (h : ∀ x ∈ js, jbFits x) (hk : k < js.length) : jbFits (jbAt js k) := by
  unfold jbAt
  rw [List.getD_eq_getElem?_getD, List.getElem?_eq_getElem hk]
  exact h _ (List.getElem_mem hk)

end Go.Proofs.YthldcfiemfccpaaDoor
end

section
namespace Go.Proofs.YthldcfiemfccpaaDoor
open Go.RowKit
set_option linter.unusedVariables false
set_option maxRecDepth 20000

end Go.Proofs.YthldcfiemfccpaaDoor
end

