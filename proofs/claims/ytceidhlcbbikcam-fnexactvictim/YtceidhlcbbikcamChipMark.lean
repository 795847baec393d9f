/- Marks written into Squares. -/
import Derived.Test.YtceidhlcbbikcamChipOwn3
namespace Go.Proofs.Ytceidhlcbbikcam
open Go.RowKit
set_option linter.unusedVariables false
set_option maxRecDepth 20000

set_option maxHeartbeats 400000 in
/-- Marks are written into texts that are owned, also far up. -/
theorem markTL_any (a : Option Addr) (n cap : Nat) (xs : List ByteArray) (m : Nat) (w : World) {lo hi : Nat} (h : OwnTexts lo hi w a n xs) (hn : n ≤ 1048576) (m0 : 1 ≤ m) (m1 : m + n ≤ 4194304) :
    Calls Try.prog 75 #[.slice a n cap, .int .i64 (m : Int)] w fun e w' => e = .returned (.int .i64 ((m + n : Nat) : Int)) ∧ OwnTexts lo hi w' a n (marksT m n) ∧ Aside lo hi w w' := by
  obtain ⟨hl, hx⟩ := h
  have HL : Hid (xs.length = n) := hl
  clear hl
  go_enter Try.func75, Try.ntmps75
  go_wp2_with fail
  go_loopw [1, 5] (fun t i wr => ∃ k : Nat, k ≤ n ∧ i = .int .i64 k ∧ t = .int .i64 ((m + k : Nat) : Int) ∧ Owned lo hi wr a n (fun i => if i < k then .string (markT (m + i)) else cellT xs i) ∧ Aside lo hi w wr) (fun _ i _ => n - (intOf i).toNat)
  case atStart => exact ⟨0, Nat.zero_le _, rfl, by simp, hx.congr (fun _ _ => by simp), Aside.refl _ _ _⟩
  case round =>
    obtain ⟨k, hk, rfl, rfl, hrow, hasd⟩ := hrel
    have hhi := hrow.1
    have HX := hide hx
    clear hx
    by_cases hlt : k < n
    · have HR0 := hide hrow
      have HA0 := hide hasd
      clear hrow hasd
      go_wp2_with fail
      refine (markText_to (m + k) _ (by omega) (by omega) (by omega) wr).mono ?_
      rintro e w2 ⟨rfl, b2⟩
      have hrow := HR0.out.later b2 hhi
      have hasd := HA0.out.trans (aside_new b2)
      obtain ⟨b, off, rfl, hb1, hb2, hc⟩ := hrow.2 (by omega)
      obtain ⟨hco, hfo⟩ := hc k hlt
      simp only [Nat.lt_irrefl, if_false, cellT] at hco
      have HR := hide ((hrow.set hlt (.string (markT (m + k)))).congr (g := fun i => if i < k + 1 then .string (markT (m + i)) else cellT xs i) (fun j hj => markT_step xs m k j))
      have HB := hide (hasd.setCell (p := ⟨b, off + k, none⟩) hb1 hb2 (.string (markT (m + k))))
      clear hrow hasd hc HR0 HA0 b2
      go_wp2_with fail
      go_roundw
      case rel => exact ⟨k + 1, by omega, by go_num, by go_num, HR.out, HB.out⟩
      case measure => simp [intOf]; omega
    · obtain rfl : k = n := by omega
      go_wp2_with fail
      go_ret
      exact ⟨rfl, ⟨marksT_length m k, hrow.congr (fun i hi => by rw [if_pos hi, marksT_at m k i hi])⟩, hasd⟩
/-- The same, where the texts lie in a block of their own: what is written lies there, and nothing is where there are none. -/
theorem markTP_any (a : Option Addr) (n cap : Nat) (xs : List ByteArray) (m : Nat) (w : World) {P : Nat} (h : OwnTexts P (P + 1) w a n xs) (hn : n ≤ 1048576) (m0 : 1 ≤ m) (m1 : m + n ≤ 4194304) :
    Calls Try.prog 75 #[.slice a n cap, .int .i64 (m : Int)] w fun e w' => e = .returned (.int .i64 ((m + n : Nat) : Int)) ∧ OwnTexts P (P + 1) w' a n (marksT m n) ∧ ∃ l r, Aside l r w w' ∧ (l = r ∨ 0 < n ∧ l = P ∧ r = P + 1) := by
  by_cases h0 : 0 < n
  · exact (markTL_any a n cap xs m w h hn m0 m1).mono fun e w' ⟨h1, h2, h3⟩ => ⟨h1, h2, P, P + 1, h3, .inr ⟨h0, rfl, rfl⟩⟩
  · exact (markTL_any a n cap xs m w (lo := 0) (hi := 0) ⟨h.1, Nat.zero_le _, fun h' => absurd h' h0⟩ hn m0 m1).mono fun e w' ⟨h1, h2, h3⟩ => ⟨h1, ⟨h2.1, Nat.le_trans h.2.1 h3.size, fun h' => absurd h' h0⟩, 0, 0, h3, .inl rfl⟩

/-- How many Pages there are. -/
def lens (qs : List Sq) : Nat := (qs.map fun q => q.1.length).sum
theorem lens_take (qs : List Sq) (k : Nat) (h : k < qs.length) : lens (qs.take (k + 1)) = lens (qs.take k) + (sqAt qs k).1.length := by
  unfold lens sqAt
  rw [List.take_succ_eq_append_getElem h, List.map_append, List.sum_append, List.getD_eq_getElem?_getD, List.getElem?_eq_getElem h]
  simp
theorem lens_whole (qs : List Sq) (k : Nat) : lens (qs.take k) ≤ lens qs := by
  unfold lens
  conv => rhs; rw [← List.take_append_drop k qs, List.map_append, List.sum_append]
  omega
theorem lens_weight (qs : List Sq) : lens qs ≤ weight qs := by
  unfold lens weight
  induction qs with
  | nil => simp
  | cons q qs ih => simp only [List.map_cons, List.sum_cons]; omega
/-- Where the marks of a Square begin. -/
def markS (qs : List Sq) (m i : Nat) : Nat := m + lens (qs.take i) + 2 * i
/-- Squares that are marked. -/
def sqMark (qs : List Sq) (m : Nat) : List Sq := (List.range qs.length).map fun i => (marksT (markS qs m i) (sqAt qs i).1.length, ((markS qs m i + (sqAt qs i).1.length : Nat) : Int), decide ((markS qs m i + (sqAt qs i).1.length + 1) % 3 = 0))
theorem sqMark_length (qs : List Sq) (m : Nat) : (sqMark qs m).length = qs.length := by simp [sqMark]
theorem sqMark_at (qs : List Sq) (m i : Nat) (h : i < qs.length) : sqAt (sqMark qs m) i = (marksT (markS qs m i) (sqAt qs i).1.length, ((markS qs m i + (sqAt qs i).1.length : Nat) : Int), decide ((markS qs m i + (sqAt qs i).1.length + 1) % 3 = 0)) := by
  show (sqMark qs m).getD i ([], 0, false) = _
  unfold sqMark
  rw [List.getD_eq_getElem?_getD, List.getElem?_map, List.getElem?_range h]; rfl
theorem sqMark_len (qs : List Sq) (m i : Nat) (h : i < qs.length) : (sqAt (sqMark qs m) i).1.length = (sqAt qs i).1.length := by
  rw [sqMark_at qs m i h]; exact marksT_length _ _
theorem markQ_step (A : Nat → Option Addr) (C : Nat → Nat) (qs : List Sq) (m k j : Nat) (h : k < qs.length) :
    (if j = k * 3 + 2 then Value.bool (decide ((markS qs m k + (sqAt qs k).1.length + 1) % 3 = 0)) else if j = k * 3 + 1 then .int .i64 ((markS qs m k + (sqAt qs k).1.length : Nat) : Int) else if j < 3 * k then cellQ A C (sqMark qs m) j else cellQ A C qs j) = (if j < 3 * (k + 1) then cellQ A C (sqMark qs m) j else cellQ A C qs j) := by
  by_cases e2 : j = k * 3 + 2
  · rw [if_pos e2, if_pos (by omega), e2, show k * 3 + 2 = 3 * k + 2 by omega, cellQ2, sqMark_at qs m k h]
  · rw [if_neg e2]
    by_cases e1 : j = k * 3 + 1
    · rw [if_pos e1, if_pos (by omega), e1, show k * 3 + 1 = 3 * k + 1 by omega, cellQ1, sqMark_at qs m k h]
    · rw [if_neg e1]
      by_cases e0 : j = k * 3
      · rw [if_neg (by omega), if_pos (by omega), e0, show k * 3 = 3 * k by omega, cellQ0, cellQ0, sqMark_len qs m k h]
      · by_cases h' : j < 3 * k
        · rw [if_pos h', if_pos (by omega)]
        · rw [if_neg h', if_neg (by omega)]
theorem Owned.place {lo hi n i : Nat} {w : World} {b off : Nat} {f : Nat → Value} (h : Owned lo hi w (some ⟨b, off, none⟩) n f) (hi' : i < n) : w.cell? ⟨b, off + i, none⟩ = some (f i) ∧ w.frozen? ⟨b, off + i, none⟩ = false ∧ lo ≤ b ∧ b < hi := by
  obtain ⟨b', off', e, h1, h2, h3⟩ := h.2 (by omega)
  simp at e
  obtain ⟨rfl, rfl⟩ := e
  exact ⟨(h3 i hi').1, (h3 i hi').2, h1, h2⟩
theorem aside_wideQ {lo hi lo' hi' : Nat} {w w' : World} (h : Aside lo hi w w') (h1 : lo' ≤ lo) (h2 : hi ≤ hi') : Aside lo' hi' w w' := ⟨h.os, h.tape, h.output, h.size, fun k hk h' => h.block k hk (by omega)⟩

/-- Of what was there only the row g and the Pages' rows were written. -/
def Bare (g n : Nat) (P : Nat → Nat) (qs : List Sq) (w w' : World) : Prop := ∀ k, k < w.heap.size → k ≠ g → (∀ i, i < n → 0 < (sqAt qs i).1.length → k ≠ P i) → w'.heap[k]? = w.heap[k]?
set_option maxHeartbeats 1600000 in
theorem markSquareS_fine (a : Option Addr) (n cap : Nat) (qs : List Sq) (m : Nat) (w : World) {lo hi g off : Nat} {A : Nat → Option Addr} {C P : Nat → Nat} (h : OwnSqs lo hi w a n qs g off A C P) (hfit : n + weight qs ≤ 1048576) (m0 : 1 ≤ m) (m1 : m ≤ 1048576) :
    Calls Try.prog 45 #[.slice a n cap, .int .i64 (m : Int)] w fun e w' => e = .returned (.int .i64 ((m + lens qs + 2 * n : Nat) : Int)) ∧ OwnSqs lo hi w' a n (sqMark qs m) g off A C P ∧ Aside lo hi w w' ∧ Bare g n P qs w w' := by
  have HH := hide h
  have hle := lens_weight qs
  clear h
  go_enter Try.func45, Try.ntmps45
  go_wp2_with fail
  go_loopw [1, 5] (fun t i wr => ∃ k : Nat, k ≤ n ∧ i = .int .i64 (k : Int) ∧ t = .int .i64 ((markS qs m k : Nat) : Int) ∧
    Owned g (g + 1) wr a (3 * n) (fun j => if j < 3 * k then cellQ A C (sqMark qs m) j else cellQ A C qs j) ∧
    (∀ i, i < k → OwnTexts (P i) (P i + 1) wr (A i) (sqAt qs i).1.length (marksT (markS qs m i) (sqAt qs i).1.length)) ∧
    (∀ i, k ≤ i → i < n → OwnTexts (P i) (P i + 1) wr (A i) (sqAt qs i).1.length (sqAt qs i).1) ∧ Aside lo hi w wr ∧ Bare g n P qs w wr) (fun _ i _ => n - (intOf i).toNat)
  case atStart => exact ⟨0, Nat.zero_le _, rfl, by simp [markS, lens], HH.out.row.congr (fun j _ => by simp), fun i hi => absurd hi (by omega), fun i _ hi => HH.out.pages i hi, Aside.refl _ _ _, fun _ _ _ _ => rfl⟩
  case round =>
    obtain ⟨k, hk, rfl, rfl, hrow, hdone, hleft, hasd, hbar⟩ := hrel
    have HBR := hide hbar
    clear hbar
    by_cases hlt : k < n
    · have hql : k < qs.length := by rw [HH.out.len]; exact hlt
      obtain rfl := HH.out.addr (by omega)
      have hlw := lens_whole qs (k + 1)
      have HLT := hide (lens_take qs k hql)
      rw [HLT.out] at hlw
      have hatG := HH.out.atG
      have hatP := HH.out.atP k hlt
      have HRW := hide hrow
      have HDN := hide hdone
      have HLF := hide hleft
      have HAS := hide hasd
      have HTK := hide (hleft k (Nat.le_refl _) hlt)
      have c0 := (hrow.place (show 3 * k < 3 * n by omega)).1
      rw [if_neg (by omega), cellQ0, show off + 3 * k = off + k * 3 by omega] at c0
      clear hrow hdone hleft hasd
      obtain ⟨s, hs⟩ : ∃ s, s = markS qs m k := ⟨_, rfl⟩
      have HS := hide hs
      have hsb : s + (sqAt qs k).1.length + 2 ≤ 4194304 := by rw [hs]; unfold markS; omega
      have hs0 : 1 ≤ s := by rw [hs]; unfold markS; omega
      have hl9 : (sqAt qs k).1.length ≤ 1048576 := by omega
      obtain ⟨z, hz⟩ : ∃ z, z = (sqAt qs k).1.length := ⟨_, rfl⟩
      have HZ := hide hz
      rw [← hs]
      rw [← hz] at c0 hsb hl9 HTK
      clear hs hz
      go_wp2_with fail
      refine (markTP_any (A k) z (C k) _ s wr HTK.out hl9 hs0 (by omega)).mono ?_
      rintro e w2 ⟨rfl, hot, l, r, hA, hlr⟩
      have hrow := HRW.out.aside hA (by have := HH.out.apartG k hlt; rw [← HZ.out] at this; omega)
      obtain ⟨c1, f1, _, _⟩ := hrow.place (show k * 3 + 1 < 3 * n by omega)
      obtain ⟨c2, f2, _, _⟩ := hrow.place (show k * 3 + 2 < 3 * n by omega)
      have HRW2 := hide hrow
      have HOT := hide hot
      have HA2 := hide hA
      clear hot hA hrow c0
      rw [← Nat.add_assoc] at c1 f1 c2 f2
      generalize hq : s + z = q at *
      go_wp2_with fail
      have hms : markS qs m (k + 1) = q + 2 := by
        unfold markS
        rw [HLT.out, ← hq, HS.out, HZ.out]
        unfold markS
        omega
      have hqe : markS qs m k + (sqAt qs k).1.length = q := by rw [← hq, HS.out, HZ.out]
      have hbe : (((q : Int) + 1) % 3 == 0) = decide ((q + 1) % 3 = 0) := by
        by_cases e : (q + 1) % 3 = 0
        · rw [decide_eq_true e, beq_iff_eq]; omega
        · rw [decide_eq_false e, beq_eq_false_iff_ne]; omega
      have HST := hide (fun j => markQ_step A C qs m k j hql)
      rw [hqe] at HST
      rw [hbe]
      have HNR := hide (((HRW2.out.set (show k * 3 + 1 < 3 * n by omega) (.int .i64 (q : Int))).set (show k * 3 + 2 < 3 * n by omega) (.bool (decide ((q + 1) % 3 = 0)))).congr (fun j _ => HST.out j))
      have HAG := hide (((Aside.refl g (g + 1) w2).setCell (p := ⟨g, off + k * 3 + 1, none⟩) (Nat.le_refl _) (Nat.lt_succ_self _) (.int .i64 (q : Int))).setCell (p := ⟨g, off + k * 3 + 2, none⟩) (Nat.le_refl _) (Nat.lt_succ_self _) (.bool (decide ((q + 1) % 3 = 0))))
      have hkeep : ∀ (i : Nat) (xs : List ByteArray), i < n → i ≠ k → OwnTexts (P i) (P i + 1) wr (A i) (sqAt qs i).1.length xs → OwnTexts (P i) (P i + 1) ((w2.setCell ⟨g, off + k * 3 + 1, none⟩ (.int .i64 (q : Int))).setCell ⟨g, off + k * 3 + 2, none⟩ (.bool (decide ((q + 1) % 3 = 0)))) (A i) (sqAt qs i).1.length xs := fun i xs hi hne hx =>
        texts_aside (texts_aside hx HA2.out (fun h0 => by
          have := fun hz => HH.out.apartP i k hi hlt hne h0 hz
          rw [← HZ.out] at this
          omega)) HAG.out (fun h0 => by have := HH.out.apartG i hi h0; omega)
      refine ⟨⟨k + 1, by omega, by go_num, by rw [hms]; go_num, HNR.out, fun i hi => ?_, fun i h1 h2 => hkeep i _ h2 (by omega) (HLF.out i (by omega) h2), ?_, fun j hj hg hP => ?_⟩, by simp [intOf]; omega⟩
      · by_cases e : i = k
        · subst e
          rw [← HZ.out, ← HS.out]
          exact texts_aside HOT.out HAG.out (fun h0 => by have := HH.out.apartG i hlt; rw [← HZ.out] at this; omega)
        · exact hkeep i _ (by omega) e (HDN.out i (by omega))
      · refine (HAS.out.trans ?_).trans (aside_wideQ HAG.out (by omega) (by omega))
        rcases hlr with rfl | ⟨_, rfl, rfl⟩
        · exact ⟨HA2.out.os, HA2.out.tape, HA2.out.output, HA2.out.size, fun j hj _ => HA2.out.block j hj (by omega)⟩
        · exact aside_wideQ HA2.out (by omega) (by omega)
      · have hj1 : j < wr.heap.size := Nat.lt_of_lt_of_le hj HAS.out.size
        have hj2 : j < w2.heap.size := Nat.lt_of_lt_of_le hj1 HA2.out.size
        have hjp : 0 < z → j ≠ P k := fun h0 => hP k hlt (by rw [← HZ.out]; exact h0)
        exact (HAG.out.block j hj2 (by omega)).trans ((HA2.out.block j hj1 (by omega)).trans (HBR.out j hj hg hP))
    · obtain rfl : k = n := by omega
      have HRW := hide hrow
      have HDN := hide hdone
      have HAS := hide hasd
      clear hrow hdone hleft hasd
      obtain ⟨s, hs⟩ : ∃ s, s = markS qs m k := ⟨_, rfl⟩
      have HS := hide hs
      rw [← hs]
      clear hs
      go_wp2_with fail
      go_ret
      have hq := HH.out.len
      refine ⟨ret_i64 (by rw [HS.out]; unfold markS; rw [List.take_of_length_le (by omega)]), ⟨(sqMark_length qs m).trans hq, HRW.out.congr (fun j hj => if_pos hj), HH.out.addr, fun i hi => ?_, fun i hi => by rw [sqMark_len qs m i (by omega)]; exact HH.out.room i hi, HH.out.atG, HH.out.atP, fun i hi => by rw [sqMark_len qs m i (by omega)]; exact HH.out.apartG i hi, fun i j hi hj => by rw [sqMark_len qs m i (by omega), sqMark_len qs m j (by omega)]; exact HH.out.apartP i j hi hj, Nat.le_trans HH.out.top HAS.out.size⟩, HAS.out, HBR.out⟩
      rw [sqMark_len qs m i (by omega), sqMark_at qs m i (by omega)]
      exact HDN.out i hi

theorem markSquareS_any (a : Option Addr) (n cap : Nat) (qs : List Sq) (m : Nat) (w : World) {lo hi g off : Nat} {A : Nat → Option Addr} {C P : Nat → Nat} (h : OwnSqs lo hi w a n qs g off A C P) (hfit : n + weight qs ≤ 1048576) (m0 : 1 ≤ m) (m1 : m ≤ 1048576) :
    Calls Try.prog 45 #[.slice a n cap, .int .i64 (m : Int)] w fun e w' => e = .returned (.int .i64 ((m + lens qs + 2 * n : Nat) : Int)) ∧ OwnSqs lo hi w' a n (sqMark qs m) g off A C P ∧ Aside lo hi w w' :=
  (markSquareS_fine a n cap qs m w h hfit m0 m1).mono fun e w' hh => ⟨hh.1, hh.2.1, hh.2.2.1⟩
theorem markChip_fine (z : Int) (a : Option Addr) (n cap : Nat) (qs : List Sq) (w : World) {lo hi g off : Nat} {A : Nat → Option Addr} {C P : Nat → Nat} (h : OwnSqs lo hi w a n qs g off A C P) (hfit : n + weight qs ≤ 1048576) :
    Calls Try.prog 16 #[.agg #[.int .i64 z, .slice a n cap], .int .i64 1] w fun e w' => e = .returned (.int .i64 ((1 + lens qs + 2 * n : Nat) : Int)) ∧ OwnSqs lo hi w' a n (sqMark qs 1) g off A C P ∧ Aside lo hi w w' ∧ Bare g n P qs w w' := by
  obtain ⟨wA, hwA⟩ : ∃ wA, wA = w.alloc (.cells #[.int .i64 z, .slice a n cap] 31) := ⟨_, rfl⟩
  have HBA : Hid (Below w.heap.size w wA) := by rw [hwA]; exact (Below.refl _ _).alloc (Nat.le_refl _) _
  have HTA := hide (h.later HBA.out h.top)
  clear h
  go_enter Try.func16, Try.ntmps16
  go_wp2_with fail
  rw [← hwA]
  clear hwA
  refine (markSquareS_fine a n cap qs 1 wA HTA.out hfit (by omega) (by omega)).mono ?_
  rintro e w1 ⟨rfl, h1, h2, h3⟩
  have H1 := hide h1
  have H2 := hide ((aside_new HBA.out (lo := lo) (hi := hi)).trans h2)
  have H3 : Hid (Bare g n P qs w w1) := fun k hk hg hP => (h3 k (Nat.lt_of_lt_of_le hk HBA.out.size) hg hP).trans (HBA.out.block k hk)
  clear h1 h2 h3 HTA
  obtain ⟨t, ht⟩ : ∃ t, t = 1 + lens qs + 2 * n := ⟨_, rfl⟩
  rw [← ht]
  have HT := hide ht
  clear ht
  go_wp2_with fail
  go_ret
  exact ⟨by rw [← HT.out]; rfl, H1.out, H2.out, H3.out⟩

theorem markChip_any (z : Int) (a : Option Addr) (n cap : Nat) (qs : List Sq) (w : World) {lo hi g off : Nat} {A : Nat → Option Addr} {C P : Nat → Nat} (h : OwnSqs lo hi w a n qs g off A C P) (hfit : n + weight qs ≤ 1048576) :
    Calls Try.prog 16 #[.agg #[.int .i64 z, .slice a n cap], .int .i64 1] w fun e w' => e = .returned (.int .i64 ((1 + lens qs + 2 * n : Nat) : Int)) ∧ OwnSqs lo hi w' a n (sqMark qs 1) g off A C P ∧ Aside lo hi w w' :=
  (markChip_fine z a n cap qs w h hfit).mono fun e w' hh => ⟨hh.1, hh.2.1, hh.2.2.1⟩
end Go.Proofs.Ytceidhlcbbikcam
