/- Chapter 13's program: markIn, by its labels. -/
import Derived.Test.YteooaljhdmmooaaDoorMDMarkImplA
import Derived.Test.YteooaljhdmmooaaDoorMDJumpMany
import Derived.Test.YteooaljhdmmooaaDoorMDBase
import Derived.Test.YteooaljhdmmooaaDoorMDQuietTail
import Derived.Lib.QuietBelow
import Derived.BigQuiet
import Derived.Deep.Cut
namespace Go.Proofs.YteooaljhdmmooaaDoor
open Go.RowKit
set_option linter.unusedVariables false
set_option linter.unusedSimpArgs false
set_option maxRecDepth 20000

theorem wrap_small {x : Int} (h1 : -9223372036854775808 ≤ x) (h2 : x ≤ 9223372036854775807) : IntKind.i64.wrap x = x := by
  rw [IntKind.wrap_i64]
  omega
def curN (rd n0 n1 : Nat) : Nat := match rd with | 0 => n0 | _ => n1
/-- What holds at a label, plainly. -/
def At (l : List UInt8) (lb n0 n1 rd k p : Nat) : Prop :=
  match lb with
  | 0 => NoLine l
  | 1 => Pre l rd n0 p ∧ k = p
  | 2 => Pre l rd n0 p ∧ (curN rd n0 n1) ≤ 1000000 ∧ l.drop p = Lib.decDigits (curN rd n0 n1) ++ l.drop k ∧ ((∀ z, (l.drop k).head? = some z → ¬ isDig z) ∨ (curN rd n0 n1) = 0)
  | 3 => Pre l rd n0 p ∧ 1 ≤ (curN rd n0 n1) ∧ (curN rd n0 n1) ≤ 1000000 ∧ l.drop p = Lib.decDigits (curN rd n0 n1) ++ l.drop k
  | _ => rd = 1 ∧ n0 ≤ 1000000 ∧ n1 ≤ 1000000 ∧ l = Lib.decDigits n0 ++ 32 :: (Lib.decDigits n1 ++ 32 :: l.drop k)
/-- What holds at a label: the frame, the memory. -/
def MJ (s : ByteArray) (w : World) (lb : Nat) (a : Act) (w' : World) : Prop :=
  lb < 5 ∧ ∃ (n0 n1 rd k p : Nat) (u : Nat → Value), a = { tmps := List.toArray (.string s :: undef :: .pointer (some ⟨w.heap.size, 0, none⟩) :: .bool false :: .pointer (some ⟨w.heap.size + 1, 0, none⟩) :: .int .i64 (rd : Int) :: .int .i64 (k : Int) :: u 7 :: u 8 :: u 9 :: u 10 :: u 11 :: u 12 :: u 13 :: u 14 :: u 15 :: u 16 :: u 17 :: u 18 :: u 19 :: u 20 :: u 21 :: u 22 :: u 23 :: u 24 :: u 25 :: u 26 :: u 27 :: u 28 :: u 29 :: u 30 :: u 31 :: u 32 :: u 33 :: u 34 :: u 35 :: u 36 :: u 37 :: u 38 :: u 39 :: u 40 :: u 41 :: u 42 :: u 43 :: u 44 :: u 45 :: u 46 :: u 47 :: u 48 :: u 49 :: u 50 :: u 51 :: u 52 :: u 53 :: u 54 :: u 55 :: u 56 :: u 57 :: u 58 :: u 59 :: u 60 :: u 61 :: u 62 :: u 63 :: u 64 :: u 65 :: u 66 :: u 67 :: u 68 :: u 69 :: u 70 :: []), defers := [] } ∧ rd < 2 ∧ k ≤ s.size ∧ Below w.heap.size w w' ∧ w'.heap[w.heap.size]? = some (.cells #[.int .i64 0, .int .i64 0, .bool false] 25) ∧ w'.heap[w.heap.size + 1]? = some (.cells #[.int .i64 (n0 : Int), .int .i64 (n1 : Int)] 85) ∧ At s.data.toList lb n0 n1 rd k p
theorem list_all (l : List Value) : l = (List.range l.length).map (fun i => l.getD i undef) := by
  apply List.ext_getElem
  · simp
  · intro i h1 h2
    simp [List.getD_eq_getElem?_getD, List.getElem?_eq_getElem h1]
theorem frame_all {t : Array Value} (h : t.size = 71) : t = List.toArray (t.getD 0 undef :: t.getD 1 undef :: t.getD 2 undef :: t.getD 3 undef :: t.getD 4 undef :: t.getD 5 undef :: t.getD 6 undef :: t.getD 7 undef :: t.getD 8 undef :: t.getD 9 undef :: t.getD 10 undef :: t.getD 11 undef :: t.getD 12 undef :: t.getD 13 undef :: t.getD 14 undef :: t.getD 15 undef :: t.getD 16 undef :: t.getD 17 undef :: t.getD 18 undef :: t.getD 19 undef :: t.getD 20 undef :: t.getD 21 undef :: t.getD 22 undef :: t.getD 23 undef :: t.getD 24 undef :: t.getD 25 undef :: t.getD 26 undef :: t.getD 27 undef :: t.getD 28 undef :: t.getD 29 undef :: t.getD 30 undef :: t.getD 31 undef :: t.getD 32 undef :: t.getD 33 undef :: t.getD 34 undef :: t.getD 35 undef :: t.getD 36 undef :: t.getD 37 undef :: t.getD 38 undef :: t.getD 39 undef :: t.getD 40 undef :: t.getD 41 undef :: t.getD 42 undef :: t.getD 43 undef :: t.getD 44 undef :: t.getD 45 undef :: t.getD 46 undef :: t.getD 47 undef :: t.getD 48 undef :: t.getD 49 undef :: t.getD 50 undef :: t.getD 51 undef :: t.getD 52 undef :: t.getD 53 undef :: t.getD 54 undef :: t.getD 55 undef :: t.getD 56 undef :: t.getD 57 undef :: t.getD 58 undef :: t.getD 59 undef :: t.getD 60 undef :: t.getD 61 undef :: t.getD 62 undef :: t.getD 63 undef :: t.getD 64 undef :: t.getD 65 undef :: t.getD 66 undef :: t.getD 67 undef :: t.getD 68 undef :: t.getD 69 undef :: t.getD 70 undef :: []) := by
  have h1 := list_all t.toList
  have h2 : t.toList.length = 71 := by simpa using h
  rw [h2] at h1
  have h3 : t = List.toArray t.toList := by simp
  have h4 : ∀ i, t.toList.getD i undef = t.getD i undef := by intro i; simp [List.getD_eq_getElem?_getD]
  rw [h3, h1]
  simp only [h4]
  rfl
theorem MJ.mk {s : ByteArray} {w : World} {lb : Nat} {a : Act} {w' : World} (n0 n1 rd k p : Nat) (hl : lb < 5) (hz : a.tmps.size = 71) (hd : a.defers = []) (g0 : a.tmps.getD 0 undef = .string s) (g1 : a.tmps.getD 1 undef = undef) (g2 : a.tmps.getD 2 undef = .pointer (some ⟨w.heap.size, 0, none⟩)) (g3 : a.tmps.getD 3 undef = .bool false) (g4 : a.tmps.getD 4 undef = .pointer (some ⟨w.heap.size + 1, 0, none⟩)) (g5 : a.tmps.getD 5 undef = .int .i64 (rd : Int)) (g6 : a.tmps.getD 6 undef = .int .i64 (k : Int))
    (hrd : rd < 2) (hk : k ≤ s.size) (hb : Below w.heap.size w w') (h0 : w'.heap[w.heap.size]? = some (.cells #[.int .i64 0, .int .i64 0, .bool false] 25)) (h1 : w'.heap[w.heap.size + 1]? = some (.cells #[.int .i64 (n0 : Int), .int .i64 (n1 : Int)] 85)) (hat : At s.data.toList lb n0 n1 rd k p) : MJ s w lb a w' := by
  refine ⟨hl, n0, n1, rd, k, p, fun i => a.tmps.getD i undef, ?_, hrd, hk, hb, h0, h1, hat⟩
  obtain ⟨t, d⟩ := a
  have e := frame_all hz
  rw [g0, g1, g2, g3, g4, g5, g6] at e
  obtain rfl : d = [] := hd
  exact congrArg (fun x => ({ tmps := x, defers := [] } : Act)) e
def mμ (s : ByteArray) (lb : Nat) (a : Act) (_ : World) : Nat :=
  match lb with
  | 0 => 0
  | 1 => 4 * (s.size - (intOf (a.tmps.getD 6 undef)).toNat) + 3
  | 2 => 4 * (s.size - (intOf (a.tmps.getD 6 undef)).toNat) + 2
  | 3 => 4 * (s.size - (intOf (a.tmps.getD 6 undef)).toNat) + 3
  | _ => 4 * (s.size - (intOf (a.tmps.getD 6 undef)).toNat) + 1

set_option maxHeartbeats 3200000 in
theorem markIn_any (s : ByteArray) (hs : s.size ≤ 1048576) (w : World) :
    Calls Tryd.prog 61 #[.string s] w fun r w' => ((∃ m : Mk, MkIn m ∧ s.data.toList = lineL m.1 m.2.1 m.2.2 ∧ r = .returned (.tuple #[markV (m.1 : Int) (m.2.1 : Int) m.2.2, .bool true])) ∨ NoLine s.data.toList ∧ r = .returned (.tuple #[markV 0 0 false, .bool false])) ∧ Below w.heap.size w w' := by
  go_enter Tryd.func61, Tryd.ntmps61
  go_wp2_with fail
  refine wp_scope_five (MJ s w) (mμ s) rfl rfl rfl rfl rfl (fun l a w' h => h.1) ?_ ?_ ?_ ?_ ?_ ?_
  · intro h1
    go_wp2_with fail
    go_step3
    rename_i hK
    refine hK _ _ (h1 _ _ (MJ.mk 0 0 0 0 0 (by omega) rfl rfl rfl rfl rfl rfl rfl rfl rfl (by omega) (Nat.zero_le _) ?_ ?_ ?_ ⟨.inl ⟨rfl, rfl⟩, rfl⟩))
    · exact ((Below.refl _ _).alloc (Nat.le_refl _) _).alloc (by simp) _
    · exact heap_old (heap_new _ _)
    · exact heap_at (by simp)
  · rintro a w1 ⟨-, n0, n1, rd, k, p, u, rfl, hrd, hk, hb, hb0, hb1, hno⟩
    have HNO : Hid (NoLine s.data.toList) := hno
    obtain ⟨d0, d1, d2⟩ := mk_cells hb0
    have f0 := mk_frozen hb0 0
    have f1 := mk_frozen hb0 1
    have f2 := mk_frozen hb0 2
    have HF := hide (mk_set hb0 (.int .i64 0) (.int .i64 0) (.bool false))
    have HG := hide (mk_below hb (Nat.le_refl _) (.int .i64 0) (.int .i64 0) (.bool false))
    clear hb hb0 hb1 hno
    go_wp2_with fail
    simp only [jumps]
    refine bodyPost_ret (results_ct rfl rfl (run_loadVar_row _ _ _ _ _ _ _ HF.out Tryd.underlying25 rfl (by kernel_rfl))) rfl ⟨?_, HG.out⟩
    exact .inr ⟨HNO.out, rfl⟩
  · intro h3
    rintro a w1 ⟨-, n0, n1, rd, k, p, u, rfl, hrd, hk, hb, hb0, hb1, hpre, rfl⟩
    have HB := hide hb
    have H0 := hide hb0
    have H1 := hide hb1
    have HPRE := hide hpre
    clear hb hb0 hb1 hpre
    rcases (by omega : rd = 0 ∨ rd = 1) with rfl | rfl
    · go_wp2_with fail
      have f1 := mk_frozen H1.out 0
      refine (byteAt_any s k (by omega) hk w1).mono ?_
      rintro r w2 ⟨rfl, rfl⟩
      go_wp2_with fail
      refine (isDigit_any _ (mbyteN_lt s k) _).mono ?_
      rintro r w3 ⟨rfl, rfl⟩
      cases hd : digN (mbyteN s k)
      · go_wp2_with fail
        go_step3
        change MJ s w 0 _ _ ∧ _
        refine ⟨MJ.mk n0 n1 0 k k (by omega) rfl rfl rfl rfl rfl rfl rfl rfl rfl (by omega) hk HB.out H0.out H1.out (HPRE.out.no (numNo_head (digN_not hd))), ?_⟩
        simp [mμ]
      · obtain ⟨hlt, d, hd9, hbd, hsk⟩ := digN_at hd
        have HDR : Hid (s.data.toList.drop k = Lib.decDigits d ++ s.data.toList.drop (k + 1)) := by
          show _ = _
          rw [drop_at s k hlt, hsk, dec_small (by omega)]; rfl
        have HBD := hide hbd
        obtain ⟨g0, g1⟩ := mk_two H1.out
        clear hsk hbd
        go_wp2_with fail
        refine (digitAt_any s k d (by omega) hlt HBD.out hd9 _).mono ?_
        rintro r w4 ⟨rfl, rfl⟩
        have HB2 := hide (HB.out.setCell (p := ⟨w.heap.size + 1, 0, none⟩) (by simp) (.int .i64 (d : Int)))
        have H02 := hide ((mset_other (W := w4) (a := w.heap.size + 1) (b := w.heap.size) (by omega) 0 (.int .i64 (d : Int))).trans H0.out)
        have H12 := hide (set_block H1.out 0 (.int .i64 (d : Int)) (by simp))
        obtain ⟨wn, hwn⟩ : ∃ wn, wn = w4.setCell ⟨w.heap.size + 1, 0, none⟩ (.int .i64 (d : Int)) := ⟨_, rfl⟩
        rw [← hwn] at HB2 H02 H12
        go_upto_region 5 with fail
        rw [← hwn]
        clear hwn g0 g1 HB H0 H1 f1
        obtain ⟨g0, g1⟩ := mk_two H12.out
        by_cases hz : d = 0
        · subst hz
          go_wp2_with fail
          go_step3
          change MJ s w 2 _ _ ∧ _
          refine ⟨MJ.mk 0 n1 0 (k + 1) k (by omega) rfl rfl rfl rfl rfl rfl rfl rfl rfl (by omega) (by omega) HB2.out H02.out H12.out ⟨(HPRE.out.elim (fun h => .inl h) (fun h => absurd h.1 (by omega))), by show 0 ≤ 1000000; omega, HDR.out, .inr rfl⟩, ?_⟩
          simp [mμ, intOf]
          omega
        · have hz2 : ¬ (d : Int) = 0 := by omega
          go_wp2_with fail
          go_step3
          rename_i hK
          refine hK _ _ (h3 _ _ _ (MJ.mk d n1 0 (k + 1) k (by omega) rfl rfl rfl rfl rfl rfl rfl rfl rfl (by omega) (by omega) HB2.out H02.out H12.out ⟨(HPRE.out.elim (fun h => .inl h) (fun h => absurd h.1 (by omega))), by show 1 ≤ d; omega, by show d ≤ 1000000; omega, HDR.out⟩) ?_)
          simp [mμ, intOf]
          omega
    · go_wp2_with fail
      have f1 := mk_frozen H1.out 1
      refine (byteAt_any s k (by omega) hk w1).mono ?_
      rintro r w2 ⟨rfl, rfl⟩
      go_wp2_with fail
      refine (isDigit_any _ (mbyteN_lt s k) _).mono ?_
      rintro r w3 ⟨rfl, rfl⟩
      cases hd : digN (mbyteN s k)
      · go_wp2_with fail
        go_step3
        change MJ s w 0 _ _ ∧ _
        refine ⟨MJ.mk n0 n1 1 k k (by omega) rfl rfl rfl rfl rfl rfl rfl rfl rfl (by omega) hk HB.out H0.out H1.out (HPRE.out.no (numNo_head (digN_not hd))), ?_⟩
        simp [mμ]
      · obtain ⟨hlt, d, hd9, hbd, hsk⟩ := digN_at hd
        have HDR : Hid (s.data.toList.drop k = Lib.decDigits d ++ s.data.toList.drop (k + 1)) := by
          show _ = _
          rw [drop_at s k hlt, hsk, dec_small (by omega)]; rfl
        have HBD := hide hbd
        obtain ⟨g0, g1⟩ := mk_two H1.out
        clear hsk hbd
        go_wp2_with fail
        refine (digitAt_any s k d (by omega) hlt HBD.out hd9 _).mono ?_
        rintro r w4 ⟨rfl, rfl⟩
        have HB2 := hide (HB.out.setCell (p := ⟨w.heap.size + 1, 1, none⟩) (by simp) (.int .i64 (d : Int)))
        have H02 := hide ((mset_other (W := w4) (a := w.heap.size + 1) (b := w.heap.size) (by omega) 1 (.int .i64 (d : Int))).trans H0.out)
        have H12 := hide (set_block H1.out 1 (.int .i64 (d : Int)) (by simp))
        obtain ⟨wn, hwn⟩ : ∃ wn, wn = w4.setCell ⟨w.heap.size + 1, 1, none⟩ (.int .i64 (d : Int)) := ⟨_, rfl⟩
        rw [← hwn] at HB2 H02 H12
        go_upto_region 5 with fail
        rw [← hwn]
        clear hwn g0 g1 HB H0 H1 f1
        obtain ⟨g0, g1⟩ := mk_two H12.out
        by_cases hz : d = 0
        · subst hz
          go_wp2_with fail
          go_step3
          change MJ s w 2 _ _ ∧ _
          refine ⟨MJ.mk n0 0 1 (k + 1) k (by omega) rfl rfl rfl rfl rfl rfl rfl rfl rfl (by omega) (by omega) HB2.out H02.out H12.out ⟨HPRE.out, by show 0 ≤ 1000000; omega, HDR.out, .inr rfl⟩, ?_⟩
          simp [mμ, intOf]
          omega
        · have hz2 : ¬ (d : Int) = 0 := by omega
          go_wp2_with fail
          go_step3
          rename_i hK
          refine hK _ _ (h3 _ _ _ (MJ.mk n0 d 1 (k + 1) k (by omega) rfl rfl rfl rfl rfl rfl rfl rfl rfl (by omega) (by omega) HB2.out H02.out H12.out ⟨HPRE.out, by show 1 ≤ d; omega, by show d ≤ 1000000; omega, HDR.out⟩) ?_)
          simp [mμ, intOf]
          omega
  · rintro a w1 ⟨-, n0, n1, rd, k, p, u, rfl, hrd, hk, hb, hb0, hb1, hpre, hle, hdr, hor⟩
    have HB := hide hb
    have H0 := hide hb0
    have H1 := hide hb1
    have HPRE := hide hpre
    have HLE := hide hle
    have HDR := hide hdr
    have HOR := hide hor
    clear hb hb0 hb1 hpre hle hdr hor
    rcases (by omega : rd = 0 ∨ rd = 1) with rfl | rfl
    · go_wp2_with fail
      refine (byteAt_any s k (by omega) hk w1).mono ?_
      rintro r w2 ⟨rfl, rfl⟩
      by_cases hb32 : mbyteN s k = 32
      · obtain ⟨hlt, hdk⟩ := blank_at hb32
        have HDK := hide hdk
        have hbi : (mbyteN s k : Int) = 32 := by omega
        clear hdk hb32
        go_wp2_with fail
        go_step3
        change MJ s w 1 _ _ ∧ _
        refine ⟨MJ.mk n0 n1 1 (k + 1) (k + 1) (by omega) rfl rfl rfl rfl rfl rfl rfl rfl rfl (by omega) (by omega) HB.out H0.out H1.out ⟨.inr ⟨rfl, HLE.out, ?_⟩, rfl⟩, ?_⟩
        · rcases HPRE.out with h | h
          · have h2 := HDR.out
            rw [h.2, List.drop_zero, HDK.out] at h2
            exact h2
          · exact absurd h.1 (by omega)
        · simp [mμ, intOf]
          omega
      · have hbi : ((mbyteN s k : Int) == 32) = false := by simp; omega
        have HNO : Hid (NoLine s.data.toList) := HPRE.out.no (numNo_blank HDR.out (blank_not hb32) HOR.out)
        clear hb32
        go_wp2_with fail
        go_step3
        change MJ s w 0 _ _ ∧ _
        refine ⟨MJ.mk n0 n1 0 k p (by omega) rfl rfl rfl rfl rfl rfl rfl rfl rfl (by omega) hk HB.out H0.out H1.out HNO.out, ?_⟩
        simp [mμ]
    · go_wp2_with fail
      refine (byteAt_any s k (by omega) hk w1).mono ?_
      rintro r w2 ⟨rfl, rfl⟩
      by_cases hb32 : mbyteN s k = 32
      · obtain ⟨hlt, hdk⟩ := blank_at hb32
        have HDK := hide hdk
        have hbi : (mbyteN s k : Int) = 32 := by omega
        clear hdk hb32
        go_wp2_with fail
        go_step3
        change MJ s w 4 _ _ ∧ _
        refine ⟨MJ.mk n0 n1 1 (k + 1) p (by omega) rfl rfl rfl rfl rfl rfl rfl rfl rfl (by omega) (by omega) HB.out H0.out H1.out ⟨rfl, ?_, HLE.out, ?_⟩, ?_⟩
        · exact HPRE.out.elim (fun h => absurd h.1 (by omega)) (fun h => h.2.1)
        · rcases HPRE.out with h | h
          · exact absurd h.1 (by omega)
          · refine h.2.2.trans ?_
            rw [HDR.out, HDK.out]; rfl
        · simp [mμ, intOf]
          omega
      · have hbi : ((mbyteN s k : Int) == 32) = false := by simp; omega
        have HNO : Hid (NoLine s.data.toList) := HPRE.out.no (numNo_blank HDR.out (blank_not hb32) HOR.out)
        clear hb32
        go_wp2_with fail
        go_step3
        change MJ s w 0 _ _ ∧ _
        refine ⟨MJ.mk n0 n1 1 k p (by omega) rfl rfl rfl rfl rfl rfl rfl rfl rfl (by omega) hk HB.out H0.out H1.out HNO.out, ?_⟩
        simp [mμ]
  · rintro a w1 ⟨-, n0, n1, rd, k, p, u, rfl, hrd, hk, hb, hb0, hb1, hpre, hc1, hc2, hdr⟩
    have HB := hide hb
    have H0 := hide hb0
    have H1 := hide hb1
    have HPRE := hide hpre
    have HDR := hide hdr
    clear hb hb0 hb1 hpre hdr
    rcases (by omega : rd = 0 ∨ rd = 1) with rfl | rfl
    · go_wp2_with fail
      refine (byteAt_any s k (by omega) hk w1).mono ?_
      rintro r w2 ⟨rfl, rfl⟩
      go_wp2_with fail
      refine (isDigit_any _ (mbyteN_lt s k) _).mono ?_
      rintro r w3 ⟨rfl, rfl⟩
      have hc1' : 1 ≤ n0 := hc1
      have hc2' : n0 ≤ 1000000 := hc2
      clear hc1 hc2
      cases hd : digN (mbyteN s k)
      · go_wp2_with fail
        go_step3
        change MJ s w 2 _ _ ∧ _
        refine ⟨MJ.mk n0 n1 0 k p (by omega) rfl rfl rfl rfl rfl rfl rfl rfl rfl (by omega) hk HB.out H0.out H1.out ⟨HPRE.out, hc2', HDR.out, .inl (digN_not hd)⟩, ?_⟩
        simp [mμ]
      · obtain ⟨hlt, d, hd9, hbd, hsk⟩ := digN_at hd
        obtain ⟨c, hc⟩ : ∃ c, c = 10 * n0 + d := ⟨_, rfl⟩
        have hci : 10 * (n0 : Int) + (d : Int) = (c : Int) := by omega
        have hcb : c ≤ 10000009 := by omega
        have HC := hide hc
        have HDC : Hid (s.data.toList.drop p = Lib.decDigits c ++ s.data.toList.drop (k + 1)) := by
          show _ = _
          rw [HDR.out, drop_at s k hlt, hsk, hc, dec_snoc hc1' (by omega), List.append_assoc]; rfl
        have HBD := hide hbd
        obtain ⟨g0, g1⟩ := mk_two H1.out
        have f1 := mk_frozen H1.out 0
        have tg := fun d os => cell_regrown g0 d os
        have cD : ∀ q os, Calls Tryd.prog 67 #[.string s, .int .i64 (k : Int)] (Go.Sort.grow (redrawn w3 q) os) fun e w'' => e = .returned (.int .i64 (d : Int)) ∧ ∃ p : Regrown, w'' = Go.Sort.grow (redrawn w3 p.d) p.os := fun q os => Calls.regrown_of ((digitAt_any s k d (by omega) hlt HBD.out hd9 _).mono fun e w' hh => ⟨hh.1, hh.2 ▸ Below.refl _ _⟩)
        have hwr1 : IntKind.i64.wrap (10 * (n0 : Int)) = 10 * (n0 : Int) := wrap_small (by omega) (by omega)
        have hwr2 : IntKind.i64.wrap (10 * (n0 : Int) + (d : Int)) = (c : Int) := by rw [hci]; exact wrap_small (by omega) (by omega)
        clear hsk hbd hc HDR
        go_upto_region 8 with fail
        refine wp_region_below_tail 10 (by kernel_rfl) (by kernel_rfl) ?_
        simp only [List.take_succ_cons, List.take_zero, List.drop_succ_cons, List.drop_zero]
        repeat (go_big_quiet_step ((go_at_call 67; exact cD _ _)))
        refine wpQuiet_nil ?_
        intro _ hw'
        obtain ⟨⟨dq, osq⟩, hw''⟩ := hw'
        subst hw''
        have HBr := hide (below_regrown w3 dq osq)
        have HB2 := hide (below_here HB.out HBr.out)
        have H02 := hide (block_on H0.out HBr.out)
        have H12 := hide (block_on H1.out HBr.out)
        clear HB H0 H1 HBr tg cD g0 g1 f1
        generalize Go.Sort.grow (redrawn w3 dq) osq = w4 at *
        obtain ⟨g0, g1⟩ := mk_two H12.out
        have f1 := mk_frozen H12.out 0
        have HB3 := hide (HB2.out.setCell (p := ⟨w.heap.size + 1, 0, none⟩) (by simp) (.int .i64 (c : Int)))
        have H03 := hide ((mset_other (W := w4) (a := w.heap.size + 1) (b := w.heap.size) (by omega) 0 (.int .i64 (c : Int))).trans H02.out)
        have H13 := hide (set_block H12.out 0 (.int .i64 (c : Int)) (by simp))
        obtain ⟨wn, hwn⟩ : ∃ wn, wn = w4.setCell ⟨w.heap.size + 1, 0, none⟩ (.int .i64 (c : Int)) := ⟨_, rfl⟩
        rw [← hwn] at HB3 H03 H13
        go_upto_region 9 with fail
        rw [← hwn]
        clear hwn g0 g1 f1 HB2 H02 H12
        obtain ⟨g0, g1⟩ := mk_two H13.out
        by_cases hov : 1000000 < c
        · have hov2 : (1000000 : Int) < (c : Int) := by omega
          have HNO : Hid (NoLine s.data.toList) := HPRE.out.no (numNo_over HDC.out hov)
          go_wp2_with fail
          go_step3
          change MJ s w 0 _ _ ∧ _
          refine ⟨MJ.mk c n1 0 (k + 1) p (by omega) rfl rfl rfl rfl rfl rfl rfl rfl rfl (by omega) (by omega) HB3.out H03.out H13.out HNO.out, ?_⟩
          simp [mμ]
        · have hov2 : ¬ (1000000 : Int) < (c : Int) := by omega
          go_wp2_with fail
          go_step3
          change MJ s w 3 _ _ ∧ _
          refine ⟨MJ.mk c n1 0 (k + 1) p (by omega) rfl rfl rfl rfl rfl rfl rfl rfl rfl (by omega) (by omega) HB3.out H03.out H13.out ⟨(HPRE.out.elim (fun h => .inl h) (fun h => absurd h.1 (by omega))), by show 1 ≤ c; have := HC.out; omega, by show c ≤ 1000000; omega, HDC.out⟩, ?_⟩
          simp [mμ, intOf]
          omega
    · go_wp2_with fail
      refine (byteAt_any s k (by omega) hk w1).mono ?_
      rintro r w2 ⟨rfl, rfl⟩
      go_wp2_with fail
      refine (isDigit_any _ (mbyteN_lt s k) _).mono ?_
      rintro r w3 ⟨rfl, rfl⟩
      have hc1' : 1 ≤ n1 := hc1
      have hc2' : n1 ≤ 1000000 := hc2
      clear hc1 hc2
      cases hd : digN (mbyteN s k)
      · go_wp2_with fail
        go_step3
        change MJ s w 2 _ _ ∧ _
        refine ⟨MJ.mk n0 n1 1 k p (by omega) rfl rfl rfl rfl rfl rfl rfl rfl rfl (by omega) hk HB.out H0.out H1.out ⟨HPRE.out, hc2', HDR.out, .inl (digN_not hd)⟩, ?_⟩
        simp [mμ]
      · obtain ⟨hlt, d, hd9, hbd, hsk⟩ := digN_at hd
        obtain ⟨c, hc⟩ : ∃ c, c = 10 * n1 + d := ⟨_, rfl⟩
        have hci : 10 * (n1 : Int) + (d : Int) = (c : Int) := by omega
        have hcb : c ≤ 10000009 := by omega
        have HC := hide hc
        have HDC : Hid (s.data.toList.drop p = Lib.decDigits c ++ s.data.toList.drop (k + 1)) := by
          show _ = _
          rw [HDR.out, drop_at s k hlt, hsk, hc, dec_snoc hc1' (by omega), List.append_assoc]; rfl
        have HBD := hide hbd
        obtain ⟨g0, g1⟩ := mk_two H1.out
        have f1 := mk_frozen H1.out 1
        have tg := fun d os => cell_regrown g1 d os
        have cD : ∀ q os, Calls Tryd.prog 67 #[.string s, .int .i64 (k : Int)] (Go.Sort.grow (redrawn w3 q) os) fun e w'' => e = .returned (.int .i64 (d : Int)) ∧ ∃ p : Regrown, w'' = Go.Sort.grow (redrawn w3 p.d) p.os := fun q os => Calls.regrown_of ((digitAt_any s k d (by omega) hlt HBD.out hd9 _).mono fun e w' hh => ⟨hh.1, hh.2 ▸ Below.refl _ _⟩)
        have hwr1 : IntKind.i64.wrap (10 * (n1 : Int)) = 10 * (n1 : Int) := wrap_small (by omega) (by omega)
        have hwr2 : IntKind.i64.wrap (10 * (n1 : Int) + (d : Int)) = (c : Int) := by rw [hci]; exact wrap_small (by omega) (by omega)
        clear hsk hbd hc HDR
        go_upto_region 8 with fail
        refine wp_region_below_tail 10 (by kernel_rfl) (by kernel_rfl) ?_
        simp only [List.take_succ_cons, List.take_zero, List.drop_succ_cons, List.drop_zero]
        repeat (go_big_quiet_step ((go_at_call 67; exact cD _ _)))
        refine wpQuiet_nil ?_
        intro _ hw'
        obtain ⟨⟨dq, osq⟩, hw''⟩ := hw'
        subst hw''
        have HBr := hide (below_regrown w3 dq osq)
        have HB2 := hide (below_here HB.out HBr.out)
        have H02 := hide (block_on H0.out HBr.out)
        have H12 := hide (block_on H1.out HBr.out)
        clear HB H0 H1 HBr tg cD g0 g1 f1
        generalize Go.Sort.grow (redrawn w3 dq) osq = w4 at *
        obtain ⟨g0, g1⟩ := mk_two H12.out
        have f1 := mk_frozen H12.out 1
        have HB3 := hide (HB2.out.setCell (p := ⟨w.heap.size + 1, 1, none⟩) (by simp) (.int .i64 (c : Int)))
        have H03 := hide ((mset_other (W := w4) (a := w.heap.size + 1) (b := w.heap.size) (by omega) 1 (.int .i64 (c : Int))).trans H02.out)
        have H13 := hide (set_block H12.out 1 (.int .i64 (c : Int)) (by simp))
        obtain ⟨wn, hwn⟩ : ∃ wn, wn = w4.setCell ⟨w.heap.size + 1, 1, none⟩ (.int .i64 (c : Int)) := ⟨_, rfl⟩
        rw [← hwn] at HB3 H03 H13
        go_upto_region 9 with fail
        rw [← hwn]
        clear hwn g0 g1 f1 HB2 H02 H12
        obtain ⟨g0, g1⟩ := mk_two H13.out
        by_cases hov : 1000000 < c
        · have hov2 : (1000000 : Int) < (c : Int) := by omega
          have HNO : Hid (NoLine s.data.toList) := HPRE.out.no (numNo_over HDC.out hov)
          go_wp2_with fail
          go_step3
          change MJ s w 0 _ _ ∧ _
          refine ⟨MJ.mk n0 c 1 (k + 1) p (by omega) rfl rfl rfl rfl rfl rfl rfl rfl rfl (by omega) (by omega) HB3.out H03.out H13.out HNO.out, ?_⟩
          simp [mμ]
        · have hov2 : ¬ (1000000 : Int) < (c : Int) := by omega
          go_wp2_with fail
          go_step3
          change MJ s w 3 _ _ ∧ _
          refine ⟨MJ.mk n0 c 1 (k + 1) p (by omega) rfl rfl rfl rfl rfl rfl rfl rfl rfl (by omega) (by omega) HB3.out H03.out H13.out ⟨HPRE.out, by show 1 ≤ c; have := HC.out; omega, by show c ≤ 1000000; omega, HDC.out⟩, ?_⟩
          simp [mμ, intOf]
          omega
  · rintro a w1 ⟨-, n0, n1, rd, k, p, u, rfl, hrd, hk, hb, hb0, hb1, hr1, hl0, hl1, hln⟩
    have HLN := hide hln
    have HL0 := hide hl0
    have HL1 := hide hl1
    subst hr1
    obtain ⟨g0, g1⟩ := mk_two hb1
    obtain ⟨d0, d1, d2⟩ := mk_cells hb0
    have f0 := mk_frozen hb0 0
    have f1 := mk_frozen hb0 1
    have f2 := mk_frozen hb0 2
    have HFA := fun fl : Bool => hide (mk_set hb0 (.int .i64 (n0 : Int)) (.int .i64 (n1 : Int)) (.bool fl))
    have HGA := fun fl : Bool => hide (mk_below hb (Nat.le_refl _) (.int .i64 (n0 : Int)) (.int .i64 (n1 : Int)) (.bool fl))
    have HFZ := hide (mk_set hb0 (.int .i64 0) (.int .i64 0) (.bool false))
    have HGZ := hide (mk_below hb (Nat.le_refl _) (.int .i64 0) (.int .i64 0) (.bool false))
    clear hb hb0 hb1 hln hl0 hl1
    obtain ⟨x, hx⟩ : ∃ x, x = s.extract k s.size := ⟨_, rfl⟩
    have HX : Hid (x.data.toList = s.data.toList.drop k) := by
      show _ = _
      rw [hx, ByteArray.data_extract, Array.toList_extract]
      simp only [List.extract_eq_take_drop]
      exact List.take_of_length_le (by simp)
    go_upto_region 16 with fail
    rw [← hx]
    clear hx
    by_cases h48 : x = ⟨#[48]⟩
    · subst h48
      have HLL : Hid (s.data.toList = lineL n0 n1 false) := by
        show _ = _
        unfold lineL
        rw [HLN.out, ← HX.out]; rfl
      go_wp2_with fail
      simp only [jumps]
      refine bodyPost_ret (results_ct rfl rfl (run_loadVar_row _ _ _ _ _ _ _ (HFA false).out Tryd.underlying25 rfl (by kernel_rfl))) rfl ⟨?_, (HGA false).out⟩
      exact .inl ⟨(n0, n1, false), ⟨HL0.out, HL1.out⟩, HLL.out, rfl⟩
    · have h48b : (x.toList == [48]) = false := by
        rw [ByteArray.toList_eq]
        simp only [beq_eq_false_iff_ne, ne_eq]
        intro e
        exact h48 (by apply ByteArray.ext; apply Array.ext'; simpa using e)
      by_cases h49 : x = ⟨#[49]⟩
      · subst h49
        have HLL : Hid (s.data.toList = lineL n0 n1 true) := by
          show _ = _
          unfold lineL
          rw [HLN.out, ← HX.out]; rfl
        go_wp2_with fail
        simp only [jumps]
        refine bodyPost_ret (results_ct rfl rfl (run_loadVar_row _ _ _ _ _ _ _ (HFA true).out Tryd.underlying25 rfl (by kernel_rfl))) rfl ⟨?_, (HGA true).out⟩
        exact .inl ⟨(n0, n1, true), ⟨HL0.out, HL1.out⟩, HLL.out, rfl⟩
      · have h49b : (x.toList == [49]) = false := by
          rw [ByteArray.toList_eq]
          simp only [beq_eq_false_iff_ne, ne_eq]
          intro e
          exact h49 (by apply ByteArray.ext; apply Array.ext'; simpa using e)
        have HNO : Hid (NoLine s.data.toList) := by
          refine noLine_flag HLN.out ?_ ?_
          · rw [← HX.out]
            intro e
            exact h48 (by apply ByteArray.ext; apply Array.ext'; simpa using e)
          · rw [← HX.out]
            intro e
            exact h49 (by apply ByteArray.ext; apply Array.ext'; simpa using e)
        go_wp2_with fail
        go_step3
        go_wp2_with fail
        simp only [jumps]
        refine bodyPost_ret (results_ct rfl rfl (run_loadVar_row _ _ _ _ _ _ _ HFZ.out Tryd.underlying25 rfl (by kernel_rfl))) rfl ⟨?_, HGZ.out⟩
        exact .inr ⟨HNO.out, rfl⟩
end Go.Proofs.YteooaljhdmmooaaDoor
