/- For every slice of bytes the law FnNotes returns true and leaves its argument as it was; the library's tables and errors that its row lists read as they are laid. -/
import Derived.Test.YtdjifickdcnacaaDoorRows
import Derived.Test.YtdjifickdcnacaaDoorNNoteSpecB
import Derived.Test.YtdjifickdcnacaaDoorNNoteImplG
import Derived.Test.YtdjifickdcnacaaDoorNNoteImplC
import Derived.Test.YtdjifickdcnacaaDoorNNoteLaid
import Derived.Test.YtdjifickdcnacaaDoorNSpareSpec3
import Derived.Test.YtdjifickdcnacaaDoorNDraw15
import Derived.Test.YtdjifickdcnacaaDoorNSmearSpec
import Derived.Test.YtdjifickdcnacaaDoorNCheckImpl
import Derived.Test.YtdjifickdcnacaaDoorNLawBase
import Derived.Deep.RegionHeld3
import Derived.Deep.DeepCutAuto
import Derived.Lib.QuietBelow
import Derived.BigQuiet
import Derived.WalkKit
import Derived.ProofKit
import Derived.OpenShut
import Derived.ShutString
import Derived.ChangeOld
import Derived.Below
namespace Go.Proofs.YtdjifickdcnacaaDoor.fnNotes
open Go.ChangeShapes Go.WideShapes Go.ChangeAt Go.RowKit
open Go.ChangeMaps (open_string shut_string)
set_option linter.unusedVariables false

theorem own : ownKnob Tryd.prog.godebug = none := by kernel_rfl
theorem laidOut : laidOutB Tryd.prog = true := by kernel_rfl

/-- WHAT THE WALK IS TOLD OF A SLICE OF INTEGERS THAT CAME IN: it is nil; or it leads to a row of 'cap' cells, the numbers 'zs' (the first 'len' are its elements, the rest its spare room), each fitting its kind. -/
def IsRow (k : IntKind) (w : World) (a : Option Addr) (len cap : Nat) (zs : List Int) : Prop :=
  (a = none ∧ len = 0 ∧ cap = 0 ∧ zs = []) ∨
  ∃ x, a = some x ∧ len ≤ cap ∧ cap ≤ maxLen ∧ zs.length = cap ∧ (∀ i, i < zs.length → w.cell? (x.add i) = some (.int k (zs.getD i 0))) ∧ ∀ n ∈ zs, (Lit.int k n).wf = true

/-- A Note in a variable. -/
def NoteBox (W : World) (b : Nat) (x : Nt) (av : Option Addr) (c : Nat) : Prop := W.heap[b]? = some (.cells #[.int .i64 x.k, .int .i64 x.tt, .int .i64 x.e, .int .i64 x.s, .int .i64 x.a, .string x.tx, .slice av x.vs.length c] 26) ∧ ∃ lo hi, Texts lo hi W av x.vs.length x.vs
theorem NoteBox.on {W W' : World} {b : Nat} {x : Nt} {av : Option Addr} {c : Nat} (h : NoteBox W b x av c) (hb : Below W.heap.size W W') : NoteBox W' b x av c := by
  obtain ⟨h1, lo, hi, h2⟩ := h
  exact ⟨block_on h1 hb, lo, hi, h2.later hb h2.2.1⟩
theorem NoteBox.mk {W : World} {x : Nt} {av : Option Addr} {c lo hi : Nat} (h : Texts lo hi W av x.vs.length x.vs) : NoteBox (W.alloc (.cells #[.int .i64 x.k, .int .i64 x.tt, .int .i64 x.e, .int .i64 x.s, .int .i64 x.a, .string x.tx, .slice av x.vs.length c] 26)) W.heap.size x av c :=
  ⟨heap_new _ _, lo, hi, h.later ((Below.refl W.heap.size W).alloc (Nat.le_refl _) _) h.2.1⟩
theorem readY_small {s : ByteArray} (hs : s.size ≤ 1048576) : (readY s).vs.length ≤ 64 ∧ (readY s).tx.size ≤ 1048576 ∧ ∀ y ∈ (readY s).vs, y.size ≤ 1048576 := by
  unfold readY
  rw [readNt_guess]
  split
  · have := guessN_small hs
    exact ⟨this.1, this.2.2, this.2.1⟩
  · exact ⟨Nat.zero_le _, Nat.zero_le _, fun y hy => by cases hy⟩
theorem showNt_ne {x : Nt} (h : noteOk x = true) : showNt x ≠ ⟨#[]⟩ := by
  unfold showNt
  rw [if_pos h]
  intro e
  have h2 := congrArg ByteArray.size e
  rw [checked_size, show (⟨#[]⟩ : ByteArray).size = 0 from rfl] at h2
  omega
theorem showNt_no {x : Nt} (h : noteOk x = false) : showNt x = ⟨#[]⟩ := by
  unfold showNt
  rw [h]
  rfl
theorem readNt_show {x : Nt} (h : noteOk x = true) : readNt (showNt x) = some x := readNt_some ⟨h, rfl⟩
set_option maxHeartbeats 6400000 in
set_option maxRecDepth 100000 in

theorem walk (a0 : Option Addr) (len0 cap0 : Nat) (z0 : List Int) (w : World) (w0 : IsRow .u8 w a0 len0 cap0 z0) (hE : NEnv w) :
    Calls Tryd.prog 3 #[.slice a0 len0 cap0] w fun e w' => e = .returned (.bool true) ∧ Below w.heap.size w w' := by
  have HE := hide hE
  clear hE
  obtain ⟨l, hA⟩ : ∃ l, Bytes 0 w.heap.size w a0 len0 l := ⟨_, bytes_of (by unfold IsRow at w0; exact w0)⟩
  have hlen : len0 ≤ 9223372036854775807 := by
    rcases w0 with ⟨_, rfl, _, _⟩ | ⟨x, _, hl, hm, _⟩
    · omega
    · unfold maxLen at hm; omega
  clear w0
  by_cases hbig : 4096 < len0
  · have hb' : decide (4096 < len0) = true := by simpa using hbig
    go_enter Tryd.func3, Tryd.ntmps3
    go_wp2_with fail
    refine (big_any a0 len0 cap0 w hlen).mono ?_
    rintro e w1 ⟨rfl, rfl⟩
    go_wp2_with fail
    go_ret
    exact ⟨rfl, Below.refl _ _⟩
  · have hb' : decide (4096 < len0) = false := by simpa using hbig
    have hn : len0 ≤ 4096 := by omega
    clear hbig
    have HA := hide hA
    clear hA
    go_enter Tryd.func3, Tryd.ntmps3
    go_wp2_with fail
    refine (big_any a0 len0 cap0 w hlen).mono ?_
    rintro e w1 ⟨rfl, rfl⟩
    go_wp2_with fail
    refine (drawShowNote_any a0 len0 cap0 l w HA.out (Nat.le_refl _) hn).mono ?_
    rintro e w1 ⟨x, av, c, rfl, ⟨h3, htx, hts⟩, hc, ht, b1⟩
    obtain ⟨S, hS⟩ : ∃ S, S = showNt x := ⟨_, rfl⟩
    have HSZ : Hid (S.size ≤ 4000) := by show _ ≤ _; rw [hS]; exact showNt_small ⟨h3, htx, hts⟩
    have HS := hide hS
    have HTS : Hid (∀ y ∈ x.vs, y.size ≤ 1048576) := fun y hy => Nat.le_trans (hts y hy) (by omega)
    have HTX : Hid (x.tx.size ≤ maxLen) := by show _ ≤ _; unfold maxLen; omega
    have HV3 : Hid (x.vs.length ≤ 1048576) := by show _ ≤ _; omega
    obtain ⟨wA, hwA⟩ : ∃ wA, wA = w1.alloc (.cells #[.int .i64 x.k, .int .i64 x.tt, .int .i64 x.e, .int .i64 x.s, .int .i64 x.a, .string x.tx, .slice av x.vs.length c] 26) := ⟨_, rfl⟩
    have HN : Hid (NoteBox wA w1.heap.size x av c) := by rw [hwA]; exact NoteBox.mk ht
    have HBA : Hid (Below w.heap.size w wA) := by rw [hwA]; exact b1.alloc b1.size _
    clear hS h3 htx hts ht b1
    -- the calls, as they are asked
    have HSH : ∀ W av c, Hid (Below w.heap.size w W → (∃ lo hi, Texts lo hi W av x.vs.length x.vs) → Calls Tryd.prog 8 #[noteV x av x.vs.length c] W fun r w' => r = .returned (.string S) ∧ Below W.heap.size W w') := fun W av c hb ⟨lo, hi, ht⟩ => by rw [HS.out]; exact implShowNote_any x.k x.tt x.e x.s x.a x.tx x.vs av x.vs.length c W ht HV3.out HTS.out HTX.out (HE.out.pow.here hb)
    have HSS : ∀ W av c, Hid ((∃ lo hi, Texts lo hi W av x.vs.length x.vs) → Calls Tryd.prog 13 #[noteV x av x.vs.length c] W fun r w' => r = .returned (.string S) ∧ Below W.heap.size W w') := fun W av c ⟨lo, hi, ht⟩ => by rw [HS.out]; exact specShowNote_any x.k x.tt x.e x.s x.a x.tx x.vs av x.vs.length c W ht HV3.out HTS.out HTX.out
    have HOK : ∀ W av c, Hid ((∃ lo hi, Texts lo hi W av x.vs.length x.vs) → Calls Tryd.prog 14 #[noteV x av x.vs.length c] W fun r w' => r = .returned (.bool (noteOk x)) ∧ Below W.heap.size W w') := fun W av c ⟨lo, hi, ht⟩ => implNoteOk_any x.k x.tt x.e x.s x.a x.tx x.vs av x.vs.length c W ht HV3.out HTS.out HTX.out
    have HRD : ∀ (s : ByteArray) W, Hid (s.size ≤ 1048576 → Below w.heap.size w W → Calls Tryd.prog 10 #[.string s] W fun r w' => ∃ av cap, r = .returned (.tuple #[noteV (readY s) av (readY s).vs.length cap, .bool (readNt s).isSome]) ∧ (∃ lo hi, Texts lo hi w' av (readY s).vs.length (readY s).vs) ∧ Below W.heap.size W w') := fun s W hs hb => (implReadNote_any s hs W (HE.out.here hb)).mono (by rintro r w' ⟨⟨av, cap, h1, h2, h3⟩, h4⟩; exact ⟨av, cap, h1, ⟨_, _, h3.texts⟩, h4⟩)
    unfold noteV
    obtain ⟨⟨n0, n1, n2, n3, n4, n5, n6⟩, g0, g1, g2, g3, g4, g5, g6⟩ : _ ∧ _ ∧ _ ∧ _ ∧ _ ∧ _ ∧ _ ∧ _ := ⟨note_cells HN.out.1, four_frozen HN.out.1 0, four_frozen HN.out.1 1, four_frozen HN.out.1 2, four_frozen HN.out.1 3, four_frozen HN.out.1 4, four_frozen HN.out.1 5, four_frozen HN.out.1 6⟩
    go_upto_region 4 with fail
    rw [← hwA]
    clear hwA g0 g1 g2 g3 g4 g5 g6
    go_wp2_with fail
    refine ((HSH wA av c).out HBA.out HN.out.2).mono ?_
    rintro e w2 ⟨rfl, b2⟩
    have HB2 := hide (below_here HBA.out b2)
    have HN2 := hide (HN.out.on b2)
    clear b2 HBA HN n0 n1 n2 n3 n4 n5 n6
    go_wp2_with fail
    refine (drawReadNote_any a0 len0 cap0 l w2 (HA.out.later HB2.out (Nat.le_refl _)) hn).mono ?_
    rintro e w3 ⟨T, rfl, hT, b3⟩
    have HB3 := hide (below_here HB2.out b3)
    have HN3 := hide (HN2.out.on b3)
    have HT4 := hide hT
    clear b3 HB2 HN2 hT
    go_wp2_with fail
    refine ((HRD T w3).out (by have := HT4.out; omega) HB3.out).mono ?_
    rintro e w4 ⟨ya, yc, rfl, hyt, b4⟩
    have HB4 := hide (below_here HB3.out b4)
    have HN4 := hide (HN3.out.on b4)
    have HYS : Hid (_) := hide (readY_small (s := T) (by have := HT4.out; omega))
    obtain ⟨y, hy⟩ : ∃ y, y = readY T := ⟨_, rfl⟩
    obtain ⟨ok, hok⟩ : ∃ ok, ok = (readNt T).isSome := ⟨_, rfl⟩
    rw [← hy] at hyt HYS ⊢
    rw [← hok]
    have HY := hide hy
    have HOKT := hide hok
    obtain ⟨wB, hwB⟩ : ∃ wB, wB = w4.alloc (.cells #[.int .i64 y.k, .int .i64 y.tt, .int .i64 y.e, .int .i64 y.s, .int .i64 y.a, .string y.tx, .slice ya y.vs.length yc] 26) := ⟨_, rfl⟩
    have bB : Below w4.heap.size w4 wB := by rw [hwB]; exact (Below.refl _ _).alloc (Nat.le_refl _) _
    have HR := hide (show NoteBox wB w4.heap.size y ya yc by rw [hwB]; obtain ⟨_, _, ht⟩ := hyt; exact NoteBox.mk ht)
    have HBB := hide (below_here HB4.out bB)
    have HNB := hide (HN4.out.on bB)
    clear b4 HB3 HN3 hyt bB HB4 HN4 hy hok
    unfold noteV
    go_upto_region 7 with fail
    rw [← hwB]
    clear hwB
    go_wp2_with fail
    refine (specReadNote_any T (by have := HT4.out; omega) wB).mono ?_
    rintro e w5 ⟨⟨za, zc, rfl, hzc, hzt⟩, b5⟩
    rw [← HY.out] at hzt ⊢
    rw [← HOKT.out]
    obtain ⟨wC, hwC⟩ : ∃ wC, wC = w5.alloc (.cells #[.int .i64 y.k, .int .i64 y.tt, .int .i64 y.e, .int .i64 y.s, .int .i64 y.a, .string y.tx, .slice za y.vs.length zc] 26) := ⟨_, rfl⟩
    have bC : Below w5.heap.size w5 wC := by rw [hwC]; exact (Below.refl _ _).alloc (Nat.le_refl _) _
    have HZ := hide (show NoteBox wC w5.heap.size y za zc by rw [hwC]; exact NoteBox.mk hzt)
    have HBC := hide (below_here (below_here HBB.out b5) bC)
    have HNC := hide ((HNB.out.on b5).on bC)
    have HRC := hide ((HR.out.on b5).on bC)
    clear b5 bC HBB HNB HR hzt hzc
    unfold noteV
    go_upto_region 8 with fail
    rw [← hwC]
    clear hwC
    have hok2 : (ok != ok) = false := by simp
    have tS := text_same S
    obtain ⟨n0, n1, n2, n3, n4, n5, n6⟩ := note_cells HNC.out.1
    obtain ⟨r0, r1, r2, r3, r4, r5, r6⟩ := note_cells HRC.out.1
    obtain ⟨z0, z1, z2, z3, z4, z5, z6⟩ := note_cells HZ.out.1
    obtain ⟨nl, nh, HNT⟩ := HNC.out.2
    obtain ⟨rl, rh, HRT⟩ := HRC.out.2
    obtain ⟨zl, zh, HZT⟩ := HZ.out.2
    go_wp2_with fail
    refine (likeNote_same y.k y.tt y.e y.s y.a y.tx y.vs ya za y.vs.length yc zc wC HRT HZT (by have := HYS.out.1; omega)).mono ?_
    rintro e w6 ⟨rfl, b6⟩
    have HB6 := hide (below_here HBC.out b6)
    have HN6 := hide (HNC.out.on b6)
    have HR6 := hide (HRC.out.on b6)
    clear b6 HBC HNC HRC HZ HNT HRT HZT n0 n1 n2 n3 n4 n5 n6 r0 r1 r2 r3 r4 r5 r6 z0 z1 z2 z3 z4 z5 z6
    obtain ⟨n0, n1, n2, n3, n4, n5, n6⟩ := note_cells HN6.out.1
    go_wp2_with fail
    refine ((HSS w6 av c).out HN6.out.2).mono ?_
    rintro e w7 ⟨rfl, b7⟩
    have HB7 := hide (below_here HB6.out b7)
    have HN7 := hide (HN6.out.on b7)
    have HR7 := hide (HR6.out.on b7)
    clear b7 HB6 HN6 HR6 n0 n1 n2 n3 n4 n5 n6
    obtain ⟨n0, n1, n2, n3, n4, n5, n6⟩ := note_cells HN7.out.1
    go_wp2_with fail
    refine ((HOK w7 av c).out HN7.out.2).mono ?_
    rintro e w8 ⟨rfl, b8⟩
    have HB8 := hide (below_here HB7.out b8)
    have HN8 := hide (HN7.out.on b8)
    have HR8 := hide (HR7.out.on b8)
    clear b8 HB7 HN7 HR7 n0 n1 n2 n3 n4 n5 n6
    obtain ⟨b, hb⟩ : ∃ b, noteOk x = b := ⟨_, rfl⟩
    have hE2 : (b = false ∧ S.toList.isEmpty = true) ∨ (b = true ∧ S.toList.isEmpty = false) := by
      cases b with
      | false => exact Or.inl ⟨rfl, by rw [HS.out, showNt_no hb, ByteArray.toList_eq]; rfl⟩
      | true => exact Or.inr ⟨rfl, by rw [List.isEmpty_eq_false_iff]; exact empty_list (by rw [HS.out]; exact showNt_ne hb)⟩
    have HBK := hide hb
    rw [hb]
    clear hb
    have tT := text_same T
    have HYT : Hid (ok = true → NtOf T y) := fun h => by
      have h1 := HOKT.out
      rw [h] at h1
      have h2 : readNt T = some y := by
        have h3 := HY.out
        unfold readY at h3
        cases hr : readNt T with
        | none => rw [hr] at h1; cases h1
        | some v => rw [hr] at h3; rw [h3]; rfl
      exact readNt_of h2
    have HYZ : Hid (ok = false → y = noteZ) := fun h => by
      have h1 := HOKT.out
      rw [h] at h1
      have h3 := HY.out
      unfold readY at h3
      cases hr : readNt T with
      | none => rw [hr] at h3; exact h3
      | some v => rw [hr] at h1; cases h1
    have HSY : ∀ W ya yc, Hid (ok = true → Below w.heap.size w W → (∃ lo hi, Texts lo hi W ya y.vs.length y.vs) → Calls Tryd.prog 8 #[noteV y ya y.vs.length yc] W fun r w' => r = .returned (.string T) ∧ Below W.heap.size W w') := fun W ya yc hk hb ⟨lo, hi, ht⟩ => by
      have h1 := HYT.out hk
      have h2 := implShowNote_any y.k y.tt y.e y.s y.a y.tx y.vs ya y.vs.length yc W ht (by have := HYS.out.1; omega) HYS.out.2.2 (by have := HYS.out.2.1; unfold maxLen; omega) (HE.out.pow.here hb)
      rw [show showNt ⟨y.k, y.tt, y.e, y.s, y.a, y.tx, y.vs⟩ = T from h1.2.symm] at h2
      exact h2
    obtain ⟨r0, r1, r2, r3, r4, r5, r6⟩ := note_cells HR8.out.1
    rcases hE2 with ⟨rfl, he⟩ | ⟨rfl, he⟩
    all_goals (
      go_upto_region 10 with fail
      cases ok
      case' true =>
        go_wp2_with fail
        refine ((HSY w8 ya yc).out trivial HB8.out HR8.out.2).mono ?_
        rintro e w9 ⟨rfl, b9⟩
        have HB9 := hide (below_here HB8.out b9)
        have HN9 := hide (HN8.out.on b9)
        clear b9 HB8 HN8 HR8 r0 r1 r2 r3 r4 r5 r6
        go_upto_region 12 with fail
      case' false =>
        have HLZ : Hid (Calls Tryd.prog 12 #[.agg #[.int .i64 y.k, .int .i64 y.tt, .int .i64 y.e, .int .i64 y.s, .int .i64 y.a, .string y.tx, .slice ya y.vs.length yc], .agg #[.int .i64 0, .int .i64 0, .int .i64 0, .int .i64 0, .int .i64 0, .string ⟨#[]⟩, .slice none 0 0]] w8 fun r w' => r = .returned (.bool true) ∧ Below w8.heap.size w8 w') := by
          obtain ⟨lo, hi, ht⟩ := HR8.out.2
          have hz := HYZ.out rfl
          subst hz
          exact likeNote_same 0 0 0 0 0 ⟨#[]⟩ [] ya none 0 yc 0 w8 ht (texts_nil 0 w8) (by omega)
        go_wp2_with fail
        refine HLZ.out.mono ?_
        rintro e w9 ⟨rfl, b9⟩
        have HB9 := hide (below_here HB8.out b9)
        have HN9 := hide (HN8.out.on b9)
        clear b9 HB8 HN8 HR8 r0 r1 r2 r3 r4 r5 r6 HLZ
        go_upto_region 12 with fail)
    · go_wp2_with fail
      go_ret
      exact ⟨rfl, HB9.out⟩
    · go_wp2_with fail
      go_ret
      exact ⟨rfl, HB9.out⟩
    all_goals (
      clear HYT HYZ HSY HOKT HY HYS HOK HSS HT4 tT
      go_wp2_with fail
      refine ((HRD S w9).out (by have := HSZ.out; omega) HB9.out).mono ?_
      rintro e w10 ⟨ua, uc, rfl, hut, b10⟩
      have HRX : Hid (readNt S = some x) := by show _ = _; rw [HS.out]; exact readNt_show HBK.out
      have hrx : readY S = x := by unfold readY; rw [HRX.out]; rfl
      rw [hrx] at hut ⊢
      rw [show (readNt S).isSome = true by rw [HRX.out]; rfl]
      obtain ⟨wD, hwD⟩ : ∃ wD, wD = w10.alloc (.cells #[.int .i64 x.k, .int .i64 x.tt, .int .i64 x.e, .int .i64 x.s, .int .i64 x.a, .string x.tx, .slice ua x.vs.length uc] 26) := ⟨_, rfl⟩
      have bD : Below w10.heap.size w10 wD := by rw [hwD]; exact (Below.refl _ _).alloc (Nat.le_refl _) _
      have HU := hide (show NoteBox wD w10.heap.size x ua uc by rw [hwD]; obtain ⟨_, _, ht⟩ := hut; exact NoteBox.mk ht)
      have HBD := hide (below_here (below_here HB9.out b10) bD)
      have HND := hide ((HN9.out.on b10).on bD)
      have hS2 : 2 ≤ S.size ∧ ∃ q, S = checked q := by
        rw [HS.out]
        unfold showNt
        rw [if_pos HBK.out]
        exact ⟨by rw [checked_size]; omega, _, rfl⟩
      obtain ⟨hs2, q, hq⟩ := hS2
      have HQ := hide hq
      have hs4 := HSZ.out
      clear b10 bD HB9 HN9 hut hrx hq
      unfold noteV
      go_upto_region 15 with fail
      rw [← hwD]
      clear hwD
      go_wp2_with fail
      refine (pick_any a0 len0 cap0 l 1 (8 * (S.size : Int)) wD (HA.out.later HBD.out (Nat.le_refl _)) hn (by omega) (by omega) (by omega) (by omega)).mono ?_
      rintro e w11 ⟨P, rfl, P0, P1, rfl⟩
      go_wp2_with fail
      refine (pick_any a0 len0 cap0 l 2 65535 wD (HA.out.later HBD.out (Nat.le_refl _)) hn (by omega) (by omega) (by omega) (by omega)).mono ?_
      rintro e w12 ⟨M, rfl, M0, M1, rfl⟩
      go_wp2_with fail
      refine (specSmeared_any S P (1 + M) wD (by omega)).mono ?_
      rintro e w13 ⟨rfl, b13⟩
      obtain ⟨B, hB⟩ : ∃ B, B = smeared S P (1 + M) := ⟨_, rfl⟩
      have hBz : B.size ≤ 4000 := by rw [hB, smeared_size]; omega
      have HBAD : Hid (B = S ∨ readNt B = none) := by
        show _ ∨ _
        cases hr : readNt B with
        | none => exact Or.inr rfl
        | some v =>
          refine Or.inl ?_
          have h1 := readNt_of hr
          have hw : whole B = true := by rw [h1.2]; unfold showNt; rw [if_pos h1.1]; exact whole_checked _
          have e1 : P = ((P.toNat : Nat) : Int) := by omega
          have e2 : 1 + M = (((1 + M).toNat : Nat) : Int) := by omega
          rw [hB, e1, e2, HQ.out] at hw ⊢
          exact smeared_seen q _ _ (by rw [← HQ.out]; omega) (by omega) hw
      rw [← hB]
      have HB13 := hide (below_here HBD.out b13)
      have HN13 := hide (HND.out.on b13)
      have HU13 := hide (HU.out.on b13)
      clear b13 HBD HND HU hB P0 P1 M0 M1
      go_wp2_with fail
      refine ((HRD B w13).out (by omega) HB13.out).mono ?_
      rintro e w14 ⟨va, vc, rfl, hvt, b14⟩
      obtain ⟨wE, hwE⟩ : ∃ wE, wE = w14.alloc (.cells #[.int .i64 (readY B).k, .int .i64 (readY B).tt, .int .i64 (readY B).e, .int .i64 (readY B).s, .int .i64 (readY B).a, .string (readY B).tx, .slice va (readY B).vs.length vc] 26) := ⟨_, rfl⟩
      have bE : Below w14.heap.size w14 wE := by rw [hwE]; exact (Below.refl _ _).alloc (Nat.le_refl _) _
      have HBE := hide (below_here (below_here HB13.out b14) bE)
      have HNE := hide ((HN13.out.on b14).on bE)
      have HUE := hide ((HU13.out.on b14).on bE)
      obtain ⟨sm, hsm⟩ : ∃ sm, sm = (readNt B).isSome := ⟨_, rfl⟩
      rw [← hsm]
      have HSM := hide hsm
      clear b14 bE HB13 HN13 HU13 hvt hsm
      unfold noteV
      go_upto_region 17 with fail
      rw [← hwE]
      clear hwE
      obtain ⟨n0, n1, n2, n3, n4, n5, n6⟩ := note_cells HNE.out.1
      obtain ⟨u0, u1, u2, u3, u4, u5, u6⟩ := note_cells HUE.out.1
      obtain ⟨nl, nh, HNT⟩ := HNE.out.2
      obtain ⟨ul, uh, HUT⟩ := HUE.out.2
      go_wp2_with fail
      refine (likeNote_same x.k x.tt x.e x.s x.a x.tx x.vs ua av x.vs.length uc c wE HUT HNT HV3.out).mono ?_
      rintro e w15 ⟨rfl, b15⟩
      have HB15 := hide (below_here HBE.out b15)
      clear b15 HBE HNE HUE HNT HUT n0 n1 n2 n3 n4 n5 n6 u0 u1 u2 u3 u4 u5 u6
      by_cases hbs : B = S
      · have hc2 : (B.toList == S.toList) = true := by rw [hbs]; exact text_same S
        go_wp2_with fail
        go_ret
        exact ⟨rfl, HB15.out⟩
      · have hc2 : (B.toList == S.toList) = false := text_other hbs
        have hsf : sm = false := by
          rcases HBAD.out with h | h
          · exact absurd h hbs
          · rw [HSM.out, h]; rfl
        subst hsf
        go_wp2_with fail
        go_ret
        exact ⟨rfl, HB15.out⟩)

/-! ### THE ROW's STEP: WRITTEN OUT: LEAVE IT -/
theorem laid_met (os : Os) : laidMet Tryd.prog Rows.fnNotesRow.laid ((World.doorLaid Tryd.prog 169 os).forCall (fun _ _ => 0) ⟨#[], #[.slice none 0 0], []⟩).memory :=
  laidMet_of_run' 8 (by kernel_rfl) (by kernel_rfl)
theorem reads (os : Os) {H : Type} (enc : TypeId × Value → H) : (DataW.whole enc Tryd.prog ((World.doorLaid Tryd.prog 169 os).forCall (fun _ _ => 0) ⟨#[], #[.slice none 0 0], []⟩).memory Tryd.f3.params.toList Rows.fnNotesSpec.vars false (#[.slice none 0 0] : Array Value).toList 8).isSome = true := by kernel_rfl

set_option maxRecDepth 100000 in
theorem lifted (os : Os) (started : os.Started) (H : Type) (enc : TypeId × Value → H) (F : Stop.Interp) :
    ReturnsInHanded {} Tryd.checked os 3 .any ((OpenSpec.ofChange Rows.fnNotesSpec).preRow enc Tryd.prog Tryd.f3 Rows.fnNotesRow.domain false Rows.fnNotesRow.laid) (((OpenSpec.ofChange Rows.fnNotesSpec).at F).post enc Tryd.prog Tryd.f3 false true false false) := by
  obtain ⟨x, hx⟩ := Option.isSome_iff_exists.1 (reads os enc)
  refine returnsInHanded_of_row (C := Tryd.checked) (s := OpenSpec.ofChange Rows.fnNotesSpec) own started (by kernel_rfl) Tryd.func3
    (witness_row_atRef (enc := enc) (C := Tryd.checked) false (World.doorLaid Tryd.prog 169 os) #[.slice none 0 0] rfl (by kernel_rfl) (by kernel_rfl) (by kernel_rfl)
      (OpenSpec.preRow_of_cond 8 hx rfl (fun k hk => by cases hk) (by kernel_rfl) (laid_met os))) ?_
  intro W base args ds gs before hval0 hW _ _ _ hL hsh _
  have hval : ∀ (j : Nat) t v, Tryd.f3.params[j]? = some t → args[j]? = some v → Value.okWide Tryd.prog W .any base t v := hval0
  have hW' := hW
  obtain ⟨p, q, hA0, hV, rfl, hfz, hnd⟩ := hW
  have hA : DataW.TrodAll enc Tryd.prog W 0 (fun _ => true) true Tryd.f3.params.toList args.toList ds p := hA0
  rw [Tryd.params3] at hA hval
  obtain ⟨v0, vs0, d0, ds0, p0, q0, hargs, rfl, rfl, h0, r0⟩ := trodAll_cons hA
  obtain ⟨rfl, rfl, rfl⟩ := trodAll_nil r0
  obtain rfl : args = #[v0] := by cases args; simp_all
  obtain ⟨rfl, rfl⟩ := trodVars_none hV
  obtain ⟨a0, len0, cap0, rfl⟩ := okWide_slice Tryd.underlying22 (hval 0 22 v0 rfl rfl)
  have k0 := h0
  have lt0 : ∀ x ∈ p0, x.block < W.heap.size := by obtain ⟨m, hm⟩ := k0; exact DataW.trod_lt m _ _ _ hm
  obtain ⟨z0, w0⟩ : ∃ zs, IsRow .u8 W a0 len0 cap0 zs := by
    obtain ⟨fuel, hf⟩ := h0
    rcases open_ints Tryd.underlying22 Tryd.underlying5 (by kernel_rfl) hf with ⟨hcs, _⟩ | ⟨x, l, c, zs, hcs, _, hl, hm, hz, _, hcell, hwz⟩
    · simp [Value.cells] at hcs
      obtain ⟨rfl, rfl, rfl⟩ := hcs
      exact ⟨[], .inl ⟨rfl, rfl, rfl, rfl⟩⟩
    · simp [Value.cells] at hcs
      obtain ⟨rfl, rfl, rfl⟩ := hcs
      exact ⟨zs, .inr ⟨_, rfl, hl, hm, by simpa using hz, hcell, hwz⟩⟩
  clear hA0 hval0
  refine (walk a0 len0 cap0 z0 W w0 (env_of_laid hL hsh)).mono fun e W' ⟨he, bel⟩ => ?_
  subst he
  exact ⟨_, rfl, _, _, _, [], _, [], hW', trodAll_mk1 (shut_bool Tryd.underlying4 _), (trodAll_cons_mk (Below.trod laidOut (by kernel_rfl) (of_decide_eq_true (by kernel_rfl)) k0 bel lt0) trodAll_mk0), rfl, bel.frame _, fun h => by cases h⟩

theorem and_of {a b : Bool} (h : a = true) (k : b = true) : (a && b) = true := by rw [h, k]; rfl
set_option maxHeartbeats 16000000 in
theorem facts : joinedFacts Tryd.pinned.checked.prog 3 Tryd.f3 (OpenSpec.ofChange Rows.fnNotesSpec).bare Rows.fnNotesRow = true := by
  unfold joinedFacts
  repeat (refine and_of ?_ (by as_aux_lemma => kernel_rfl))
  as_aux_lemma => kernel_rfl
theorem over : Rows.FnNotesSaid :=
  OpenClaim.holds_of_cond 3 Tryd.f3 rfl rfl rfl rfl rfl rfl rfl ⟨rfl, rfl, rfl, rfl, rfl⟩ rfl rfl rfl rfl rfl (by kernel_rfl) Tryd.func3 facts
    (of_decide_eq_true (by kernel_rfl)) (by unfold Func.isWrapper; first | (rw [if_pos (by decide +kernel)]; kernel_rfl) | (rw [if_neg (by decide +kernel)]; exact ⟨rfl, rfl⟩))
    (fun os started H enc _ F => by rw [OpenClaim.pre_eq_preRow]; exact lifted os started H enc F)
theorem plain (f : FuncId) (fn : Func) (hf : Tryd.pinned.checked.prog.funcNamed "loop.example/g00223/laws.FnNotes" = some f) (hfn : Tryd.pinned.checked.prog.funcs[f]? = some fn) :
    true = Tryd.pinned.checked.prog.looks [] ∧ ∀ (j : Nat) t, fn.params[j]? = some t → Tryd.pinned.checked.prog.wantsStandIn t = false := by
  obtain rfl : f = 3 := Option.some.inj ((show Tryd.prog.funcNamed "loop.example/g00223/laws.FnNotes" = some 3 by kernel_rfl).symm.trans hf) |>.symm
  obtain rfl : fn = Tryd.f3 := (Option.some.inj (Tryd.func3.symm.trans hfn)).symm
  refine ⟨by kernel_rfl, fun j t ht => ?_⟩
  have hall : (Tryd.f3.params.toList.all fun u => !Tryd.prog.wantsStandIn u) = true := by kernel_rfl
  have hm : t ∈ Tryd.f3.params.toList := by simpa using Array.mem_of_getElem? ht
  exact (show Tryd.prog.wantsStandIn t = false by simpa using List.all_eq_true.1 hall t hm)

/-- ████ THE CARD ████ -/
theorem proved : Rows.FnNotesCardSaid :=
  Claim7.holds_tied_plain_at .later [] _ _ _ _ over (fun _ h => by cases h) (by as_aux_lemma => kernel_rfl) (fun _ h => by cases h) fnNotes_row_tie rfl ⟨rfl, rfl⟩ (by as_aux_lemma => kernel_rfl) rfl plain (by as_aux_lemma => kernel_rfl)
#print axioms proved
end Go.Proofs.YtdjifickdcnacaaDoor.fnNotes
