/- For every slice of texts and every slice of Puts the law FnExactPlayed returns true and leaves its arguments as they were; no condition. -/
import Derived.Test.YtckkcimkfhhacaaRows
import Derived.Test.YtckkcimkfhhacaaLLogSpecE
import Derived.Test.YtckkcimkfhhacaaLLogImplE
import Derived.Test.YtckkcimkfhhacaaLPutOwn
import Derived.Test.YtckkcimkfhhacaaLTextFrom
import Derived.Test.YtckkcimkfhhacaaLTextBase
import Derived.Deep.RegionHeld3
import Derived.Deep.Cut
import Derived.WalkKit
import Derived.ProofKit
import Derived.OpenShut
import Derived.ShutString
import Derived.ChangeOld
import Derived.Below
namespace Go.Proofs.Ytckkcimkfhhacaa.fnExactPlayed
open Go.ChangeShapes Go.WideShapes Go.ChangeAt Go.RowKit
open Go.ChangeMaps (open_string shut_string)
set_option linter.unusedVariables false

theorem own : ownKnob Try.prog.godebug = none := by kernel_rfl
theorem laidOut : laidOutB Try.prog = true := by kernel_rfl

set_option maxHeartbeats 4000000 in
set_option maxRecDepth 20000 in

theorem walk (a0 : Option Addr) (len0 cap0 : Nat) (z0 : List ByteArray) (a1 : Option Addr) (len1 cap1 : Nat) (z1 : List Jb) (w : World) (w0 : Texts 0 w.heap.size w a0 len0 z0 ∧ (∀ s ∈ z0, s.size ≤ maxLen) ∧ len0 ≤ maxLen) (w1 : Jobs 0 w.heap.size w a1 len1 z1 ∧ (∀ x ∈ z1, jbFits x) ∧ len1 ≤ maxLen) :
    Calls Try.prog 7 #[.slice a0 len0 cap0, .slice a1 len1 cap1] w fun e w' => e = .returned (.bool true) ∧ Below w.heap.size w w' := by
  obtain ⟨hA, hsz, hm⟩ := w0
  obtain ⟨hJ, hjf, hjm⟩ := w1
  have HT := hide hA
  have HSZ := hide hsz
  have HM := hide hm
  have HJ := hide hJ
  have HF := hide hjf
  have HJM := hide hjm
  clear hA hsz hm hJ hjf hjm
  go_enter Try.func7, Try.ntmps7
  go_wp2_with fail
  refine (szT_from a0 len0 cap0 z0 1048576 w HT.out HM.out HSZ.out (by omega) (by omega)).mono ?_
  rintro e x0 ⟨⟨r, rfl, r1, r2, hr⟩, rfl⟩
  rcases Int.lt_or_le r 0 with h0 | h0
  · clear hr
    go_wp2_with fail
    go_ret
    exact ⟨rfl, Below.refl _ _⟩
  have HTOT := hide (hr h0)
  clear hr
  go_wp2_with fail
  refine (szPutS_any a1 len1 cap1 z1 r w HJ.out (Nat.le_refl _) HJM.out HF.out h0 r2).mono ?_
  rintro e v1 ⟨⟨u, rfl, u1, u2, hu⟩, b1⟩
  have HB_0 := hide b1
  have S1 := b1.size
  rcases Int.lt_or_le u 0 with hu0 | hu0
  · clear hu b1
    go_wp2_with fail
    go_ret
    exact ⟨rfl, HB_0.out⟩
  · have hut := hu hu0
    have htot := HTOT.out
    have hlen0 : len0 ≤ 1048576 := by omega
    have hlen1 : len1 ≤ 1048576 := by omega
    have hsum : len0 + len1 ≤ 1048576 := by omega
    have HZ : Hid (∀ s ∈ z0, s.size ≤ 1048576) := fun s hs => by have := total_le hs; omega
    clear hu htot hut b1
    obtain ⟨R, hR⟩ : ∃ R, R = playR z0 z1 := ⟨_, rfl⟩
    obtain ⟨NR, hNR⟩ : ∃ NR, NR = R.length := ⟨_, rfl⟩
    obtain ⟨fl, hfl⟩ : ∃ fl, fl = mayPlay z0 z1 := ⟨_, rfl⟩
    have hNL : NR ≤ len0 := by
      rw [hNR, hR, ← HT.out.1]
      unfold playR
      split
      · rw [playL_len]; exact Nat.le_refl _
      · simp
    have HTT : ∀ W, Hid (Below w.heap.size w W → Calls Try.prog 30 #[.slice a0 len0 cap0] W fun e w' => ∃ a', e = .returned (.slice a' len0 len0) ∧ OwnTexts W.heap.size w'.heap.size w' a' len0 z0 ∧ Below W.heap.size W w') := fun W hb => toT_any a0 len0 cap0 z0 W (HT.out.later hb (Nat.le_refl _)) hlen0
    have HTJ : ∀ W, Hid (Below w.heap.size w W → Calls Try.prog 31 #[.slice a1 len1 cap1] W fun e w' => ∃ a', e = .returned (.slice a' len1 len1) ∧ OwnJobs W.heap.size (W.heap.size + 1) w' a' len1 z1 ∧ Below W.heap.size W w') := fun W hb => toPutS_any a1 len1 cap1 z1 W (jl_later HJ.out hb (Nat.le_refl _)) hlen1
    have HCS : ∀ (a b : Option Addr) (lo hi lo' hi' : Nat) (W : World), Hid (OwnTexts lo hi W a len0 z0 → OwnJobs lo' hi' W b len1 z1 → Calls Try.prog 29 #[.slice a len0 len0, .slice b len1 len1] W fun r w' => ∃ a' c', r = .returned (.tuple #[.slice a' NR c', .bool fl]) ∧ OwnTexts W.heap.size w'.heap.size w' a' NR R ∧ Below W.heap.size W w') := fun a b lo hi lo' hi' W ho hj => by
      have := specPlayed_any a len0 len0 z0 b len1 len1 z1 W ho.texts hlen0 HZ.out (jl_own hj) hj.2.1 hlen1 HF.out
      rw [← hR, ← hNR, ← hfl] at this
      exact this
    have HCI : ∀ (a b : Option Addr) (lo hi lo' hi' : Nat) (W : World), Hid (OwnTexts lo hi W a len0 z0 → OwnJobs lo' hi' W b len1 z1 → Calls Try.prog 32 #[.slice a len0 len0, .slice b len1 len1] W fun r w' => ∃ a' c', r = .returned (.tuple #[.slice a' NR c', .bool fl]) ∧ OwnTexts W.heap.size w'.heap.size w' a' NR R ∧ Below W.heap.size W w') := fun a b lo hi lo' hi' W ho hj => by
      have := implPlayed_any a len0 len0 z0 b len1 len1 z1 W ho.texts hlen0 HZ.out (jl_own hj) hj.2.1 hlen1 HF.out
      rw [← hR, ← hNR, ← hfl] at this
      exact this
    have hn2 : NR ≤ 1048576 := by omega
    clear hR hNR hfl
    go_wp2_with fail
    refine ((HTT _).out HB_0.out).mono ?_
    rintro e v2 ⟨p2, rfl, o2, b2⟩
    have Sb2 := b2.size
    have HB_1 := hide (below_here HB_0.out b2)
    clear HB_0 b2
    have HP2_0 := hide (o2)
    clear o2
    go_wp2_with fail
    refine ((HTJ _).out HB_1.out).mono ?_
    rintro e v3 ⟨j3, rfl, o3, b3⟩
    have Sb3 := b3.size
    have HB_2 := hide (below_here HB_1.out b3)
    have HP2_1 := hide (HP2_0.out.later b3 HP2_0.out.2.1)
    clear HB_1 HP2_0 b3
    have HJ3_0 := hide (o3)
    clear o3
    go_wp2_with fail
    refine ((HCS _ _ _ _ _ _ _).out HP2_1.out HJ3_0.out).mono ?_
    rintro e v4 ⟨p4, c4, rfl, o4, b4⟩
    have Sb4 := b4.size
    have HB_3 := hide (below_here HB_2.out b4)
    have HP2_2 := hide (HP2_1.out.later b4 HP2_1.out.2.1)
    have HJ3_1 := hide (oj_later HJ3_0.out b4 HJ3_0.out.2.1)
    clear HB_2 HP2_1 HJ3_0 b4
    have HP4_0 := hide (o4)
    clear o4
    clear HP2_2
    clear HJ3_1
    go_wp2_with fail
    refine ((HTT _).out HB_3.out).mono ?_
    rintro e v5 ⟨p5, rfl, o5, b5⟩
    have Sb5 := b5.size
    have HB_4 := hide (below_here HB_3.out b5)
    have HP4_1 := hide (HP4_0.out.later b5 HP4_0.out.2.1)
    clear HB_3 HP4_0 b5
    have HP5_0 := hide (o5)
    clear o5
    go_wp2_with fail
    refine ((HTJ _).out HB_4.out).mono ?_
    rintro e v6 ⟨j6, rfl, o6, b6⟩
    have Sb6 := b6.size
    have HB_5 := hide (below_here HB_4.out b6)
    have HP4_2 := hide (HP4_1.out.later b6 HP4_1.out.2.1)
    have HP5_1 := hide (HP5_0.out.later b6 HP5_0.out.2.1)
    clear HB_4 HP4_1 HP5_0 b6
    have HJ6_0 := hide (o6)
    clear o6
    have HZ6 := HJ6_0.out.2.1
    go_wp2_with fail
    refine ((HCI _ _ _ _ _ _ _).out HP5_1.out HJ6_0.out).mono ?_
    rintro e v7 ⟨p7, c7, rfl, o7, b7⟩
    have Sb7 := b7.size
    have HB_6 := hide (below_here HB_5.out b7)
    have HP4_3 := hide (HP4_2.out.later b7 HP4_2.out.2.1)
    have HP5_2 := hide (HP5_1.out.later b7 HP5_1.out.2.1)
    have HJ6_1 := hide (oj_later HJ6_0.out b7 HJ6_0.out.2.1)
    clear HB_5 HP4_2 HP5_1 HJ6_0 b7
    have HP7_0 := hide (o7)
    clear o7
    go_wp2_with fail
    refine (eqT_any p7 NR c7 R p4 NR c4 R v7 HP7_0.out.texts HP4_3.out.texts hn2 hn2).mono ?_
    simp only [decide_true]
    rintro e v8 ⟨rfl, b8⟩
    have Sb8 := b8.size
    have HB_7 := hide (below_here HB_6.out b8)
    have HP4_4 := hide (HP4_3.out.later b8 HP4_3.out.2.1)
    have HP5_3 := hide (HP5_2.out.later b8 HP5_2.out.2.1)
    have HJ6_2 := hide (oj_later HJ6_1.out b8 HJ6_1.out.2.1)
    have HP7_1 := hide (HP7_0.out.later b8 HP7_0.out.2.1)
    clear HB_6 HP4_3 HP5_2 HJ6_1 HP7_0 b8
    go_wp2_with fail
    refine ((HTT _).out HB_7.out).mono ?_
    rintro e v9 ⟨p9, rfl, o9, b9⟩
    have Sb9 := b9.size
    have HB_8 := hide (below_here HB_7.out b9)
    have HP4_5 := hide (HP4_4.out.later b9 HP4_4.out.2.1)
    have HP5_4 := hide (HP5_3.out.later b9 HP5_3.out.2.1)
    have HJ6_3 := hide (oj_later HJ6_2.out b9 HJ6_2.out.2.1)
    have HP7_2 := hide (HP7_1.out.later b9 HP7_1.out.2.1)
    clear HB_7 HP4_4 HP5_3 HJ6_2 HP7_1 b9
    have HP9_0 := hide (o9)
    clear o9
    go_wp2_with fail
    refine (eqT_any p5 len0 len0 z0 p9 len0 len0 z0 v9 HP5_4.out.texts HP9_0.out.texts hlen0 hlen0).mono ?_
    simp only [decide_true]
    rintro e va ⟨rfl, ba⟩
    have Sba := ba.size
    have HB_9 := hide (below_here HB_8.out ba)
    have HP4_6 := hide (HP4_5.out.later ba HP4_5.out.2.1)
    have HP5_5 := hide (HP5_4.out.later ba HP5_4.out.2.1)
    have HJ6_4 := hide (oj_later HJ6_3.out ba HJ6_3.out.2.1)
    have HP7_3 := hide (HP7_2.out.later ba HP7_2.out.2.1)
    have HP9_1 := hide (HP9_0.out.later ba HP9_0.out.2.1)
    clear HB_8 HP4_5 HP5_4 HJ6_3 HP7_2 HP9_0 ba
    clear HP9_1
    go_wp2_with fail
    refine ((HTJ _).out HB_9.out).mono ?_
    rintro e vb ⟨jb, rfl, ob, bb⟩
    have Sbb := bb.size
    have HB_10 := hide (below_here HB_9.out bb)
    have HP4_7 := hide (HP4_6.out.later bb HP4_6.out.2.1)
    have HP5_6 := hide (HP5_5.out.later bb HP5_5.out.2.1)
    have HJ6_5 := hide (oj_later HJ6_4.out bb HJ6_4.out.2.1)
    have HP7_4 := hide (HP7_3.out.later bb HP7_3.out.2.1)
    clear HB_9 HP4_6 HP5_5 HJ6_4 HP7_3 bb
    have HJB_0 := hide (ob)
    clear ob
    go_wp2_with fail
    refine (eqPutS_same j6 jb len1 len1 len1 z1 vb (jl_own HJ6_5.out) (jl_own HJB_0.out) hlen1).mono ?_
    rintro e vc ⟨rfl, bc⟩
    have Sbc := bc.size
    have HB_11 := hide (below_here HB_10.out bc)
    have HP4_8 := hide (HP4_7.out.later bc HP4_7.out.2.1)
    have HP5_7 := hide (HP5_6.out.later bc HP5_6.out.2.1)
    have HJ6_6 := hide (oj_later HJ6_5.out bc HJ6_5.out.2.1)
    have HP7_5 := hide (HP7_4.out.later bc HP7_4.out.2.1)
    have HJB_1 := hide (oj_later HJB_0.out bc HJB_0.out.2.1)
    clear HB_10 HP4_7 HP5_6 HJ6_5 HP7_4 HJB_0 bc
    clear HJB_1
    have SW := HB_11.out.size
    go_wp2_with fail
    refine (markTS_from p5 len0 len0 z0 1 vc HP5_7.out hlen0 (by omega) (by omega)).mono ?_
    rintro e vd ⟨rfl, od, ad⟩
    have Sad := ad.size
    have HB_12 := hide (HB_11.out.trans (ad.below (by omega) HB_11.out.size))
    have HP4_9 := hide (HP4_8.out.aside ad (.inl (Nat.le_refl _)))
    have HJ6_7 := hide (oj_aside HJ6_6.out ad (.inr (Nat.le_refl _)))
    have HP7_6 := hide (HP7_5.out.aside ad (.inr (by omega)))
    clear HB_11 HP4_8 HJ6_6 HP7_5 ad
    clear HP5_7 od
    obtain ⟨k, hk⟩ : ∃ k, k = 1 + len0 := ⟨_, rfl⟩
    rw [← hk]
    have hk1 : 1 ≤ k := by omega
    have hk2 : k + 3 * len1 ≤ 4194304 := by omega
    clear hk
    go_wp2_with fail
    refine (markPutS_to j6 len1 len1 z1 k vd HJ6_7.out hlen1 hk1 hk2).mono ?_
    rintro e ve ⟨rfl, oe, ae⟩
    have Sae := ae.size
    have HB_13 := hide (HB_12.out.trans (ae.below (by omega) HB_12.out.size))
    have HP4_10 := hide (HP4_9.out.aside ae (.inl (by omega)))
    have HP7_7 := hide (HP7_6.out.aside ae (.inr (by omega)))
    clear HB_12 HP4_9 HP7_6 ae
    clear HJ6_7 oe
    obtain ⟨t, ht⟩ : ∃ t, t = k + 3 * len1 := ⟨_, rfl⟩
    rw [← ht]
    have ht9 : t ≤ 4194304 := by omega
    clear ht
    go_wp2_with fail
    refine (eqT_any p7 NR c7 R p4 NR c4 R ve HP7_7.out.texts HP4_10.out.texts hn2 hn2).mono ?_
    simp only [decide_true]
    rintro e vf ⟨rfl, bf⟩
    have Sbf := bf.size
    have HB_14 := hide (below_here HB_13.out bf)
    have HP4_11 := hide (HP4_10.out.later bf HP4_10.out.2.1)
    have HP7_8 := hide (HP7_7.out.later bf HP7_7.out.2.1)
    clear HB_13 HP4_10 HP7_7 bf
    go_wp2_with fail
    refine (markTS_any p7 NR c7 R 1 vf HP7_8.out hn2 (by omega) (by omega)).mono ?_
    rintro e vg ⟨rfl, og, ag⟩
    have Sag := ag.size
    have HB_15 := hide (HB_14.out.trans (ag.below (by omega) HB_14.out.size))
    have HP4_12 := hide (HP4_11.out.aside ag (.inl (by omega)))
    clear HB_14 HP4_11 ag
    clear HP7_8
    have HP7_9 := hide (og)
    clear og
    go_wp2_with fail
    refine (heldTS_any p7 NR c7 1 vg HP7_9.out.texts hn2 (by omega) (by omega)).mono ?_
    rintro e vh ⟨rfl, bh⟩
    have Sbh := bh.size
    have HB_16 := hide (below_here HB_15.out bh)
    have HP4_13 := hide (HP4_12.out.later bh HP4_12.out.2.1)
    have HP7_10 := hide (HP7_9.out.later bh HP7_9.out.2.1)
    clear HB_15 HP4_12 HP7_9 bh
    go_wp2_with fail
    refine ((HTT _).out HB_16.out).mono ?_
    rintro e vi ⟨pi, rfl, oi, bi⟩
    have Sbi := bi.size
    have HB_17 := hide (below_here HB_16.out bi)
    have HP4_14 := hide (HP4_13.out.later bi HP4_13.out.2.1)
    have HP7_11 := hide (HP7_10.out.later bi HP7_10.out.2.1)
    clear HB_16 HP4_13 HP7_10 bi
    have HPI_0 := hide (oi)
    clear oi
    go_wp2_with fail
    refine ((HTJ _).out HB_17.out).mono ?_
    rintro e vj ⟨pj, rfl, oj, bj⟩
    have Sbj := bj.size
    have HB_18 := hide (below_here HB_17.out bj)
    have HP4_15 := hide (HP4_14.out.later bj HP4_14.out.2.1)
    have HP7_12 := hide (HP7_11.out.later bj HP7_11.out.2.1)
    have HPI_1 := hide (HPI_0.out.later bj HPI_0.out.2.1)
    clear HB_17 HP4_14 HP7_11 HPI_0 bj
    have HPJ_0 := hide (oj)
    clear oj
    go_wp2_with fail
    refine ((HCI _ _ _ _ _ _ _).out HPI_1.out HPJ_0.out).mono ?_
    rintro e vk ⟨pk, ck, rfl, ok, bk⟩
    have Sbk := bk.size
    have HB_19 := hide (below_here HB_18.out bk)
    have HP4_16 := hide (HP4_15.out.later bk HP4_15.out.2.1)
    have HP7_13 := hide (HP7_12.out.later bk HP7_12.out.2.1)
    have HPI_2 := hide (HPI_1.out.later bk HPI_1.out.2.1)
    have HPJ_1 := hide (oj_later HPJ_0.out bk HPJ_0.out.2.1)
    clear HB_18 HP4_15 HP7_12 HPI_1 HPJ_0 bk
    have HPK_0 := hide (ok)
    clear ok
    go_wp2_with fail
    refine (eqT_any pk NR ck R p4 NR c4 R vk HPK_0.out.texts HP4_16.out.texts hn2 hn2).mono ?_
    simp only [decide_true]
    rintro e vl ⟨rfl, bl⟩
    have Sbl := bl.size
    have HB_20 := hide (below_here HB_19.out bl)
    have HP4_17 := hide (HP4_16.out.later bl HP4_16.out.2.1)
    have HP7_14 := hide (HP7_13.out.later bl HP7_13.out.2.1)
    have HPI_3 := hide (HPI_2.out.later bl HPI_2.out.2.1)
    have HPJ_2 := hide (oj_later HPJ_1.out bl HPJ_1.out.2.1)
    have HPK_1 := hide (HPK_0.out.later bl HPK_0.out.2.1)
    clear HB_19 HP4_16 HP7_13 HPI_2 HPJ_1 HPK_0 bl
    go_wp2_with fail
    refine (heldTS_any p7 NR c7 1 vl HP7_14.out.texts hn2 (by omega) (by omega)).mono ?_
    rintro e vm ⟨rfl, bm⟩
    have Sbm := bm.size
    have HB_21 := hide (below_here HB_20.out bm)
    have HP4_18 := hide (HP4_17.out.later bm HP4_17.out.2.1)
    have HP7_15 := hide (HP7_14.out.later bm HP7_14.out.2.1)
    have HPI_4 := hide (HPI_3.out.later bm HPI_3.out.2.1)
    have HPJ_3 := hide (oj_later HPJ_2.out bm HPJ_2.out.2.1)
    have HPK_2 := hide (HPK_1.out.later bm HPK_1.out.2.1)
    clear HB_20 HP4_17 HP7_14 HPI_3 HPJ_2 HPK_1 bm
    go_wp2_with fail
    go_ret
    exact ⟨rfl, HB_21.out⟩

/-! ### THE ROW's STEP: WRITTEN OUT: LEAVE IT -/
set_option maxRecDepth 100000 in
theorem lifted (os : Os) (started : os.Started) (H : Type) (enc : TypeId × Value → H) :
    ReturnsInHanded {} Try.checked os 7 .any (Rows.fnExactPlayedSpec.pre6 enc Try.prog Try.f7 Rows.fnExactPlayedRow.domain false) (Rows.fnExactPlayedSpec.post enc Try.prog Try.f7 false true false false) := by
  refine returnsInHanded_of_change (C := Try.checked) own started (by kernel_rfl) Try.func7
    (ChangeSpec.witness6 (enc := enc) (C := Try.checked) false ⟨#[], #[.slice none 0 0, .slice none 0 0], []⟩ 8 (by kernel_rfl) (by kernel_rfl) (by kernel_rfl) (by kernel_rfl)) ?_
  intro W base args ds gs before hval0 hW hcnd _
  have hval : ∀ (j : Nat) t v, Try.f7.params[j]? = some t → args[j]? = some v → Value.okWide Try.prog W .any base t v := hval0
  have hW' := hW
  obtain ⟨p, q, hA0, hV, rfl, hfz, hnd⟩ := hW
  have hA : DataW.TrodAll enc Try.prog W 0 (fun _ => true) true Try.f7.params.toList args.toList ds p := hA0
  rw [Try.params7] at hA hval
  obtain ⟨v0, vs0, d0, ds0, p0, q0, hargs, rfl, rfl, h0, r0⟩ := trodAll_cons hA
  obtain ⟨v1, vs1, d1, ds1, p1, q1, rfl, rfl, rfl, h1, r1⟩ := trodAll_cons r0
  obtain ⟨rfl, rfl, rfl⟩ := trodAll_nil r1
  obtain rfl : args = #[v0, v1] := by cases args; simp_all
  obtain ⟨rfl, rfl⟩ := trodVars_none hV
  obtain ⟨a0, len0, cap0, rfl⟩ := okWide_slice Try.underlying48 (hval 0 48 v0 rfl rfl)
  have k0 := h0
  have lt0 : ∀ x ∈ p0, x.block < W.heap.size := by obtain ⟨m, hm⟩ := k0; exact DataW.trod_lt m _ _ _ hm
  obtain ⟨z0, w0⟩ := texts_read Try.underlying48 Try.underlying9 (by kernel_rfl) h0
  obtain ⟨a1, len1, cap1, rfl⟩ := okWide_slice Try.underlying22 (hval 1 22 v1 rfl rfl)
  have k1 := h1
  have lt1 : ∀ x ∈ p1, x.block < W.heap.size := by obtain ⟨m, hm⟩ := k1; exact DataW.trod_lt m _ _ _ hm
  obtain ⟨z1, w1⟩ := jobs_read Try.underlying22 Try.underlying34 (by kernel_rfl) (by kernel_rfl) Try.underlying2 Try.underlying2 Try.underlying9 h1
  clear hA0 hval0
  refine (walk a0 len0 cap0 z0 a1 len1 cap1 z1 W w0 w1).mono fun e W' ⟨he, bel⟩ => ?_
  subst he
  exact ⟨_, rfl, _, _, _, [], _, [], hW', trodAll_mk1 (shut_bool Try.underlying4 _), (trodAll_cons_mk (Below.trod laidOut (by kernel_rfl) (of_decide_eq_true (by kernel_rfl)) k0 bel lt0) (trodAll_cons_mk (Below.trod laidOut (by kernel_rfl) (of_decide_eq_true (by kernel_rfl)) k1 bel lt1) trodAll_mk0)), rfl, bel.frame _, fun h => by cases h⟩

theorem over : Rows.fnExactPlayedRow.holds Try.pinned (OpenSpec.ofChange Rows.fnExactPlayedSpec) :=
  OpenClaim.holds_of_wide 7 Try.f7 rfl rfl rfl rfl rfl rfl rfl ⟨rfl, rfl, rfl, rfl, rfl⟩ rfl rfl rfl rfl rfl (by kernel_rfl) Try.func7 (by kernel_rfl)
    (of_decide_eq_true (by kernel_rfl)) (by unfold Func.isWrapper; first | (rw [if_pos (by decide +kernel)]; kernel_rfl) | (rw [if_neg (by decide +kernel)]; exact ⟨rfl, rfl⟩))
    (fun os started H enc _ => lifted os started H enc)

/-- ████ THE STATEMENT ████ -/
theorem proved : Rows.FnExactPlayedSaid := over
#print axioms proved
end Go.Proofs.Ytckkcimkfhhacaa.fnExactPlayed
