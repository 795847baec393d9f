/- . -/
import Derived.Test.YtdjifickdcnacaaDoorNNoteImplD
import Derived.Test.YtdjifickdcnacaaDoorNNoteImplC
namespace Go.Proofs.YtdjifickdcnacaaDoor
open Go.RowKit
set_option linter.unusedVariables false
set_option linter.unusedSimpArgs false
set_option maxRecDepth 20000
theorem guessN_vs (s : ByteArray) : (guessN s).vs = (gvF (nxtN (hd0 s) 7) (bodH (nxtN (hd0 s) 5) (bd0 s)) (cntN (nxtN (hd0 s) 6))).2.2 := by simp only [guessN]
theorem guessN_tx (s : ByteArray) : (guessN s).tx = txtH (nxtN (hd0 s) 5) (bd0 s) := by simp only [guessN]
theorem cntN_le (h : ByteArray) : cntN h <= 64 := by unfold cntN; omega
theorem guessN_small {s : ByteArray} (hs : s.size <= 1048576) : (guessN s).vs.length <= 64 ∧ (∀ y ∈ (guessN s).vs,y.size <= 1048576) ∧ (guessN s).tx.size <= 1048576 := by
 have hsz : s.data.toList.length = s.size := by simp
 have hcl := cut_len s.data.toList [10]
 have hzb : (bd0 s).size <= 1048576 := by unfold bd0; rw [mkB_size]; omega
 rw [guessN_vs,guessN_tx]
 have h1 := bodH_size (nxtN (hd0 s) 5) (bd0 s)
 have h2 := txtH_size (nxtN (hd0 s) 5) (bd0 s)
 have h3 := cntN_le (nxtN (hd0 s) 6)
 generalize nxtN (hd0 s) 7 = h7 at *
 generalize bodH (nxtN (hd0 s) 5) (bd0 s) = b5 at *
 generalize txtH (nxtN (hd0 s) 5) (bd0 s) = t5 at *
 generalize cntN (nxtN (hd0 s) 6) = n6 at *
 refine ⟨by rw [gvF_len]; exact h3,fun y hy => ?_,by omega⟩
 have := (gvF_size h7 b5 n6).2.2 y hy
 omega
set_option maxHeartbeats 3200000 in
theorem implReadNote_any (s : ByteArray) (hs : s.size <= 1048576) (w : World) (hE : NEnv w) :
  Calls Tryd.prog 10 #[.string s] w fun r w' => (∃ av cap,r = .returned (.tuple #[noteV (readY s) av (readY s).vs.length cap,.bool (readNt s).isSome]) ∧ (readY s).vs.length <= cap ∧ OwnTexts w.heap.size w'.heap.size w' av (readY s).vs.length (readY s).vs) ∧ Below w.heap.size w w' := by
 obtain ⟨w0,hw0⟩ : ∃ w0,w0 = w.alloc (.cells #[.int .i64 0,.int .i64 0,.int .i64 0,.int .i64 0,.int .i64 0,.string ⟨#[]⟩,.slice none 0 0] 26) := ⟨_,rfl⟩
 have HB0 : Hid (Below w.heap.size w w0) := by rw [hw0]; exact (Below.refl _ _).alloc (Nat.le_refl _) _
 have HK : Hid (w0.heap[w.heap.size]? = some (.cells #[.int .i64 0,.int .i64 0,.int .i64 0,.int .i64 0,.int .i64 0,.string ⟨#[]⟩,.slice none 0 0] 26)) := by rw [hw0]; exact heap_new _ _
 have HS0 : Hid (w.heap.size + 1 <= w0.heap.size) := (Array.getElem?_eq_some_iff.1 HK.out).1
 have HE := hide hE
 have HNO : ∀ W,Hid (Below w.heap.size w W -> W.heap[w.heap.size]? = some (.cells #[.int .i64 0,.int .i64 0,.int .i64 0,.int .i64 0,.int .i64 0,.string ⟨#[]⟩,.slice none 0 0] 26) -> readNt s = none -> ∃ w',w' = ((((((W.setCell ⟨w.heap.size,0,none⟩ (.int .i64 0)).setCell ⟨w.heap.size,1,none⟩ (.int .i64 0)).setCell ⟨w.heap.size,2,none⟩ (.int .i64 0)).setCell ⟨w.heap.size,3,none⟩ (.int .i64 0)).setCell ⟨w.heap.size,4,none⟩ (.int .i64 0)).setCell ⟨w.heap.size,5,none⟩ (.string ⟨#[]⟩)).setCell ⟨w.heap.size,6,none⟩ (.slice none 0 0) ∧ w'.heap[w.heap.size]? = some (.cells #[.int .i64 0,.int .i64 0,.int .i64 0,.int .i64 0,.int .i64 0,.string ⟨#[]⟩,.slice none 0 0] 26) ∧ ((∃ av cap,Ending.returned (.tuple #[.agg #[.int .i64 0,.int .i64 0,.int .i64 0,.int .i64 0,.int .i64 0,.string ⟨#[]⟩,.slice none 0 0],.bool false]) = .returned (.tuple #[noteV (readY s) av (readY s).vs.length cap,.bool (readNt s).isSome]) ∧ (readY s).vs.length <= cap ∧ OwnTexts w.heap.size w'.heap.size w' av (readY s).vs.length (readY s).vs) ∧ Below w.heap.size w w')) := fun W hb hk hn => by
  refine ⟨_,rfl,note_set hk _ _ _ _ _ _ _,?_,?_⟩
  ·unfold readY; rw [hn]
   exact ⟨none,0,rfl,Nat.le_refl _,rfl,Nat.le_refl _,fun h => absurd h (by simp [noteZ])⟩
  ·exact hb.trans ((note_aside (Aside.refl w.heap.size (w.heap.size + 1) W) (Nat.le_refl _) (Nat.lt_succ_self _) _ _ _ _ _ _ _).below (B := w.heap.size) (Nat.le_refl _) hb.size)
 obtain ⟨hg1,hg2,hg3⟩ := guessN_small hs
 have HRG := hide (readNt_guess (s := s))
 have HG2 := hide hg2
 clear hE hg2
 go_enter Tryd.func10,Tryd.ntmps10
 go_upto_region 1 with fail
 rw [<- hw0]
 clear hw0
 go_wp2_with fail
 refine (guessed_any s hs w0 (HE.out.here HB0.out)).mono ?_
 rintro r w1 ⟨av,cap,rfl,hcap,hown,b1⟩
 unfold noteV
 have HB1 := hide (below_here HB0.out b1)
 have HK1 := hide (block_on HK.out b1)
 have HS1 := hide (Nat.le_trans HS0.out b1.size)
 have HEQG : Hid (∀ y,y = guessN s -> y = ⟨y.k,y.tt,y.e,y.s,y.a,y.tx,y.vs⟩) := fun y _ => rfl
 obtain ⟨⟨k,tt,e,q,a,tx,vs⟩,hG⟩ : ∃ g,g = guessN s := ⟨_,rfl⟩
 rw [<- hG] at hcap hown HRG HG2 hg1 hg3 ⊢
 dsimp only at hcap hown HG2 hg1 hg3 ⊢
 obtain ⟨n,hn⟩ : ∃ n,n = vs.length := ⟨_,rfl⟩
 rw [<- hn] at hcap hown hg1 ⊢
 have HN := hide hn
 have HCAP := hide hcap
 have HOW := hide hown
 clear b1 HB0 HK hcap hown hG hn HEQG
 obtain ⟨w2,hw2⟩ : ∃ w2,w2 = w1.alloc (.cells #[.int .i64 k,.int .i64 tt,.int .i64 e,.int .i64 q,.int .i64 a,.string tx,.slice av n cap] 26) := ⟨_,rfl⟩
 have hb2 : Below w1.heap.size w1 w2 := by rw [hw2]; exact (Below.refl _ _).alloc (Nat.le_refl _) _
 have HM2 : Hid (w2.heap[w1.heap.size]? = some (.cells #[.int .i64 k,.int .i64 tt,.int .i64 e,.int .i64 q,.int .i64 a,.string tx,.slice av n cap] 26)) := by rw [hw2]; exact heap_new _ _
 have HB2 := hide (below_here HB1.out hb2)
 have HK2 := hide (block_on HK1.out hb2)
 have HO2 := hide (HOW.out.later hb2 (Nat.le_refl _))
 clear hb2 HB1 HK1 HOW
 go_upto_region 2 with fail
 rw [<- hw2]
 clear hw2
 obtain ⟨d0,d1,d2,d3,d4,d5,d6⟩ := note_cells HK2.out
 obtain ⟨f0,f1,f2,f3,f4,f5,f6⟩ := note_frozen HK2.out
 by_cases hs0 : s = ⟨#[]⟩
 ·have HN0 : Hid (readNt s = none) := by
   show _ = _
   rw [HRG.out,if_neg (fun hh => hh.1 (by rw [hs0]; rfl))]
  have hbt : s.toList = [] := by rw [hs0,ByteArray.toList_eq]
  have hbt2 : (s.toList == []) = true := by rw [hbt]; rfl
  obtain ⟨wz,hwz,hkz,hpz⟩ := (HNO _).out HB2.out HK2.out HN0.out
  clear hs0
  go_wp2_with fail
  rw [<- hwz]
  exact bodyPost_ret (results_ct rfl rfl (run_loadVar_row _ _ _ _ _ _ _ hkz Tryd.underlying26 rfl (by kernel_rfl))) rfl hpz
 ·have hbt : ¬ s.toList = [] := empty_list hs0
  have hbt2 : (s.toList == []) = false := by rw [beq_eq_false_iff_ne]; exact hbt
  have HSZ : Hid (s.size ≠ 0) := fun h0 => hs0 (ByteArray.ext (Array.eq_empty_of_size_eq_zero h0))
  obtain ⟨m0,m1,m2,m3,m4,m5,m6⟩ := note_cells HM2.out
  clear hs0
  go_wp2_with fail
  refine (implShowNote_any k tt e q a tx vs av n cap w2 HO2.out.texts (by omega) HG2.out (by unfold maxLen; omega) (HE.out.here HB2.out).pow).mono ?_
  rintro r w3 ⟨rfl,b3⟩
  have HB3 := hide (below_here HB2.out b3)
  have HK3 := hide (block_on HK2.out b3)
  have HM3 := hide (block_on HM2.out b3)
  have HO3 := hide (HO2.out.later b3 HO2.out.2.1)
  have HS3 := hide b3.size
  have HS2 : Hid (w1.heap.size < w2.heap.size) := (Array.getElem?_eq_some_iff.1 HM2.out).1
  clear b3 d0 d1 d2 d3 d4 d5 d6 f0 f1 f2 f3 f4 f5 f6 m0 m1 m2 m3 m4 m5 m6 HB2 HK2 HM2 HO2
  obtain ⟨t,ht⟩ : ∃ t,t = showNt ⟨k,tt,e,q,a,tx,vs⟩ := ⟨_,rfl⟩
  rw [<- ht] at HRG ⊢
  clear ht
  obtain ⟨d0,d1,d2,d3,d4,d5,d6⟩ := note_cells HK3.out
  obtain ⟨f0,f1,f2,f3,f4,f5,f6⟩ := note_frozen HK3.out
  by_cases heq : t = s
  ·have hne2 : (t.toList == s.toList) = true := by simp [heq]
   have HY : Hid (readNt s = some ⟨k,tt,e,q,a,tx,vs⟩) := by
    show _ = _
    rw [HRG.out,if_pos ⟨HSZ.out,heq⟩]
   clear heq HRG
   obtain ⟨m0,m1,m2,m3,m4,m5,m6⟩ := note_cells HM3.out
   have HF := hide (note_set HK3.out (.int .i64 k) (.int .i64 tt) (.int .i64 e) (.int .i64 q) (.int .i64 a) (.string tx) (.slice av n cap))
   have HAS := hide (note_aside (Aside.refl w.heap.size (w.heap.size + 1) w3) (Nat.le_refl _) (Nat.lt_succ_self _) (.int .i64 k) (.int .i64 tt) (.int .i64 e) (.int .i64 q) (.int .i64 a) (.string tx) (.slice av n cap))
   have HG := hide (HB3.out.trans (HAS.out.below (B := w.heap.size) (Nat.le_refl _) HB3.out.size))
   have HRA := hide (HO3.out.aside HAS.out (.inr HS0.out))
   go_wp2_with fail
   refine bodyPost_ret (results_ct rfl rfl (run_loadVar_row _ _ _ _ _ _ _ HF.out Tryd.underlying26 rfl (by kernel_rfl))) rfl ⟨?_,HG.out⟩
   unfold readY
   rw [HY.out]
   refine ⟨av,cap,?_,?_,?_⟩
   ·show _ = Ending.returned (.tuple #[noteV ⟨k,tt,e,q,a,tx,vs⟩ av vs.length cap,.bool true])
    rw [<- HN.out]
    rfl
   ·show vs.length <= cap
    rw [<- HN.out]
    exact HCAP.out
   ·show OwnTexts _ _ _ _ vs.length vs
    rw [<- HN.out]
    refine ⟨HRA.out.1,Nat.le_refl _,fun hn => ?_⟩
    obtain ⟨b',o',e1,e2,e3,e4⟩ := HRA.out.2.2 hn
    exact ⟨b',o',e1,by have := HS0.out; omega,Nat.lt_of_lt_of_le e3 (by have := HAS.out.size; have := HS3.out; have := HS2.out; omega),e4⟩
  ·have hne2 : (t.toList == s.toList) = false := by rw [text_eq]; simp [heq]
   have HN0 : Hid (readNt s = none) := by
    show _ = _
    rw [HRG.out,if_neg (fun hh => heq hh.2)]
   clear heq HRG
   obtain ⟨wz,hwz,hkz,hpz⟩ := (HNO _).out HB3.out HK3.out HN0.out
   go_wp2_with fail
   rw [<- hwz]
   exact bodyPost_ret (results_ct rfl rfl (run_loadVar_row _ _ _ _ _ _ _ hkz Tryd.underlying26 rfl (by kernel_rfl))) rfl hpz
end Go.Proofs.YtdjifickdcnacaaDoor
