/- Several texts in one: LogSpecE, NoteSpecA. -/
import Derived.Test.YtdjifickdcnacaaDoorNLogSpecA
import Derived.Test.YtdjifickdcnacaaDoorNChipGrow
import Derived.Test.YtdjifickdcnacaaDoorNTextBase
import Derived.Deep.RegionHeld3
import Derived.Test.YtdjifickdcnacaaDoorNChipOwn2
section
namespace Go.Proofs.YtdjifickdcnacaaDoor
open Go.RowKit
set_option linter.unusedVariables false
set_option linter.unusedSimpArgs false
set_option maxRecDepth 20000
set_option maxHeartbeats 1600000 in
theorem l14Values_any (a : Option Addr) (n cap : Nat) (ts : List ByteArray) (w : World) {lo hi : Nat} (h : Texts lo hi w a n ts) (hn : n <= 1048576) (hts : ∀ s ∈ ts,s.size <= 1048576) :
  Calls Tryd.prog 110 #[.slice a n cap] w fun r w' => r = .returned (.bool (valuesOk ts)) ∧ w = w' := by
 obtain ⟨hl,hsz,hx⟩ := h
 have HL : Hid (ts.length = n) := hl
 have HTS := hide hts
 clear hl hts
 by_cases h64 : 64 < (n : Int)
 ·have HE : Hid (valuesOk ts = false) := by show _ = _; unfold valuesOk; rw [HL.out,decide_eq_false (by omega)]; rfl
  go_enter Tryd.func110,Tryd.ntmps110
  go_wp2_with fail
  go_ret
  exact ⟨by rw [HE.out]; rfl,rfl⟩
 ·have HE : Hid (valuesOk ts = shortAll ts n) := by show _ = _; unfold valuesOk; rw [HL.out,decide_eq_true (by omega)]; rfl
  go_enter Tryd.func110,Tryd.ntmps110
  go_wp2_with fail
  go_loopw [3] (fun i wr => ∃ k : Nat,k <= n ∧ i = .int .i64 (k : Int) ∧ shortAll ts k = true ∧ w = wr) (fun i _ => n - (intOf i).toNat)
  case atStart => exact ⟨0,Nat.zero_le _,rfl,rfl,rfl⟩
  case round =>
   obtain ⟨k,hk,rfl,hpk,rfl⟩ := hrel
   have HPK := hide hpk
   clear hpk
   by_cases hlt : k < n
   ·obtain ⟨b,off,rfl,_,hb,hc⟩ := hx (by omega)
    have hck : w.cell? ⟨b,off + k,none⟩ = some (.string (ts.getD k ByteArray.empty)) := hc k hlt
    have HNX : Hid (shortAll ts (k + 1) = decide ((ts.getD k ByteArray.empty).size <= 24)) := by show _ = _; unfold shortAll; rw [HPK.out]; rfl
    have HNO : Hid (shortAll ts (k + 1) = false -> shortAll ts n = false) := fun h => by
     have := shortAll_no h (n - (k + 1))
     rwa [show k + 1 + (n - (k + 1)) = n by omega] at this
    have hfx : (ts.getD k ByteArray.empty).size <= 1048576 := HTS.out _ (by
     rw [List.getD_eq_getElem?_getD,List.getElem?_eq_getElem (by rw [HL.out]; exact hlt)]
     exact List.getElem_mem _)
    clear hc hx
    generalize ts.getD k ByteArray.empty = z at *
    by_cases t1 : 24 < (z.size : Int)
    ·have HX : Hid (shortAll ts (k + 1) = false) := by show _ = _; rw [HNX.out,decide_eq_false (by omega)]
     go_wp2_with fail
     go_ret
     exact ⟨by rw [HE.out,HNO.out HX.out]; rfl,rfl⟩
    ·have HX : Hid (shortAll ts (k + 1) = true) := by show _ = _; rw [HNX.out,decide_eq_true (by omega)]
     go_wp2_with fail
     go_roundw
     case rel => exact ⟨k + 1,by omega,by go_num,HX.out,trivial⟩
     case measure => simp [intOf]; omega
   ·obtain rfl : k = n := by omega
    go_wp2_with fail
    go_ret
    exact ⟨by rw [HE.out,HPK.out]; rfl,rfl⟩
end Go.Proofs.YtdjifickdcnacaaDoor
end

section
namespace Go.Proofs.YtdjifickdcnacaaDoor
open Go.RowKit
set_option linter.unusedVariables false
set_option linter.unusedSimpArgs false
set_option maxRecDepth 20000
theorem empty_list {x : ByteArray} (h : ¬ x = ⟨#[]⟩) : ¬ x.toList = [] := fun e => h (by
 rw [ByteArray.toList_eq] at e
 exact ByteArray.ext (Array.toList_eq_nil_iff.1 e))
set_option maxHeartbeats 3200000 in
theorem specNoteOk_any (k tt e s a : Int) (tx : ByteArray) (vs : List ByteArray) (av : Option Addr) (n cap : Nat) (w : World) {lo hi : Nat} (h : Texts lo hi w av n vs) (hn : n <= 1048576) (hts : ∀ y ∈ vs,y.size <= 1048576) (hx : tx.size <= maxLen) :
  Calls Tryd.prog 60 #[.agg #[.int .i64 k,.int .i64 tt,.int .i64 e,.int .i64 s,.int .i64 a,.string tx,.slice av n cap]] w fun r w' => r = .returned (.bool (noteOk ⟨k,tt,e,s,a,tx,vs⟩)) ∧ Below w.heap.size w w' := by
 obtain ⟨wA,hwA⟩ : ∃ wA,wA = w.alloc (.cells #[.int .i64 k,.int .i64 tt,.int .i64 e,.int .i64 s,.int .i64 a,.string tx,.slice av n cap] 26) := ⟨_,rfl⟩
 have HBA : Hid (Below w.heap.size w wA) := by rw [hwA]; exact (Below.refl _ _).alloc (Nat.le_refl _) _
 have H0 : Hid (wA.heap[w.heap.size]? = some (.cells #[.int .i64 k,.int .i64 tt,.int .i64 e,.int .i64 s,.int .i64 a,.string tx,.slice av n cap] 26)) := by rw [hwA]; exact heap_new _ _
 have HT := hide (h.later HBA.out h.2.1)
 have HL := hide h.1
 have HTS := hide hts
 clear h hts
 obtain ⟨c0,c1,c2,c3,c4,c5,c6⟩ := note_cells H0.out
 go_enter Tryd.func60,Tryd.ntmps60
 go_upto_region 1 with fail
 rw [<- hwA]
 clear hwA
 go_wp2_with fail
 refine (l1In_any _ _ _ _).mono ?_
 rintro r w1 ⟨rfl,rfl⟩
 cases h1 : inB k 1 3
 ·have HE : Hid (noteOk ⟨k,tt,e,s,a,tx,vs⟩ = false) := by show _ = _; unfold noteOk ntNum; rw [h1]; simp
  go_wp2_with fail
  go_ret
  exact ⟨by rw [HE.out]; rfl,HBA.out⟩
 ·skip
  go_wp2_with fail
  refine (l1In_any _ _ _ _).mono ?_
  rintro r w1 ⟨rfl,rfl⟩
  cases h2 : inB tt 0 1
  ·have HE : Hid (noteOk ⟨k,tt,e,s,a,tx,vs⟩ = false) := by show _ = _; unfold noteOk ntNum; rw [h2]; simp
   go_wp2_with fail
   go_ret
   exact ⟨by rw [HE.out]; rfl,HBA.out⟩
  ·skip
   go_wp2_with fail
   refine (l1In_any _ _ _ _).mono ?_
   rintro r w1 ⟨rfl,rfl⟩
   cases h3 : inB e 0 1000000
   ·have HE : Hid (noteOk ⟨k,tt,e,s,a,tx,vs⟩ = false) := by show _ = _; unfold noteOk ntNum; rw [h3]; simp
    go_wp2_with fail
    go_ret
    exact ⟨by rw [HE.out]; rfl,HBA.out⟩
   ·skip
    go_wp2_with fail
    refine (l1In_any _ _ _ _).mono ?_
    rintro r w1 ⟨rfl,rfl⟩
    cases h4 : inB s 0 1000000
    ·have HE : Hid (noteOk ⟨k,tt,e,s,a,tx,vs⟩ = false) := by show _ = _; unfold noteOk ntNum; rw [h4]; simp
     go_wp2_with fail
     go_ret
     exact ⟨by rw [HE.out]; rfl,HBA.out⟩
    ·skip
     go_wp2_with fail
     refine (l1In_any _ _ _ _).mono ?_
     rintro r w1 ⟨rfl,rfl⟩
     cases h5 : inB a 0 63
     ·have HE : Hid (noteOk ⟨k,tt,e,s,a,tx,vs⟩ = false) := by show _ = _; unfold noteOk ntNum; rw [h5]; simp
      go_wp2_with fail
      go_ret
      exact ⟨by rw [HE.out]; rfl,HBA.out⟩
     ·skip
      by_cases h6 : 24 < (tx.size : Int)
      ·have HE : Hid (noteOk ⟨k,tt,e,s,a,tx,vs⟩ = false) := by show _ = _; unfold noteOk ntNum; rw [decide_eq_false (by omega : ¬ tx.size <= 24)]; simp
       go_wp2_with fail
       go_ret
       exact ⟨by rw [HE.out]; rfl,HBA.out⟩
      ·skip
       go_wp2_with fail
       refine (l14Values_any av n cap vs _ HT.out hn HTS.out).mono ?_
       rintro r w1 ⟨rfl,rfl⟩
       cases h7 : valuesOk vs
       ·have HE : Hid (noteOk ⟨k,tt,e,s,a,tx,vs⟩ = false) := by show _ = _; unfold noteOk ntNum; rw [h7]; simp
        go_wp2_with fail
        go_ret
        exact ⟨by rw [HE.out]; rfl,HBA.out⟩
       ·skip
        have HNE : Hid (noteOk ⟨k,tt,e,s,a,tx,vs⟩ = ntKind ⟨k,tt,e,s,a,tx,vs⟩) := by show _ = _; unfold noteOk ntNum; rw [h1,h2,h3,h4,h5,h7,decide_eq_true (by omega : tx.size <= 24)]; rfl
        clear h2 h3 h4 h5 h7
        have hnv : decide (n = 0) = decide (vs.length = 0) := by rw [HL.out]
        rcases (by omega : k = 1 ∨ k = 2 ∨ (k ≠ 1 ∧ k ≠ 2)) with rfl | rfl | ⟨hk1,hk2⟩
        ·have HK : Hid (ntKind ⟨1,tt,e,s,a,tx,vs⟩ = decide (n = 0)) := by show _ = _; unfold ntKind; rw [hnv]; simp
         rcases Nat.eq_zero_or_pos n with h0 | h0
         ·subst h0
          go_wp2_with fail
          go_ret
          exact ⟨by rw [HNE.out,HK.out]; rfl,HBA.out⟩
         ·have hnb : ((n : Int) == 0) = false := by simp; omega
          go_wp2_with fail
          go_ret
          exact ⟨by rw [HNE.out,HK.out,decide_eq_false (show ¬ n = 0 by omega)]; rfl,HBA.out⟩
        ·by_cases ha : a = 0
         ·subst ha
          by_cases htx : tx = ⟨#[]⟩
          rotate_left
          ·have hbt : ¬ tx.toList = [] := empty_list htx
           have hbt2 : (tx.toList == []) = false := by rw [beq_eq_false_iff_ne]; exact hbt
           have HK : Hid (ntKind ⟨2,tt,e,s,0,tx,vs⟩ = false) := by show _ = _; unfold ntKind; simp; exact htx
           go_wp2_with fail
           go_ret
           exact ⟨by rw [HNE.out,HK.out]; rfl,HBA.out⟩
          ·subst htx
           have hbt := text_same (⟨#[]⟩ : ByteArray)
           have HK : Hid (ntKind ⟨2,tt,e,s,0,⟨#[]⟩,vs⟩ = true) := by show _ = _; unfold ntKind; simp; rfl
           go_wp2_with fail
           go_ret
           exact ⟨by rw [HNE.out,HK.out]; rfl,HBA.out⟩
         ·have hab : (a == 0) = false := by simp [ha]
          have HK : Hid (ntKind ⟨2,tt,e,s,a,tx,vs⟩ = false) := by show _ = _; unfold ntKind; simp [ha]
          go_wp2_with fail
          go_ret
          exact ⟨by rw [HNE.out,HK.out]; rfl,HBA.out⟩
        ·have hb1 : (k == 1) = false := by simp [hk1]
         have hb2 : (k == 2) = false := by simp [hk2]
         by_cases ha : a = 0
         ·subst ha
          by_cases htx : tx = ⟨#[]⟩
          rotate_left
          ·have hbt : ¬ tx.toList = [] := empty_list htx
           have hbt2 : (tx.toList == []) = false := by rw [beq_eq_false_iff_ne]; exact hbt
           have HK : Hid (ntKind ⟨k,tt,e,s,0,tx,vs⟩ = false) := by show _ = _; unfold ntKind; simp [hk1,hk2]; intro e; exact absurd e htx
           go_wp2_with fail
           go_ret
           exact ⟨by rw [HNE.out,HK.out]; rfl,HBA.out⟩
          ·subst htx
           have hbt := text_same (⟨#[]⟩ : ByteArray)
           have HK : Hid (ntKind ⟨k,tt,e,s,0,⟨#[]⟩,vs⟩ = decide (n = 0)) := by show _ = _; unfold ntKind; rw [hnv,decide_eq_true (show (⟨#[]⟩ : ByteArray) = ByteArray.empty from rfl)]; simp [hk1,hk2]
           rcases Nat.eq_zero_or_pos n with h0 | h0
           ·subst h0
            go_wp2_with fail
            go_ret
            exact ⟨by rw [HNE.out,HK.out]; rfl,HBA.out⟩
           ·have hnb : ((n : Int) == 0) = false := by simp; omega
            go_wp2_with fail
            go_ret
            exact ⟨by rw [HNE.out,HK.out,decide_eq_false (show ¬ n = 0 by omega)]; rfl,HBA.out⟩
         ·have hab : (a == 0) = false := by simp [ha]
          have HK : Hid (ntKind ⟨k,tt,e,s,a,tx,vs⟩ = false) := by show _ = _; unfold ntKind; simp [ha,hk1]
          go_wp2_with fail
          go_ret
          exact ⟨by rw [HNE.out,HK.out]; rfl,HBA.out⟩
end Go.Proofs.YtdjifickdcnacaaDoor
end

