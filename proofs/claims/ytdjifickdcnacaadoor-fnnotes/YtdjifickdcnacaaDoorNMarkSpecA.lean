/- Several texts in one: MarkSpecA, MarkSpecB, MarkLine. -/
import Derived.Test.YtdjifickdcnacaaDoorNMarkMath
import Derived.Test.YtdjifickdcnacaaDoorNSpareSpec3
import Derived.Test.YtdjifickdcnacaaDoorNPageMath
import Derived.Test.YtdjifickdcnacaaDoorNTextWalk
section
namespace Go.Proofs.YtdjifickdcnacaaDoor
open Go.RowKit
set_option linter.unusedVariables false
set_option linter.unusedSimpArgs false
set_option maxRecDepth 20000
def mkB (l : List UInt8) : ByteArray := ⟨l.toArray⟩
theorem mkB_list (l : List UInt8) : (mkB l).data.toList = l := by simp [mkB]
theorem mkB_of (s : ByteArray) : mkB s.data.toList = s := by apply ByteArray.ext; simp [mkB]
theorem mkB_size (l : List UInt8) : (mkB l).size = l.length := by simp [mkB,ByteArray.size]
def wStep (st : List (List UInt8) × List UInt8) (c : UInt8) : List (List UInt8) × List UInt8 := if c = 32 then (st.1 ++ [st.2],[]) else (st.1,st.2 ++ [c])
def wRun (l : List UInt8) : List (List UInt8) × List UInt8 := l.foldl wStep ([],[])
def wordsL (l : List UInt8) : List (List UInt8) := (wRun l).1 ++ [(wRun l).2]
theorem wRun_snoc (l : List UInt8) (c : UInt8) : wRun (l ++ [c]) = wStep (wRun l) c := by simp [wRun]
theorem wRun_word : ∀ (l : List UInt8) (d : List (List UInt8)) (c : List UInt8),(∀ x ∈ l,x ≠ 32) -> l.foldl wStep (d,c) = (d,c ++ l)
 | [],d,c,_ => by simp
 | x :: l,d,c,h => by
  rw [List.foldl_cons]
  have h1 : wStep (d,c) x = (d,c ++ [x]) := by unfold wStep; rw [if_neg (h x (List.mem_cons_self ..))]
  rw [h1,wRun_word l d (c ++ [x]) (fun y hy => h y (List.mem_cons_of_mem _ hy))]
  simp
set_option maxHeartbeats 1600000 in
theorem l1Int_any (n : Nat) (hn : n <= 1000000) (w : World) :
  Calls Tryd.prog 61 #[.int .i64 (n : Int)] w fun e w' => e = .returned (.string (mkB (Lib.decDigits n))) ∧ Below w.heap.size w w' := by
 go_enter Tryd.func61,Tryd.ntmps61
 go_wp2_with fail
 go_loopw [0,3] (fun t s wr => ∃ (m : Nat) (x : ByteArray),t = .int .i64 (m : Int) ∧ s = .string x ∧ ((x = ⟨#[]⟩ ∧ m = n) ∨ (1 <= x.size ∧ m <= 1000000 ∧ Lib.decDigits n = (if m = 0 then [] else Lib.decDigits m) ++ x.data.toList)) ∧ Below w.heap.size w wr) (fun t s _ => (intOf t).toNat + (match s with | .string x => 1 - x.size | _ => 0))
 case atStart => exact ⟨n,⟨#[]⟩,rfl,rfl,.inl ⟨rfl,rfl⟩,Below.refl _ _⟩
 case round =>
  obtain ⟨m,x,rfl,rfl,hor,hb⟩ := hrel
  have HB := hide hb
  have HOR := hide hor
  clear hb
  have hm : m <= 1000000 := by rcases hor with h | h <;> omega
  clear hor
  obtain ⟨d,hd⟩ : ∃ d : Nat,d = 48 + m % 10 := ⟨_,rfl⟩
  have hd2 : d < 256 := by omega
  obtain ⟨r,hr⟩ : ∃ r : Nat,(m : Int) % 10 = (r : Int) := ⟨m % 10,by omega⟩
  have hd1 : 48 + (r : Int) = (d : Int) := by omega
  obtain ⟨q,hqm⟩ : ∃ q : Nat,q = m / 10 := ⟨_,rfl⟩
  have hq : (m : Int) / 10 = (q : Int) := by omega
  have HQ := hide hqm
  have HD := hide hd
  clear hqm hd
  have hst : (convert 22 9 (.slice (some ⟨wr.heap.size,0,none⟩) 1 1)).run Tryd.prog (wr.alloc (.cells #[.int .u8 (d : Int)] 5)) = .ok (.string ⟨#[UInt8.ofNat d]⟩) (wr.alloc (.cells #[.int .u8 (d : Int)] 5)) := string_of (P := Tryd.prog) (lit_reads wr [UInt8.ofNat d] #[.int .u8 (d : Int)] 5 (one_cell hd2)) 22 9 5 1 Tryd.underlying22 Tryd.underlying5 Tryd.underlying9
  have h1 : (ByteArray.mk #[UInt8.ofNat d]).size = 1 := rfl
  have HBN := hide (HB.out.alloc (HB.out.size) (.cells #[.int .u8 (d : Int)] 5))
  have HX : Hid (∀ y : ByteArray,(({ data := #[UInt8.ofNat d] } : ByteArray) ++ y).data.toList = UInt8.ofNat (48 + m % 10) :: y.data.toList) := by
   intro y
   rw [ByteArray.data_append,<- HD.out]
   simp
  have HS : Hid (∀ y : ByteArray,(({ data := #[UInt8.ofNat d] } : ByteArray) ++ y).size = 1 + y.size) := by
   intro y
   rw [ByteArray.size_append]
   rfl
  have HG : Hid (∀ y : ByteArray,((y = ⟨#[]⟩ ∧ m = n) ∨ (1 <= y.size ∧ 0 < m ∧ Lib.decDigits n = (if m = 0 then [] else Lib.decDigits m) ++ y.data.toList)) -> Lib.decDigits n = (if q = 0 then [] else Lib.decDigits q) ++ (({ data := #[UInt8.ofNat d] } : ByteArray) ++ y).data.toList) := by
   intro y hy
   rw [HX.out y,HQ.out]
   rcases hy with ⟨rfl,rfl⟩ | ⟨_,h0,h2⟩
   ·by_cases h10 : m < 10
    ·rw [dec_small h10,if_pos (by omega),show m % 10 = m by omega]; try rfl
    ·rw [if_neg (by omega)]
     have := dec_snoc (n := m / 10) (d := m % 10) (by omega) (by omega)
     rw [show 10 * (m / 10) + m % 10 = m by omega] at this
     rw [this]; try rfl
   ·rw [h2,if_neg (by omega)]
    by_cases h10 : m < 10
    ·rw [dec_small h10,if_pos (by omega),show m % 10 = m by omega]; try rfl
    ·rw [if_neg (by omega)]
     have := dec_snoc (n := m / 10) (d := m % 10) (by omega) (by omega)
     rw [show 10 * (m / 10) + m % 10 = m by omega] at this
     rw [this,List.append_assoc]; rfl
  clear hd2
  by_cases hx0 : x = ⟨#[]⟩
  ·subst hx0
   go_wp2_with fail
   have hg := HG.out _ (HOR.out.imp_right (fun h => absurd h.1 (by decide)))
   have hqe := HQ.out
   refine ⟨⟨q,_,rfl,rfl,.inr ⟨by rw [HS.out]; omega,by omega,hg⟩,HBN.out⟩,?_⟩
   show (intOf (Value.int .i64 (q : Int))).toNat + (1 - (({ data := #[UInt8.ofNat d] } : ByteArray) ++ ({ data := #[] } : ByteArray)).size) < (intOf (Value.int .i64 (m : Int))).toNat + (1 - 0)
   rw [HS.out]
   simp [intOf]
   omega
  ·have hxs : 1 <= x.size := by
    rcases HOR.out with h | h
    ·exact absurd h.1 hx0
    ·exact h.1
   have e1 := text_none hxs
   have hx7 : x.size <= 7 := by
    have h7 := dec_len hn
    rcases HOR.out with h | h
    ·exact absurd h.1 hx0
    ·rw [h.2.2,List.length_append] at h7
     have : x.data.toList.length = x.size := by simp
     omega
   by_cases hm0 : 0 < m
   ·have hm1 : ¬ (m : Int) = 0 := by omega
    go_wp2_with fail
    have hg := HG.out x (.inr ⟨hxs,hm0,by
     rcases HOR.out with h | h
     ·exact absurd h.1 hx0
     ·exact h.2.2⟩)
    have hqe := HQ.out
    refine ⟨⟨q,_,rfl,rfl,.inr ⟨by rw [HS.out]; omega,by omega,hg⟩,HBN.out⟩,?_⟩
    show (intOf (Value.int .i64 (q : Int))).toNat + (1 - (({ data := #[UInt8.ofNat d] } : ByteArray) ++ x).size) < (intOf (Value.int .i64 (m : Int))).toNat + (1 - x.size)
    rw [HS.out]
    simp [intOf]
    omega
   ·obtain rfl : m = 0 := by omega
    go_wp2_with fail
    go_ret
    refine ⟨?_,HB.out⟩
    rcases HOR.out with h | h
    ·exact absurd h.1 hx0
    ·have h2 := h.2.2
     simp only [if_true,List.nil_append] at h2
     show Ending.returned (Value.string x) = _
     rw [h2,mkB_of]
theorem ext_snoc (s : ByteArray) {F k : Nat} (hF : F <= k) (hk : k < s.size) : s.extract F (k + 1) = s.extract F k ++ mkB [s[k]] := by
 apply ByteArray.ext
 rw [ByteArray.data_append,ByteArray.data_extract,ByteArray.data_extract]
 apply Array.ext'
 rw [Array.toList_append,Array.toList_extract,Array.toList_extract]
 simp only [List.extract_eq_take_drop,mkB]
 rw [show k + 1 - F = (k - F) + 1 by omega,List.take_succ_eq_append_getElem (by simp; omega)]
 congr 1
 have hFk : F + (k - F) = k := by omega
 simp only [List.getElem_drop,hFk,Array.getElem_toList]
 rfl
theorem ext_none (s : ByteArray) (k : Nat) : s.extract k k = mkB [] := by
 apply ByteArray.ext
 simp [ByteArray.data_extract,mkB]
theorem mkB_append (a b : List UInt8) : mkB (a ++ b) = mkB a ++ mkB b := by
 apply ByteArray.ext
 simp [mkB,ByteArray.data_append]
theorem wStep_blank {st : List (List UInt8) × List UInt8} {c : UInt8} (h : c.toNat = 32) : wStep st c = (st.1 ++ [st.2],[]) := by
 unfold wStep
 rw [if_pos (UInt8.toNat_inj.1 h)]
theorem wStep_other {st : List (List UInt8) × List UInt8} {c : UInt8} (h : ¬ c.toNat = 32) : wStep st c = (st.1,st.2 ++ [c]) := by
 unfold wStep
 rw [if_neg (fun e => h (by rw [e]; rfl))]
set_option maxHeartbeats 1600000 in
theorem l1Words_any (s : ByteArray) (hs : s.size <= 1048576) (w : World) :
  Calls Tryd.prog 58 #[.string s] w fun e w' => ∃ a n c,e = .returned (.slice a n c) ∧ n <= 1048577 ∧ OwnTexts w.heap.size w'.heap.size w' a n ((wordsL s.data.toList).map mkB) ∧ Below w.heap.size w w' := by
 obtain ⟨i0,hi0,hz0,hz1,hz2⟩ := info_parts Tryd.infoStr
 have HO := hide (own_made0 w 9)
 have HB0 : Hid (Below w.heap.size w (w.alloc (.cells #[] 9))) := (Below.refl _ _).alloc (Nat.le_refl _) _
 go_enter Tryd.func58,Tryd.ntmps58
 go_wp2_with fail
 go_loopw [3,4,5] (fun v f i wr => ∃ (k F j : Nat) (L : List (List UInt8)),k <= s.size + 1 ∧ f = .int .i64 (F : Int) ∧ i = .int .i64 (k : Int) ∧ F <= k ∧ L.length = j ∧ j <= k ∧ ((k <= s.size ∧ L = (wRun (s.data.toList.take k)).1 ∧ s.extract F k = mkB (wRun (s.data.toList.take k)).2) ∨ (k = s.size + 1 ∧ L = wordsL s.data.toList)) ∧ wr.ownsRow w.heap.size 9 1 v j ((L.map mkB).map Value.string) ∧ Below w.heap.size w wr) (fun _ _ i _ => s.size + 1 - (intOf i).toNat)
 case atStart => exact ⟨0,0,0,[],Nat.zero_le _,rfl,rfl,Nat.le_refl _,rfl,Nat.le_refl _,.inl ⟨Nat.zero_le _,rfl,ext_none _ _⟩,HO.out,HB0.out⟩
 case round =>
  obtain ⟨k,F,j,L,hk,rfl,rfl,hF,hLj,hj,hor,hown,hbel⟩ := hrel
  clear HO HB0
  have HOW := hide hown
  have HBW := hide hbel
  have HOR := hide hor
  have HL := hide hLj
  clear hown hbel hor hLj
  have HM2 : Hid (k <= s.size -> j + 1 <= maxLen ∧ (j + 1) * 16 <= 140737488355328) := by intro _; unfold maxLen; omega
  by_cases hlt : k < s.size
  ·have hne : ¬ (k : Int) = (s.size : Int) := by omega
   have hst := HOR.out.resolve_right (by omega)
   have HSt := hide hst
   have HTK := hide (take_snocB s k hlt)
   clear hst
   by_cases hb : s[k].toNat = 32
   ·have hb2 : (s[k].toNat : Int) = 32 := by omega
    have HO3 := hide (HOW.out.alloc (.cells #[.string (s.extract F k)] 9))
    have HB3 := hide (HBW.out.alloc HBW.out.size (.cells #[.string (s.extract F k)] 9))
    have HBB := hide hb
    clear hb HOW
    go_wp2_with (at_builtin; (refine wpList_append_own _ rfl (.tmp 23) (.tmp 28) 24 rfl w.heap.size 9 i0 (.string ByteArray.empty) 1 16 Tryd.underlying24 hi0 hz0 hz1 hz2 rfl (by decide) _ _ _ rfl HO3.out ⟨wr.heap.size,0,none⟩ 1 1 [.string (s.extract F k)] rfl rfl (cell_one_new _ _ _) (strV_one _) (HM2.out (by omega)).1 (HM2.out (by omega)).2 HB3.out.size ?_); intro v' w4 hown2 hgrow2 _; have HO4 := hide hown2; have HB4 := hide (HB3.out.grown hgrow2 HB3.out.size (fun k hk => (HO3.out.lt k hk).1)); clear hown2 hgrow2)
    go_roundw
    case rel =>
     refine ⟨k + 1,k + 1,j + 1,L ++ [(wRun (s.data.toList.take k)).2],by omega,by go_num,by go_num,Nat.le_refl _,by simp [HL.out],by omega,.inl ⟨by omega,?_,?_⟩,?_,HB4.out⟩
     ·rw [HTK.out,wRun_snoc,wStep_blank HBB.out,HSt.out.2.1]
     ·rw [HTK.out,wRun_snoc,wStep_blank HBB.out,ext_none]
     ·have h4 := HO4.out
      rw [HSt.out.2.2] at h4
      rw [List.map_append,List.map_append]
      exact h4
    case measure => simp [intOf]; omega
   ·have hb2 : ((s[k].toNat : Int) == 32) = false := by simp; omega
    have HBB := hide hb
    clear hb
    go_wp2_with fail
    go_roundw
    case rel =>
     refine ⟨k + 1,F,j,L,by omega,rfl,by go_num,by omega,HL.out,by omega,.inl ⟨by omega,?_,?_⟩,HOW.out,HBW.out⟩
     ·rw [HTK.out,wRun_snoc,wStep_other HBB.out,HSt.out.2.1]
     ·rw [HTK.out,wRun_snoc,wStep_other HBB.out,ext_snoc s hF hlt,HSt.out.2.2,mkB_append]
    case measure => simp [intOf]; omega
  ·by_cases heq : k = s.size
   ·subst heq
    have hst := HOR.out.resolve_right (by omega)
    have HSt := hide hst
    clear hst
    have HO3 := hide (HOW.out.alloc (.cells #[.string (s.extract F s.size)] 9))
    have HB3 := hide (HBW.out.alloc HBW.out.size (.cells #[.string (s.extract F s.size)] 9))
    clear HOW
    go_wp2_with (at_builtin; (refine wpList_append_own _ rfl (.tmp 23) (.tmp 28) 24 rfl w.heap.size 9 i0 (.string ByteArray.empty) 1 16 Tryd.underlying24 hi0 hz0 hz1 hz2 rfl (by decide) _ _ _ rfl HO3.out ⟨wr.heap.size,0,none⟩ 1 1 [.string (s.extract F s.size)] rfl rfl (cell_one_new _ _ _) (strV_one _) (HM2.out (by omega)).1 (HM2.out (by omega)).2 HB3.out.size ?_); intro v' w4 hown2 hgrow2 _; have HO4 := hide hown2; have HB4 := hide (HB3.out.grown hgrow2 HB3.out.size (fun k hk => (HO3.out.lt k hk).1)); clear hown2 hgrow2)
    go_roundw
    case rel =>
     refine ⟨s.size + 1,s.size + 1,j + 1,L ++ [(wRun (s.data.toList.take s.size)).2],by omega,by go_num,by go_num,Nat.le_refl _,by simp [HL.out],by omega,.inr ⟨rfl,?_⟩,?_,HB4.out⟩
     ·rw [HSt.out.2.1]; unfold wordsL; rw [List.take_of_length_le (by simp)]
     ·have h4 := HO4.out
      rw [HSt.out.2.2] at h4
      rw [List.map_append,List.map_append]
      exact h4
    case measure => simp [intOf] <;> omega
   ·have hfin := HOR.out.resolve_left (by omega)
    obtain ⟨a',c,rfl,_,hot⟩ := ownTexts_of HOW.out (Nat.le_refl _)
    have HOT := hide hot
    have HF := hide hfin
    clear hot hfin
    go_wp2_with fail
    go_ret
    exact ⟨_,_,_,rfl,by omega,by rw [<- HF.out.2]; exact HOT.out,HBW.out⟩
def NumTo (x : ByteArray) (v : Int) (ok : Bool) : Prop := -1000000000 < v ∧ v < 1000000000 ∧ ∀ k : Nat,k <= 1000000 -> x.data.toList = Lib.decDigits k -> v = k ∧ ok = true
theorem NumTo.no {x : ByteArray} (h : ∀ k : Nat,k <= 1000000 -> x.data.toList ≠ Lib.decDigits k) : NumTo x 0 false := ⟨by omega,by omega,fun k hk e => absurd e (h k hk)⟩
theorem dec_at {x : ByteArray} {k : Nat} (h : x.data.toList = Lib.decDigits k) (i : Nat) (hi : i < x.size) : isDig x[i] := by
 refine dec_dig k _ ?_
 rw [<- h]
 have : x[i] = x.data.toList[i]'(by simpa using hi) := by rw [Array.getElem_toList]; rfl
 rw [this]
 exact List.getElem_mem _
theorem dec_size {x : ByteArray} {k : Nat} (hk : k <= 1000000) (h : x.data.toList = Lib.decDigits k) : 1 <= x.size ∧ x.size <= 7 := by
 have h1 : x.data.toList.length = x.size := by simp
 have h2 := dec_len hk
 have h3 := Lib.nDigits_pos k
 rw [<- Lib.decDigits_length] at h3
 rw [<- h,h1] at h2 h3
 exact ⟨h3,h2⟩
theorem val_snoc (x : ByteArray) (k : Nat) (h : k < x.size) : valL (x.data.toList.take (k + 1)) = 10 * valL (x.data.toList.take k) + (x[k].toNat - 48) := by
 rw [take_snocB x k h]
 unfold valL
 rw [valA_append]
 rfl
theorem pow9 {j : Nat} (h : j <= 9) : 10 ^ j <= 1000000000 := by
 have : 10 ^ j <= 10 ^ 9 := Nat.pow_le_pow_right (by omega) h
 omega
theorem dec_first {x : ByteArray} {k : Nat} (h : x.data.toList = Lib.decDigits k) (h0 : 0 < x.size) (hz : x[0].toNat = 48) : x.size = 1 := by
 cases hl : x.data.toList with
 | nil => rw [hl] at h; exact absurd h.symm (dec_ne k)
 | cons c l =>
  have hc : x[0] = x.data.toList[0]'(by simpa using h0) := by rw [Array.getElem_toList]; rfl
  have h2 : c = x[0] := by rw [hc]; simp [hl]
  have h3 := dec_head k c l (by rw [<- h,hl]) (by rw [h2]; exact UInt8.toNat_inj.1 hz)
  have h4 : x.data.toList.length = x.size := by simp
  rw [hl,h3.2] at h4
  simpa using h4.symm
end Go.Proofs.YtdjifickdcnacaaDoor
end

section
namespace Go.Proofs.YtdjifickdcnacaaDoor
open Go.RowKit
set_option linter.unusedVariables false
set_option linter.unusedSimpArgs false
set_option maxRecDepth 20000
set_option maxHeartbeats 1600000 in
theorem l1Number_any (x : ByteArray) (hx : x.size <= 1048576) (w : World) :
  Calls Tryd.prog 109 #[.string x] w fun e w' => ∃ v ok,e = .returned (.tuple #[.int .i64 v,.bool ok]) ∧ NumTo x v ok ∧ w' = w := by
 by_cases h0 : 0 < x.size
 ·have e1 := text_none (x := x) (by omega)
  by_cases hf : x[0].toNat = 45
  ·have hf2 : (x[0].toNat : Int) = 45 := by omega
   have HF := hide hf
   clear hf
   by_cases hl : x.size = 1 ∨ 10 < x.size
   ·have HSZ : Hid (∀ d : Nat,d <= 1000000 -> x.data.toList ≠ Lib.decDigits d) := fun d hd e => by
     have := dec_at e 0 h0
     unfold isDig at this
     have := HF.out
     omega
    rcases hl with hl | hl
    ·have hl2 : (x.size : Int) = 1 := by omega
     go_enter Tryd.func109,Tryd.ntmps109
     go_wp2_with fail
     go_ret2
     exact ⟨_,_,rfl,NumTo.no HSZ.out,rfl⟩
    ·have hl2 : 10 < (x.size : Int) := by omega
     go_enter Tryd.func109,Tryd.ntmps109
     go_wp2_with fail
     go_ret2
     exact ⟨_,_,rfl,NumTo.no HSZ.out,rfl⟩
   ·have hl1 : 1 < x.size := by omega
    have hl2 : x.size <= 10 := by omega
    clear hl
    go_enter Tryd.func109,Tryd.ntmps109
    go_wp2_with fail
    go_loopw [6,7] (fun n i wr => ∃ (k acc : Nat),1 <= k ∧ k <= x.size ∧ i = .int .i64 (k : Int) ∧ n = .int .i64 (acc : Int) ∧ acc < 10 ^ (k - 1) ∧ True ∧ wr = w) (fun _ i _ => x.size - (intOf i).toNat)
    case atStart => exact ⟨1,0,by omega,by omega,rfl,rfl,by decide,trivial,rfl⟩
    case round =>
     obtain ⟨k,acc,hk1,hk,rfl,rfl,hacc,hrl,rfl⟩ := hrel
     have hacc9 : acc < 1000000000 := by
      have := pow9 (j := k - 1) (by omega)
      omega
     have HACC := hide hacc
     have HRL := hide hrl
     clear hacc hrl
     by_cases hlt : k < x.size
     ·obtain ⟨c,hc⟩ : ∃ c,c = x[k].toNat := ⟨_,rfl⟩
      have hcx : (x[k].toNat : Int) = (c : Int) := by omega
      have HC := hide hc
      have hc256 : c < 256 := by rw [hc]; exact x[k].toNat_lt
      clear hc
      by_cases hlo : c < 48
      ·have hb1 : (c : Int) < 48 := by omega
       go_wp2_with fail
       go_ret2
       first | exact ⟨_,_,rfl,NumTo.no (fun d hd e => by have := dec_at e k hlt; unfold isDig at this; have := HC.out; omega),rfl⟩ | exact ⟨_,.inl ⟨rfl,NumTo.no (fun d hd e => by have := dec_at e k hlt; unfold isDig at this; have := HC.out; omega),rfl⟩⟩
      ·by_cases hhi : 57 < c
       ·have hb1 : ¬ (c : Int) < 48 := by omega
        have hb2 : 57 < (c : Int) := by omega
        go_wp2_with fail
        go_ret2
        first | exact ⟨_,_,rfl,NumTo.no (fun d hd e => by have := dec_at e k hlt; unfold isDig at this; have := HC.out; omega),rfl⟩ | exact ⟨_,.inl ⟨rfl,NumTo.no (fun d hd e => by have := dec_at e k hlt; unfold isDig at this; have := HC.out; omega),rfl⟩⟩
       ·have hb1 : ¬ (c : Int) < 48 := by omega
        have hb2 : ¬ 57 < (c : Int) := by omega
        obtain ⟨d,hd⟩ : ∃ d : Nat,(c : Int) - 48 = (d : Int) := ⟨c - 48,by omega⟩
        have hd10 : d < 10 := by omega
        have HDC : Hid (d = c - 48) := by show d = c - 48; omega
        go_wp2_with fail
        go_roundw
        case rel =>
         refine ⟨k + 1,10 * acc + d,by omega,by omega,by go_num,by go_num,?_,?_,by trivial⟩
         ·rw [show k + 1 - 1 = (k - 1) + 1 by omega,Nat.pow_succ]
          have := HACC.out
          omega
         ·trivial
        case measure => simp [intOf]; omega
     ·obtain rfl : k = x.size := by omega
      have hno : ∀ d : Nat,d <= 1000000 -> x.data.toList ≠ Lib.decDigits d := fun d hd e => by
       have := dec_at e 0 h0
       unfold isDig at this
       have := HF.out
       omega
      have h1 : 1 < x.size := by omega
      by_cases hz : x[1].toNat = 48
      ·have hz2 : (x[1].toNat : Int) = 48 := by omega
       go_wp2_with fail
       go_ret2
       exact ⟨_,_,rfl,NumTo.no hno,rfl⟩
      ·have hz2 : ((x[1].toNat : Int) == 48) = false := by simp; omega
       go_wp2_with fail
       go_ret2
       exact ⟨_,_,rfl,⟨by omega,by omega,fun d hd e => absurd e (hno d hd)⟩,rfl⟩
  ·have hf2 : ((x[0].toNat : Int) == 45) = false := by simp; omega
   clear hf
   by_cases hl : 9 < x.size
   ·have hl2 : 9 < (x.size : Int) := by omega
    go_enter Tryd.func109,Tryd.ntmps109
    go_wp2_with fail
    go_ret2
    exact ⟨_,_,rfl,NumTo.no (fun d hd e => by have := dec_size hd e; omega),rfl⟩
   ·go_enter Tryd.func109,Tryd.ntmps109
    go_wp2_with fail
    go_loopw [6,7] (fun n i wr => ∃ (k acc : Nat),0 <= k ∧ k <= x.size ∧ i = .int .i64 (k : Int) ∧ n = .int .i64 (acc : Int) ∧ acc < 10 ^ (k - 0) ∧ (acc = valL (x.data.toList.take k)) ∧ wr = w) (fun _ i _ => x.size - (intOf i).toNat)
    case atStart => exact ⟨0,0,by omega,by omega,rfl,rfl,by decide,rfl,rfl⟩
    case round =>
     obtain ⟨k,acc,hk1,hk,rfl,rfl,hacc,hrl,rfl⟩ := hrel
     have hacc9 : acc < 1000000000 := by
      have := pow9 (j := k - 0) (by omega)
      omega
     have HACC := hide hacc
     have HRL := hide hrl
     clear hacc hrl
     by_cases hlt : k < x.size
     ·obtain ⟨c,hc⟩ : ∃ c,c = x[k].toNat := ⟨_,rfl⟩
      have hcx : (x[k].toNat : Int) = (c : Int) := by omega
      have HC := hide hc
      have hc256 : c < 256 := by rw [hc]; exact x[k].toNat_lt
      clear hc
      by_cases hlo : c < 48
      ·have hb1 : (c : Int) < 48 := by omega
       go_wp2_with fail
       go_ret2
       first | exact ⟨_,_,rfl,NumTo.no (fun d hd e => by have := dec_at e k hlt; unfold isDig at this; have := HC.out; omega),rfl⟩ | exact ⟨_,.inl ⟨rfl,NumTo.no (fun d hd e => by have := dec_at e k hlt; unfold isDig at this; have := HC.out; omega),rfl⟩⟩
      ·by_cases hhi : 57 < c
       ·have hb1 : ¬ (c : Int) < 48 := by omega
        have hb2 : 57 < (c : Int) := by omega
        go_wp2_with fail
        go_ret2
        first | exact ⟨_,_,rfl,NumTo.no (fun d hd e => by have := dec_at e k hlt; unfold isDig at this; have := HC.out; omega),rfl⟩ | exact ⟨_,.inl ⟨rfl,NumTo.no (fun d hd e => by have := dec_at e k hlt; unfold isDig at this; have := HC.out; omega),rfl⟩⟩
       ·have hb1 : ¬ (c : Int) < 48 := by omega
        have hb2 : ¬ 57 < (c : Int) := by omega
        obtain ⟨d,hd⟩ : ∃ d : Nat,(c : Int) - 48 = (d : Int) := ⟨c - 48,by omega⟩
        have hd10 : d < 10 := by omega
        have HDC : Hid (d = c - 48) := by show d = c - 48; omega
        go_wp2_with fail
        go_roundw
        case rel =>
         refine ⟨k + 1,10 * acc + d,by omega,by omega,by go_num,by go_num,?_,?_,by trivial⟩
         ·rw [show k + 1 - 0 = (k - 0) + 1 by omega,Nat.pow_succ]
          have := HACC.out
          omega
         ·rw [val_snoc x k hlt,<- HRL.out,HDC.out,HC.out]
        case measure => simp [intOf]; omega
     ·obtain rfl : k = x.size := by omega
      have hval : acc = valL x.data.toList := by
       rw [HRL.out,List.take_of_length_le (by simp)]
      have HV := hide hval
      clear hval
      by_cases hz : x[0].toNat = 48
      ·have hz2 : (x[0].toNat : Int) = 48 := by omega
       by_cases h1 : x.size = 1
       ·have h1b : (x.size : Int) = 1 := by omega
        go_wp2_with fail
        go_ret2
        exact ⟨_,_,rfl,⟨by omega,by omega,fun d hd e => ⟨by rw [HV.out,e,dec_val],rfl⟩⟩,rfl⟩
       ·have h1b : 1 < (x.size : Int) := by omega
        go_wp2_with fail
        go_ret2
        exact ⟨_,_,rfl,NumTo.no (fun d hd e => h1 (dec_first e h0 hz)),rfl⟩
      ·have hz2 : ((x[0].toNat : Int) == 48) = false := by simp; omega
       go_wp2_with fail
       go_ret2
       exact ⟨_,_,rfl,⟨by omega,by omega,fun d hd e => ⟨by rw [HV.out,e,dec_val],rfl⟩⟩,rfl⟩
 ·obtain rfl : x = ⟨#[]⟩ := by
   apply ByteArray.ext
   have : x.data.size = 0 := by show x.size = 0; omega
   exact Array.eq_empty_of_size_eq_zero this
  go_enter Tryd.func109,Tryd.ntmps109
  go_wp2_with fail
  go_ret2
  exact ⟨_,_,rfl,NumTo.no (fun d hd e => by have := dec_size hd e; omega),rfl⟩
def NumsTo (ts : List ByteArray) (xs : List Int) (ok : Bool) : Prop := ∀ ks : List Nat,(∀ k ∈ ks,k <= 1000000) -> ts.map (fun x => x.data.toList) = ks.map Lib.decDigits -> xs = ks.map (fun k : Nat => (k : Int)) ∧ ok = true
theorem ints_owned {w : World} {base B n : Nat} {v : Value} {xs : List Int} (h : w.ownsRow base 2 1 v n (xs.map (Value.int .i64))) (hB : B <= base) : ∃ a cap,v = .slice a n cap ∧ n <= cap ∧ OwnInts B w.heap.size w a n xs := by
 obtain ⟨a,cap,rfl,hcap,hlen,_,how⟩ := owned_of_own h
 have hl : xs.length = n := by simpa using hlen
 refine ⟨a,cap,rfl,hcap,hl,how.1,fun hn => ?_⟩
 obtain ⟨b,off,rfl,h1,h2,h3⟩ := how.2 hn
 refine ⟨b,off,rfl,by omega,h2,fun i hi => ?_⟩
 obtain ⟨h4,h5⟩ := h3 i hi
 refine ⟨?_,h5⟩
 rw [h4]
 unfold cellI
 dsimp only
 rw [List.getD_eq_getElem?_getD,List.getD_eq_getElem?_getD,List.getElem?_map,List.getElem?_eq_getElem (by omega)]
 rfl
theorem mnums_snoc {ts : List ByteArray} {k : Nat} (hk : k < ts.length) {xs : List Int} {v : Int} (h : NumsTo (ts.take k) xs true) (h2 : NumTo (ts.getD k ByteArray.empty) v true) : NumsTo (ts.take (k + 1)) (xs ++ [v]) true := by
 intro ks hks e
 rw [List.take_succ_eq_append_getElem hk,List.map_append] at e
 have hl : ks.length = k + 1 := by
  have := congrArg List.length e
  simp at this
  omega
 obtain ⟨ks',d,rfl⟩ : ∃ ks' d,ks = ks' ++ [d] := by
  rcases List.eq_nil_or_concat ks with h | ⟨l,d,h⟩
  ·rw [h] at hl; simp at hl
  ·exact ⟨l,d,by rw [h,List.concat_eq_append]⟩
 rw [List.map_append] at e
 have e2 := List.append_inj' e rfl
 have h3 := h ks' (fun k hk => hks k (List.mem_append_left _ hk)) e2.1
 have h4 : (ts.getD k ByteArray.empty).data.toList = Lib.decDigits d := by
  rw [List.getD_eq_getElem?_getD,List.getElem?_eq_getElem hk]
  simpa using e2.2
 have h5 := h2.2.2 d (hks d (by simp)) h4
 exact ⟨by rw [h3.1,h5.1]; simp,rfl⟩
theorem nums_bad {ts : List ByteArray} {k : Nat} (hk : k < ts.length) {xs : List Int} {v : Int} (h2 : NumTo (ts.getD k ByteArray.empty) v false) : NumsTo ts xs false := by
 intro ks hks e
 exfalso
 have hl : k < ks.length := by
  have := congrArg List.length e
  simp at this
  omega
 have h4 : (ts.getD k ByteArray.empty).data.toList = Lib.decDigits ks[k] := by
  rw [List.getD_eq_getElem?_getD,List.getElem?_eq_getElem hk]
  have := congrArg (fun l => l[k]?) e
  simp only [List.getElem?_map,List.getElem?_eq_getElem hk,List.getElem?_eq_getElem hl] at this
  simpa using this
 exact absurd (h2.2.2 _ (hks _ (List.getElem_mem hl)) h4).2 (by simp)
set_option maxHeartbeats 1600000 in
theorem l1Numbers_any (a : Option Addr) (n cap : Nat) (ts : List ByteArray) (w : World) {lo hi : Nat} (h : Texts lo hi w a n ts) (hn : n <= 1048577) (hts : ∀ s ∈ ts,s.size <= 1048576) :
  Calls Tryd.prog 57 #[.slice a n cap] w fun e w' => ∃ a' m c xs ok,e = .returned (.tuple #[.slice a' m c,.bool ok]) ∧ (m <= n ∧ m <= c) ∧ OwnInts w.heap.size w'.heap.size w' a' m xs ∧ (∀ x ∈ xs,-1000000000 < x ∧ x < 1000000000) ∧ NumsTo ts xs ok ∧ Below w.heap.size w w' := by
 have HH := hide h
 have HTS := hide hts
 have hhi := h.2.1
 have HTL := hide h.1
 clear h hts
 obtain ⟨i0,hi0,hz0,hz1,hz2⟩ := info_parts Tryd.infoI64
 have HO := hide (own_made0 w 2)
 have HB0 : Hid (Below w.heap.size w (w.alloc (.cells #[] 2))) := (Below.refl _ _).alloc (Nat.le_refl _) _
 go_enter Tryd.func57,Tryd.ntmps57
 go_wp2_with fail
 go_loopw [4,5] (fun v i wr => ∃ (k : Nat) (xs : List Int),k <= n ∧ i = .int .i64 (k : Int) ∧ wr.ownsRow w.heap.size 2 1 v k (xs.map (Value.int .i64)) ∧ (∀ x ∈ xs,-1000000000 < x ∧ x < 1000000000) ∧ NumsTo (ts.take k) xs true ∧ Below w.heap.size w wr) (fun _ i _ => n - (intOf i).toNat)
 case atStart =>
  exact ⟨0,[],Nat.zero_le _,rfl,HO.out,by simp,(fun ks _ e => by
   have : ks = [] := by simpa using e.symm
   subst this
   exact ⟨rfl,rfl⟩),HB0.out⟩
 case round =>
  obtain ⟨k,xs,hk,rfl,hown,hsm,hnums,hbel⟩ := hrel
  clear HO HB0
  have HOW := hide hown
  have HBW := hide hbel
  have HSM := hide hsm
  have HNU := hide hnums
  clear hown hbel hsm hnums
  have HM2 : Hid (k < n -> k + 1 <= maxLen ∧ (k + 1) * 8 <= 140737488355328) := by intro _; unfold maxLen; omega
  by_cases hlt : k < n
  ·obtain ⟨b,off,rfl,_,_,hcb0⟩ := (HH.out.later HBW.out hhi).2.2 (by omega)
   have hcb := hcb0 k hlt
   obtain ⟨s,hs⟩ : ∃ s,s = ts.getD k ByteArray.empty := ⟨_,rfl⟩
   have hcell : wr.cell? ⟨b,off + k,none⟩ = some (.string s) := by rw [hcb,hs]; rfl
   have HS := hide hs
   have hmem : s ∈ ts := by
    rw [hs,List.getD_eq_getElem?_getD,List.getElem?_eq_getElem (by rw [HTL.out]; exact hlt)]
    simp
   have hsz := HTS.out s hmem
   clear hcb0 hcb hs hmem
   go_wp2_with fail
   refine (l1Number_any s hsz wr).mono ?_
   rintro e w1 ⟨v,ok,rfl,hnt,rfl⟩
   have HNT := hide hnt
   clear hnt
   cases ok
   ·obtain ⟨a',c,rfl,hcc,hoi⟩ := ints_owned HOW.out (Nat.le_refl _)
    have HOI := hide hoi
    have HCC := hide hcc
    clear hoi hcc
    go_wp2_with fail
    go_ret2
    exact ⟨_,_,_,xs,false,rfl,⟨by omega,HCC.out⟩,HOI.out,HSM.out,nums_bad (k := k) (by rw [HTL.out]; exact hlt) (by rw [<- HS.out]; exact HNT.out),HBW.out⟩
   ·have HO3 := hide (HOW.out.alloc (.cells #[.int .i64 v] 2))
    have HB3 := hide (HBW.out.alloc HBW.out.size (.cells #[.int .i64 v] 2))
    clear HOW
    go_wp2_with (at_builtin; (refine wpList_append_own _ rfl (.tmp 26) (.tmp 28) 68 rfl w.heap.size 2 i0 (.int .i64 0) 1 8 Tryd.underlying68 hi0 hz0 hz1 hz2 rfl (by decide) _ _ _ rfl HO3.out ⟨w1.heap.size,0,none⟩ 1 1 [.int .i64 v] rfl rfl (cell_one_new _ _ _) (by intro u hu; simp at hu; subst hu; rfl) (HM2.out hlt).1 (HM2.out hlt).2 HB3.out.size ?_); intro v' w4 hown2 hgrow2 _; have HO4 := hide hown2; have HB4 := hide (HB3.out.grown hgrow2 HB3.out.size (fun k hk => (HO3.out.lt k hk).1)); clear hown2 hgrow2)
    go_roundw
    case rel =>
     refine ⟨k + 1,xs ++ [v],by omega,by go_num,by rw [List.map_append]; exact HO4.out,?_,mnums_snoc (by rw [HTL.out]; exact hlt) HNU.out (by rw [<- HS.out]; exact HNT.out),HB4.out⟩
     intro x hx
     rcases List.mem_append.1 hx with h | h
     ·exact HSM.out x h
     ·rw [List.mem_singleton.1 h]; exact ⟨HNT.out.1,HNT.out.2.1⟩
    case measure => simp [intOf]; omega
  ·obtain rfl : k = n := by omega
   obtain ⟨a',c,rfl,hcc,hoi⟩ := ints_owned HOW.out (Nat.le_refl _)
   have HOI := hide hoi
   have HCC := hide hcc
   clear hoi hcc
   have HNF : Hid (NumsTo ts xs true) := by
    have := HNU.out
    rwa [List.take_of_length_le (by rw [HTL.out]; exact Nat.le_refl _)] at this
   go_wp2_with fail
   go_ret2
   exact ⟨_,_,_,xs,true,rfl,⟨by omega,HCC.out⟩,HOI.out,HSM.out,HNF.out,HBW.out⟩
end Go.Proofs.YtdjifickdcnacaaDoor
end

section
namespace Go.Proofs.YtdjifickdcnacaaDoor
open Go.RowKit
end Go.Proofs.YtdjifickdcnacaaDoor
end

