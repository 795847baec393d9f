/- . -/
import Derived.Test.YtdjifickdcnacaaDoorNTextWalk
import Derived.Test.YtdjifickdcnacaaDoorNNoteSpecB
import Derived.Test.YtdjifickdcnacaaDoorNFmtShelf
import Derived.Test.YtdjifickdcnacaaDoorNJoinLay
import Derived.Deep.RegionHeld3
import Derived.Deep.RegionLaw
import Derived.Test.YtdjifickdcnacaaDoorNCopyBase
namespace Go.Proofs.YtdjifickdcnacaaDoor
open Go.RowKit
set_option linter.unusedVariables false
set_option linter.unusedSimpArgs false
set_option maxRecDepth 20000
set_option maxHeartbeats 800000 in
theorem number_any (v : Nat) (hv : v <= 1000000) {B pw pt : Nat} {ws ts : List ByteArray} {w : World} (h : Duo B pw pt ws ts w) (hP : Pow w) (hn : ws.length <= 1000) :
  Calls Tryd.prog 47 #[.int .i64 (v : Int),.pointer (some ⟨pw,0,none⟩)] w fun e w' => (∃ u,e = .returned u) ∧ Duo B pw pt (ws ++ [numB v]) ts w' ∧ Duof B pw pt w w' := by
 have HD := hide h
 obtain ⟨vw,vt,h1,_⟩ := h
 have HV := hide h1
 have HC : ∀ W,Hid (Below w.heap.size w W -> W.cell? ⟨pw,0,none⟩ = some vw) := fun W hb => note_one (block_on HV.out hb)
 have HF : ∀ W,Hid (Pow W -> Calls Tryd.prog 48 #[.int .i64 (v : Int),.int .i64 10] W fun r w' => r = .returned (.string (numB v)) ∧ Below W.heap.size W w') := fun W hp => fmt_any v hv W hp
 obtain ⟨n',hn'⟩ : ∃ n',n' = (ws ++ [numB v]).length := ⟨_,rfl⟩
 have HA : ∀ W1,Hid (Below w.heap.size w W1 -> ∃ a' c' w',(Builtin.append_ #[24,24] 24 #[vw,.slice (some ⟨W1.heap.size,0,none⟩) 1 1]).run Tryd.prog (W1.alloc (.cells #[.string (numB v)] 9)) = .ok (.slice a' n' c') w' ∧ w'.heap[pw]? = some (.cells #[vw] 24) ∧ Duo B pw pt (ws ++ [numB v]) ts (w'.setCell ⟨pw,0,none⟩ (.slice a' n' c')) ∧ Duof B pw pt w (w'.setCell ⟨pw,0,none⟩ (.slice a' n' c'))) := fun W1 hb => by rw [hn']; exact duo_app (by decide) HD.out hb HV.out (by omega)
 have HR0 : Hid (Below w.heap.size w w.drew) := (Below.refl w.heap.size w).drew
 have HP := hide hP
 clear h1 hP
 obtain ⟨sE,hsE⟩ : ∃ s,s = numB v := ⟨_,rfl⟩
 rw [<- hsE] at HF HA ⊢
 clear hsE hn'
 go_enter Tryd.func47,Tryd.ntmps47
 have c0 := note_one HV.out
 go_region_law (first
   | (refine step_appn (by rfl) _ _ 24 (by rfl) _ _ _ w5 (by rfl) (by rfl) HRN.out ?_)
   | (go_simp; go_at_call 48; refine ((HF _).out (HP.out.here HR0.out)).mono ?_; rintro e w1 ⟨rfl,b1⟩; have HR1 := hide (below_here HR0.out b1); have HR2 := hide (HR1.out.alloc HR1.out.size (.cells #[.string sE] 9)); obtain ⟨a',c',w5,hrun,hk5,hduo,hfr⟩ := (HA w1).out HR1.out; have HRN := hide hrun; have K1 := note_one hk5; have c1 := (HC w1).out HR1.out; have c2 := (HC (w1.alloc (.cells #[.string sE] 9))).out HR2.out; have f0 := four_frozen hk5 0; have HDU := hide hduo; have HFR := hide hfr; clear hrun hk5 hduo hfr b1)
   | fail)
 all_goals
  go_end0
  exact ⟨⟨_,rfl⟩,HDU.out,HFR.out⟩
set_option maxHeartbeats 800000 in
theorem text_any (x : ByteArray) (hx : x.size <= 24) {B pw pt pf : Nat} {ws ts : List ByteArray} {w : World} (h : Duo B pw pt ws ts w) (hf : w.heap[pf]? = some (.cells #[.func (.func 47) #[] #[.pointer (some ⟨pw,0,none⟩)]] 66)) (hne : pf ≠ pw ∧ pf ≠ pt) (hP : Pow w) (hn : ws.length <= 1000) (hn2 : ts.length <= 1000) :
  Calls Tryd.prog 49 #[.string x,.pointer (some ⟨pf,0,none⟩),.pointer (some ⟨pt,0,none⟩)] w fun e w' => (∃ u,e = .returned u) ∧ Duo B pw pt (ws ++ [numB x.size]) (ts ++ [x]) w' ∧ Duof B pw pt w w' := by
 have HD := hide h
 have HP := hide hP
 have c0 := note_one hf
 have hx63 : x.size <= 9223372036854775807 := by omega
 clear h hP
 go_enter Tryd.func49,Tryd.ntmps49
 go_wp2_with fail
 refine (number_any x.size (by omega) HD.out HP.out hn).mono ?_
 rintro e w1 ⟨⟨u,rfl⟩,hd1,hf1⟩
 have HD1 := hide hd1
 have HF1 := hide hf1
 have hd2 := hd1.swap
 obtain ⟨vt,vw,h1,_⟩ := hd2
 have c1 := note_one h1
 obtain ⟨n',hn'⟩ : ∃ n',n' = (ts ++ [x]).length := ⟨_,rfl⟩
 obtain ⟨a',c',w5,hrun,hk5,hduo,hfr⟩ := duo_app (by decide) HD1.out.swap (Below.refl w1.heap.size w1) h1 (x := x) (by omega)
 rw [<- hn'] at hrun hduo hfr
 have HRN := hide hrun
 have HDU := hide hduo.swap
 have HFR := hide (HF1.out.trans hfr.swap)
 have K1 := note_one hk5
 have f0 := four_frozen hk5 0
 clear hrun hduo hfr hn' h1 hk5 c0 hd1 hf1
 go_wp2_with (at_builtin; refine wpList_append_eq rfl _ _ 24 rfl _ _ _ w5 rfl rfl HRN.out ?_)
 go_end0
 exact ⟨⟨_,rfl⟩,HDU.out,HFR.out⟩
theorem join_small : ∀ (xs : List (List UInt8)) (sep : List UInt8),sep.length <= 1 -> (∀ x ∈ xs,x.length <= 100) -> (Lib.join xs sep).length <= xs.length * 101
 | [],sep,_,_ => by simp [Lib.join_nil]
 | x :: r,sep,hs,hx => by
  rw [Lib.join_cons]
  have h1 := hx x (List.mem_cons_self ..)
  have key : ∀ r : List (List UInt8),(∀ x ∈ r,x.length <= 100) -> (Lib.joinTail sep r).length <= r.length * 101 := by
   intro r
   induction r with
   | nil => intro _; simp [Lib.joinTail]
   | cons y r ih =>
    intro hr
    have h2 := hr y (List.mem_cons_self ..)
    have h3 := ih (fun z hz => hr z (List.mem_cons_of_mem _ hz))
    have e : Lib.joinTail sep (y :: r) = sep ++ (y ++ Lib.joinTail sep r) := by simp [Lib.joinTail]
    rw [e,List.length_append,List.length_append,List.length_cons]
    omega
  have h2 := key r (fun z hz => hx z (List.mem_cons_of_mem _ hz))
  rw [List.length_append,List.length_cons]
  omega
theorem joinT_any (a : Option Addr) (n c : Nat) (ts : List ByteArray) (sep : ByteArray) (w : World) {lo hi : Nat} (h : Texts lo hi w a n ts) (hc : n <= c) (hn : n <= 1000) (hs : ∀ y ∈ ts,y.size <= 100) (hsep : sep.data.toList.length <= 1) :
  Calls Tryd.prog 51 #[.slice a n c,.string sep] w fun e w' => e = .returned (.string (mkB (Lib.join (ts.map fun y => y.data.toList) sep.data.toList))) ∧ Below w.heap.size w w' := by
 obtain ⟨hl,hh,hx⟩ := h
 subst hl
 rcases Nat.eq_zero_or_pos ts.length with h0 | h0
 ·have e := List.length_eq_zero_iff.1 h0
  subst e
  have h1 : Calls Tryd.prog 51 #[.slice a 0 c,.string sep] w fun e w' => e = .returned (.string ⟨#[]⟩) ∧ w' = w := Any.strings_Join_none Tryd.lays156 Tryd.Builder_Extra_156 a c sep w
  refine h1.mono ?_
  rintro e w' ⟨rfl,rfl⟩
  exact ⟨rfl,Below.refl _ _⟩
 ·obtain ⟨b,off,rfl,hb1,hb2,hcell⟩ := hx (by omega)
  have h1 : Calls Tryd.prog 51 #[.slice (some ⟨b,off,none⟩) ts.length c,.string sep] w fun e w' => e = .returned (.string ⟨(Lib.join (ts.map (·.data.toList)) sep.data.toList).toArray⟩) ∧ Below w.heap.size w w' :=
   Any.strings_Join Tryd.lays156 Tryd.Builder_Extra_156 b off c ts sep w (fun j x hj => by
    have hjl : j < ts.length := by
     rcases Nat.lt_or_ge j ts.length with h | h
     ·exact h
     ·rw [List.getElem?_eq_none h] at hj; cases hj
    rw [hcell j hjl]
    unfold cellT
    rw [List.getD_eq_getElem?_getD,hj]
    rfl) (by omega) (by omega) hc (by
    have := join_small (ts.map (·.data.toList)) sep.data.toList hsep (fun x hx => by
     obtain ⟨y,hy,rfl⟩ := List.mem_map.1 hx
     have := hs y hy
     have e : y.data.toList.length = y.size := by simp
     omega)
    rw [List.length_map] at this
    omega)
  exact h1
end Go.Proofs.YtdjifickdcnacaaDoor
