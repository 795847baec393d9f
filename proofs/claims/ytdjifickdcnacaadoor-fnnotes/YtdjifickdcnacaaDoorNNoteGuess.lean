/- . -/
import Derived.Test.YtdjifickdcnacaaDoorNNoteSpecB
import Derived.Lib.IndexMore
import Derived.Lib.ParseIntB
namespace Go.Proofs.YtdjifickdcnacaaDoor
open Go.RowKit
set_option linter.unusedVariables false
set_option maxRecDepth 20000
theorem index_hit (d : UInt8) : ∀ (a b : List UInt8),(∀ c ∈ a,c ≠ d) -> Lib.index (a ++ d :: b) [d] = (a.length : Int)
 | [],b,_ => by simp [Lib.index,List.isPrefixOf]
 | c :: a,b,h => by
  have h1 := index_hit d a b (fun e he => h e (List.mem_cons_of_mem _ he))
  have h2 : (d == c) = false := by rw [beq_eq_false_iff_ne]; exact fun e => h c (List.mem_cons_self ..) e.symm
  have h3 : ((a.length : Int) == -1) = false := by rw [beq_eq_false_iff_ne]; omega
  show Lib.index (c :: (a ++ d :: b)) [d] = _
  unfold Lib.index
  rw [h1,h3]
  simp [List.isPrefixOf,h2]
theorem index_miss (d : UInt8) : ∀ (a : List UInt8),(∀ c ∈ a,c ≠ d) -> Lib.index a [d] = -1
 | [],_ => by simp [Lib.index]
 | c :: a,h => by
  have h1 := index_miss d a (fun e he => h e (List.mem_cons_of_mem _ he))
  have h2 : (d == c) = false := by rw [beq_eq_false_iff_ne]; exact fun e => h c (List.mem_cons_self ..) e.symm
  unfold Lib.index
  rw [h1]
  simp [List.isPrefixOf,h2]
theorem cut_hit (d : UInt8) (a b : List UInt8) (h : ∀ c ∈ a,c ≠ d) : Lib.cut (a ++ d :: b) [d] = (a,b,true) := by
 unfold Lib.cut
 rw [index_hit d a b h,if_pos (by omega)]
 simp
theorem cut_miss (d : UInt8) (a : List UInt8) (h : ∀ c ∈ a,c ≠ d) : Lib.cut a [d] = (a,[],false) := by
 unfold Lib.cut
 rw [index_miss d a h,if_neg (by omega)]
theorem cut_len (l sep : List UInt8) : (Lib.cut l sep).1.length <= l.length ∧ (Lib.cut l sep).2.1.length <= l.length := by
 unfold Lib.cut
 split
 ·simp only [List.length_take,List.length_drop]; omega
 ·simp
def numI (l : List UInt8) : Int := match Lib.parseIntB 64 l with | .ok v => v | .syntax => 0 | .range => Lib.intSat 64 l
theorem parseM_dig (M : Nat) (hM : 1000000000 <= M) : ∀ (l : List UInt8) (v : Nat),(∀ c ∈ l,isDig c) -> valA v l <= 1000000000 -> Lib.parseUintM M v l = .ok (valA v l)
 | [],v,_,_ => rfl
 | c :: l,v,hd,hv => by
  have h1 : 48 <= c.toNat ∧ c.toNat <= 57 := hd c (List.mem_cons_self ..)
  have e : valA v (c :: l) = valA (10 * v + (c.toNat - 48)) l := rfl
  have h2 := valA_le l (10 * v + (c.toNat - 48))
  rw [e] at hv ⊢
  unfold Lib.parseUintM
  rw [if_pos h1,if_neg (by omega),if_neg (by omega),show v * 10 + (c.toNat - 48) = 10 * v + (c.toNat - 48) by omega]
  exact parseM_dig M hM l _ (fun e he => hd e (List.mem_cons_of_mem _ he)) hv
theorem numI_dec {n : Nat} (h : n <= 1000000) : numI (Lib.decDigits n) = (n : Int) := by
 cases hl : Lib.decDigits n with
 | nil => exact absurd hl (dec_ne n)
 | cons c r =>
  have hc := dec_dig n c (by rw [hl]; exact List.mem_cons_self ..)
  unfold isDig at hc
  have hv := dec_val n
  rw [hl] at hv
  unfold valL at hv
  have hp : Lib.parseUintB 64 (c :: r) = .ok n := by
   unfold Lib.parseUintB
   rw [if_neg (by simp),parseM_dig (2 ^ 64 - 1) (by decide) (c :: r) 0 (by rw [<- hl]; exact dec_dig n) (by rw [hv]; omega),hv]
  unfold numI Lib.parseIntB
  simp only
  rw [if_neg (by omega),hp]
  simp only
  rw [if_neg (by omega),if_neg (by omega),if_neg (by omega)]
def numH (h : ByteArray) : Int := numI (Lib.cut h.data.toList [32]).1
def nxtH (h : ByteArray) : ByteArray := mkB (Lib.cut h.data.toList [32]).2.1
def badT (h b : ByteArray) : Bool := decide (numH h < 0) || decide ((b.size : Int) < numH h)
def txtH (h b : ByteArray) : ByteArray := if badT h b then ⟨#[]⟩ else b.extract 0 (numH h).toNat
def bodH (h b : ByteArray) : ByteArray := if badT h b then b else b.extract (numH h).toNat b.size
theorem nxtH_size (h : ByteArray) : (nxtH h).size <= h.size := by
 unfold nxtH
 rw [mkB_size]
 have := (cut_len h.data.toList [32]).2
 have e : h.data.toList.length = h.size := by simp
 omega
theorem bodH_size (h b : ByteArray) : (bodH h b).size <= b.size := by
 unfold bodH
 split
 ·exact Nat.le_refl _
 ·simp only [ByteArray.size_extract]; omega
theorem txtH_size (h b : ByteArray) : (txtH h b).size <= b.size := by
 unfold txtH
 split
 ·exact Nat.zero_le _
 ·simp only [ByteArray.size_extract]; omega
theorem cut_line (n : Nat) (r : List Nat) : (Lib.cut (lineN (n :: r)) [32]).1 = Lib.decDigits n ∧ (Lib.cut (lineN (n :: r)) [32]).2.1 = lineN r := by
 cases r with
 | nil =>
  have e : lineN [n] = Lib.decDigits n := by show Lib.decDigits n ++ tailN [] = _; rw [tailN_nil,List.append_nil]
  rw [e,cut_miss 32 _ (dec_no32 n)]
  exact ⟨rfl,rfl⟩
 | cons m r =>
  have e : lineN (n :: m :: r) = Lib.decDigits n ++ 32 :: lineN (m :: r) := by show Lib.decDigits n ++ tailN (m :: r) = _; rw [tailN_line]
  rw [e,cut_hit 32 _ _ (dec_no32 n)]
  exact ⟨rfl,rfl⟩
theorem numH_line {n : Nat} {r : List Nat} (h : n <= 1000000) : numH (mkB (lineN (n :: r))) = (n : Int) := by
 unfold numH
 rw [mkB_list,(cut_line n r).1,numI_dec h]
theorem nxtH_line (n : Nat) (r : List Nat) : nxtH (mkB (lineN (n :: r))) = mkB (lineN r) := by
 unfold nxtH
 rw [mkB_list,(cut_line n r).2]
theorem badT_line {t : ByteArray} {r : List Nat} {rest : List UInt8} (h : t.size <= 1000000) : badT (mkB (lineN (t.size :: r))) (mkB (t.data.toList ++ rest)) = false := by
 unfold badT
 rw [numH_line h,mkB_size,List.length_append]
 have e : t.data.toList.length = t.size := by simp
 simp
 omega
theorem txtH_line {t : ByteArray} {r : List Nat} {rest : List UInt8} (h : t.size <= 1000000) : txtH (mkB (lineN (t.size :: r))) (mkB (t.data.toList ++ rest)) = t := by
 unfold txtH
 rw [badT_line h,numH_line h]
 refine ba_ext ?_
 have e : t.data.toList.length = t.size := by simp
 simp only [Bool.false_eq_true,if_false,Int.toNat_natCast]
 rw [ext_take,mkB_list,<- e,List.take_left]
theorem bodH_line {t : ByteArray} {r : List Nat} {rest : List UInt8} (h : t.size <= 1000000) : bodH (mkB (lineN (t.size :: r))) (mkB (t.data.toList ++ rest)) = mkB rest := by
 unfold bodH
 rw [badT_line h,numH_line h]
 refine ba_ext ?_
 have e : t.data.toList.length = t.size := by simp
 simp only [Bool.false_eq_true,if_false,Int.toNat_natCast]
 rw [ByteArray.data_extract,Array.toList_extract,List.extract_eq_take_drop,mkB_list,mkB_list,mkB_size,<- e,List.drop_left,List.length_append,show t.data.toList.length + rest.length - t.data.toList.length = rest.length by omega,List.take_length]
def gvF (h b : ByteArray) : Nat -> ByteArray × ByteArray × List ByteArray
 | 0 => (h,b,[])
 | i + 1 => (nxtH (gvF h b i).1,bodH (gvF h b i).1 (gvF h b i).2.1,(gvF h b i).2.2 ++ [txtH (gvF h b i).1 (gvF h b i).2.1])
def cntN (h : ByteArray) : Nat := (min (numH h) 64).toNat
def hd0 (s : ByteArray) : ByteArray := mkB (Lib.cut s.data.toList [10]).1
def bd0 (s : ByteArray) : ByteArray := mkB (Lib.cut s.data.toList [10]).2.1
def nxtN (h : ByteArray) : Nat -> ByteArray
 | 0 => h
 | i + 1 => nxtH (nxtN h i)
def guessN (s : ByteArray) : Nt :=
 ⟨numH (hd0 s),numH (nxtN (hd0 s) 1),numH (nxtN (hd0 s) 2),numH (nxtN (hd0 s) 3),numH (nxtN (hd0 s) 4),txtH (nxtN (hd0 s) 5) (bd0 s),(gvF (nxtN (hd0 s) 7) (bodH (nxtN (hd0 s) 5) (bd0 s)) (cntN (nxtN (hd0 s) 6))).2.2⟩
theorem gvF_line {vs : List ByteArray} {cc : List UInt8} (h : ∀ y ∈ vs,y.size <= 24) : ∀ i,i <= vs.length -> gvF (mkB (lineN (vs.map ByteArray.size))) (mkB ((vs.map fun v => v.data.toList).flatten ++ cc)) i = (mkB (lineN ((vs.drop i).map ByteArray.size)),mkB (((vs.drop i).map fun v => v.data.toList).flatten ++ cc),vs.take i)
 | 0,_ => by simp [gvF]
 | i + 1,hi => by
  have ih := gvF_line h (cc := cc) i (by omega)
  have e : vs.drop i = vs[i] :: vs.drop (i + 1) := List.drop_eq_getElem_cons (by omega)
  have hs : (vs[i]'(by omega)).size <= 1000000 := by have := h _ (List.getElem_mem (l := vs) (n := i) (by omega)); omega
  show (nxtH (gvF _ _ i).1,bodH (gvF _ _ i).1 (gvF _ _ i).2.1,(gvF _ _ i).2.2 ++ [txtH (gvF _ _ i).1 (gvF _ _ i).2.1]) = _
  rw [ih]
  simp only
  rw [e,List.map_cons,List.map_cons,List.flatten_cons,List.append_assoc,nxtH_line,bodH_line hs,txtH_line hs,List.take_add_one,List.getElem?_eq_getElem (by omega)]
  rfl
theorem gvF_len (h b : ByteArray) : ∀ i,(gvF h b i).2.2.length = i
 | 0 => rfl
 | i + 1 => by show ((gvF h b i).2.2 ++ [_]).length = _; rw [List.length_append,gvF_len h b i]; rfl
theorem gvF_size (h b : ByteArray) : ∀ i,(gvF h b i).1.size <= h.size ∧ (gvF h b i).2.1.size <= b.size ∧ ∀ y ∈ (gvF h b i).2.2,y.size <= b.size
 | 0 => ⟨Nat.le_refl _,Nat.le_refl _,fun y hy => by cases hy⟩
 | i + 1 => by
  obtain ⟨h1,h2,h3⟩ := gvF_size h b i
  refine ⟨Nat.le_trans (nxtH_size _) h1,Nat.le_trans (bodH_size _ _) h2,fun y hy => ?_⟩
  rcases List.mem_append.1 hy with h4 | h4
  ·exact h3 y h4
  ·rw [List.mem_singleton.1 h4]; exact Nat.le_trans (txtH_size _ _) h2
theorem NtOf.guess {s : ByteArray} {x : Nt} (h : NtOf s x) : guessN s = x := by
 obtain ⟨cc,_,hl⟩ := h.line
 obtain ⟨h1,h2,h3,h4,h5,h6,h7,h8⟩ := noteOk_nat h.1
 have hsm := numsT_small h.1
 have e0 : hd0 s = mkB (lineN (x.k.toNat :: numsT x)) := by unfold hd0; rw [hl,cut_hit 10 (lineT x) _ (lineN_no10 _)]; rfl
 have b0 : bd0 s = mkB (x.tx.data.toList ++ ((x.vs.map fun v => v.data.toList).flatten ++ cc)) := by unfold bd0; rw [hl,cut_hit 10 (lineT x) _ (lineN_no10 _)]; simp [bodyT]
 have n1 : nxtN (hd0 s) 1 = mkB (lineN (numsT x)) := by show nxtH (hd0 s) = _; rw [e0,nxtH_line]
 have n2 : nxtN (hd0 s) 2 = mkB (lineN ([x.e.toNat,x.s.toNat,x.a.toNat,x.tx.size,x.vs.length] ++ x.vs.map ByteArray.size)) := by show nxtH (nxtN (hd0 s) 1) = _; rw [n1]; exact nxtH_line _ _
 have n3 : nxtN (hd0 s) 3 = mkB (lineN ([x.s.toNat,x.a.toNat,x.tx.size,x.vs.length] ++ x.vs.map ByteArray.size)) := by show nxtH (nxtN (hd0 s) 2) = _; rw [n2]; exact nxtH_line _ _
 have n4 : nxtN (hd0 s) 4 = mkB (lineN ([x.a.toNat,x.tx.size,x.vs.length] ++ x.vs.map ByteArray.size)) := by show nxtH (nxtN (hd0 s) 3) = _; rw [n3]; exact nxtH_line _ _
 have n5 : nxtN (hd0 s) 5 = mkB (lineN ([x.tx.size,x.vs.length] ++ x.vs.map ByteArray.size)) := by show nxtH (nxtN (hd0 s) 4) = _; rw [n4]; exact nxtH_line _ _
 have n6 : nxtN (hd0 s) 6 = mkB (lineN (x.vs.length :: x.vs.map ByteArray.size)) := by show nxtH (nxtN (hd0 s) 5) = _; rw [n5]; exact nxtH_line _ _
 have n7 : nxtN (hd0 s) 7 = mkB (lineN (x.vs.map ByteArray.size)) := by show nxtH (nxtN (hd0 s) 6) = _; rw [n6]; exact nxtH_line _ _
 have q0 : numH (hd0 s) = x.k := by rw [e0,numH_line (hsm _ (by simp))]; omega
 have q1 : numH (nxtN (hd0 s) 1) = x.tt := by rw [n1]; refine (numH_line (r := [x.e.toNat,x.s.toNat,x.a.toNat,x.tx.size,x.vs.length] ++ x.vs.map ByteArray.size) (by omega)).trans ?_; omega
 have q2 : numH (nxtN (hd0 s) 2) = x.e := by rw [n2]; refine (numH_line (n := x.e.toNat) (r := [x.s.toNat,x.a.toNat,x.tx.size,x.vs.length] ++ x.vs.map ByteArray.size) (by omega)).trans ?_; omega
 have q3 : numH (nxtN (hd0 s) 3) = x.s := by rw [n3]; refine (numH_line (n := x.s.toNat) (r := [x.a.toNat,x.tx.size,x.vs.length] ++ x.vs.map ByteArray.size) (by omega)).trans ?_; omega
 have q4 : numH (nxtN (hd0 s) 4) = x.a := by rw [n4]; refine (numH_line (n := x.a.toNat) (r := [x.tx.size,x.vs.length] ++ x.vs.map ByteArray.size) (by omega)).trans ?_; omega
 have q6 : cntN (nxtN (hd0 s) 6) = x.vs.length := by unfold cntN; rw [n6,numH_line (by omega)]; omega
 have t5 : txtH (nxtN (hd0 s) 5) (bd0 s) = x.tx := by rw [n5,b0]; exact txtH_line (r := x.vs.length :: x.vs.map ByteArray.size) (by omega)
 have b5 : bodH (nxtN (hd0 s) 5) (bd0 s) = mkB ((x.vs.map fun v => v.data.toList).flatten ++ cc) := by rw [n5,b0]; exact bodH_line (r := x.vs.length :: x.vs.map ByteArray.size) (by omega)
 unfold guessN
 rw [q0,q1,q2,q3,q4,q6,t5,b5,n7,gvF_line h8 _ (Nat.le_refl _),List.take_length]
theorem readNt_guess {s : ByteArray} : readNt s = if s.size ≠ 0 ∧ showNt (guessN s) = s then some (guessN s) else none := by
 split
 ·rename_i h
  exact readNt_some (ntOf_show h.1 h.2)
 ·rename_i h
  refine readNt_none fun x hx => h ⟨?_,?_⟩
  ·obtain ⟨cc,_,hl⟩ := hx.line
   have hz : s.data.toList.length = s.size := by simp
   rw [hl] at hz
   simp at hz
   omega
  ·rw [hx.guess]; exact hx.2.symm
end Go.Proofs.YtdjifickdcnacaaDoor
