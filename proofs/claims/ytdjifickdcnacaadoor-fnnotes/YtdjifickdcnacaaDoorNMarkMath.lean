/- Several texts in one: MarkMath, MarkTold, MarkIs. -/
import Derived.Test.YtdjifickdcnacaaDoorNCheckSpec
import Derived.Lib.ItoaNum
import Derived.Test.YtdjifickdcnacaaDoorNBase
section
namespace Go.Proofs.YtdjifickdcnacaaDoor
open Go.RowKit
set_option linter.unusedVariables false
set_option maxRecDepth 20000
def isDig (c : UInt8) : Prop := 48 <= c.toNat ∧ c.toNat <= 57
instance (c : UInt8) : Decidable (isDig c) := by unfold isDig; infer_instance
def valA (v : Nat) (l : List UInt8) : Nat := l.foldl (fun a c => 10 * a + (c.toNat - 48)) v
def valL (l : List UInt8) : Nat := valA 0 l
theorem valA_append (v : Nat) (a b : List UInt8) : valA v (a ++ b) = valA (valA v a) b := by simp [valA]
theorem valA_le : ∀ (b : List UInt8) (v : Nat),v <= valA v b
 | [],v => Nat.le_refl _
 | c :: b,v => by
  have h := valA_le b (10 * v + (c.toNat - 48))
  show v <= valA (10 * v + (c.toNat - 48)) b
  omega
theorem dig_of {d : Nat} (h : d < 10) : (UInt8.ofNat (48 + d)).toNat = 48 + d := by
 rw [UInt8.toNat_ofNat']
 omega
theorem dec_small {n : Nat} (h : n < 10) : Lib.decDigits n = [UInt8.ofNat (48 + n)] := Lib.decDigits_one h
theorem dec_snoc {n d : Nat} (hn : 1 <= n) (hd : d < 10) : Lib.decDigits (10 * n + d) = Lib.decDigits n ++ [UInt8.ofNat (48 + d)] := by
 rw [Lib.decDigits,dif_neg (by omega)]
 rw [show (10 * n + d) / 10 = n by omega,show (10 * n + d) % 10 = d by omega]
theorem dec_ind {P : Nat -> Prop} (h0 : ∀ d,d < 10 -> P d) (h1 : ∀ n d,1 <= n -> d < 10 -> P n -> P (10 * n + d)) : ∀ n,P n := by
 intro n
 induction n using Nat.strongRecOn with
 | _ n ih =>
  by_cases h : n < 10
  ·exact h0 n h
  ·have := h1 (n / 10) (n % 10) (by omega) (by omega) (ih (n / 10) (by omega))
   rwa [show 10 * (n / 10) + n % 10 = n by omega] at this
theorem dec_dig : ∀ n,∀ c ∈ Lib.decDigits n,isDig c := by
 refine dec_ind ?_ ?_
 ·intro d hd c hc
  rw [dec_small hd,List.mem_singleton] at hc
  rw [hc]; unfold isDig; rw [dig_of hd]; omega
 ·intro n d hn hd ih c hc
  rw [dec_snoc hn hd] at hc
  rcases List.mem_append.1 hc with h | h
  ·exact ih c h
  ·rw [List.mem_singleton.1 h]; unfold isDig; rw [dig_of hd]; omega
theorem dec_val : ∀ n,valL (Lib.decDigits n) = n := by
 refine dec_ind ?_ ?_
 ·intro d hd
  rw [dec_small hd]
  show 10 * 0 + ((UInt8.ofNat (48 + d)).toNat - 48) = d
  rw [dig_of hd]; omega
 ·intro n d hn hd ih
  rw [dec_snoc hn hd]; unfold valL at ih ⊢
  rw [valA_append,ih]
  show 10 * n + ((UInt8.ofNat (48 + d)).toNat - 48) = 10 * n + d
  rw [dig_of hd]; omega
theorem dec_ne (n : Nat) : Lib.decDigits n ≠ [] := by
 intro h
 have := Lib.nDigits_pos n
 rw [<- Lib.decDigits_length,h] at this
 simp at this
theorem dec_inj {a b : Nat} (h : Lib.decDigits a = Lib.decDigits b) : a = b := by rw [<- dec_val a,<- dec_val b,h]
theorem dec_head : ∀ n,∀ c l,Lib.decDigits n = c :: l -> c = 48 -> n = 0 ∧ l = [] := by
 refine dec_ind ?_ ?_
 ·intro d hd c l h hc
  rw [dec_small hd] at h
  injection h with h1 h2
  rw [hc] at h1
  have := congrArg UInt8.toNat h1
  rw [dig_of hd] at this
  exact ⟨by simp at this; omega,h2.symm⟩
 ·intro n d hn hd ih c l h hc
  rw [dec_snoc hn hd] at h
  cases hl : Lib.decDigits n with
  | nil => exact absurd hl (dec_ne n)
  | cons c' l' =>
   rw [hl] at h
   injection h with h1 h2
   exact absurd (ih c' l' hl (h1.trans hc)).1 (by omega)
theorem dec_len {n : Nat} (h : n <= 1000000) : (Lib.decDigits n).length <= 7 := by
 rw [Lib.decDigits_length]
 by_cases h2 : Lib.nDigits n <= 7
 ·exact h2
 ·have := dec_val n
  exfalso
  have key : ∀ m,10 ^ (Lib.nDigits m - 1) <= m ∨ m = 0 := by
   refine dec_ind ?_ ?_
   ·intro d hd; rw [Lib.nDigits_small hd]; simp; omega
   ·intro m d hm hd ih
    left
    rw [Lib.nDigits_big (by omega),show (10 * m + d) / 10 = m by omega]
    have h3 := Lib.nDigits_pos m
    rw [show Lib.nDigits m + 1 - 1 = (Lib.nDigits m - 1) + 1 by omega,Nat.pow_succ]
    omega
  rcases key n with h3 | h3
  ·have : 10 ^ 7 <= 10 ^ (Lib.nDigits n - 1) := Nat.pow_le_pow_right (by omega) (by omega)
   omega
  ·subst h3; rw [Lib.nDigits_small (by omega)] at h2; omega
theorem dec_no32 (n : Nat) : ∀ c ∈ Lib.decDigits n,c ≠ 32 := by
 intro c hc h
 have := dec_dig n c hc
 rw [h] at this
 exact absurd this (by decide)
theorem run_one : ∀ (a b x y : List UInt8),(∀ c ∈ a,isDig c) -> (∀ c ∈ b,isDig c) -> (∀ c,x.head? = some c -> ¬ isDig c) -> (∀ c,y.head? = some c -> ¬ isDig c) -> a ++ x = b ++ y -> a = b ∧ x = y
 | [],[],x,y,_,_,_,_,h => ⟨rfl,h⟩
 | [],c :: b,x,y,_,hb,hx,_,h => by
  exfalso
  rw [List.nil_append] at h
  exact hx c (by rw [h]; rfl) (hb c (List.mem_cons_self ..))
 | c :: a,[],x,y,ha,_,_,hy,h => by
  exfalso
  rw [List.nil_append] at h
  exact hy c (by rw [<- h]; rfl) (ha c (List.mem_cons_self ..))
 | c :: a,d :: b,x,y,ha,hb,hx,hy,h => by
  injection h with h1 h2
  obtain ⟨h3,h4⟩ := run_one a b x y (fun e he => ha e (List.mem_cons_of_mem _ he)) (fun e he => hb e (List.mem_cons_of_mem _ he)) hx hy h2
  exact ⟨by rw [h1,h3],h4⟩
def lineL (e q : Nat) (b : Bool) : List UInt8 := Lib.decDigits e ++ 32 :: (Lib.decDigits q ++ 32 :: [if b then 49 else 48])
theorem lineL_inj {e q e' q' : Nat} {b b' : Bool} (h : lineL e q b = lineL e' q' b') : e = e' ∧ q = q' ∧ b = b' := by
 have n32 : ∀ l : List UInt8,∀ c,(32 :: l).head? = some c -> ¬ isDig c := by
  intro l c hc
  injection hc with hc
  rw [<- hc]; decide
 obtain ⟨h1,h2⟩ := run_one _ _ _ _ (dec_dig e) (dec_dig e') (n32 _) (n32 _) h
 injection h2 with _ h2
 obtain ⟨h3,h4⟩ := run_one _ _ _ _ (dec_dig q) (dec_dig q') (n32 _) (n32 _) h2
 refine ⟨dec_inj h1,dec_inj h3,?_⟩
 cases b <;> cases b' <;> first | rfl | (simp at h4)
def lineB (e q : Nat) (b : Bool) : ByteArray := ⟨(lineL e q b).toArray⟩
theorem lineB_inj {e q e' q' : Nat} {b b' : Bool} (h : lineB e q b = lineB e' q' b') : e = e' ∧ q = q' ∧ b = b' := by
 refine lineL_inj ?_
 have := congrArg (fun s : ByteArray => s.data.toList) h
 simpa [lineB] using this
theorem checked_ext (s : ByteArray) : (checked s).extract 0 ((checked s).size - 2) = s := by
 rw [checked_size,show s.size + 2 - 2 = s.size by omega]
 unfold checked
 apply ByteArray.ext
 simp [ByteArray.data_extract,ByteArray.data_append]
theorem checked_inj {a b : ByteArray} (h : checked a = checked b) : a = b := by rw [<- checked_ext a,<- checked_ext b,h]
def showN (e q : Nat) (b : Bool) : ByteArray := checked (lineB e q b)
theorem showN_inj {e q e' q' : Nat} {b b' : Bool} (h : showN e q b = showN e' q' b') : e = e' ∧ q = q' ∧ b = b' := lineB_inj (checked_inj h)
abbrev Mk := Nat × Nat × Bool
def MkIn (m : Mk) : Prop := m.1 <= 1000000 ∧ m.2.1 <= 1000000
instance (m : Mk) : Decidable (MkIn m) := by unfold MkIn; infer_instance
def MkOf (s : ByteArray) (m : Mk) : Prop := MkIn m ∧ s = showN m.1 m.2.1 m.2.2
theorem MkOf.one {s : ByteArray} {m m' : Mk} (h : MkOf s m) (h' : MkOf s m') : m = m' := by
 obtain ⟨a,b,c⟩ := showN_inj (h.2.symm.trans h'.2)
 exact Prod.ext a (Prod.ext b c)
open Classical in
theorem MkOf.whole {s : ByteArray} {m : Mk} (h : MkOf s m) : whole s = true := by
 rw [h.2]
 unfold Go.Proofs.YtdjifickdcnacaaDoor.whole showN
 rw [checked_ext]
 simp [checked_size]
theorem MkOf.line {s : ByteArray} {m : Mk} (h : MkOf s m) : (s.extract 0 (s.size - 2)).data.toList = lineL m.1 m.2.1 m.2.2 := by
 rw [h.2]
 unfold showN
 rw [checked_ext]
 simp [lineB]
abbrev Mi := Int × Int × Bool
def miIn (m : Mi) : Bool := decide (0 <= m.1) && decide (m.1 <= 1000000) && decide (0 <= m.2.1) && decide (m.2.1 <= 1000000)
end Go.Proofs.YtdjifickdcnacaaDoor
end

section
namespace Go.Proofs.YtdjifickdcnacaaDoor
open Go.RowKit
end Go.Proofs.YtdjifickdcnacaaDoor
end

section
namespace Go.Proofs.YtdjifickdcnacaaDoor
open Go.RowKit
set_option linter.unusedVariables false
set_option linter.unusedSimpArgs false
set_option maxRecDepth 20000
set_option maxHeartbeats 800000 in
theorem isMark_any (e q : Int) (b : Bool) (w : World) :
  Calls Tryd.prog 63 #[markV e q b] w fun r w' => r = .returned (.bool (miIn (e,q,b))) ∧ Below w.heap.size w w' := by
 have HB0 : Hid (Below w.heap.size w (w.alloc (.cells #[.int .i64 e,.int .i64 q,.bool b] 37))) := (Below.refl _ _).alloc (Nat.le_refl _) _
 unfold markV
 by_cases h1 : 0 <= e
 ·by_cases h2 : e <= 1000000
  ·by_cases h3 : 0 <= q
   ·go_enter Tryd.func63,Tryd.ntmps63
    go_wp2_with fail
    go_ret
    exact ⟨by simp [miIn,h1,h2,h3] <;> omega,HB0.out⟩
   ·go_enter Tryd.func63,Tryd.ntmps63
    go_wp2_with fail
    go_ret
    exact ⟨by simp [miIn,h1,h2,h3] <;> omega,HB0.out⟩
  ·go_enter Tryd.func63,Tryd.ntmps63
   go_wp2_with fail
   go_ret
   exact ⟨by simp [miIn,h1,h2] <;> omega,HB0.out⟩
 ·go_enter Tryd.func63,Tryd.ntmps63
  go_wp2_with fail
  go_ret
  exact ⟨by simp [miIn,h1] <;> omega,HB0.out⟩
end Go.Proofs.YtdjifickdcnacaaDoor
end

