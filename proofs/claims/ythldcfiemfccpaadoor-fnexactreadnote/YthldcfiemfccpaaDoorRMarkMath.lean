/- Several texts in one: MarkMath, MarkTold, MarkIs. -/
import Derived.Test.YthldcfiemfccpaaDoorRCheckSpec
import Derived.Lib.ItoaNum
import Derived.Test.YthldcfiemfccpaaDoorRBase
section
namespace Go.Proofs.YthldcfiemfccpaaDoor
open Go.RowKit
set_option linter.unusedVariables false
set_option maxRecDepth 20000

def isDig (c : UInt8) : Prop := 48 ≤ c.toNat ∧ c.toNat ≤ 57
instance (c : UInt8) : Decidable (isDig c) := by unfold isDig; infer_instance
/-- What a row of digits is worth, behind some worth v. -/
def valA (v : Nat) (l : List UInt8) : Nat := l.foldl (fun a c => 10 * a + (c.toNat - 48)) v
def valL (l : List UInt8) : Nat := valA 0 l
theorem valA_append (v : Nat) (a b : List UInt8) : valA v (a ++ b) = valA (valA v a) b := by simp [valA]
theorem valA_le : ∀ (b : List UInt8) (v : Nat), v ≤ valA v b
  | [], v => Nat.le_refl _
  | c :: b, v => by
    have h := valA_le b (10 * v + (c.toNat - 48))
    show v ≤ valA (10 * v + (c.toNat - 48)) b
    omega
theorem dig_of {d : Nat} (h : d < 10) : (UInt8.ofNat (48 + d)).toNat = 48 + d := by
  rw [UInt8.toNat_ofNat']
  omega
theorem dec_small {n : Nat} (h : n < 10) : Lib.decDigits n = [UInt8.ofNat (48 + n)] := Lib.decDigits_one h
theorem dec_snoc {n d : Nat} (hn : 1 ≤ n) (hd : d < 10) : Lib.decDigits (10 * n + d) = Lib.decDigits n ++ [UInt8.ofNat (48 + d)] := by
  rw [Lib.decDigits, dif_neg (by omega)]
  rw [show (10 * n + d) / 10 = n by omega, show (10 * n + d) % 10 = d by omega]
theorem dec_ind {P : Nat → Prop} (h0 : ∀ d, d < 10 → P d) (h1 : ∀ n d, 1 ≤ n → d < 10 → P n → P (10 * n + d)) : ∀ n, P n := by
  intro n
  induction n using Nat.strongRecOn with
  | _ n ih =>
    by_cases h : n < 10
    · exact h0 n h
    · have := h1 (n / 10) (n % 10) (by omega) (by omega) (ih (n / 10) (by omega))
      rwa [show 10 * (n / 10) + n % 10 = n by omega] at this
theorem dec_dig : ∀ n, ∀ c ∈ Lib.decDigits n, isDig c := by
  refine dec_ind ?_ ?_
  · intro d hd c hc
    rw [dec_small hd, List.mem_singleton] at hc
    rw [hc]; unfold isDig; rw [dig_of hd]; omega
  · intro n d hn hd ih c hc
    rw [dec_snoc hn hd] at hc
    rcases List.mem_append.1 hc with h | h
    · exact ih c h
    · rw [List.mem_singleton.1 h]; unfold isDig; rw [dig_of hd]; omega
theorem dec_val : ∀ n, valL (Lib.decDigits n) = n := by
  refine dec_ind ?_ ?_
  · intro d hd
    rw [dec_small hd]
    show 10 * 0 + ((UInt8.ofNat (48 + d)).toNat - 48) = d
    rw [dig_of hd]; omega
  · intro n d hn hd ih
    rw [dec_snoc hn hd]; unfold valL at ih ⊢
    rw [valA_append, ih]
    show 10 * n + ((UInt8.ofNat (48 + d)).toNat - 48) = 10 * n + d
    rw [dig_of hd]; omega
theorem dec_ne (n : Nat) : Lib.decDigits n ≠ [] := by
  intro h
  have := Lib.nDigits_pos n
  rw [← Lib.decDigits_length, h] at this
  simp at this
theorem dec_inj {a b : Nat} (h : Lib.decDigits a = Lib.decDigits b) : a = b := by rw [← dec_val a, ← dec_val b, h]
/-- No nought stands ahead. -/
theorem dec_head : ∀ n, ∀ c l, Lib.decDigits n = c :: l → c = 48 → n = 0 ∧ l = [] := by
  refine dec_ind ?_ ?_
  · intro d hd c l h hc
    rw [dec_small hd] at h
    injection h with h1 h2
    rw [hc] at h1
    have := congrArg UInt8.toNat h1
    rw [dig_of hd] at this
    exact ⟨by simp at this; omega, h2.symm⟩
  · intro n d hn hd ih c l h hc
    rw [dec_snoc hn hd] at h
    cases hl : Lib.decDigits n with
    | nil => exact absurd hl (dec_ne n)
    | cons c' l' =>
      rw [hl] at h
      injection h with h1 h2
      exact absurd (ih c' l' hl (h1.trans hc)).1 (by omega)
theorem dec_len {n : Nat} (h : n ≤ 1000000) : (Lib.decDigits n).length ≤ 7 := by
  rw [Lib.decDigits_length]
  by_cases h2 : Lib.nDigits n ≤ 7
  · exact h2
  · have := dec_val n
    exfalso
    have key : ∀ m, 10 ^ (Lib.nDigits m - 1) ≤ m ∨ m = 0 := by
      refine dec_ind ?_ ?_
      · intro d hd; rw [Lib.nDigits_small hd]; simp; omega
      · intro m d hm hd ih
        left
        rw [Lib.nDigits_big (by omega), show (10 * m + d) / 10 = m by omega]
        have h3 := Lib.nDigits_pos m
        rw [show Lib.nDigits m + 1 - 1 = (Lib.nDigits m - 1) + 1 by omega, Nat.pow_succ]
        omega
    rcases key n with h3 | h3
    · have : 10 ^ 7 ≤ 10 ^ (Lib.nDigits n - 1) := Nat.pow_le_pow_right (by omega) (by omega)
      omega
    · subst h3; rw [Lib.nDigits_small (by omega)] at h2; omega
theorem dec_no32 (n : Nat) : ∀ c ∈ Lib.decDigits n, c ≠ 32 := by
  intro c hc h
  have := dec_dig n c hc
  rw [h] at this
  exact absurd this (by decide)

/-- A row of digits behind which none comes is told by the text. -/
theorem run_one : ∀ (a b x y : List UInt8), (∀ c ∈ a, isDig c) → (∀ c ∈ b, isDig c) → (∀ c, x.head? = some c → ¬ isDig c) → (∀ c, y.head? = some c → ¬ isDig c) → a ++ x = b ++ y → a = b ∧ x = y
  | [], [], x, y, _, _, _, _, h => ⟨rfl, h⟩
  | [], c :: b, x, y, _, hb, hx, _, h => by
    exfalso
    rw [List.nil_append] at h
    exact hx c (by rw [h]; rfl) (hb c (List.mem_cons_self ..))
  | c :: a, [], x, y, ha, _, _, hy, h => by
    exfalso
    rw [List.nil_append] at h
    exact hy c (by rw [← h]; rfl) (ha c (List.mem_cons_self ..))
  | c :: a, d :: b, x, y, ha, hb, hx, hy, h => by
    injection h with h1 h2
    obtain ⟨h3, h4⟩ := run_one a b x y (fun e he => ha e (List.mem_cons_of_mem _ he)) (fun e he => hb e (List.mem_cons_of_mem _ he)) hx hy h2
    exact ⟨by rw [h1, h3], h4⟩

/-- What stands ahead of the check. -/
def lineL (e q : Nat) (b : Bool) : List UInt8 := Lib.decDigits e ++ 32 :: (Lib.decDigits q ++ 32 :: [if b then 49 else 48])
theorem lineL_inj {e q e' q' : Nat} {b b' : Bool} (h : lineL e q b = lineL e' q' b') : e = e' ∧ q = q' ∧ b = b' := by
  have n32 : ∀ l : List UInt8, ∀ c, (32 :: l).head? = some c → ¬ isDig c := by
    intro l c hc
    injection hc with hc
    rw [← hc]; decide
  obtain ⟨h1, h2⟩ := run_one _ _ _ _ (dec_dig e) (dec_dig e') (n32 _) (n32 _) h
  injection h2 with _ h2
  obtain ⟨h3, h4⟩ := run_one _ _ _ _ (dec_dig q) (dec_dig q') (n32 _) (n32 _) h2
  refine ⟨dec_inj h1, dec_inj h3, ?_⟩
  cases b <;> cases b' <;> first | rfl | (simp at h4)
theorem lineL_len {e q : Nat} {b : Bool} (he : e ≤ 1000000) (hq : q ≤ 1000000) : (lineL e q b).length ≤ 17 := by
  have h1 := dec_len he
  have h2 := dec_len hq
  simp [lineL]
  omega
def lineB (e q : Nat) (b : Bool) : ByteArray := ⟨(lineL e q b).toArray⟩
theorem lineB_inj {e q e' q' : Nat} {b b' : Bool} (h : lineB e q b = lineB e' q' b') : e = e' ∧ q = q' ∧ b = b' := by
  refine lineL_inj ?_
  have := congrArg (fun s : ByteArray => s.data.toList) h
  simpa [lineB] using this
theorem checked_ext (s : ByteArray) : (checked s).extract 0 ((checked s).size - 2) = s := by
  rw [checked_size, show s.size + 2 - 2 = s.size by omega]
  unfold checked
  apply ByteArray.ext
  simp [ByteArray.data_extract, ByteArray.data_append]
theorem checked_inj {a b : ByteArray} (h : checked a = checked b) : a = b := by rw [← checked_ext a, ← checked_ext b, h]
def showN (e q : Nat) (b : Bool) : ByteArray := checked (lineB e q b)
theorem showN_inj {e q e' q' : Nat} {b b' : Bool} (h : showN e q b = showN e' q' b') : e = e' ∧ q = q' ∧ b = b' := lineB_inj (checked_inj h)
theorem lineB_size (e q : Nat) (b : Bool) : (lineB e q b).size = (lineL e q b).length := by simp [lineB, ByteArray.size]
theorem showN_size {e q : Nat} {b : Bool} (he : e ≤ 1000000) (hq : q ≤ 1000000) : (showN e q b).size ≤ 19 := by
  unfold showN
  rw [checked_size, lineB_size]
  have := lineL_len (b := b) he hq
  omega
abbrev Mk := Nat × Nat × Bool
def MkIn (m : Mk) : Prop := m.1 ≤ 1000000 ∧ m.2.1 ≤ 1000000
instance (m : Mk) : Decidable (MkIn m) := by unfold MkIn; infer_instance
/-- Is the text this mark's? -/
def MkOf (s : ByteArray) (m : Mk) : Prop := MkIn m ∧ s = showN m.1 m.2.1 m.2.2
theorem MkOf.one {s : ByteArray} {m m' : Mk} (h : MkOf s m) (h' : MkOf s m') : m = m' := by
  obtain ⟨a, b, c⟩ := showN_inj (h.2.symm.trans h'.2)
  exact Prod.ext a (Prod.ext b c)
open Classical in
noncomputable def readM (s : ByteArray) : Option Mk := if h : ∃ m, MkOf s m then some (Classical.choose h) else none
theorem readM_some {s : ByteArray} {m : Mk} (h : MkOf s m) : readM s = some m := by
  have hx : ∃ m, MkOf s m := ⟨m, h⟩
  unfold readM
  rw [dif_pos hx, (Classical.choose_spec hx).one h]
theorem readM_none {s : ByteArray} (h : ∀ m, ¬ MkOf s m) : readM s = none := by
  unfold readM
  rw [dif_neg (fun ⟨m, hm⟩ => h m hm)]
theorem readM_of {s : ByteArray} {m : Mk} (h : readM s = some m) : MkOf s m := by
  unfold readM at h
  split at h
  · injection h with h; rw [← h]; exact Classical.choose_spec _
  · cases h
theorem MkOf.whole {s : ByteArray} {m : Mk} (h : MkOf s m) : whole s = true := by
  rw [h.2]
  unfold Go.Proofs.YthldcfiemfccpaaDoor.whole showN
  rw [checked_ext]
  simp [checked_size]
/-- A whole text is a mark's where what stands ahead of its check is. -/
theorem MkOf.line {s : ByteArray} {m : Mk} (h : MkOf s m) : (s.extract 0 (s.size - 2)).data.toList = lineL m.1 m.2.1 m.2.2 := by
  rw [h.2]
  unfold showN
  rw [checked_ext]
  simp [lineB]
theorem mkOf_line {s : ByteArray} {m : Mk} (hw : whole s = true) (hm : MkIn m) (h : (s.extract 0 (s.size - 2)).data.toList = lineL m.1 m.2.1 m.2.2) : MkOf s m := by
  refine ⟨hm, ?_⟩
  unfold whole at hw
  simp at hw
  rw [← hw.2]
  unfold showN lineB
  rw [← h]

/-- Less, by Epoch, then Seq. -/
def lessM (a b : Mk) : Bool := decide (a.1 < b.1) || (decide (a.1 = b.1) && decide (a.2.1 < b.2.1))
/-- The newest of two slots, and its number. -/
def newM : Option Mk → Option Mk → Option (Mk × Nat)
  | some a, some b => if lessM a b then some (b, 1) else some (a, 0)
  | some a, none => some (a, 0)
  | none, some b => some (b, 1)
  | none, none => none
def slotsOk (l : List ByteArray) : Bool := decide (l.length = 2) && l.all fun s => decide (s.size ≤ 40)
noncomputable def newestF (l : List ByteArray) : Option (Mk × Nat) :=
  match l with
  | [s, t] => if slotsOk [s, t] then newM (readM s) (readM t) else none
  | _ => none
/-- A mark that is handed in: numbers as they are. -/
abbrev Mi := Int × Int × Bool
def miIn (m : Mi) : Bool := decide (0 ≤ m.1) && decide (m.1 ≤ 1000000) && decide (0 ≤ m.2.1) && decide (m.2.1 ≤ 1000000)
def mkI (m : Mi) : Mk := (m.1.toNat, m.2.1.toNat, m.2.2)
def showF (m : Mi) : ByteArray := if miIn m then showN m.1.toNat m.2.1.toNat m.2.2 else ⟨#[]⟩
/-- The slot that a mark comes into. -/
noncomputable def intoF (l : List ByteArray) (m : Mi) : Option Nat :=
  if slotsOk l && miIn m then
    match newestF l with
    | some (n, k) => if lessM (mkI m) n then none else some (1 - k)
    | none => some 0
  else none
noncomputable def markedF (l : List ByteArray) (m : Mi) : List ByteArray :=
  if slotsOk l then match intoF l m with | some k => l.set k (showF m) | none => l else []
/-- How many bytes of n are there. -/
def cutN (k : Int) (n : Nat) : Nat := min k.toNat n
noncomputable def markCutF (l : List ByteArray) (m : Mi) (k : Int) : List ByteArray :=
  match intoF l m with | some j => l.set j ((showF m).extract 0 (cutN k (showF m).size)) | none => l
end Go.Proofs.YthldcfiemfccpaaDoor
end

section
namespace Go.Proofs.YthldcfiemfccpaaDoor
open Go.RowKit
def optV : Option Mk → Value
  | some m => markV (m.1 : Int) (m.2.1 : Int) m.2.2
  | none => markV 0 0 false
/-- The newest of the first ones, and where it is. -/
noncomputable def mstAt (s0 s1 : ByteArray) : Nat → Option (Mk × Nat)
  | 0 => none
  | 1 => (readM s0).map fun m => (m, 0)
  | _ => newM (readM s0) (readM s1)
def atV (st : Option (Mk × Nat)) : Int := match st with | some p => (p.2 : Int) | none => -1
def stM (st : Option (Mk × Nat)) : Mk := match st with | some p => p.1 | none => (0, 0, false)
/-- What Newest tells. -/
def newV (st : Option (Mk × Nat)) : Value := .tuple #[markV ((stM st).1 : Int) ((stM st).2.1 : Int) (stM st).2.2, .int .i64 (atV st)]
theorem newestF_two (s0 s1 : ByteArray) (h : slotsOk [s0, s1] = true) : newestF [s0, s1] = mstAt s0 s1 2 := by
  unfold newestF
  simp [h, mstAt]
theorem newestF_no {l : List ByteArray} (h : slotsOk l = false) : newestF l = none := by
  unfold newestF
  split
  · rw [h]; rfl
  · rfl

theorem mark_inj {m : Mk} {E Q : Nat} {B : Bool} (h : optV (some m) = markV (E : Int) (Q : Int) B) : m = (E, Q, B) := by
  obtain ⟨e, q, b⟩ := m
  unfold optV markV at h
  simp only [Value.agg.injEq, Array.mk.injEq, List.cons.injEq, Value.int.injEq, Value.bool.injEq, true_and, and_true] at h
  obtain ⟨h1, h2, h3⟩ := h
  have h1' : e = E := by omega
  have h2' : q = Q := by omega
  rw [h1', h2', h3]
end Go.Proofs.YthldcfiemfccpaaDoor
end

section
namespace Go.Proofs.YthldcfiemfccpaaDoor
open Go.RowKit
set_option linter.unusedVariables false
set_option linter.unusedSimpArgs false
set_option maxRecDepth 20000

set_option maxHeartbeats 800000 in
theorem isMark_any (e q : Int) (b : Bool) (w : World) :
    Calls Tryd.prog 34 #[markV e q b] w fun r w' => r = .returned (.bool (miIn (e, q, b))) ∧ Below w.heap.size w w' := by
  have HB0 : Hid (Below w.heap.size w (w.alloc (.cells #[.int .i64 e, .int .i64 q, .bool b] 56))) := (Below.refl _ _).alloc (Nat.le_refl _) _
  unfold markV
  by_cases h1 : 0 ≤ e
  · by_cases h2 : e ≤ 1000000
    · by_cases h3 : 0 ≤ q
      · go_enter Tryd.func34, Tryd.ntmps34
        go_wp2_with fail
        go_ret
        exact ⟨by simp [miIn, h1, h2, h3] <;> omega, HB0.out⟩
      · go_enter Tryd.func34, Tryd.ntmps34
        go_wp2_with fail
        go_ret
        exact ⟨by simp [miIn, h1, h2, h3] <;> omega, HB0.out⟩
    · go_enter Tryd.func34, Tryd.ntmps34
      go_wp2_with fail
      go_ret
      exact ⟨by simp [miIn, h1, h2] <;> omega, HB0.out⟩
  · go_enter Tryd.func34, Tryd.ntmps34
    go_wp2_with fail
    go_ret
    exact ⟨by simp [miIn, h1] <;> omega, HB0.out⟩

end Go.Proofs.YthldcfiemfccpaaDoor
end

