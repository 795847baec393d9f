/- Several texts in one: MarkImplA, MarkTold. -/
import Derived.Test.YteooaljhdmmooaaDoorMDMarkMath
import Derived.Test.YteooaljhdmmooaaDoorMDBase
import Derived.Test.YteooaljhdmmooaaDoorMDCheckImpl
section
namespace Go.Proofs.YteooaljhdmmooaaDoor
open Go.RowKit
set_option linter.unusedVariables false
set_option linter.unusedSimpArgs false
set_option maxRecDepth 20000

/-- The byte at a place, 0 behind the end. -/
def mbyteN (s : ByteArray) (k : Nat) : Nat := if h : k < s.size then s[k].toNat else 0
theorem mbyteN_lt (s : ByteArray) (k : Nat) : mbyteN s k < 256 := by unfold mbyteN; split; exact UInt8.toNat_lt _; omega
theorem byteAt_any (s : ByteArray) (k : Nat) (hs : s.size ≤ 1048580) (hk : k ≤ s.size) (w : World) :
    Calls Tryd.prog 66 #[.string s, .int .i64 (k : Int)] w fun r w' => r = .returned (.int .u8 (mbyteN s k : Int)) ∧ w' = w := by
  by_cases h : k < s.size
  · go_enter Tryd.func66, Tryd.ntmps66
    go_wp2_with fail
    go_ret
    exact ⟨by unfold mbyteN; rw [dif_pos h]; rfl, rfl⟩
  · obtain rfl : k = s.size := by omega
    go_enter Tryd.func66, Tryd.ntmps66
    go_wp2_with fail
    go_ret
    exact ⟨by unfold mbyteN; rw [dif_neg h]; rfl, rfl⟩
def digN (c : Nat) : Bool := decide (48 ≤ c) && decide (c ≤ 57)
theorem isDigit_any (c : Nat) (hc : c < 256) (w : World) :
    Calls Tryd.prog 65 #[.int .u8 (c : Int)] w fun r w' => r = .returned (.bool (digN c)) ∧ w' = w := by
  by_cases h : 48 ≤ c
  · have h1 : (48 : Int) ≤ (c : Int) := by omega
    by_cases h2 : c ≤ 57
    · have h3 : (c : Int) ≤ 57 := by omega
      have HD : Hid (digN c = true) := by show _ = _; simp [digN, h, h2]
      go_enter Tryd.func65, Tryd.ntmps65
      go_wp2_with fail
      go_ret
      exact ⟨by rw [HD.out]; simp; try omega, rfl⟩
    · have h3 : ¬ (c : Int) ≤ 57 := by omega
      have HD : Hid (digN c = false) := by show _ = _; simp [digN, h, h2]
      go_enter Tryd.func65, Tryd.ntmps65
      go_wp2_with fail
      go_ret
      exact ⟨by rw [HD.out]; simp; try omega, rfl⟩
  · have h1 : ¬ (48 : Int) ≤ (c : Int) := by omega
    have HD : Hid (digN c = false) := by show _ = _; simp [digN, h]
    go_enter Tryd.func65, Tryd.ntmps65
    go_wp2_with fail
    go_ret
    exact ⟨by rw [HD.out]; simp; try omega, rfl⟩
theorem digitAt_any (s : ByteArray) (k d : Nat) (hs : s.size ≤ 1048580) (hk : k < s.size) (hd : mbyteN s k = 48 + d) (hd9 : d ≤ 9) (w : World) :
    Calls Tryd.prog 67 #[.string s, .int .i64 (k : Int)] w fun r w' => r = .returned (.int .i64 (d : Int)) ∧ w' = w := by
  have hb : (s[k].toNat : Int) = 48 + (d : Int) := by
    unfold mbyteN at hd
    rw [dif_pos hk] at hd
    omega
  have hs2 : (48 + (d : Int)) - 48 = (d : Int) := by omega
  clear hd
  go_enter Tryd.func67, Tryd.ntmps67
  go_wp2_with fail
  go_ret
  exact ⟨by simp [hb, hs2], rfl⟩

theorem drop_at (s : ByteArray) (k : Nat) (h : k < s.size) : s.data.toList.drop k = s[k] :: s.data.toList.drop (k + 1) := by
  rw [List.drop_eq_getElem_cons (by simpa using h)]
  congr 1
theorem digN_at {s : ByteArray} {k : Nat} (h : digN (mbyteN s k) = true) : ∃ (hk : k < s.size) (d : Nat), d ≤ 9 ∧ mbyteN s k = 48 + d ∧ s[k] = UInt8.ofNat (48 + d) := by
  unfold digN mbyteN at h
  simp only [Bool.and_eq_true, decide_eq_true_eq] at h
  by_cases hk : k < s.size
  · rw [dif_pos hk] at h
    refine ⟨hk, s[k].toNat - 48, by omega, by unfold mbyteN; rw [dif_pos hk]; omega, ?_⟩
    apply UInt8.toNat_inj.1
    rw [dig_of (by omega)]
    omega
  · rw [dif_neg hk] at h; omega
theorem digN_not {s : ByteArray} {k : Nat} (h : digN (mbyteN s k) = false) : ∀ c, (s.data.toList.drop k).head? = some c → ¬ isDig c := by
  intro c hc hd
  by_cases hk : k < s.size
  · rw [drop_at s k hk] at hc
    injection hc with hc
    unfold digN mbyteN at h
    rw [dif_pos hk, hc] at h
    unfold isDig at hd
    simp [hd.1, hd.2] at h
  · rw [List.drop_eq_nil_of_le (by simp; omega)] at hc
    cases hc
theorem blank_at {s : ByteArray} {k : Nat} (h : mbyteN s k = 32) : k < s.size ∧ s.data.toList.drop k = 32 :: s.data.toList.drop (k + 1) := by
  unfold mbyteN at h
  split at h
  · rename_i hk
    refine ⟨hk, ?_⟩
    rw [drop_at s k hk]
    congr 1
    exact UInt8.toNat_inj.1 h
  · cases h
theorem blank_not {s : ByteArray} {k : Nat} (h : mbyteN s k ≠ 32) : ∀ t, s.data.toList.drop k ≠ 32 :: t := by
  intro t e
  have hk : k < s.size := by
    rcases Nat.lt_or_ge k s.size with h | h
    · exact h
    · rw [List.drop_eq_nil_of_le (by simpa using h)] at e; cases e
  rw [drop_at s k hk] at e
  injection e with e1 _
  apply h
  unfold mbyteN
  rw [dif_pos hk, e1]
  rfl

/-- No number that may be a mark's, and a blank, stand ahead. -/
def NumNo (r : List UInt8) : Prop := ∀ k : Nat, k ≤ 1000000 → ∀ t, r ≠ Lib.decDigits k ++ 32 :: t
/-- No mark's line. -/
def NoLine (l : List UInt8) : Prop := ∀ e q b, e ≤ 1000000 → q ≤ 1000000 → l ≠ lineL e q b
theorem n32 : ∀ t : List UInt8, ∀ c, (32 :: t).head? = some c → ¬ isDig c := by
  intro l c hc
  injection hc with hc
  rw [← hc]; decide
theorem numNo_head {r : List UInt8} (h : ∀ c, r.head? = some c → ¬ isDig c) : NumNo r := by
  intro k hk t e
  cases hl : Lib.decDigits k with
  | nil => exact dec_ne k hl
  | cons c l =>
    rw [hl] at e
    exact h c (by rw [e]; rfl) (dec_dig k c (by rw [hl]; exact List.mem_cons_self ..))
theorem pre_run : ∀ (a b x y : List UInt8), (∀ c ∈ a, isDig c) → (∀ c, y.head? = some c → ¬ isDig c) → a ++ x = b ++ y → ∃ t, b = a ++ t
  | [], b, x, y, _, _, _ => ⟨b, rfl⟩
  | c :: a, [], x, y, ha, hy, h => by
    exfalso
    exact hy c (by rw [List.nil_append] at h; rw [← h]; rfl) (ha c (List.mem_cons_self ..))
  | c :: a, d :: b, x, y, ha, hy, h => by
    injection h with h1 h2
    obtain ⟨t, ht⟩ := pre_run a b x y (fun e he => ha e (List.mem_cons_of_mem _ he)) hy h2
    exact ⟨t, by rw [h1, ht]; rfl⟩
theorem numNo_over {r x : List UInt8} {c : Nat} (h : r = Lib.decDigits c ++ x) (hc : 1000000 < c) : NumNo r := by
  intro k hk t e
  obtain ⟨u, hu⟩ := pre_run _ _ _ _ (dec_dig c) (n32 t) (h.symm.trans e)
  have h1 := congrArg valL hu
  rw [dec_val] at h1
  unfold valL at h1
  rw [valA_append] at h1
  have h2 := valA_le u (valA 0 (Lib.decDigits c))
  have h3 := dec_val c
  unfold valL at h3
  omega
theorem numNo_blank {r x : List UInt8} {c : Nat} (h : r = Lib.decDigits c ++ x) (hb : ∀ t, x ≠ 32 :: t) (hd : (∀ z, x.head? = some z → ¬ isDig z) ∨ c = 0) : NumNo r := by
  intro k hk t e
  rcases hd with hd | rfl
  · obtain ⟨_, h2⟩ := run_one _ _ _ _ (dec_dig c) (dec_dig k) hd (n32 t) (h.symm.trans e)
    exact hb t h2
  · have e2 := h.symm.trans e
    rw [dec_small (n := 0) (by omega)] at e2
    cases hl : Lib.decDigits k with
    | nil => exact dec_ne k hl
    | cons z l =>
      rw [hl] at e2
      injection e2 with e3 e4
      obtain ⟨_, h3⟩ := dec_head k z l hl (by rw [← e3]; rfl)
      rw [h3] at e4
      exact hb t e4
theorem noLine_first {l : List UInt8} (h : NumNo l) : NoLine l := fun e q b he hq hl => h e he _ hl
theorem noLine_second {l r : List UInt8} {n : Nat} (h0 : l = Lib.decDigits n ++ 32 :: r) (h : NumNo r) : NoLine l := by
  intro e q b he hq hl
  obtain ⟨_, h2⟩ := run_one _ _ _ _ (dec_dig n) (dec_dig e) (n32 _) (n32 _) (h0.symm.trans hl)
  injection h2 with _ h2
  exact h q hq _ h2
theorem noLine_flag {l r : List UInt8} {n m : Nat} (h0 : l = Lib.decDigits n ++ 32 :: (Lib.decDigits m ++ 32 :: r)) (h1 : r ≠ [48]) (h2 : r ≠ [49]) : NoLine l := by
  intro e q b he hq hl
  obtain ⟨_, h3⟩ := run_one _ _ _ _ (dec_dig n) (dec_dig e) (n32 _) (n32 _) (h0.symm.trans hl)
  injection h3 with _ h3
  obtain ⟨_, h4⟩ := run_one _ _ _ _ (dec_dig m) (dec_dig q) (n32 _) (n32 _) h3
  injection h4 with _ h4
  cases b
  · exact h1 h4
  · exact h2 h4
/-- The number under way, at a place of the text. -/
def Pre (l : List UInt8) (rd n0 p : Nat) : Prop := (rd = 0 ∧ p = 0) ∨ (rd = 1 ∧ n0 ≤ 1000000 ∧ l = Lib.decDigits n0 ++ 32 :: l.drop p)
theorem Pre.no {l : List UInt8} {rd n0 p : Nat} (h : Pre l rd n0 p) (hn : NumNo (l.drop p)) : NoLine l := by
  rcases h with ⟨_, rfl⟩ | ⟨_, _, h⟩
  · exact noLine_first hn
  · exact noLine_second h hn
end Go.Proofs.YteooaljhdmmooaaDoor
end

section
namespace Go.Proofs.YteooaljhdmmooaaDoor
open Go.RowKit
def optV : Option Mk → Value
  | some m => markV (m.1 : Int) (m.2.1 : Int) m.2.2
  | none => markV 0 0 false
/-- The newest of the first ones, and where it is. -/
noncomputable def mstAt (s0 s1 : ByteArray) : Nat → Option (Mk × Nat)
  | 0 => none
  | 1 => (readM s0).map fun m => (m, 0)
  | _ => newM (readM s0) (readM s1)
def atV (st : Option (Mk × Nat)) : Int := match st with | some p => (p.2 : Int) | none => -1
def stM (st : Option (Mk × Nat)) : Mk := match st with | some p => p.1 | none => (0, 0, false)
/-- What Newest tells. -/
def newV (st : Option (Mk × Nat)) : Value := .tuple #[markV ((stM st).1 : Int) ((stM st).2.1 : Int) (stM st).2.2, .int .i64 (atV st)]
theorem newestF_two (s0 s1 : ByteArray) (h : slotsOk [s0, s1] = true) : newestF [s0, s1] = mstAt s0 s1 2 := by
  unfold newestF
  simp [h, mstAt]
theorem newestF_no {l : List ByteArray} (h : slotsOk l = false) : newestF l = none := by
  unfold newestF
  split
  · rw [h]; rfl
  · rfl

theorem mark_inj {m : Mk} {E Q : Nat} {B : Bool} (h : optV (some m) = markV (E : Int) (Q : Int) B) : m = (E, Q, B) := by
  obtain ⟨e, q, b⟩ := m
  unfold optV markV at h
  simp only [Value.agg.injEq, Array.mk.injEq, List.cons.injEq, Value.int.injEq, Value.bool.injEq, true_and, and_true] at h
  obtain ⟨h1, h2, h3⟩ := h
  have h1' : e = E := by omega
  have h2' : q = Q := by omega
  rw [h1', h2', h3]
end Go.Proofs.YteooaljhdmmooaaDoor
end

