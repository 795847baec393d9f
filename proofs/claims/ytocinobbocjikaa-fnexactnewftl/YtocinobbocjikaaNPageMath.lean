/- Several texts in one: PageMath, LyMath. -/
import Derived.Test.YtocinobbocjikaaNPageBase
import Derived.Test.YtocinobbocjikaaNBase
import Derived.Test.YtocinobbocjikaaNCheckSpec
import Derived.Test.YtocinobbocjikaaNWeaveSpec2
section
namespace Go.Proofs.Ytocinobbocjikaa
open Go.RowKit
set_option linter.unusedVariables false

def headL (K A S n : Nat) : List UInt8 := [UInt8.ofNat K, UInt8.ofNat A, UInt8.ofNat (S / 65536), UInt8.ofNat (S / 256 % 256), UInt8.ofNat (S % 256), UInt8.ofNat n]
/-- A Page's body. -/
def bodyB (K A S : Nat) (x : ByteArray) : ByteArray := checked (str (headL K A S x.size) ++ x)
theorem bodyB_size (K A S : Nat) (x : ByteArray) : (bodyB K A S x).size = x.size + 8 := by
  unfold bodyB
  rw [checked_size, ByteArray.size_append]
  show 6 + x.size + 2 = x.size + 8
  omega
def laidB (K A S : Nat) (x : ByteArray) : ByteArray := str (spreadL [UInt8.ofNat (x.size + 8)]) ++ woven (str (spreadL (bodyB K A S x).data.toList)) 2
/-- What a Page is laid as. -/
def laid (k a s : Int) (x : ByteArray) : ByteArray := if pageOk k a s x = true then laidB k.toNat a.toNat s.toNat x else ⟨#[]⟩

/-- A literal of bytes, just made. -/
theorem lit_reads (w : World) (l : List UInt8) (cs : Array Value) (t : TypeId) (h : cs = (l.map fun b => Value.int .u8 (b.toNat : Int)).toArray) :
    Bytes w.heap.size (w.heap.size + 1) (w.alloc (.cells cs t)) (some ⟨w.heap.size, 0, none⟩) l.length l := by
  subst h
  refine ⟨rfl, by simp, fun _ => ⟨w.heap.size, 0, rfl, Nat.le_refl _, Nat.lt_succ_self _, fun i hi => ?_⟩⟩
  rw [World.cell?_alloc_new, Nat.zero_add]
  simp [cellB, List.getD_eq_getElem?_getD, List.getElem?_eq_getElem hi]
theorem page_ok {k a s : Int} {x : ByteArray} (h : pageOk k a s x = true) : ∃ K A S : Nat, k = (K : Int) ∧ a = (A : Int) ∧ s = (S : Int) ∧ K ≤ 2 ∧ A ≤ 63 ∧ 1 ≤ S ∧ S ≤ 1000000 ∧ x.size ≤ 24 := by
  rw [pageOk_iff] at h
  have h := of_decide_eq_true h
  exact ⟨k.toNat, a.toNat, s.toNat, by omega, by omega, by omega, by omega, by omega, by omega, by omega, by omega⟩
theorem head_cells {K A S n : Nat} (hK : K ≤ 2) (hA : A ≤ 63) (hS : S ≤ 1000000) (hn : n ≤ 24) :
    #[Value.int .u8 (K : Int), .int .u8 (A : Int), .int .u8 ((S : Int) / 65536), .int .u8 ((S : Int) / 256 % 256), .int .u8 ((S : Int) % 256), .int .u8 (n : Int)] = ((headL K A S n).map fun b => Value.int .u8 (b.toNat : Int)).toArray := by
  simp only [headL, List.map_cons, List.map_nil, UInt8.toNat_ofNat']
  rw [Nat.mod_eq_of_lt (show K < 2 ^ 8 by omega), Nat.mod_eq_of_lt (show A < 2 ^ 8 by omega), Nat.mod_eq_of_lt (show S / 65536 < 2 ^ 8 by omega), Nat.mod_eq_of_lt (show S / 256 % 256 < 2 ^ 8 by omega), Nat.mod_eq_of_lt (show S % 256 < 2 ^ 8 by omega), Nat.mod_eq_of_lt (show n < 2 ^ 8 by omega)]
  simp
theorem one_cell {n : Nat} (hn : n < 256) : #[Value.int .u8 (n : Int)] = (([UInt8.ofNat n] : List UInt8).map fun b => Value.int .u8 (b.toNat : Int)).toArray := by
  simp only [List.map_cons, List.map_nil, UInt8.toNat_ofNat']
  rw [Nat.mod_eq_of_lt (show n < 2 ^ 8 by omega)]
theorem str_size (l : List UInt8) : (str l).size = l.length := rfl
theorem laid_yes {K A S : Nat} {x : ByteArray} (h : pageOk (K : Int) (A : Int) (S : Int) x = true) : laid K A S x = laidB K A S x := by simp [laid, h]
theorem laid_no {k a s : Int} {x : ByteArray} (h : pageOk k a s x = false) : laid k a s x = ⟨#[]⟩ := by simp [laid, h]
theorem woven_size_le (s : ByteArray) (d : Int) : (woven s d).size ≤ s.size := by
  unfold woven
  split
  · rw [str_size, Wv.wovenL_length]; simp
  · exact Nat.zero_le _
theorem spread_len (l : List UInt8) : (str (spreadL l)).size = 2 * l.length := by rw [str_size, spreadL_length]
end Go.Proofs.Ytocinobbocjikaa
end

section
namespace Go.Proofs.Ytocinobbocjikaa
open Go.RowKit
set_option linter.unusedVariables false

/-- The byte number i. -/
def byN (t : ByteArray) (i : Nat) : Nat := (t.data.toList.getD i 0).toNat
theorem byN_lt (t : ByteArray) (i : Nat) : byN t i < 256 := UInt8.toNat_lt _
theorem byN_at (t : ByteArray) (i : Nat) (h : i < t.size) : (t[i]).toNat = byN t i := by rw [byN, byte_at t i h]
def stampN (t : ByteArray) : Nat := byN t 2 * 65536 + byN t 3 * 256 + byN t 4
def textIn (t : ByteArray) : ByteArray := t.extract 6 (t.size - 2)
theorem textIn_size (t : ByteArray) (h : 8 ≤ t.size) : (textIn t).size = t.size - 8 := by
  unfold textIn
  rw [ByteArray.size_extract]
  omega
/-- Does a body tell a Page? -/
def bodyOk (t : ByteArray) : Bool := decide (8 ≤ t.size) && (whole t && (decide (byN t 5 = t.size - 8) && pageOk (byN t 0) (byN t 1) (stampN t) (textIn t)))
def headT (s : ByteArray) : ByteArray × Int × Bool := healedAll (s.extract 0 2)
def restT (s : ByteArray) : ByteArray × Int × Bool := healedAll (unwoven (s.extract 2 s.size) 2)
def goodL (s : ByteArray) : Bool := decide (2 ≤ s.size) && ((headT s).2.2 && ((restT s).2.2 && (decide (byN (headT s).1 0 = (restT s).1.size) && bodyOk (restT s).1)))
/-- Kind, At, Stamp, Text and what is told of them. -/
def lyP (s : ByteArray) : Int × Int × Int × ByteArray × Int :=
  if s.size = 0 then (0, 0, 0, ⟨#[]⟩, 0)
  else if goodL s = true then ((byN (restT s).1 0 : Int), (byN (restT s).1 1 : Int), (stampN (restT s).1 : Int), textIn (restT s).1, if 0 < (restT s).2.1 + (headT s).2.1 then 2 else 1)
  else (0, 0, 0, ⟨#[]⟩, 3)
def lyV (r : Int × Int × Int × ByteArray × Int) : Value := .tuple #[.agg #[.int .i64 r.1, .int .i64 r.2.1, .int .i64 r.2.2.1, .string r.2.2.2.1], .int .i64 r.2.2.2.2]
theorem lyP_blank {s : ByteArray} (h : s.size = 0) : lyP s = (0, 0, 0, ⟨#[]⟩, 0) := if_pos h
theorem lyP_torn {s : ByteArray} (h : s.size ≠ 0) (hg : goodL s = false) : lyP s = (0, 0, 0, ⟨#[]⟩, 3) := by
  unfold lyP; rw [if_neg h, if_neg (by simp [hg])]
theorem lyP_good {s : ByteArray} (h : s.size ≠ 0) (hg : goodL s = true) : lyP s = ((byN (restT s).1 0 : Int), (byN (restT s).1 1 : Int), (stampN (restT s).1 : Int), textIn (restT s).1, if 0 < (restT s).2.1 + (headT s).2.1 then 2 else 1) := by
  unfold lyP; rw [if_neg h, if_pos hg]
theorem extract_size2 (s : ByteArray) (h : 2 ≤ s.size) : (s.extract 0 2).size = 2 := by rw [ByteArray.size_extract]; omega
theorem extract_rest (s : ByteArray) (h : 2 ≤ s.size) : (s.extract 2 s.size).size = s.size - 2 := by rw [ByteArray.size_extract]; omega
theorem unwoven_size_le (s : ByteArray) (d : Int) : (unwoven s d).size ≤ s.size := by
  unfold unwoven
  split
  · rw [str_size, Wv.unwovenL_length]; simp
  · exact Nat.zero_le _
theorem healed_size {s : ByteArray} (h : (healedAll s).2.2 = true) : s.size = 2 * (healedAll s).1.size := by
  by_cases hc : s.size % 2 = 0 ∧ s.size ≤ 600 ∧ goodTo s (s.size / 2)
  · rw [healedAll_yes hc]
    show s.size = 2 * (bytesTo s (s.size / 2)).length
    rw [bytesTo_length]; omega
  · rw [healedAll_no hc] at h; simp at h
theorem healed_size_le (s : ByteArray) : (healedAll s).1.size ≤ 300 := by
  by_cases hc : s.size % 2 = 0 ∧ s.size ≤ 600 ∧ goodTo s (s.size / 2)
  · rw [healedAll_yes hc]
    show (bytesTo s (s.size / 2)).length ≤ 300
    rw [bytesTo_length]; omega
  · rw [healedAll_no hc]; exact Nat.zero_le _
theorem healed_fixed (s : ByteArray) : 0 ≤ (healedAll s).2.1 ∧ (healedAll s).2.1 ≤ 300 := by
  by_cases hc : s.size % 2 = 0 ∧ s.size ≤ 600 ∧ goodTo s (s.size / 2)
  · rw [healedAll_yes hc]
    have := fixedTo_bd s (s.size / 2) hc.2.2
    show 0 ≤ fixedTo s (s.size / 2) ∧ fixedTo s (s.size / 2) ≤ 300
    omega
  · rw [healedAll_no hc]; exact ⟨Int.le_refl _, by show (0 : Int) ≤ 300; omega⟩
theorem unwoven_size {s : ByteArray} (h : s.size ≤ 600) : (unwoven s 2).size = s.size := by
  have hw : woveOk s 2 = true := by simp [woveOk, inB]; omega
  unfold unwoven
  rw [if_pos hw, str_size, Wv.unwovenL_length]; simp
/-- A text that has not as many bytes as its head tells is no Page. -/
theorem torn_len {s : ByteArray} (h2 : 2 ≤ s.size) (hne : s.size - 2 ≠ 2 * byN (headT s).1 0) : goodL s = false := by
  cases hg : goodL s
  · rfl
  · exfalso
    simp only [goodL, Bool.and_eq_true, decide_eq_true_eq] at hg
    obtain ⟨_, h1, h3, h4, h5⟩ := hg
    have hz := healed_size (s := unwoven (s.extract 2 s.size) 2) h3
    have h8 : 8 ≤ (restT s).1.size := by simp only [bodyOk, Bool.and_eq_true, decide_eq_true_eq] at h5; exact h5.1
    by_cases h6 : s.size - 2 ≤ 600
    · have := unwoven_size (s := s.extract 2 s.size) (by rw [extract_rest s h2]; exact h6)
      rw [extract_rest s h2] at this
      have hr : (restT s).1.size = (healedAll (unwoven (s.extract 2 s.size) 2)).1.size := rfl
      omega
    · have hw : woveOk (s.extract 2 s.size) 2 = false := by simp [woveOk, inB, extract_rest s h2]; omega
      have : (unwoven (s.extract 2 s.size) 2).size = 0 := by unfold unwoven; rw [if_neg (by simp [hw])]; rfl
      have hr : (restT s).1.size = (healedAll (unwoven (s.extract 2 s.size) 2)).1.size := rfl
      omega
theorem slice_mid {P : Program} (t : TypeId) (ht : P.underlying t = some .string) (s : ByteArray) (I J : Int) (i j : Nat) (hI : I = (i : Int)) (hJ : J = (j : Int)) (hij : i ≤ j) (hj : j ≤ s.size) (x : ByteArray) (hx : x = s.extract i j) :
    ∀ w, (Instr.sliceAt t (.string s) (some (.int .i64 I)) (some (.int .i64 J)) none).run P w = .ok (.string x) w := by
  intro w
  subst hI; subst hJ; subst hx
  rw [run_sliceAt_string w t _ _ _ _ ht, run_slice_string (P := P) w t s .i64 .i64 (i : Int) (j : Int) ht (by omega) (by omega) (by omega)]
  simp
theorem slice_mid2 {P : Program} (t : TypeId) (ht : P.underlying t = some .string) (s : ByteArray) (I J : Int) (i j : Nat) (hI : I = (i : Int)) (hJ : J = (j : Int)) (hij : i ≤ j) (hj : j ≤ s.size) (x : ByteArray) (hx : x = s.extract i j) :
    ∀ w, (Instr.slice t (.string s) (some (.int .i64 I)) (some (.int .i64 J)) none).run P w = .ok (.string x) w := by
  intro w
  subst hI; subst hJ; subst hx
  rw [run_slice_string (P := P) w t s .i64 .i64 (i : Int) (j : Int) ht (by omega) (by omega) (by omega)]
  simp
end Go.Proofs.Ytocinobbocjikaa
end

