/- Several texts in one: PageMath, TextNone. -/
import Derived.Test.YthldcfiemfccpaaDoorRPageBase
import Derived.Test.YthldcfiemfccpaaDoorRBase
import Derived.Test.YthldcfiemfccpaaDoorRCheckSpec
import Derived.Test.YthldcfiemfccpaaDoorRWeaveSpec2
section
namespace Go.Proofs.YthldcfiemfccpaaDoor
open Go.RowKit
set_option linter.unusedVariables false

def headL (K A S n : Nat) : List UInt8 := [UInt8.ofNat K, UInt8.ofNat A, UInt8.ofNat (S / 65536), UInt8.ofNat (S / 256 % 256), UInt8.ofNat (S % 256), UInt8.ofNat n]
/-- A Page's body. -/
def bodyB (K A S : Nat) (x : ByteArray) : ByteArray := checked (str (headL K A S x.size) ++ x)
theorem bodyB_size (K A S : Nat) (x : ByteArray) : (bodyB K A S x).size = x.size + 8 := by
  unfold bodyB
  rw [checked_size, ByteArray.size_append]
  show 6 + x.size + 2 = x.size + 8
  omega
def laidB (K A S : Nat) (x : ByteArray) : ByteArray := str (spreadL [UInt8.ofNat (x.size + 8)]) ++ woven (str (spreadL (bodyB K A S x).data.toList)) 2
/-- What a Page is laid as. -/
def laid (k a s : Int) (x : ByteArray) : ByteArray := if pageOk k a s x = true then laidB k.toNat a.toNat s.toNat x else ⟨#[]⟩

/-- A literal of bytes, just made. -/
theorem lit_reads (w : World) (l : List UInt8) (cs : Array Value) (t : TypeId) (h : cs = (l.map fun b => Value.int .u8 (b.toNat : Int)).toArray) :
    Bytes w.heap.size (w.heap.size + 1) (w.alloc (.cells cs t)) (some ⟨w.heap.size, 0, none⟩) l.length l := by
  subst h
  refine ⟨rfl, by simp, fun _ => ⟨w.heap.size, 0, rfl, Nat.le_refl _, Nat.lt_succ_self _, fun i hi => ?_⟩⟩
  rw [World.cell?_alloc_new, Nat.zero_add]
  simp [cellB, List.getD_eq_getElem?_getD, List.getElem?_eq_getElem hi]
theorem page_ok {k a s : Int} {x : ByteArray} (h : pageOk k a s x = true) : ∃ K A S : Nat, k = (K : Int) ∧ a = (A : Int) ∧ s = (S : Int) ∧ K ≤ 2 ∧ A ≤ 63 ∧ 1 ≤ S ∧ S ≤ 1000000 ∧ x.size ≤ 24 := by
  rw [pageOk_iff] at h
  have h := of_decide_eq_true h
  exact ⟨k.toNat, a.toNat, s.toNat, by omega, by omega, by omega, by omega, by omega, by omega, by omega, by omega⟩
theorem head_cells {K A S n : Nat} (hK : K ≤ 2) (hA : A ≤ 63) (hS : S ≤ 1000000) (hn : n ≤ 24) :
    #[Value.int .u8 (K : Int), .int .u8 (A : Int), .int .u8 ((S : Int) / 65536), .int .u8 ((S : Int) / 256 % 256), .int .u8 ((S : Int) % 256), .int .u8 (n : Int)] = ((headL K A S n).map fun b => Value.int .u8 (b.toNat : Int)).toArray := by
  simp only [headL, List.map_cons, List.map_nil, UInt8.toNat_ofNat']
  rw [Nat.mod_eq_of_lt (show K < 2 ^ 8 by omega), Nat.mod_eq_of_lt (show A < 2 ^ 8 by omega), Nat.mod_eq_of_lt (show S / 65536 < 2 ^ 8 by omega), Nat.mod_eq_of_lt (show S / 256 % 256 < 2 ^ 8 by omega), Nat.mod_eq_of_lt (show S % 256 < 2 ^ 8 by omega), Nat.mod_eq_of_lt (show n < 2 ^ 8 by omega)]
  simp
theorem one_cell {n : Nat} (hn : n < 256) : #[Value.int .u8 (n : Int)] = (([UInt8.ofNat n] : List UInt8).map fun b => Value.int .u8 (b.toNat : Int)).toArray := by
  simp only [List.map_cons, List.map_nil, UInt8.toNat_ofNat']
  rw [Nat.mod_eq_of_lt (show n < 2 ^ 8 by omega)]
theorem str_size (l : List UInt8) : (str l).size = l.length := rfl
theorem laid_yes {K A S : Nat} {x : ByteArray} (h : pageOk (K : Int) (A : Int) (S : Int) x = true) : laid K A S x = laidB K A S x := by simp [laid, h]
theorem laid_no {k a s : Int} {x : ByteArray} (h : pageOk k a s x = false) : laid k a s x = ⟨#[]⟩ := by simp [laid, h]
theorem woven_size_le (s : ByteArray) (d : Int) : (woven s d).size ≤ s.size := by
  unfold woven
  split
  · rw [str_size, Wv.wovenL_length]; simp
  · exact Nat.zero_le _
theorem spread_len (l : List UInt8) : (str (spreadL l)).size = 2 * l.length := by rw [str_size, spreadL_length]
end Go.Proofs.YthldcfiemfccpaaDoor
end

section
namespace Go.Proofs.YthldcfiemfccpaaDoor
open Go.RowKit
set_option linter.unusedVariables false

theorem text_none {x : ByteArray} (h : 1 ≤ x.size) : x.toList.isEmpty = false := by
  rw [ByteArray.toList_eq]
  cases hl : x.data.toList with
  | nil =>
    have h2 : x.data.toList.length = x.size := by simp
    rw [hl] at h2
    simp at h2
    omega
  | cons a l => rfl
end Go.Proofs.YthldcfiemfccpaaDoor
end

