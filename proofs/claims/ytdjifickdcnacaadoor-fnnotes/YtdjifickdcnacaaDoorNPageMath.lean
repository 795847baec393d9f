/- Several texts in one: PageMath, TextNone. -/
import Derived.Test.YtdjifickdcnacaaDoorNPageBase
import Derived.Test.YtdjifickdcnacaaDoorNBase
import Derived.Test.YtdjifickdcnacaaDoorNCheckSpec
import Derived.Test.YtdjifickdcnacaaDoorNWeaveSpec2
section
namespace Go.Proofs.YtdjifickdcnacaaDoor
open Go.RowKit
set_option linter.unusedVariables false
def headL (K A S n : Nat) : List UInt8 := [UInt8.ofNat K,UInt8.ofNat A,UInt8.ofNat (S / 65536),UInt8.ofNat (S / 256 % 256),UInt8.ofNat (S % 256),UInt8.ofNat n]
def bodyB (K A S : Nat) (x : ByteArray) : ByteArray := checked (str (headL K A S x.size) ++ x)
def laidB (K A S : Nat) (x : ByteArray) : ByteArray := str (spreadL [UInt8.ofNat (x.size + 8)]) ++ woven (str (spreadL (bodyB K A S x).data.toList)) 2
def laid (k a s : Int) (x : ByteArray) : ByteArray := if pageOk k a s x = true then laidB k.toNat a.toNat s.toNat x else ⟨#[]⟩
theorem lit_reads (w : World) (l : List UInt8) (cs : Array Value) (t : TypeId) (h : cs = (l.map fun b => Value.int .u8 (b.toNat : Int)).toArray) :
  Bytes w.heap.size (w.heap.size + 1) (w.alloc (.cells cs t)) (some ⟨w.heap.size,0,none⟩) l.length l := by
 subst h
 refine ⟨rfl,by simp,fun _ => ⟨w.heap.size,0,rfl,Nat.le_refl _,Nat.lt_succ_self _,fun i hi => ?_⟩⟩
 rw [World.cell?_alloc_new,Nat.zero_add]
 simp [cellB,List.getD_eq_getElem?_getD,List.getElem?_eq_getElem hi]
theorem one_cell {n : Nat} (hn : n < 256) : #[Value.int .u8 (n : Int)] = (([UInt8.ofNat n] : List UInt8).map fun b => Value.int .u8 (b.toNat : Int)).toArray := by
 simp only [List.map_cons,List.map_nil,UInt8.toNat_ofNat']
 rw [Nat.mod_eq_of_lt (show n < 2 ^ 8 by omega)]
end Go.Proofs.YtdjifickdcnacaaDoor
end

section
namespace Go.Proofs.YtdjifickdcnacaaDoor
open Go.RowKit
set_option linter.unusedVariables false
theorem text_none {x : ByteArray} (h : 1 <= x.size) : x.toList.isEmpty = false := by
 rw [ByteArray.toList_eq]
 cases hl : x.data.toList with
 | nil =>
  have h2 : x.data.toList.length = x.size := by simp
  rw [hl] at h2
  simp at h2
  omega
 | cons a l => rfl
end Go.Proofs.YtdjifickdcnacaaDoor
end

