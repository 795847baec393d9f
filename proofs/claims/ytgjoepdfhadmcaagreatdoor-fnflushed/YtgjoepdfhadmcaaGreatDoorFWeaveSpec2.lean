/- . -/
import Derived.Test.YtgjoepdfhadmcaaGreatDoorFWeaveSpec
import Derived.Test.YtgjoepdfhadmcaaGreatDoorFBase
import Derived.Laws.ResultCell
import Derived.RegionTactic
import Derived.BigRegion
namespace Go.Proofs.YtgjoepdfhadmcaaGreatDoor
open Go.RowKit
set_option linter.unusedVariables false
set_option maxRecDepth 20000
def woven (s : ByteArray) (d : Int) : ByteArray := if woveOk s d = true then str (Wv.wovenL s.data.toList d.toNat) else ⟨#[]⟩
def unwoven (s : ByteArray) (d : Int) : ByteArray := if woveOk s d = true then str (Wv.unwovenL s.data.toList d.toNat) else ⟨#[]⟩
theorem woven_no {s : ByteArray} {d : Int} (h : woveOk s d = false) : woven s d = ⟨#[]⟩ := by simp [woven,h]
theorem unwoven_no {s : ByteArray} {d : Int} (h : woveOk s d = false) : unwoven s d = ⟨#[]⟩ := by simp [unwoven,h]
theorem woven_yes {s : ByteArray} {D : Nat} (h : woveOk s (D : Int) = true) : woven s (D : Int) = str (Wv.wovenL s.data.toList D) := by simp [woven,h]
theorem unwoven_yes {s : ByteArray} {D : Nat} (h : woveOk s (D : Int) = true) : unwoven s (D : Int) = str (Wv.unwovenL s.data.toList D) := by simp [unwoven,h]
theorem index_at' {P : Program} (t : TypeId) (ht : P.underlying t = some .string) (s : ByteArray) (k : Nat) (h : k < s.size) (A : Nat) (hA : A = s[k].toNat) :
  ∀ w,(Instr.index t (.string s) (.int .i64 (k : Int))).run P w = .ok (.int .u8 (A : Int)) w := by
 intro w
 rw [run_index_string (P := P) w t s .i64 (k : Int) ht]
 simp [h,hA]
end Go.Proofs.YtgjoepdfhadmcaaGreatDoor
