/- Several texts in one: WeaveSpec, HamSpec3, HamSpec4. -/
import Derived.Test.YtgjoepdfhadmcaaGreatDoorFInfo
import Derived.Test.YtgjoepdfhadmcaaGreatDoorFBase
import Derived.Test.YtgjoepdfhadmcaaGreatDoorFDrawBase
import Derived.Test.YtgjoepdfhadmcaaGreatDoorFPageBase
import Derived.Deep.RegionHeld3
section
namespace Go.Proofs.YtgjoepdfhadmcaaGreatDoor
open Go.RowKit
set_option linter.unusedVariables false
set_option maxRecDepth 20000
def woveOk (s : ByteArray) (d : Int) : Bool := inB d 1 16 && decide (s.size <= 600)
theorem woveOk_yes {s : ByteArray} {d : Int} (h : woveOk s d = true) : ∃ D : Nat,d = (D : Int) ∧ 1 <= D ∧ D <= 16 ∧ s.size <= 600 := by
 simp [woveOk,inB] at h
 exact ⟨d.toNat,by omega,by omega,by omega,by omega⟩
end Go.Proofs.YtgjoepdfhadmcaaGreatDoor
end

section
namespace Go.Proofs.YtgjoepdfhadmcaaGreatDoor
open Go.RowKit
set_option linter.unusedVariables false
set_option maxRecDepth 20000
theorem wordB_vals (x : Nat) (h : x < 8192) : (wordB x).map byteV = [.int .u8 ((x : Int) / 256),.int .u8 ((x : Int) % 256)] := by
 unfold wordB byteV
 simp only [List.map_cons,List.map_nil,UInt8.toNat_ofNat']
 rw [Nat.mod_eq_of_lt (show x / 256 < 2 ^ 8 by omega),Nat.mod_eq_of_lt (show x % 256 < 2 ^ 8 by omega)]
 simp
theorem cells_two_new (w : World) (a b : Value) (t : Nat) : ∀ j u,([a,b] : List Value)[j]? = some u -> (w.alloc (.cells #[a,b] t)).cell? ((⟨w.heap.size,0,none⟩ : Addr).add j) = some u := by
 intro j u hu
 have hadd : (⟨w.heap.size,0,none⟩ : Addr).add j = ⟨w.heap.size,j,none⟩ := by unfold Addr.add; split <;> simp_all
 rw [hadd,World.cell?_alloc_new]
 simpa using hu
theorem two_one (x y : Int) : ∀ u ∈ ([.int .u8 x,.int .u8 y] : List Value),u.oneCell' = true := by
 intro u hu
 simp at hu
 rcases hu with rfl | rfl <;> rfl
end Go.Proofs.YtgjoepdfhadmcaaGreatDoor
end

section
namespace Go.Proofs.YtgjoepdfhadmcaaGreatDoor
open Go.RowKit
set_option linter.unusedVariables false
set_option maxRecDepth 20000
theorem index_at {P : Program} (t : TypeId) (ht : P.underlying t = some .string) (s : ByteArray) (k : Nat) (h : k < s.size) (A : Nat) (hA : A = s[k].toNat) :
  ∀ w,(Instr.index t (.string s) (.int .i64 (k : Int))).run P w = .ok (.int .u8 (A : Int)) w := by
 intro w
 rw [run_index_string (P := P) w t s .i64 (k : Int) ht]
 simp [h,hA]
end Go.Proofs.YtgjoepdfhadmcaaGreatDoor
end

