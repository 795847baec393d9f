/- Several texts in one: FtlImplD, FtlImplE, FtlImplF. -/
import Derived.Test.YtfabojbkhicpmaaGreatDoorXFtlMath
import Derived.Test.YtfabojbkhicpmaaGreatDoorXChipImplF
import Derived.Test.YtfabojbkhicpmaaGreatDoorXQuietTail
import Derived.Deep.RegionWith
import Derived.Deep.DeepCutAuto
import Derived.BigRegion
import Derived.BigQuiet
import Derived.Test.YtfabojbkhicpmaaGreatDoorXChipGrow
import Derived.Test.YtfabojbkhicpmaaGreatDoorXChipAns
section
namespace Go.Proofs.YtfabojbkhicpmaaGreatDoor
open Go.RowKit
set_option linter.unusedVariables false
set_option maxRecDepth 20000

theorem six_cells {W : World} {b : Nat} {c0 c1 c2 c3 c4 c5 : Value} {t : TypeId} {fr : Nat × Nat} (h : W.heap[b]? = some (.cells #[c0, c1, c2, c3, c4, c5] t fr)) :
    W.cell? ⟨b, 0, none⟩ = some c0 ∧ W.cell? ⟨b, 1, none⟩ = some c1 ∧ W.cell? ⟨b, 2, none⟩ = some c2 ∧ W.cell? ⟨b, 3, none⟩ = some c3 ∧ W.cell? ⟨b, 4, none⟩ = some c4 ∧ W.cell? ⟨b, 5, none⟩ = some c5 := by
  simp [World.cell?, h]
/-- The value that is panicked with. -/
def noRoomV (aN : Addr) : Value := .iface 360 (.pointer (some aN))
/-- A keeper that is worked on. -/
structure KeeperAt (B : Nat) (w : World) (pk : Nat) (z st : Int) (n g c gm cm : Nat) (A : Nat → Option Addr) (C : Nat → Nat) (V : Value) (s : Kp) (aN : Addr) : Prop where
  mem : KpMem B w n g gm cm A C V s
  box : w.heap[pk]? = some (.cells #[.int .i64 z, .slice (some ⟨g, 0, none⟩) n c, .slice (some ⟨gm, 0, none⟩) s.ps.length cm, .int .i64 s.op, .int .i64 st, V] 189)
  nk : pk ≠ g
  bk : B ≤ pk
  er : w.cell? ⟨1, 0, none⟩ = some (noRoomV aN)
  eb : 1 < B
section
variable {B pk n g c gm cm : Nat} {w w' : World} {z st : Int} {A : Nat → Option Addr} {C : Nat → Nat} {V : Value} {s : Kp} {aN : Addr}
theorem KeeperAt.later (h : KeeperAt B w pk z st n g c gm cm A C V s aN) (hb : Below w.heap.size w w') (hB : B ≤ w.heap.size) : KeeperAt B w' pk z st n g c gm cm A C V s aN :=
  ⟨h.mem.later hb, block_on h.box hb, h.nk, h.bk, (hb.cell (p := ⟨_, _, none⟩) (Nat.lt_of_lt_of_le h.eb hB)).trans h.er, h.eb⟩
theorem KeeperAt.apart (h : KeeperAt B w pk z st n g c gm cm A C V s aN) : gm ≠ pk := by
  obtain ⟨cs, fz, hk⟩ := h.mem.kind
  intro e
  rw [e, h.box] at hk
  simp only [Option.some.injEq, Obj.cells.injEq] at hk
  exact absurd hk.2.1 (by decide)
end
end Go.Proofs.YtfabojbkhicpmaaGreatDoor
end

section
namespace Go.Proofs.YtfabojbkhicpmaaGreatDoor
open Go.RowKit
set_option linter.unusedVariables false
set_option maxRecDepth 20000

end Go.Proofs.YtfabojbkhicpmaaGreatDoor
end

section
namespace Go.Proofs.YtfabojbkhicpmaaGreatDoor
open Go.RowKit
set_option linter.unusedVariables false
set_option maxRecDepth 20000

end Go.Proofs.YtfabojbkhicpmaaGreatDoor
end

