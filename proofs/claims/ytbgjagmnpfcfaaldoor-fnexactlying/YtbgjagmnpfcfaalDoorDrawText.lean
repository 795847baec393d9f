/- The walks that draw a text and a list of bits: what is drawn is some text, some list, within its bounds. -/
import Derived.Test.YtbgjagmnpfcfaalDoorDrawBase
import Derived.Maps.AppendAt
namespace Go.Proofs.YtbgjagmnpfcfaalDoor
open Go.RowKit
set_option linter.unusedVariables false
set_option maxRecDepth 20000

theorem Tryd.infoU8d : (Tryd.prog.info? 5).map (fun i => (i.zero, i.size, i.bytes)) = some (some (.int .u8 0), 1, 1) := by kernel_rfl
def byteV (b : UInt8) : Value := .int .u8 (b.toNat : Int)
theorem byte_of (x : Int) (h0 : 0 ≤ x) (h1 : x ≤ 255) : ∃ u : UInt8, x = (u.toNat : Int) := by
  refine ⟨UInt8.ofNat x.toNat, ?_⟩
  rw [UInt8.toNat_ofNat']
  omega
theorem byteV_one (b : UInt8) : ∀ u ∈ [byteV b], u.oneCell' = true := by intro u hu; simp at hu; subst hu; rfl

theorem size_mk (l : List UInt8) : (⟨l.toArray⟩ : ByteArray).size = l.length := rfl

theorem ownBytes_of {w : World} {base e n : Nat} {v : Value} {l : List UInt8} (h : w.ownsRow base e 1 v n (l.map byteV)) {lo : Nat} (hlo : lo ≤ base) :
    ∃ a cap, v = .slice a n cap ∧ n ≤ cap ∧ OwnBytes lo w.heap.size w a n l := by
  obtain ⟨a, cap, rfl, hcap, hlen, _, how⟩ := owned_of_own h
  rw [List.length_map] at hlen
  refine ⟨a, cap, rfl, hcap, hlen, how.1, fun hn => ?_⟩
  obtain ⟨b, off, e, h1, h2, h3⟩ := how.2 hn
  refine ⟨b, off, e, Nat.le_trans hlo h1, h2, fun i hi => ?_⟩
  obtain ⟨h4, h5⟩ := h3 i hi
  refine ⟨h4.trans ?_, h5⟩
  show some ((l.map byteV).getD i (.int .i64 0)) = some (cellB l i)
  rw [List.getD_eq_getElem?_getD]
  simp [show i < l.length by omega, byteV, cellB, List.getD_eq_getElem?_getD]
end Go.Proofs.YtbgjagmnpfcfaalDoor
